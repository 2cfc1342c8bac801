import Derived.Test.YtbdmbicnlfcclaaSys
import Derived.Deep.DeepCutAuto
namespace Go.Proofs.Ytbdmbicnlfcclaa
open Go.RowKit
set_option linter.unusedVariables false
set_option linter.unusedSimpArgs false
theorem cat3 : (!([0, 0, 0, 0, 0, 0, 0, 0, 0, 0, 0, 0, 0, 0, 0, 0, 0, 0, 0, 0, 0, 0, 0, 0, 2, 1, 0, 0, 16, 0, 0, 0, 0, 0, 0, 0, 0, 0, 0, 0, 0, 0, 0, 0, 0, 0, 0, 0] : List UInt8) == ((⟨#[0, 0, 0, 0, 0, 0, 0, 0, 0, 0, 0, 0, 0, 0, 0, 0, 0, 0, 0, 0, 0, 0, 0, 0]⟩ : ByteArray) ++ ⟨#[2, 1, 0, 0, 16]⟩ ++ ⟨#[0, 0, 0, 0, 0, 0, 0, 0, 0, 0, 0, 0, 0, 0, 0, 0, 0, 0, 0]⟩).toList) = false := by
  rw [ByteArray.toList_eq]
  simp
def Zc (n : Nat) : Array Value := (List.replicate n (Value.int .u8 0)).toArray
theorem made_z (n : Nat) : madeCells (Value.cells (.int .u8 0)) n = Zc n := by
  apply Array.ext_getElem?
  intro j
  by_cases hj : j < n
  · simp [Zc, madeCells, Value.cells, hj, Nat.mod_one]
  · simp [Zc, madeCells, Value.cells, hj]
theorem make_z (n : Nat) (hn : n ≤ 1000) (w : World) : (Instr.makeSlice 37 (.int .i64 (n : Int)) (.int .i64 (n : Int))).run Try.prog w = .ok (.slice (some ⟨w.heap.size, 0, none⟩) n n) (w.alloc (.cells (Zc n) 5)) := by
  obtain ⟨i0, hi, hz0, hz1, hz2⟩ := info_parts infoB
  have h := run_make (P := Try.prog) w 37 5 i0 _ Try.underlying37 hi hz0 .i64 .i64 (n : Int) (n : Int) (by omega) (by omega) (by rw [hz2]; omega) (by omega)
  rw [hz1, Nat.mul_one, made_z] at h
  exact h
theorem at_z {w : World} {g n : Nat} (h : w.heap[g]? = some (.cells (Zc n) 5 (0, 0))) : g < w.heap.size ∧ BAt w g 0 (List.replicate n 0) := by
  refine ⟨(Array.getElem?_eq_some_iff.1 h).1, fun k x hx => ?_⟩
  rw [List.getElem?_replicate] at hx
  split at hx
  · rename_i hk
    cases hx
    rw [Nat.zero_add, box_cell h, Zc, List.getElem?_toArray, List.getElem?_replicate, if_pos hk]
    rfl
  · cases hx
theorem conv_z {w : World} {g n : Nat} (h : w.heap[g]? = some (.cells (Zc n) 5 (0, 0))) : (convert 37 9 (.slice (some ⟨g, 0, none⟩) n n)).run Try.prog w = .ok (.string ⟨(List.replicate n (0 : UInt8)).toArray⟩) w := by
  obtain ⟨h1, h2⟩ := at_z h
  have := conv_rest (h2.rest h1) n
  rwa [List.length_replicate] at this
set_option maxRecDepth 8000 in
set_option maxHeartbeats 2000000 in
theorem awake10 (w : World) : Calls Try.prog 8 #[] w fun e w' => e = .returned (.bool true) ∧ Out w w' := by
  have CW := hidOf (fun wx g hg => write_s1 wx g hg)
  have HN : Hid ((w.alloc (.cells #[.int .i64 258, .int .i64 1, .int .i64 0, .int .i64 0, .int .i64 0, .int .i64 0] 57)).heap[w.heap.size]? = some (.cells #[.int .i64 258, .int .i64 1, .int .i64 0, .int .i64 0, .int .i64 0, .int .i64 0] 57 (0, 0))) := hidOf (heap_alloc_new w _)
  have HO := hidOf ((Out.refl w).alloc (.cells #[.int .i64 258, .int .i64 1, .int .i64 0, .int .i64 0, .int .i64 0, .int .i64 0] 57))
  go_enter Try.func8, Try.ntmps8
  go_upto_region 2 with (first | (go_at_call 15; refine (CW.out _ _ HN.out).mono ?_; rintro e w1 ⟨a1, c1, rfl, hw, hO⟩; have HW := hidOf hw; have HO1 := hidOf (HO.out.trans hO); clear hw hO))
  clear CW HN HO
  obtain ⟨B, hB⟩ : ∃ B : List UInt8, B = List.replicate 24 0 ++ [2, 1, 0, 0, 16] ++ List.replicate 19 0 := ⟨_, rfl⟩
  have hBl : B.length = 48 := by rw [hB]; rfl
  rw [← hB] at HW
  have HKS : Hid (∀ wx, Out w1 wx → (convert 37 9 (.slice a1 48 c1)).run Try.prog wx = .ok (.string ⟨B.toArray⟩) wx) := fun wx o => by
    obtain ⟨a, cp, he, hcp, hr⟩ := OwB.rest (OwB.out HW.out o)
    have h48 := he
    injection h48 with e1 e2 e3
    rw [e1, ← hBl]
    exact conv_rest hr c1
  have hO1d := hidOf ((Out.refl w1).drew)
  have k := HKS.out w1 (Out.refl _)
  have m24 : ∀ wx, (Instr.makeSlice 37 (.int .i64 24) (.int .i64 24)).run Try.prog wx = .ok (.slice (some ⟨wx.heap.size, 0, none⟩) 24 24) (wx.alloc (.cells (Zc 24) 5)) := fun wx => make_z 24 (by omega) wx
  have m19 : ∀ wx, (Instr.makeSlice 37 (.int .i64 19) (.int .i64 19)).run Try.prog wx = .ok (.slice (some ⟨wx.heap.size, 0, none⟩) 19 19) (wx.alloc (.cells (Zc 19) 5)) := fun wx => make_z 19 (by omega) wx
  have k0 : (convert 37 9 (.slice a1 48 c1)).run Try.prog w1.drew = .ok (.string ⟨B.toArray⟩) w1.drew := HKS.out _ ((Out.refl w1).drew)
  have k1 : (convert 37 9 (.slice a1 48 c1)).run Try.prog (w1.alloc (.cells (Zc 24) 5)).drew = .ok (.string ⟨B.toArray⟩) (w1.alloc (.cells (Zc 24) 5)).drew := HKS.out _ (((Out.refl w1).alloc _).drew)
  have k2 : (convert 37 9 (.slice a1 48 c1)).run Try.prog (w1.alloc (.cells (Zc 19) 5)).drew = .ok (.string ⟨B.toArray⟩) (w1.alloc (.cells (Zc 19) 5)).drew := HKS.out _ (((Out.refl w1).alloc _).drew)
  have k3 : (convert 37 9 (.slice a1 48 c1)).run Try.prog ((w1.alloc (.cells (Zc 24) 5)).alloc (.cells (Zc 19) 5)).drew = .ok (.string ⟨B.toArray⟩) ((w1.alloc (.cells (Zc 24) 5)).alloc (.cells (Zc 19) 5)).drew := HKS.out _ ((((Out.refl w1).alloc _).alloc _).drew)
  have k4 : (convert 37 9 (.slice a1 48 c1)).run Try.prog ((w1.alloc (.cells (Zc 19) 5)).alloc (.cells (Zc 24) 5)).drew = .ok (.string ⟨B.toArray⟩) ((w1.alloc (.cells (Zc 19) 5)).alloc (.cells (Zc 24) 5)).drew := HKS.out _ ((((Out.refl w1).alloc _).alloc _).drew)
  have q1 : (convert 37 9 (.slice (some ⟨w1.heap.size, 0, none⟩) 24 24)).run Try.prog (w1.alloc (.cells (Zc 24) 5)).drew = .ok (.string ⟨(List.replicate 24 (0 : UInt8)).toArray⟩) (w1.alloc (.cells (Zc 24) 5)).drew := conv_z (heap_alloc_new w1 _)
  have q2 : (convert 37 9 (.slice (some ⟨w1.heap.size, 0, none⟩) 24 24)).run Try.prog ((w1.alloc (.cells (Zc 24) 5)).alloc (.cells (Zc 19) 5)).drew = .ok (.string ⟨(List.replicate 24 (0 : UInt8)).toArray⟩) ((w1.alloc (.cells (Zc 24) 5)).alloc (.cells (Zc 19) 5)).drew := conv_z (heap_alloc2_old w1 _ _)
  have q3 : (convert 37 9 (.slice (some ⟨w1.heap.size + 1, 0, none⟩) 24 24)).run Try.prog ((w1.alloc (.cells (Zc 19) 5)).alloc (.cells (Zc 24) 5)).drew = .ok (.string ⟨(List.replicate 24 (0 : UInt8)).toArray⟩) ((w1.alloc (.cells (Zc 19) 5)).alloc (.cells (Zc 24) 5)).drew := conv_z (heap_new2 w1 _ _)
  have q4 : (convert 37 9 (.slice (some ⟨w1.heap.size, 0, none⟩) 19 19)).run Try.prog (w1.alloc (.cells (Zc 19) 5)).drew = .ok (.string ⟨(List.replicate 19 (0 : UInt8)).toArray⟩) (w1.alloc (.cells (Zc 19) 5)).drew := conv_z (heap_alloc_new w1 _)
  have q5 : (convert 37 9 (.slice (some ⟨w1.heap.size, 0, none⟩) 19 19)).run Try.prog ((w1.alloc (.cells (Zc 19) 5)).alloc (.cells (Zc 24) 5)).drew = .ok (.string ⟨(List.replicate 19 (0 : UInt8)).toArray⟩) ((w1.alloc (.cells (Zc 19) 5)).alloc (.cells (Zc 24) 5)).drew := conv_z (heap_alloc2_old w1 _ _)
  have q6 : (convert 37 9 (.slice (some ⟨w1.heap.size + 1, 0, none⟩) 19 19)).run Try.prog ((w1.alloc (.cells (Zc 24) 5)).alloc (.cells (Zc 19) 5)).drew = .ok (.string ⟨(List.replicate 19 (0 : UInt8)).toArray⟩) ((w1.alloc (.cells (Zc 24) 5)).alloc (.cells (Zc 19) 5)).drew := conv_z (heap_new2 w1 _ _)
  clear k hO1d HKS
  go_cut [28] (fun t wx => t = .bool false ∧ Out w wx)
  case first =>
    go_region_with (go_at_call 16; refine (num_any _ _).mono ?_; rintro e w2 ⟨rfl, hw⟩; subst hw)
    all_goals
      go_wp2_with fail
      go_meet
      exact ⟨congrArg Value.bool cat3, ((HO1.out.alloc _).alloc _).drew⟩
  case rest =>
    obtain ⟨rfl, hO⟩ := hcut
    have HOc := hidOf hO
    clear hO k0 k1 k2 k3 k4 q1 q2 q3 q4 q5 q6 m19 HW hB hBl
    have m24' := m24 wc
    clear m24
    have C24 : Hid (Calls Try.prog 17 #[.slice (some ⟨wc.heap.size, 0, none⟩) 24 24] (wc.alloc (.cells (Zc 24) 5)) fun e w' => ∃ a c', e = .returned (.tuple #[.slice a 0 c', .int .i64 0, .int .i64 0]) ∧ Out wc w') := by
      obtain ⟨h1, h2⟩ := at_z (heap_alloc_new wc (.cells (Zc 24) 5))
      refine (read_24 _ _ 24 h1 h2 (by omega)).mono ?_
      rintro e w' ⟨a, c, he, ho⟩
      exact ⟨a, c, he, ((Out.refl wc).alloc _).trans ho⟩
    go_upto_region 5 with (go_at_call 17; refine (C24.out).mono ?_; rintro e w3 ⟨a3, c3, rfl, hO⟩; have HO3 := hidOf (HOc.out.trans hO); clear hO)
    have m48 : (Instr.makeSlice 37 (.int .i64 48) (.int .i64 48)).run Try.prog w3 = .ok (.slice (some ⟨w3.heap.size, 0, none⟩) 48 48) (w3.alloc (.cells (Zc 48) 5)) := make_z 48 (by omega) w3
    have C48 : Hid (Calls Try.prog 17 #[.slice (some ⟨w3.heap.size, 0, none⟩) 48 48] (w3.alloc (.cells (Zc 48) 5)) fun e w' => e = .returned (.tuple #[.slice none 0 0, .int .i64 28, .int .i64 100]) ∧ Out w3 w') := by
      obtain ⟨h1, h2⟩ := at_z (heap_alloc_new w3 (.cells (Zc 48) 5))
      refine (read_48 _ _ 48 h1 h2 (by omega)).mono ?_
      rintro e w' ⟨he, ho⟩
      exact ⟨he, ((Out.refl w3).alloc _).trans ho⟩
    clear m24'
    go_wp2_with (first | (go_at_call 17; refine (C48.out).mono ?_; rintro e w4 ⟨rfl, hO⟩; have HO4 := hidOf (HO3.out.trans hO); clear hO) | (go_at_call 16; refine (num_any _ _).mono ?_; rintro e w5 ⟨rfl, hw⟩; have hw := hw.symm; subst hw))
    go_ret
    exact ⟨rfl, HO4.out⟩
end Go.Proofs.Ytbdmbicnlfcclaa
