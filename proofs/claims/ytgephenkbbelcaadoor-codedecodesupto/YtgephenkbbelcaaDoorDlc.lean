import Derived.Test.YtgephenkbbelcaaDoorDlb
namespace Go.Proofs.YtgephenkbbelcaaDoor
open Go.RowKit
set_option linter.unusedVariables false
set_option linter.unusedSimpArgs false
theorem lms_get {n k j : Nat} (h : j < k) : (lmsB n k)[j]? = some (lmB (n + j)) := by
  unfold lmsB
  rw [List.getElem?_map, List.getElem?_range' h]
  simp
set_option maxRecDepth 20000 in
set_option maxHeartbeats 3000000 in
theorem back_any (w : World) (p g m : Nat) (l R : List UInt8) (h : LeB w p g m l.length (l ++ (lmsB l.length (l.length + 70) ++ R))) (N : Nat) (a : Option Addr) (cap : Nat) (hr : RestAt N w a l) (hll : l.length ≤ 100000000000000) :
    Calls Tryd.prog 11 #[.pointer (some ⟨p, 0, none⟩), .slice a l.length cap] w fun e w' => e = .returned (.bool true) ∧ (∃ L', LeB w' p g m l.length L') ∧ Chg (SL p g) w w' := by
  have H := hidOf h
  have hm : 2 * l.length + 70 ≤ m := by have := h.len_; simp [lmsB_len] at this; omega
  have c0 := h.c0
  have c1 := h.c1
  have hv1 : ∀ n, (convert 22 9 (.slice (some ⟨g, 0, none⟩) l.length m)).run Tryd.prog (w.drewN n) = .ok (.string ⟨l.toArray⟩) (w.drewN n) := fun n => conv_rest (w := w.drewN n) (h.drewN n).rest m
  have hv2 : ∀ n, (convert 22 9 (.slice a l.length cap)).run Tryd.prog (w.drewN n) = .ok (.string ⟨l.toArray⟩) (w.drewN n) := fun n => conv_rest (w := w.drewN n) (N := N) hr cap
  have hmI : (l.length : Int) ≤ m := by omega
  have hEq : decide ((l.length : Int) = (l.length : Int)) = true := by simp
  clear h hr
  go_enter Tryd.func11, Tryd.ntmps11
  go_upto_region 1 with fail
  go_quiet (fail)
  clear hv1 hv2
  have c1' : (w.drewN nq).cell? ⟨p, 1, none⟩ = some (.int .i64 (l.length : Int)) := c1
  go_wp2
  go_loopw [5, 6] (fun okv kv wr => ∃ j : Nat, okv = .bool true ∧ kv = .int .i64 j ∧ l.length ≤ j ∧ j ≤ 2 * l.length + 70 ∧ Hid (Out w wr)) (fun _ kv _ => 2 * l.length + 70 - (intOf kv).toNat)
  case atStart => exact ⟨l.length, rfl, rfl, by omega, by omega, hidOf ((Out.refl w).drewN nq)⟩
  case round =>
    obtain ⟨j, rfl, rfl, hj0, hj, HO⟩ := hrel
    have HB := hidOf (H.out.out HO.out)
    have d0 := HB.out.c0
    have d1 := HB.out.c1
    by_cases hlt : j < 2 * l.length + 70
    · have hltI : (j : Int) < 2 * (l.length : Int) + 70 := by omega
      have hjm : (j : Int) < m := by omega
      have dz : wr.cell? ⟨g, j, none⟩ = some (.int .u8 ((lmB j).toNat : Int)) := HB.out.cell (by
        rw [List.getElem?_append_right (by omega), List.getElem?_append_left (by rw [lmsB_len]; omega), lms_get (by omega), show l.length + (j - l.length) = j by omega])
      have CMk : Hid (∀ wx, Calls Tryd.prog 16 #[.pointer (some ⟨p, 0, none⟩), .int .i64 j] wx fun e w' => e = .returned (.int .u8 ((lmB j).toNat : Int)) ∧ w' = wx) := fun wx => (lmark_any _ j (by omega) wx).mono (fun e w' h => ⟨h.1, h.2.symm⟩)
      generalize lmB j = y at *
      go_upto_region 5 with fail
      go_quiet ((go_at_call 16; exact Calls.quiet_of_same (CMk.out _)))
      go_wp2
      go_roundw
      case rel => exact ⟨j + 1, rfl, by simp, by omega, by omega, hidOf (HO.out.drewN nq)⟩
      case measure => simp [intOf]; omega
    · have hltI : ¬ (j : Int) < 2 * (l.length : Int) + 70 := by omega
      go_wp2
      obtain ⟨w1, hw1⟩ : ∃ w1, w1 = wr := ⟨_, rfl⟩
      rw [← hw1] at HB HO
      have Hw1 := hidOf hw1
      clear hw1 d0 d1
      go_loopw [7] (fun kv wr => ∃ (j : Nat) (L : List UInt8), kv = .int .i64 j ∧ j ≤ l.length ∧ Hid (LeB wr p g m l.length L) ∧ Hid (Chg (SL p g) w wr)) (fun kv _ => l.length - (intOf kv).toNat)
      case atStart => exact ⟨0, _, rfl, by omega, by rw [← Hw1.out]; exact HB, by rw [← Hw1.out]; exact Chg.of_out HO.out⟩
      case round =>
        clear HB HO Hw1
        obtain ⟨j, L, rfl, hj, HB, HC⟩ := hrel
        have d0 := HB.out.c0
        have d1 := HB.out.c1
        by_cases hlt : j < l.length
        · have hltI : (j : Int) < l.length := by omega
          obtain ⟨z, hz⟩ : ∃ z, L[j]? = some z := ⟨_, List.getElem?_eq_getElem (by have := HB.out.len_; omega)⟩
          have dz := HB.out.cell hz
          have fz := HB.out.fg j
          have HB2 : Hid (LeB (wr.setCell ⟨g, j, none⟩ (.int .u8 120)) p g m l.length (L.set j 120)) := HB.out.set j 120
          have HC2 : Hid (Chg (SL p g) w (wr.setCell ⟨g, j, none⟩ (.int .u8 120))) := Chg.setCell HC.out (p := ⟨g, j, none⟩) (.inr rfl) _
          have hjm : (j : Int) < m := by omega
          go_wp2
          go_roundw
          case rel => exact ⟨j + 1, _, by simp, by omega, HB2, HC2⟩
          case measure => simp [intOf]; omega
        · have hltI : ¬ (j : Int) < l.length := by omega
          go_wp2
          go_ret
          exact ⟨rfl, ⟨_, HB.out⟩, HC.out⟩
end Go.Proofs.YtgephenkbbelcaaDoor
