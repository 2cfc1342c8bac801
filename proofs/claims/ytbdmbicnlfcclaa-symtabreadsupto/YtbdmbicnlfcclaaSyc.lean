import Derived.Test.YtbdmbicnlfcclaaSyb
import Derived.Deep.RegionHeld3
namespace Go.Proofs.Ytbdmbicnlfcclaa
open Go.RowKit
set_option linter.unusedVariables false
set_option linter.unusedSimpArgs false
/-- a symbol -/
structure Sy where
  na : Int
  bi : Int
  ki : Int
  se : Int
  va : Int
  si : Int
def Sy.ar (s : Sy) : Array Value := #[.int .i64 s.na, .int .i64 s.bi, .int .i64 s.ki, .int .i64 s.se, .int .i64 s.va, .int .i64 s.si]
/-- the first field that is wrong -/
def ffP (k : Nat) (s : Sy) : Option Nat := if s.se ≠ seP k then some 6 else if vaP k s.va = false then some 8 else if siP k s.si = false then some 16 else none
set_option maxRecDepth 8000 in
set_option maxHeartbeats 1000000 in
theorem fault1 (na bi ki se va si : Int) (w : World) : Calls Try.prog 46 #[.iface 98 (.agg #[]), .agg #[.int .i64 na, .int .i64 bi, .int .i64 ki, .int .i64 se, .int .i64 va, .int .i64 si]] w fun e w' => e = .returned (.tuple #[.int .i64 ((ffP 1 ⟨na, bi, ki, se, va, si⟩).getD 0 : Nat), .bool (ffP 1 ⟨na, bi, ki, se, va, si⟩).isSome]) ∧ Out w w' := by
  obtain ⟨R, hR⟩ : ∃ R, R = ffP 1 ⟨na, bi, ki, se, va, si⟩ := ⟨_, rfl⟩
  rw [← hR]
  unfold ffP at hR
  obtain ⟨W, hW⟩ : ∃ W, W = w.alloc (.cells #[.int .i64 na, .int .i64 bi, .int .i64 ki, .int .i64 se, .int .i64 va, .int .i64 si] 57) := ⟨_, rfl⟩
  have HX : Hid (W.heap[w.heap.size]? = some (.cells #[.int .i64 na, .int .i64 bi, .int .i64 ki, .int .i64 se, .int .i64 va, .int .i64 si] 57 (0, 0))) := hidOf (by rw [hW]; exact heap_alloc_new w _)
  have HO : Hid (Out w W) := hidOf (by rw [hW]; exact (Out.refl w).alloc _)
  have HK : Hid (∀ wx, Out W wx → wx.cell? ⟨w.heap.size, 3, none⟩ = some (.int .i64 se) ∧ wx.cell? ⟨w.heap.size, 4, none⟩ = some (.int .i64 va) ∧ wx.cell? ⟨w.heap.size, 5, none⟩ = some (.int .i64 si)) := fun wx o => ⟨cell_later o (box_cell HX.out 3), cell_later o (box_cell HX.out 4), cell_later o (box_cell HX.out 5)⟩
  have OD := hidOf ((Out.refl W).drew)
  have m1 := meth1_section
  have m2 := meth1_hasValue
  have m3 := meth1_hasSize
  have CV := hidOf (fun wx => hasValue_function va wx)
  have CZ := hidOf (fun wx => hasSize_function si wx)
  by_cases h1 : se = seP 1
  · have b1 : (se != seP 1) = false := by simp [h1]
    rw [if_neg (by simp [h1])] at hR
    have H1 := hidOf h1
    clear h1
    cases h2 : vaP 1 va with
    | false =>
      rw [h2] at CV
      rw [if_pos h2] at hR
      subst hR
      clear h2
      go_enter Try.func46, Try.ntmps46
      go_upto_region 1 with fail
      rw [← hW]
      clear hW
      go_region_held3 (fun wx => wx.cell? ⟨w.heap.size, 3, none⟩ = some (.int .i64 se) ∧ wx.cell? ⟨w.heap.size, 4, none⟩ = some (.int .i64 va) ∧ wx.cell? ⟨w.heap.size, 5, none⟩ = some (.int .i64 si)) (first | with_reducible exact HK.out _ (Hid.out (by assumption)) | fail) (first | (go_at_call 74; refine (sect_function _).mono ?_; rintro e w1 ⟨rfl, hO⟩; have HO1 := hidOf (OD.out.trans hO); clear hO) | fail)
      all_goals
        obtain ⟨_, k4, k5⟩ := HK.out _ HO1.out
        go_wp2_with (first | (go_at_call 73; refine (CV.out _).mono ?_; rintro e w2 ⟨rfl, hO⟩; have HO2 := hidOf (HO1.out.trans hO); clear hO))
        go_ret2
        exact ⟨rfl, HO.out.trans HO2.out⟩
    | true =>
      rw [h2] at CV
      cases h3 : siP 1 si with
      | false =>
        rw [h3] at CZ
        rw [if_neg (by simp [h2]), if_pos h3] at hR
        subst hR
        clear h2 h3
        go_enter Try.func46, Try.ntmps46
        go_upto_region 1 with fail
        rw [← hW]
        clear hW
        go_region_held3 (fun wx => wx.cell? ⟨w.heap.size, 3, none⟩ = some (.int .i64 se) ∧ wx.cell? ⟨w.heap.size, 4, none⟩ = some (.int .i64 va) ∧ wx.cell? ⟨w.heap.size, 5, none⟩ = some (.int .i64 si)) (first | with_reducible exact HK.out _ (Hid.out (by assumption)) | fail) (first | (go_at_call 74; refine (sect_function _).mono ?_; rintro e w1 ⟨rfl, hO⟩; have HO1 := hidOf (OD.out.trans hO); clear hO) | fail)
        all_goals
          obtain ⟨_, k4, k5⟩ := HK.out _ HO1.out
          go_upto_region 5 with (first | (go_at_call 73; refine (CV.out _).mono ?_; rintro e w2 ⟨rfl, hO⟩; have HO2 := hidOf (HO1.out.trans hO); clear hO))
          clear k4 k5
          obtain ⟨_, _, k5⟩ := HK.out _ HO2.out
          go_wp2_with (first | (go_at_call 72; refine (CZ.out _).mono ?_; rintro e w3 ⟨rfl, hO⟩; have HO3 := hidOf (HO2.out.trans hO); clear hO))
          go_ret2
          exact ⟨rfl, HO.out.trans HO3.out⟩
      | true =>
        rw [h3] at CZ
        rw [if_neg (by simp [h2]), if_neg (by simp [h3])] at hR
        subst hR
        clear h2 h3
        go_enter Try.func46, Try.ntmps46
        go_upto_region 1 with fail
        rw [← hW]
        clear hW
        go_region_held3 (fun wx => wx.cell? ⟨w.heap.size, 3, none⟩ = some (.int .i64 se) ∧ wx.cell? ⟨w.heap.size, 4, none⟩ = some (.int .i64 va) ∧ wx.cell? ⟨w.heap.size, 5, none⟩ = some (.int .i64 si)) (first | with_reducible exact HK.out _ (Hid.out (by assumption)) | fail) (first | (go_at_call 74; refine (sect_function _).mono ?_; rintro e w1 ⟨rfl, hO⟩; have HO1 := hidOf (OD.out.trans hO); clear hO) | fail)
        all_goals
          obtain ⟨_, k4, k5⟩ := HK.out _ HO1.out
          go_upto_region 5 with (first | (go_at_call 73; refine (CV.out _).mono ?_; rintro e w2 ⟨rfl, hO⟩; have HO2 := hidOf (HO1.out.trans hO); clear hO))
          clear k4 k5
          obtain ⟨_, _, k5⟩ := HK.out _ HO2.out
          go_wp2_with (first | (go_at_call 72; refine (CZ.out _).mono ?_; rintro e w3 ⟨rfl, hO⟩; have HO3 := hidOf (HO2.out.trans hO); clear hO))
          go_ret2
          exact ⟨rfl, HO.out.trans HO3.out⟩
  · have b1 : (se != seP 1) = true := by simp [bne, h1]
    rw [if_pos h1] at hR
    subst hR
    have H1 := hidOf h1
    clear h1
    go_enter Try.func46, Try.ntmps46
    go_upto_region 1 with fail
    rw [← hW]
    clear hW
    go_region_held3 (fun wx => wx.cell? ⟨w.heap.size, 3, none⟩ = some (.int .i64 se) ∧ wx.cell? ⟨w.heap.size, 4, none⟩ = some (.int .i64 va) ∧ wx.cell? ⟨w.heap.size, 5, none⟩ = some (.int .i64 si)) (first | with_reducible exact HK.out _ (Hid.out (by assumption)) | fail) (first | (go_at_call 74; refine (sect_function _).mono ?_; rintro e w1 ⟨rfl, hO⟩; have HO1 := hidOf (OD.out.trans hO); clear hO) | fail)
    all_goals
      go_wp2
      go_ret2
      exact ⟨rfl, HO.out.trans HO1.out⟩
set_option maxRecDepth 8000 in
set_option maxHeartbeats 1000000 in
theorem fault2 (na bi ki se va si : Int) (w : World) : Calls Try.prog 46 #[.iface 99 (.agg #[]), .agg #[.int .i64 na, .int .i64 bi, .int .i64 ki, .int .i64 se, .int .i64 va, .int .i64 si]] w fun e w' => e = .returned (.tuple #[.int .i64 ((ffP 2 ⟨na, bi, ki, se, va, si⟩).getD 0 : Nat), .bool (ffP 2 ⟨na, bi, ki, se, va, si⟩).isSome]) ∧ Out w w' := by
  obtain ⟨R, hR⟩ : ∃ R, R = ffP 2 ⟨na, bi, ki, se, va, si⟩ := ⟨_, rfl⟩
  rw [← hR]
  unfold ffP at hR
  obtain ⟨W, hW⟩ : ∃ W, W = w.alloc (.cells #[.int .i64 na, .int .i64 bi, .int .i64 ki, .int .i64 se, .int .i64 va, .int .i64 si] 57) := ⟨_, rfl⟩
  have HX : Hid (W.heap[w.heap.size]? = some (.cells #[.int .i64 na, .int .i64 bi, .int .i64 ki, .int .i64 se, .int .i64 va, .int .i64 si] 57 (0, 0))) := hidOf (by rw [hW]; exact heap_alloc_new w _)
  have HO : Hid (Out w W) := hidOf (by rw [hW]; exact (Out.refl w).alloc _)
  have HK : Hid (∀ wx, Out W wx → wx.cell? ⟨w.heap.size, 3, none⟩ = some (.int .i64 se) ∧ wx.cell? ⟨w.heap.size, 4, none⟩ = some (.int .i64 va) ∧ wx.cell? ⟨w.heap.size, 5, none⟩ = some (.int .i64 si)) := fun wx o => ⟨cell_later o (box_cell HX.out 3), cell_later o (box_cell HX.out 4), cell_later o (box_cell HX.out 5)⟩
  have OD := hidOf ((Out.refl W).drew)
  have m1 := meth2_section
  have m2 := meth2_hasValue
  have m3 := meth2_hasSize
  have CV := hidOf (fun wx => hasValue_table va wx)
  have CZ := hidOf (fun wx => hasSize_table si wx)
  by_cases h1 : se = seP 2
  · have b1 : (se != seP 2) = false := by simp [h1]
    rw [if_neg (by simp [h1])] at hR
    have H1 := hidOf h1
    clear h1
    cases h2 : vaP 2 va with
    | false =>
      rw [h2] at CV
      rw [if_pos h2] at hR
      subst hR
      clear h2
      go_enter Try.func46, Try.ntmps46
      go_upto_region 1 with fail
      rw [← hW]
      clear hW
      go_region_held3 (fun wx => wx.cell? ⟨w.heap.size, 3, none⟩ = some (.int .i64 se) ∧ wx.cell? ⟨w.heap.size, 4, none⟩ = some (.int .i64 va) ∧ wx.cell? ⟨w.heap.size, 5, none⟩ = some (.int .i64 si)) (first | with_reducible exact HK.out _ (Hid.out (by assumption)) | fail) (first | (go_at_call 80; refine (sect_table _).mono ?_; rintro e w1 ⟨rfl, hO⟩; have HO1 := hidOf (OD.out.trans hO); clear hO) | fail)
      all_goals
        obtain ⟨_, k4, k5⟩ := HK.out _ HO1.out
        go_wp2_with (first | (go_at_call 78; refine (CV.out _).mono ?_; rintro e w2 ⟨rfl, hO⟩; have HO2 := hidOf (HO1.out.trans hO); clear hO))
        go_ret2
        exact ⟨rfl, HO.out.trans HO2.out⟩
    | true =>
      rw [h2] at CV
      cases h3 : siP 2 si with
      | false =>
        rw [h3] at CZ
        rw [if_neg (by simp [h2]), if_pos h3] at hR
        subst hR
        clear h2 h3
        go_enter Try.func46, Try.ntmps46
        go_upto_region 1 with fail
        rw [← hW]
        clear hW
        go_region_held3 (fun wx => wx.cell? ⟨w.heap.size, 3, none⟩ = some (.int .i64 se) ∧ wx.cell? ⟨w.heap.size, 4, none⟩ = some (.int .i64 va) ∧ wx.cell? ⟨w.heap.size, 5, none⟩ = some (.int .i64 si)) (first | with_reducible exact HK.out _ (Hid.out (by assumption)) | fail) (first | (go_at_call 80; refine (sect_table _).mono ?_; rintro e w1 ⟨rfl, hO⟩; have HO1 := hidOf (OD.out.trans hO); clear hO) | fail)
        all_goals
          obtain ⟨_, k4, k5⟩ := HK.out _ HO1.out
          go_upto_region 5 with (first | (go_at_call 78; refine (CV.out _).mono ?_; rintro e w2 ⟨rfl, hO⟩; have HO2 := hidOf (HO1.out.trans hO); clear hO))
          clear k4 k5
          obtain ⟨_, _, k5⟩ := HK.out _ HO2.out
          go_wp2_with (first | (go_at_call 77; refine (CZ.out _).mono ?_; rintro e w3 ⟨rfl, hO⟩; have HO3 := hidOf (HO2.out.trans hO); clear hO))
          go_ret2
          exact ⟨rfl, HO.out.trans HO3.out⟩
      | true =>
        rw [h3] at CZ
        rw [if_neg (by simp [h2]), if_neg (by simp [h3])] at hR
        subst hR
        clear h2 h3
        go_enter Try.func46, Try.ntmps46
        go_upto_region 1 with fail
        rw [← hW]
        clear hW
        go_region_held3 (fun wx => wx.cell? ⟨w.heap.size, 3, none⟩ = some (.int .i64 se) ∧ wx.cell? ⟨w.heap.size, 4, none⟩ = some (.int .i64 va) ∧ wx.cell? ⟨w.heap.size, 5, none⟩ = some (.int .i64 si)) (first | with_reducible exact HK.out _ (Hid.out (by assumption)) | fail) (first | (go_at_call 80; refine (sect_table _).mono ?_; rintro e w1 ⟨rfl, hO⟩; have HO1 := hidOf (OD.out.trans hO); clear hO) | fail)
        all_goals
          obtain ⟨_, k4, k5⟩ := HK.out _ HO1.out
          go_upto_region 5 with (first | (go_at_call 78; refine (CV.out _).mono ?_; rintro e w2 ⟨rfl, hO⟩; have HO2 := hidOf (HO1.out.trans hO); clear hO))
          clear k4 k5
          obtain ⟨_, _, k5⟩ := HK.out _ HO2.out
          go_wp2_with (first | (go_at_call 77; refine (CZ.out _).mono ?_; rintro e w3 ⟨rfl, hO⟩; have HO3 := hidOf (HO2.out.trans hO); clear hO))
          go_ret2
          exact ⟨rfl, HO.out.trans HO3.out⟩
  · have b1 : (se != seP 2) = true := by simp [bne, h1]
    rw [if_pos h1] at hR
    subst hR
    have H1 := hidOf h1
    clear h1
    go_enter Try.func46, Try.ntmps46
    go_upto_region 1 with fail
    rw [← hW]
    clear hW
    go_region_held3 (fun wx => wx.cell? ⟨w.heap.size, 3, none⟩ = some (.int .i64 se) ∧ wx.cell? ⟨w.heap.size, 4, none⟩ = some (.int .i64 va) ∧ wx.cell? ⟨w.heap.size, 5, none⟩ = some (.int .i64 si)) (first | with_reducible exact HK.out _ (Hid.out (by assumption)) | fail) (first | (go_at_call 80; refine (sect_table _).mono ?_; rintro e w1 ⟨rfl, hO⟩; have HO1 := hidOf (OD.out.trans hO); clear hO) | fail)
    all_goals
      go_wp2
      go_ret2
      exact ⟨rfl, HO.out.trans HO1.out⟩
set_option maxRecDepth 8000 in
set_option maxHeartbeats 1000000 in
theorem fault3 (na bi ki se va si : Int) (w : World) : Calls Try.prog 46 #[.iface 100 (.agg #[]), .agg #[.int .i64 na, .int .i64 bi, .int .i64 ki, .int .i64 se, .int .i64 va, .int .i64 si]] w fun e w' => e = .returned (.tuple #[.int .i64 ((ffP 3 ⟨na, bi, ki, se, va, si⟩).getD 0 : Nat), .bool (ffP 3 ⟨na, bi, ki, se, va, si⟩).isSome]) ∧ Out w w' := by
  obtain ⟨R, hR⟩ : ∃ R, R = ffP 3 ⟨na, bi, ki, se, va, si⟩ := ⟨_, rfl⟩
  rw [← hR]
  unfold ffP at hR
  obtain ⟨W, hW⟩ : ∃ W, W = w.alloc (.cells #[.int .i64 na, .int .i64 bi, .int .i64 ki, .int .i64 se, .int .i64 va, .int .i64 si] 57) := ⟨_, rfl⟩
  have HX : Hid (W.heap[w.heap.size]? = some (.cells #[.int .i64 na, .int .i64 bi, .int .i64 ki, .int .i64 se, .int .i64 va, .int .i64 si] 57 (0, 0))) := hidOf (by rw [hW]; exact heap_alloc_new w _)
  have HO : Hid (Out w W) := hidOf (by rw [hW]; exact (Out.refl w).alloc _)
  have HK : Hid (∀ wx, Out W wx → wx.cell? ⟨w.heap.size, 3, none⟩ = some (.int .i64 se) ∧ wx.cell? ⟨w.heap.size, 4, none⟩ = some (.int .i64 va) ∧ wx.cell? ⟨w.heap.size, 5, none⟩ = some (.int .i64 si)) := fun wx o => ⟨cell_later o (box_cell HX.out 3), cell_later o (box_cell HX.out 4), cell_later o (box_cell HX.out 5)⟩
  have OD := hidOf ((Out.refl W).drew)
  have m1 := meth3_section
  have m2 := meth3_hasValue
  have m3 := meth3_hasSize
  have CV := hidOf (fun wx => hasValue_function va wx)
  have CZ := hidOf (fun wx => hasSize_function si wx)
  have e31 : ∀ n, vaP 1 n = vaP 3 n := fun n => rfl
  have e32 : ∀ n, siP 1 n = siP 3 n := fun n => rfl
  rw [e31] at CV
  rw [e32] at CZ
  clear e31 e32
  by_cases h1 : se = seP 3
  · have b1 : (se != seP 1) = false := by rw [show seP 1 = seP 3 from rfl]; simp [h1]
    rw [if_neg (by simp [h1])] at hR
    have H1 := hidOf h1
    clear h1
    cases h2 : vaP 3 va with
    | false =>
      rw [h2] at CV
      rw [if_pos h2] at hR
      subst hR
      clear h2
      go_enter Try.func46, Try.ntmps46
      go_upto_region 1 with fail
      rw [← hW]
      clear hW
      go_region_held3 (fun wx => wx.cell? ⟨w.heap.size, 3, none⟩ = some (.int .i64 se) ∧ wx.cell? ⟨w.heap.size, 4, none⟩ = some (.int .i64 va) ∧ wx.cell? ⟨w.heap.size, 5, none⟩ = some (.int .i64 si)) (first | with_reducible exact HK.out _ (Hid.out (by assumption)) | fail) (first | (go_at_call 74; refine (sect_function _).mono ?_; rintro e w1 ⟨rfl, hO⟩; have HO1 := hidOf (OD.out.trans hO); clear hO) | fail)
      all_goals
        obtain ⟨_, k4, k5⟩ := HK.out _ HO1.out
        go_wp2_with (first | (go_at_call 73; refine (CV.out _).mono ?_; rintro e w2 ⟨rfl, hO⟩; have HO2 := hidOf (HO1.out.trans hO); clear hO))
        go_ret2
        exact ⟨rfl, HO.out.trans HO2.out⟩
    | true =>
      rw [h2] at CV
      cases h3 : siP 3 si with
      | false =>
        rw [h3] at CZ
        rw [if_neg (by simp [h2]), if_pos h3] at hR
        subst hR
        clear h2 h3
        go_enter Try.func46, Try.ntmps46
        go_upto_region 1 with fail
        rw [← hW]
        clear hW
        go_region_held3 (fun wx => wx.cell? ⟨w.heap.size, 3, none⟩ = some (.int .i64 se) ∧ wx.cell? ⟨w.heap.size, 4, none⟩ = some (.int .i64 va) ∧ wx.cell? ⟨w.heap.size, 5, none⟩ = some (.int .i64 si)) (first | with_reducible exact HK.out _ (Hid.out (by assumption)) | fail) (first | (go_at_call 74; refine (sect_function _).mono ?_; rintro e w1 ⟨rfl, hO⟩; have HO1 := hidOf (OD.out.trans hO); clear hO) | fail)
        all_goals
          obtain ⟨_, k4, k5⟩ := HK.out _ HO1.out
          go_upto_region 5 with (first | (go_at_call 73; refine (CV.out _).mono ?_; rintro e w2 ⟨rfl, hO⟩; have HO2 := hidOf (HO1.out.trans hO); clear hO))
          clear k4 k5
          obtain ⟨_, _, k5⟩ := HK.out _ HO2.out
          go_wp2_with (first | (go_at_call 72; refine (CZ.out _).mono ?_; rintro e w3 ⟨rfl, hO⟩; have HO3 := hidOf (HO2.out.trans hO); clear hO))
          go_ret2
          exact ⟨rfl, HO.out.trans HO3.out⟩
      | true =>
        rw [h3] at CZ
        rw [if_neg (by simp [h2]), if_neg (by simp [h3])] at hR
        subst hR
        clear h2 h3
        go_enter Try.func46, Try.ntmps46
        go_upto_region 1 with fail
        rw [← hW]
        clear hW
        go_region_held3 (fun wx => wx.cell? ⟨w.heap.size, 3, none⟩ = some (.int .i64 se) ∧ wx.cell? ⟨w.heap.size, 4, none⟩ = some (.int .i64 va) ∧ wx.cell? ⟨w.heap.size, 5, none⟩ = some (.int .i64 si)) (first | with_reducible exact HK.out _ (Hid.out (by assumption)) | fail) (first | (go_at_call 74; refine (sect_function _).mono ?_; rintro e w1 ⟨rfl, hO⟩; have HO1 := hidOf (OD.out.trans hO); clear hO) | fail)
        all_goals
          obtain ⟨_, k4, k5⟩ := HK.out _ HO1.out
          go_upto_region 5 with (first | (go_at_call 73; refine (CV.out _).mono ?_; rintro e w2 ⟨rfl, hO⟩; have HO2 := hidOf (HO1.out.trans hO); clear hO))
          clear k4 k5
          obtain ⟨_, _, k5⟩ := HK.out _ HO2.out
          go_wp2_with (first | (go_at_call 72; refine (CZ.out _).mono ?_; rintro e w3 ⟨rfl, hO⟩; have HO3 := hidOf (HO2.out.trans hO); clear hO))
          go_ret2
          exact ⟨rfl, HO.out.trans HO3.out⟩
  · have b1 : (se != seP 1) = true := by rw [show seP 1 = seP 3 from rfl]; simp [bne, h1]
    rw [if_pos h1] at hR
    subst hR
    have H1 := hidOf h1
    clear h1
    go_enter Try.func46, Try.ntmps46
    go_upto_region 1 with fail
    rw [← hW]
    clear hW
    go_region_held3 (fun wx => wx.cell? ⟨w.heap.size, 3, none⟩ = some (.int .i64 se) ∧ wx.cell? ⟨w.heap.size, 4, none⟩ = some (.int .i64 va) ∧ wx.cell? ⟨w.heap.size, 5, none⟩ = some (.int .i64 si)) (first | with_reducible exact HK.out _ (Hid.out (by assumption)) | fail) (first | (go_at_call 74; refine (sect_function _).mono ?_; rintro e w1 ⟨rfl, hO⟩; have HO1 := hidOf (OD.out.trans hO); clear hO) | fail)
    all_goals
      go_wp2
      go_ret2
      exact ⟨rfl, HO.out.trans HO1.out⟩
set_option maxRecDepth 8000 in
set_option maxHeartbeats 1000000 in
theorem fault4 (na bi ki se va si : Int) (w : World) : Calls Try.prog 46 #[.iface 101 (.agg #[]), .agg #[.int .i64 na, .int .i64 bi, .int .i64 ki, .int .i64 se, .int .i64 va, .int .i64 si]] w fun e w' => e = .returned (.tuple #[.int .i64 ((ffP 4 ⟨na, bi, ki, se, va, si⟩).getD 0 : Nat), .bool (ffP 4 ⟨na, bi, ki, se, va, si⟩).isSome]) ∧ Out w w' := by
  obtain ⟨R, hR⟩ : ∃ R, R = ffP 4 ⟨na, bi, ki, se, va, si⟩ := ⟨_, rfl⟩
  rw [← hR]
  unfold ffP at hR
  obtain ⟨W, hW⟩ : ∃ W, W = w.alloc (.cells #[.int .i64 na, .int .i64 bi, .int .i64 ki, .int .i64 se, .int .i64 va, .int .i64 si] 57) := ⟨_, rfl⟩
  have HX : Hid (W.heap[w.heap.size]? = some (.cells #[.int .i64 na, .int .i64 bi, .int .i64 ki, .int .i64 se, .int .i64 va, .int .i64 si] 57 (0, 0))) := hidOf (by rw [hW]; exact heap_alloc_new w _)
  have HO : Hid (Out w W) := hidOf (by rw [hW]; exact (Out.refl w).alloc _)
  have HK : Hid (∀ wx, Out W wx → wx.cell? ⟨w.heap.size, 3, none⟩ = some (.int .i64 se) ∧ wx.cell? ⟨w.heap.size, 4, none⟩ = some (.int .i64 va) ∧ wx.cell? ⟨w.heap.size, 5, none⟩ = some (.int .i64 si)) := fun wx o => ⟨cell_later o (box_cell HX.out 3), cell_later o (box_cell HX.out 4), cell_later o (box_cell HX.out 5)⟩
  have OD := hidOf ((Out.refl W).drew)
  have m1 := meth4_section
  have m2 := meth4_hasValue
  have m3 := meth4_hasSize
  have CV := hidOf (fun wx => hasValue_extern va wx)
  have CZ := hidOf (fun wx => hasSize_extern si wx)
  by_cases h1 : se = seP 4
  · have b1 : (se != seP 4) = false := by simp [h1]
    rw [if_neg (by simp [h1])] at hR
    have H1 := hidOf h1
    clear h1
    cases h2 : vaP 4 va with
    | false =>
      rw [h2] at CV
      rw [if_pos h2] at hR
      subst hR
      clear h2
      go_enter Try.func46, Try.ntmps46
      go_upto_region 1 with fail
      rw [← hW]
      clear hW
      go_region_held3 (fun wx => wx.cell? ⟨w.heap.size, 3, none⟩ = some (.int .i64 se) ∧ wx.cell? ⟨w.heap.size, 4, none⟩ = some (.int .i64 va) ∧ wx.cell? ⟨w.heap.size, 5, none⟩ = some (.int .i64 si)) (first | with_reducible exact HK.out _ (Hid.out (by assumption)) | fail) (first | (go_at_call 86; refine (sect_extern _).mono ?_; rintro e w1 ⟨rfl, hO⟩; have HO1 := hidOf (OD.out.trans hO); clear hO) | fail)
      all_goals
        obtain ⟨_, k4, k5⟩ := HK.out _ HO1.out
        go_wp2_with (first | (go_at_call 84; refine (CV.out _).mono ?_; rintro e w2 ⟨rfl, hO⟩; have HO2 := hidOf (HO1.out.trans hO); clear hO))
        go_ret2
        exact ⟨rfl, HO.out.trans HO2.out⟩
    | true =>
      rw [h2] at CV
      cases h3 : siP 4 si with
      | false =>
        rw [h3] at CZ
        rw [if_neg (by simp [h2]), if_pos h3] at hR
        subst hR
        clear h2 h3
        go_enter Try.func46, Try.ntmps46
        go_upto_region 1 with fail
        rw [← hW]
        clear hW
        go_region_held3 (fun wx => wx.cell? ⟨w.heap.size, 3, none⟩ = some (.int .i64 se) ∧ wx.cell? ⟨w.heap.size, 4, none⟩ = some (.int .i64 va) ∧ wx.cell? ⟨w.heap.size, 5, none⟩ = some (.int .i64 si)) (first | with_reducible exact HK.out _ (Hid.out (by assumption)) | fail) (first | (go_at_call 86; refine (sect_extern _).mono ?_; rintro e w1 ⟨rfl, hO⟩; have HO1 := hidOf (OD.out.trans hO); clear hO) | fail)
        all_goals
          obtain ⟨_, k4, k5⟩ := HK.out _ HO1.out
          go_upto_region 5 with (first | (go_at_call 84; refine (CV.out _).mono ?_; rintro e w2 ⟨rfl, hO⟩; have HO2 := hidOf (HO1.out.trans hO); clear hO))
          clear k4 k5
          obtain ⟨_, _, k5⟩ := HK.out _ HO2.out
          go_wp2_with (first | (go_at_call 83; refine (CZ.out _).mono ?_; rintro e w3 ⟨rfl, hO⟩; have HO3 := hidOf (HO2.out.trans hO); clear hO))
          go_ret2
          exact ⟨rfl, HO.out.trans HO3.out⟩
      | true =>
        rw [h3] at CZ
        rw [if_neg (by simp [h2]), if_neg (by simp [h3])] at hR
        subst hR
        clear h2 h3
        go_enter Try.func46, Try.ntmps46
        go_upto_region 1 with fail
        rw [← hW]
        clear hW
        go_region_held3 (fun wx => wx.cell? ⟨w.heap.size, 3, none⟩ = some (.int .i64 se) ∧ wx.cell? ⟨w.heap.size, 4, none⟩ = some (.int .i64 va) ∧ wx.cell? ⟨w.heap.size, 5, none⟩ = some (.int .i64 si)) (first | with_reducible exact HK.out _ (Hid.out (by assumption)) | fail) (first | (go_at_call 86; refine (sect_extern _).mono ?_; rintro e w1 ⟨rfl, hO⟩; have HO1 := hidOf (OD.out.trans hO); clear hO) | fail)
        all_goals
          obtain ⟨_, k4, k5⟩ := HK.out _ HO1.out
          go_upto_region 5 with (first | (go_at_call 84; refine (CV.out _).mono ?_; rintro e w2 ⟨rfl, hO⟩; have HO2 := hidOf (HO1.out.trans hO); clear hO))
          clear k4 k5
          obtain ⟨_, _, k5⟩ := HK.out _ HO2.out
          go_wp2_with (first | (go_at_call 83; refine (CZ.out _).mono ?_; rintro e w3 ⟨rfl, hO⟩; have HO3 := hidOf (HO2.out.trans hO); clear hO))
          go_ret2
          exact ⟨rfl, HO.out.trans HO3.out⟩
  · have b1 : (se != seP 4) = true := by simp [bne, h1]
    rw [if_pos h1] at hR
    subst hR
    have H1 := hidOf h1
    clear h1
    go_enter Try.func46, Try.ntmps46
    go_upto_region 1 with fail
    rw [← hW]
    clear hW
    go_region_held3 (fun wx => wx.cell? ⟨w.heap.size, 3, none⟩ = some (.int .i64 se) ∧ wx.cell? ⟨w.heap.size, 4, none⟩ = some (.int .i64 va) ∧ wx.cell? ⟨w.heap.size, 5, none⟩ = some (.int .i64 si)) (first | with_reducible exact HK.out _ (Hid.out (by assumption)) | fail) (first | (go_at_call 86; refine (sect_extern _).mono ?_; rintro e w1 ⟨rfl, hO⟩; have HO1 := hidOf (OD.out.trans hO); clear hO) | fail)
    all_goals
      go_wp2
      go_ret2
      exact ⟨rfl, HO.out.trans HO1.out⟩
end Go.Proofs.Ytbdmbicnlfcclaa
