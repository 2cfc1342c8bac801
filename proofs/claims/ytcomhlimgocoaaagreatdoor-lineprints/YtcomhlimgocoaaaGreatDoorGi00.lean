import Derived.Test.YtcomhlimgocoaaaGreatDoorGc39
import Derived.Test.YtcomhlimgocoaaaGreatDoorGc37
import Derived.Test.YtcomhlimgocoaaaGreatDoorGc46
import Derived.Test.YtcomhlimgocoaaaGreatDoorGc35
namespace Go.Proofs.YtcomhlimgocoaaaGreatDoor
open Go.RowKit
set_option linter.unusedVariables false
set_option linter.unusedSimpArgs false
set_option maxRecDepth 8000 in
set_option maxHeartbeats 4000000 in
theorem shape4_any (o d s f i : Int) (h0 : -9223372036854775808 ≤ o) (h1 : o < 9223372036854775808) (w : World) : Calls Tryz.prog 61 #[.agg #[.int .i64 o, .int .i64 d, .int .i64 s, .int .i64 f, .int .i64 i]] w fun e w' => e = .returned (.int .i64 (shapeR o s f)) ∧ Out w w' := by
  obtain ⟨m, hm⟩ : ∃ m : Int, o.tmod 8 = m := ⟨_, rfl⟩
  obtain ⟨q, hq⟩ : ∃ q : Int, o.tdiv 16 = q := ⟨_, rfl⟩
  have hq2 : IntKind.i64.wrap q = q := by
    rw [IntKind.wrap_i64]
    rw [← hq]
    have e := Int.mul_tdiv_add_tmod o 16
    have a1 : -16 < o.tmod 16 := Int.lt_tmod_of_pos o (by omega)
    have a2 : o.tmod 16 < 16 := Int.tmod_lt_of_pos o (by omega)
    omega
  obtain ⟨X, hX⟩ : ∃ X, shapeR o s f = X := ⟨_, rfl⟩
  have HX := hidOf hX
  rw [hX]
  unfold shapeR at HX
  rw [hm, hq] at HX
  clear hX h0 h1
  by_cases c0 : o = 149
  · have b0 : (o == 149) = true := by simp [c0]
    have hE := HX.out
    simp [c0] at hE
    subst hE
    clear HX
    go_enter Tryz.func61, Tryz.ntmps61
    go_wp2
    go_ret
    exact ⟨rfl, (Out.refl w).alloc _⟩
  have b0 : (o == 149) = false := by simp [c0]
  by_cases c1 : o = 133
  · have b1 : (o == 133) = true := by simp [c1]
    have hE := HX.out
    simp [c0, c1] at hE
    subst hE
    clear HX
    go_enter Tryz.func61, Tryz.ntmps61
    go_wp2
    go_ret
    exact ⟨rfl, (Out.refl w).alloc _⟩
  have b1 : (o == 133) = false := by simp [c1]
  by_cases c2 : o = 24
  · have b2 : (o == 24) = true := by simp [c2]
    by_cases t1 : s = 1
    · have t2 : (s == 1) = true := by simp [t1]
      have hE := HX.out
      simp [c0, c1, c2, t1] at hE
      subst hE
      clear HX
      go_enter Tryz.func61, Tryz.ntmps61
      go_wp2
      go_ret
      exact ⟨rfl, (Out.refl w).alloc _⟩
    · have t2 : (s == 1) = false := by simp [t1]
      have hE := HX.out
      simp [c0, c1, c2, t1] at hE
      subst hE
      clear HX
      go_enter Tryz.func61, Tryz.ntmps61
      go_wp2
      go_ret
      exact ⟨rfl, (Out.refl w).alloc _⟩
  have b2 : (o == 24) = false := by simp [c2]
  by_cases c3 : o = 5
  · have b3 : (o == 5) = true := by simp [c3]
    have hE := HX.out
    simp [c0, c1, c2, c3] at hE
    subst hE
    clear HX
    go_enter Tryz.func61, Tryz.ntmps61
    go_wp2
    go_ret
    exact ⟨rfl, (Out.refl w).alloc _⟩
  have b3 : (o == 5) = false := by simp [c3]
  by_cases c4 : o = 6
  · have b4 : (o == 6) = true := by simp [c4]
    have hE := HX.out
    simp [c0, c1, c2, c3, c4] at hE
    subst hE
    clear HX
    go_enter Tryz.func61, Tryz.ntmps61
    go_wp2
    go_ret
    exact ⟨rfl, (Out.refl w).alloc _⟩
  have b4 : (o == 6) = false := by simp [c4]
  by_cases c5 : m = 1
  · have b5 : (m == 1) = true := by simp [c5]
    have hE := HX.out
    simp [c0, c1, c2, c3, c4, c5] at hE
    subst hE
    clear HX
    go_enter Tryz.func61, Tryz.ntmps61
    go_wp2
    go_ret
    exact ⟨rfl, (Out.refl w).alloc _⟩
  have b5 : (m == 1) = false := by simp [c5]
  by_cases c6 : m = 2
  · have b6 : (m == 2) = true := by simp [c6]
    have hE := HX.out
    simp [c0, c1, c2, c3, c4, c5, c6] at hE
    subst hE
    clear HX
    go_enter Tryz.func61, Tryz.ntmps61
    go_wp2
    go_ret
    exact ⟨rfl, (Out.refl w).alloc _⟩
  have b6 : (m == 2) = false := by simp [c6]
  by_cases c7 : m = 3
  · have b7 : (m == 3) = true := by simp [c7]
    have hE := HX.out
    simp [c0, c1, c2, c3, c4, c5, c6, c7] at hE
    subst hE
    clear HX
    go_enter Tryz.func61, Tryz.ntmps61
    go_wp2
    go_ret
    exact ⟨rfl, (Out.refl w).alloc _⟩
  have b7 : (m == 3) = false := by simp [c7]
  by_cases c8 : m = 5
  · have b8 : (m == 5) = true := by simp [c8]
    have hE := HX.out
    simp [c0, c1, c2, c3, c4, c5, c6, c7, c8] at hE
    subst hE
    clear HX
    go_enter Tryz.func61, Tryz.ntmps61
    go_wp2
    go_ret
    exact ⟨rfl, (Out.refl w).alloc _⟩
  have b8 : (m == 5) = false := by simp [c8]
  by_cases c9 : m = 6
  · have b9 : (m == 6) = true := by simp [c9]
    have hE := HX.out
    simp [c0, c1, c2, c3, c4, c5, c6, c7, c8, c9] at hE
    subst hE
    clear HX
    go_enter Tryz.func61, Tryz.ntmps61
    go_wp2
    go_ret
    exact ⟨rfl, (Out.refl w).alloc _⟩
  have b9 : (m == 6) = false := by simp [c9]
  by_cases c10 : q = 8
  · have b10 : (q == 8) = true := by simp [c10]
    have hE := HX.out
    simp [c0, c1, c2, c3, c4, c5, c6, c7, c8, c9, c10] at hE
    subst hE
    clear HX
    go_enter Tryz.func61, Tryz.ntmps61
    go_wp2
    go_ret
    exact ⟨rfl, (Out.refl w).alloc _⟩
  have b10 : (q == 8) = false := by simp [c10]
  by_cases c11 : q = 13
  · have b11 : (q == 13) = true := by simp [c11]
    have hE := HX.out
    simp [c0, c1, c2, c3, c4, c5, c6, c7, c8, c9, c10, c11] at hE
    subst hE
    clear HX
    go_enter Tryz.func61, Tryz.ntmps61
    go_wp2
    go_ret
    exact ⟨rfl, (Out.refl w).alloc _⟩
  have b11 : (q == 13) = false := by simp [c11]
  by_cases c12 : q = 11
  · have b12 : (q == 11) = true := by simp [c12]
    by_cases t1 : f = 0
    · have t2 : (f != 0) = false := by simp [t1]
      have hE := HX.out
      simp [c0, c1, c2, c3, c4, c5, c6, c7, c8, c9, c10, c11, c12, t1] at hE
      subst hE
      clear HX
      go_enter Tryz.func61, Tryz.ntmps61
      go_wp2
      go_ret
      exact ⟨rfl, (Out.refl w).alloc _⟩
    · have t2 : (f != 0) = true := by simp [t1]
      have hE := HX.out
      simp [c0, c1, c2, c3, c4, c5, c6, c7, c8, c9, c10, c11, c12, t1] at hE
      subst hE
      clear HX
      go_enter Tryz.func61, Tryz.ntmps61
      go_wp2
      go_ret
      exact ⟨rfl, (Out.refl w).alloc _⟩
  have b12 : (q == 11) = false := by simp [c12]
  have hE := HX.out
  simp [c0, c1, c2, c3, c4, c5, c6, c7, c8, c9, c10, c11, c12] at hE
  subst hE
  clear HX
  go_enter Tryz.func61, Tryz.ntmps61
  go_wp2
  go_ret
  exact ⟨rfl, (Out.refl w).alloc _⟩
theorem sh9 {o s f : Int} (h : shapeR o s f = 9) : o = 133 := by
  unfold shapeR at h
  apply Classical.byContradiction
  intro hn
  rw [if_neg hn] at h
  repeat' split at h
  all_goals omega
theorem shapeR_in (o s f : Int) : 1 ≤ shapeR o s f ∧ shapeR o s f ≤ 12 := by
  unfold shapeR
  repeat' split
  all_goals omega
set_option maxRecDepth 8000 in
set_option maxHeartbeats 4000000 in
theorem targeted4_any (o d s f i : Int) (h0 : -9223372036854775808 ≤ o) (h1 : o < 9223372036854775808) (i0 : -9223372036854775808 ≤ i) (i1 : o = 133 → i < 9223372036854775807) (w : World) : Calls Tryz.prog 27 #[.agg #[.int .i64 o, .int .i64 d, .int .i64 s, .int .i64 f, .int .i64 i]] w fun e w' => e = .returned (.tuple #[.bool (tgtR o s f i).1, .int .i64 (tgtR o s f i).2]) ∧ Out w w' := by
  have CS := hidOf (fun wx => shape4_any o d s f i h0 h1 wx)
  obtain ⟨X, hX⟩ : ∃ X, tgtR o s f i = X := ⟨_, rfl⟩
  have HX := hidOf hX
  rw [hX]
  unfold tgtR at HX
  have hi : shapeR o s f = 9 → IntKind.i64.wrap (i + 1) = i + 1 := fun h9 => by
    have := i1 (sh9 h9)
    rw [IntKind.wrap_i64]; omega
  obtain ⟨j, hj⟩ : ∃ j, i + 1 = j := ⟨_, rfl⟩
  rw [hj] at HX hi
  generalize shapeR o s f = sh at *
  clear hX h0 h1 i0 i1
  by_cases c7 : sh = 7
  · have b7 : (sh == 7) = true := by simp [c7]
    by_cases t1 : o = 6
    · have t2 : (o == 6) = true := by simp [t1]
      have hE := HX.out
      simp [c7, t1] at hE
      subst hE
      clear HX c7 t1
      go_enter Tryz.func27, Tryz.ntmps27
      go_upto_region 1 with fail
      obtain ⟨wb, hwb⟩ : ∃ wb, wb = w.alloc (.cells #[.int .i64 o, .int .i64 d, .int .i64 s, .int .i64 f, .int .i64 i] 25) := ⟨_, rfl⟩
      obtain ⟨p, hp⟩ : ∃ p, p = w.heap.size := ⟨_, rfl⟩
      have ob : Out w wb := by rw [hwb]; exact (Out.refl w).alloc _
      have hb : wb.heap[p]? = some (.cells #[.int .i64 o, .int .i64 d, .int .i64 s, .int .i64 f, .int .i64 i] 25 (0, 0)) := by rw [hwb, hp]; exact heap_alloc_new w _
      have HB := hidOf (fun wx (ox : Out wb wx) => blk_out ox hb)
      have OB := hidOf ob
      rw [← hwb, ← hp]
      have e0 : wb.cell? ⟨p, 0, none⟩ = some (.int .i64 o) := by rw [cell_atL hb]; rfl
      have e1 : wb.cell? ⟨p, 1, none⟩ = some (.int .i64 d) := by rw [cell_atL hb]; rfl
      have e2 : wb.cell? ⟨p, 2, none⟩ = some (.int .i64 s) := by rw [cell_atL hb]; rfl
      have e3 : wb.cell? ⟨p, 3, none⟩ = some (.int .i64 f) := by rw [cell_atL hb]; rfl
      have e4 : wb.cell? ⟨p, 4, none⟩ = some (.int .i64 i) := by rw [cell_atL hb]; rfl
      clear hwb hp ob hb
      go_upto_region 2 with (go_at_call 61; refine (CS.out _).mono ?_; rintro e w1 ⟨rfl, ho⟩; have O1 := hidOf ho; clear ho)
      have h1 := HB.out w1 O1.out
      have f0 : w1.cell? ⟨p, 0, none⟩ = some (.int .i64 o) := by rw [cell_atL h1]; rfl
      have f2 : w1.cell? ⟨p, 2, none⟩ = some (.int .i64 s) := by rw [cell_atL h1]; rfl
      have f3 : w1.cell? ⟨p, 3, none⟩ = some (.int .i64 f) := by rw [cell_atL h1]; rfl
      have f4 : w1.cell? ⟨p, 4, none⟩ = some (.int .i64 i) := by rw [cell_atL h1]; rfl
      clear e0 e1 e2 e3 e4 h1 HB
      go_upto_region 5 with fail
      go_quiet (fail)
      go_wp2
      go_ret2
      exact ⟨rfl, Out.trans OB.out (Out.dN O1.out _)⟩
    · have t2 : (o == 6) = false := by simp [t1]
      have hE := HX.out
      simp [c7, t1] at hE
      subst hE
      clear HX c7 t1
      go_enter Tryz.func27, Tryz.ntmps27
      go_upto_region 1 with fail
      obtain ⟨wb, hwb⟩ : ∃ wb, wb = w.alloc (.cells #[.int .i64 o, .int .i64 d, .int .i64 s, .int .i64 f, .int .i64 i] 25) := ⟨_, rfl⟩
      obtain ⟨p, hp⟩ : ∃ p, p = w.heap.size := ⟨_, rfl⟩
      have ob : Out w wb := by rw [hwb]; exact (Out.refl w).alloc _
      have hb : wb.heap[p]? = some (.cells #[.int .i64 o, .int .i64 d, .int .i64 s, .int .i64 f, .int .i64 i] 25 (0, 0)) := by rw [hwb, hp]; exact heap_alloc_new w _
      have HB := hidOf (fun wx (ox : Out wb wx) => blk_out ox hb)
      have OB := hidOf ob
      rw [← hwb, ← hp]
      have e0 : wb.cell? ⟨p, 0, none⟩ = some (.int .i64 o) := by rw [cell_atL hb]; rfl
      have e1 : wb.cell? ⟨p, 1, none⟩ = some (.int .i64 d) := by rw [cell_atL hb]; rfl
      have e2 : wb.cell? ⟨p, 2, none⟩ = some (.int .i64 s) := by rw [cell_atL hb]; rfl
      have e3 : wb.cell? ⟨p, 3, none⟩ = some (.int .i64 f) := by rw [cell_atL hb]; rfl
      have e4 : wb.cell? ⟨p, 4, none⟩ = some (.int .i64 i) := by rw [cell_atL hb]; rfl
      clear hwb hp ob hb
      go_upto_region 2 with (go_at_call 61; refine (CS.out _).mono ?_; rintro e w1 ⟨rfl, ho⟩; have O1 := hidOf ho; clear ho)
      have h1 := HB.out w1 O1.out
      have f0 : w1.cell? ⟨p, 0, none⟩ = some (.int .i64 o) := by rw [cell_atL h1]; rfl
      have f2 : w1.cell? ⟨p, 2, none⟩ = some (.int .i64 s) := by rw [cell_atL h1]; rfl
      have f3 : w1.cell? ⟨p, 3, none⟩ = some (.int .i64 f) := by rw [cell_atL h1]; rfl
      have f4 : w1.cell? ⟨p, 4, none⟩ = some (.int .i64 i) := by rw [cell_atL h1]; rfl
      clear e0 e1 e2 e3 e4 h1 HB
      go_upto_region 6 with fail
      go_quiet (fail)
      go_wp2
      go_ret2
      exact ⟨rfl, Out.trans OB.out (Out.dN O1.out _)⟩
  by_cases c8 : sh = 8
  · have b8 : (sh == 8) = true := by simp [c8]
    have b7 : (sh == 7) = false := by simp [c7]
    by_cases t1 : o = 6
    · have t2 : (o == 6) = true := by simp [t1]
      have hE := HX.out
      simp [c7, c8, t1] at hE
      subst hE
      clear HX c7 c8 t1
      go_enter Tryz.func27, Tryz.ntmps27
      go_upto_region 1 with fail
      obtain ⟨wb, hwb⟩ : ∃ wb, wb = w.alloc (.cells #[.int .i64 o, .int .i64 d, .int .i64 s, .int .i64 f, .int .i64 i] 25) := ⟨_, rfl⟩
      obtain ⟨p, hp⟩ : ∃ p, p = w.heap.size := ⟨_, rfl⟩
      have ob : Out w wb := by rw [hwb]; exact (Out.refl w).alloc _
      have hb : wb.heap[p]? = some (.cells #[.int .i64 o, .int .i64 d, .int .i64 s, .int .i64 f, .int .i64 i] 25 (0, 0)) := by rw [hwb, hp]; exact heap_alloc_new w _
      have HB := hidOf (fun wx (ox : Out wb wx) => blk_out ox hb)
      have OB := hidOf ob
      rw [← hwb, ← hp]
      have e0 : wb.cell? ⟨p, 0, none⟩ = some (.int .i64 o) := by rw [cell_atL hb]; rfl
      have e1 : wb.cell? ⟨p, 1, none⟩ = some (.int .i64 d) := by rw [cell_atL hb]; rfl
      have e2 : wb.cell? ⟨p, 2, none⟩ = some (.int .i64 s) := by rw [cell_atL hb]; rfl
      have e3 : wb.cell? ⟨p, 3, none⟩ = some (.int .i64 f) := by rw [cell_atL hb]; rfl
      have e4 : wb.cell? ⟨p, 4, none⟩ = some (.int .i64 i) := by rw [cell_atL hb]; rfl
      clear hwb hp ob hb
      go_upto_region 2 with (go_at_call 61; refine (CS.out _).mono ?_; rintro e w1 ⟨rfl, ho⟩; have O1 := hidOf ho; clear ho)
      have h1 := HB.out w1 O1.out
      have f0 : w1.cell? ⟨p, 0, none⟩ = some (.int .i64 o) := by rw [cell_atL h1]; rfl
      have f2 : w1.cell? ⟨p, 2, none⟩ = some (.int .i64 s) := by rw [cell_atL h1]; rfl
      have f3 : w1.cell? ⟨p, 3, none⟩ = some (.int .i64 f) := by rw [cell_atL h1]; rfl
      have f4 : w1.cell? ⟨p, 4, none⟩ = some (.int .i64 i) := by rw [cell_atL h1]; rfl
      clear e0 e1 e2 e3 e4 h1 HB
      go_upto_region 5 with fail
      go_quiet (fail)
      go_wp2
      go_ret2
      exact ⟨rfl, Out.trans OB.out (Out.dN O1.out _)⟩
    · have t2 : (o == 6) = false := by simp [t1]
      have hE := HX.out
      simp [c7, c8, t1] at hE
      subst hE
      clear HX c7 c8 t1
      go_enter Tryz.func27, Tryz.ntmps27
      go_upto_region 1 with fail
      obtain ⟨wb, hwb⟩ : ∃ wb, wb = w.alloc (.cells #[.int .i64 o, .int .i64 d, .int .i64 s, .int .i64 f, .int .i64 i] 25) := ⟨_, rfl⟩
      obtain ⟨p, hp⟩ : ∃ p, p = w.heap.size := ⟨_, rfl⟩
      have ob : Out w wb := by rw [hwb]; exact (Out.refl w).alloc _
      have hb : wb.heap[p]? = some (.cells #[.int .i64 o, .int .i64 d, .int .i64 s, .int .i64 f, .int .i64 i] 25 (0, 0)) := by rw [hwb, hp]; exact heap_alloc_new w _
      have HB := hidOf (fun wx (ox : Out wb wx) => blk_out ox hb)
      have OB := hidOf ob
      rw [← hwb, ← hp]
      have e0 : wb.cell? ⟨p, 0, none⟩ = some (.int .i64 o) := by rw [cell_atL hb]; rfl
      have e1 : wb.cell? ⟨p, 1, none⟩ = some (.int .i64 d) := by rw [cell_atL hb]; rfl
      have e2 : wb.cell? ⟨p, 2, none⟩ = some (.int .i64 s) := by rw [cell_atL hb]; rfl
      have e3 : wb.cell? ⟨p, 3, none⟩ = some (.int .i64 f) := by rw [cell_atL hb]; rfl
      have e4 : wb.cell? ⟨p, 4, none⟩ = some (.int .i64 i) := by rw [cell_atL hb]; rfl
      clear hwb hp ob hb
      go_upto_region 2 with (go_at_call 61; refine (CS.out _).mono ?_; rintro e w1 ⟨rfl, ho⟩; have O1 := hidOf ho; clear ho)
      have h1 := HB.out w1 O1.out
      have f0 : w1.cell? ⟨p, 0, none⟩ = some (.int .i64 o) := by rw [cell_atL h1]; rfl
      have f2 : w1.cell? ⟨p, 2, none⟩ = some (.int .i64 s) := by rw [cell_atL h1]; rfl
      have f3 : w1.cell? ⟨p, 3, none⟩ = some (.int .i64 f) := by rw [cell_atL h1]; rfl
      have f4 : w1.cell? ⟨p, 4, none⟩ = some (.int .i64 i) := by rw [cell_atL h1]; rfl
      clear e0 e1 e2 e3 e4 h1 HB
      go_upto_region 6 with fail
      go_quiet (fail)
      go_wp2
      go_ret2
      exact ⟨rfl, Out.trans OB.out (Out.dN O1.out _)⟩
  have b7 : (sh == 7) = false := by simp [c7]
  have b8 : (sh == 8) = false := by simp [c8]
  by_cases c9 : sh = 9
  · have b9 : (sh == 9) = true := by simp [c9]
    have hi := hi c9
    have hE := HX.out
    simp [c7, c8, c9] at hE
    subst hE
    clear HX c7 c8 c9
    go_enter Tryz.func27, Tryz.ntmps27
    go_upto_region 1 with fail
    obtain ⟨wb, hwb⟩ : ∃ wb, wb = w.alloc (.cells #[.int .i64 o, .int .i64 d, .int .i64 s, .int .i64 f, .int .i64 i] 25) := ⟨_, rfl⟩
    obtain ⟨p, hp⟩ : ∃ p, p = w.heap.size := ⟨_, rfl⟩
    have ob : Out w wb := by rw [hwb]; exact (Out.refl w).alloc _
    have hb : wb.heap[p]? = some (.cells #[.int .i64 o, .int .i64 d, .int .i64 s, .int .i64 f, .int .i64 i] 25 (0, 0)) := by rw [hwb, hp]; exact heap_alloc_new w _
    have HB := hidOf (fun wx (ox : Out wb wx) => blk_out ox hb)
    have OB := hidOf ob
    rw [← hwb, ← hp]
    have e0 : wb.cell? ⟨p, 0, none⟩ = some (.int .i64 o) := by rw [cell_atL hb]; rfl
    have e1 : wb.cell? ⟨p, 1, none⟩ = some (.int .i64 d) := by rw [cell_atL hb]; rfl
    have e2 : wb.cell? ⟨p, 2, none⟩ = some (.int .i64 s) := by rw [cell_atL hb]; rfl
    have e3 : wb.cell? ⟨p, 3, none⟩ = some (.int .i64 f) := by rw [cell_atL hb]; rfl
    have e4 : wb.cell? ⟨p, 4, none⟩ = some (.int .i64 i) := by rw [cell_atL hb]; rfl
    clear hwb hp ob hb
    go_upto_region 2 with (go_at_call 61; refine (CS.out _).mono ?_; rintro e w1 ⟨rfl, ho⟩; have O1 := hidOf ho; clear ho)
    have h1 := HB.out w1 O1.out
    have f0 : w1.cell? ⟨p, 0, none⟩ = some (.int .i64 o) := by rw [cell_atL h1]; rfl
    have f2 : w1.cell? ⟨p, 2, none⟩ = some (.int .i64 s) := by rw [cell_atL h1]; rfl
    have f3 : w1.cell? ⟨p, 3, none⟩ = some (.int .i64 f) := by rw [cell_atL h1]; rfl
    have f4 : w1.cell? ⟨p, 4, none⟩ = some (.int .i64 i) := by rw [cell_atL h1]; rfl
    clear e0 e1 e2 e3 e4 h1 HB
    go_upto_region 8 with fail
    go_quiet (fail)
    go_wp2
    go_ret2
    exact ⟨rfl, Out.trans OB.out (Out.dN O1.out _)⟩
  have b9 : (sh == 9) = false := by simp [c9]
  by_cases c12 : sh = 12
  · have b12 : (sh == 12) = true := by simp [c12]
    have hE := HX.out
    simp [c7, c8, c9, c12] at hE
    subst hE
    clear HX c7 c8 c9 c12
    go_enter Tryz.func27, Tryz.ntmps27
    go_upto_region 1 with fail
    obtain ⟨wb, hwb⟩ : ∃ wb, wb = w.alloc (.cells #[.int .i64 o, .int .i64 d, .int .i64 s, .int .i64 f, .int .i64 i] 25) := ⟨_, rfl⟩
    obtain ⟨p, hp⟩ : ∃ p, p = w.heap.size := ⟨_, rfl⟩
    have ob : Out w wb := by rw [hwb]; exact (Out.refl w).alloc _
    have hb : wb.heap[p]? = some (.cells #[.int .i64 o, .int .i64 d, .int .i64 s, .int .i64 f, .int .i64 i] 25 (0, 0)) := by rw [hwb, hp]; exact heap_alloc_new w _
    have HB := hidOf (fun wx (ox : Out wb wx) => blk_out ox hb)
    have OB := hidOf ob
    rw [← hwb, ← hp]
    have e0 : wb.cell? ⟨p, 0, none⟩ = some (.int .i64 o) := by rw [cell_atL hb]; rfl
    have e1 : wb.cell? ⟨p, 1, none⟩ = some (.int .i64 d) := by rw [cell_atL hb]; rfl
    have e2 : wb.cell? ⟨p, 2, none⟩ = some (.int .i64 s) := by rw [cell_atL hb]; rfl
    have e3 : wb.cell? ⟨p, 3, none⟩ = some (.int .i64 f) := by rw [cell_atL hb]; rfl
    have e4 : wb.cell? ⟨p, 4, none⟩ = some (.int .i64 i) := by rw [cell_atL hb]; rfl
    clear hwb hp ob hb
    go_upto_region 2 with (go_at_call 61; refine (CS.out _).mono ?_; rintro e w1 ⟨rfl, ho⟩; have O1 := hidOf ho; clear ho)
    have h1 := HB.out w1 O1.out
    have f0 : w1.cell? ⟨p, 0, none⟩ = some (.int .i64 o) := by rw [cell_atL h1]; rfl
    have f2 : w1.cell? ⟨p, 2, none⟩ = some (.int .i64 s) := by rw [cell_atL h1]; rfl
    have f3 : w1.cell? ⟨p, 3, none⟩ = some (.int .i64 f) := by rw [cell_atL h1]; rfl
    have f4 : w1.cell? ⟨p, 4, none⟩ = some (.int .i64 i) := by rw [cell_atL h1]; rfl
    clear e0 e1 e2 e3 e4 h1 HB
    go_upto_region 10 with fail
    go_quiet (fail)
    go_wp2
    go_ret2
    exact ⟨rfl, Out.trans OB.out (Out.dN O1.out _)⟩
  have b12 : (sh == 12) = false := by simp [c12]
  have hE := HX.out
  simp [c7, c8, c9, c12] at hE
  subst hE
  clear HX c7 c8 c9 c12
  go_enter Tryz.func27, Tryz.ntmps27
  go_upto_region 1 with fail
  obtain ⟨wb, hwb⟩ : ∃ wb, wb = w.alloc (.cells #[.int .i64 o, .int .i64 d, .int .i64 s, .int .i64 f, .int .i64 i] 25) := ⟨_, rfl⟩
  obtain ⟨p, hp⟩ : ∃ p, p = w.heap.size := ⟨_, rfl⟩
  have ob : Out w wb := by rw [hwb]; exact (Out.refl w).alloc _
  have hb : wb.heap[p]? = some (.cells #[.int .i64 o, .int .i64 d, .int .i64 s, .int .i64 f, .int .i64 i] 25 (0, 0)) := by rw [hwb, hp]; exact heap_alloc_new w _
  have HB := hidOf (fun wx (ox : Out wb wx) => blk_out ox hb)
  have OB := hidOf ob
  rw [← hwb, ← hp]
  have e0 : wb.cell? ⟨p, 0, none⟩ = some (.int .i64 o) := by rw [cell_atL hb]; rfl
  have e1 : wb.cell? ⟨p, 1, none⟩ = some (.int .i64 d) := by rw [cell_atL hb]; rfl
  have e2 : wb.cell? ⟨p, 2, none⟩ = some (.int .i64 s) := by rw [cell_atL hb]; rfl
  have e3 : wb.cell? ⟨p, 3, none⟩ = some (.int .i64 f) := by rw [cell_atL hb]; rfl
  have e4 : wb.cell? ⟨p, 4, none⟩ = some (.int .i64 i) := by rw [cell_atL hb]; rfl
  clear hwb hp ob hb
  go_upto_region 2 with (go_at_call 61; refine (CS.out _).mono ?_; rintro e w1 ⟨rfl, ho⟩; have O1 := hidOf ho; clear ho)
  have h1 := HB.out w1 O1.out
  have f0 : w1.cell? ⟨p, 0, none⟩ = some (.int .i64 o) := by rw [cell_atL h1]; rfl
  have f2 : w1.cell? ⟨p, 2, none⟩ = some (.int .i64 s) := by rw [cell_atL h1]; rfl
  have f3 : w1.cell? ⟨p, 3, none⟩ = some (.int .i64 f) := by rw [cell_atL h1]; rfl
  have f4 : w1.cell? ⟨p, 4, none⟩ = some (.int .i64 i) := by rw [cell_atL h1]; rfl
  clear e0 e1 e2 e3 e4 h1 HB
  go_wp2
  go_ret2
  exact ⟨rfl, Out.trans OB.out O1.out⟩
end Go.Proofs.YtcomhlimgocoaaaGreatDoor
namespace Go.Proofs.YtcomhlimgocoaaaGreatDoor
open Go.RowKit
set_option linter.unusedVariables false
set_option linter.unusedSimpArgs false
def tgB (o : Int) : Bool :=
  (!(formP o == 3 || formP o == 2 || formP o == 4 || formP o == 5 || formP o == 6 || formP o == 8) || (!(o == 149) && !(o == 133) && !(o == 24) && !(o == 5) && !(o == 6))) &&
  (!(formP o == 3) || ((o.tmod 8 == 4 || o.tmod 8 == 7) && !(o.tdiv 16 == 8) && !(o.tdiv 16 == 13))) && (!(formP o == 2) || ((o.tmod 8 == 4 || o.tmod 8 == 7) && (o.tdiv 16 == 8 || o.tdiv 16 == 13))) &&
  (!(formP o == 4) || o.tmod 8 == 1) && (!(formP o == 5) || (o.tmod 8 == 2 || o.tmod 8 == 3)) && (!(formP o == 6) || o.tmod 8 == 3) && (!(formP o == 8) || (o.tmod 8 == 5 || o.tmod 8 == 6))
theorem tg_all : ∀ l ∈ opsT, ∀ o ∈ l, tgB o = true := by decide +kernel
theorem tgt_none (o s f i : Int) (hf : formP o = 1 ∨ formP o = 2 ∨ formP o = 3 ∨ formP o = 4 ∨ formP o = 5 ∨ formP o = 6) (h : tgB o = true) (hk : kinB o = true) : tgtR o s f i = (false, 0) := by
  have key : ¬ (shapeR o s f = 7 ∨ shapeR o s f = 8) ∧ ¬ shapeR o s f = 9 ∧ ¬ shapeR o s f = 12 := by
    rcases hf with e | e | e | e | e | e
    · have ho : o = 149 := by simp [kinB, e] at hk; exact hk
      subst ho; simp [shapeR]
    all_goals
      simp only [tgB, e] at h
      simp at h
      obtain ⟨⟨⟨⟨⟨a, b⟩, c⟩, d'⟩, e'⟩, g⟩ := h
      simp only [shapeR, a, b, c, d', e', if_false, false_and, or_self]
      repeat' split
      all_goals first | (simp; done) | (exfalso; omega) | (exfalso; simp_all; done) | (exfalso; simp_all; omega)
  unfold tgtR
  rw [if_neg key.1, if_neg key.2.1, if_neg key.2.2]
theorem tgt8 (o s f i : Int) (e : formP o = 8) (h : tgB o = true) : tgtR o s f i = (true, f) := by
  simp only [tgB, e] at h
  simp at h
  obtain ⟨⟨⟨⟨⟨a, b⟩, c⟩, d'⟩, e'⟩, g⟩ := h
  have h8 : shapeR o s f = 8 := by
    simp only [shapeR, a, b, c, d', e', if_false, false_and, or_self]
    rcases g with g | g <;> simp [g]
  unfold tgtR
  rw [if_pos (.inr h8), if_neg e']
theorem bool_neg (a b : Bool) : (false && a || !false && !b) = !b := by cases b <;> rfl
/-- the line by the row is the program's -/
def Prt (o d s f i : Int) (t : List UInt8) (r : Rw) : Prop := fitO o d s f i = true → ((tgtR o s f i).1 && (!nameP t || (tgtR o s f i).2 != 0) || !(tgtR o s f i).1 && !t.isEmpty) = !tfitP o s f i t ∧ lineR r o d s f i t = lineP o d s f i t
theorem two_ne {o : Int} (k10 : bOp o + 8 = o ∨ bOp o = o) (k11 : hasSrc o = (o == bOp o + 8)) : (o != bOp o) = hasSrc o := by
  rw [k11, Bool.eq_iff_iff]; simp; omega
theorem prt3 (o d s f i : Int) (t : List UInt8) (h : formP o = 3) (hk : kinB o = true) (ht : tgB o = true) : Prt o d s f i t (if f = 0 then ⟨wReck o 0 0, 1, bOp o, 0, 0⟩ else ⟨wOff o f, if f == 1 then 1 else 2, if f == 1 then bOp o else o, f, 0⟩) := by
  intro hfit
  have hk0 := hk
  simp only [kinB, h] at hk
  simp at hk
  obtain ⟨⟨⟨⟨⟨⟨⟨⟨⟨⟨k1, k2⟩, k3⟩, k4⟩, k5⟩, k6⟩, k7⟩, k8⟩, k9⟩, k10⟩, k11⟩ := hk
  have hv : f = 0 ∨ f = 1 ∨ 8 ≤ f := by
    unfold fitO fitP offP at hfit
    simp only [h, k1] at hfit
    simp at hfit
    rcases hfit.2.2.1 with e | e
    · exact .inl e
    · unfold variantP at e
      split at e
      · simp at e; exact .inr (.inl e)
      · split at e
        · simp at e; exact .inr (.inl e)
        · split at e
          · simp at e; omega
          · cases e
  refine ⟨?_, ?_⟩
  · rw [tgt_none o s f i (.inr (.inr (.inl h))) ht hk0, bool_neg]
    simp [tfitP, h]
  · have hw : wordP o s f i = wReck o f i := by
      unfold wordP
      rw [if_neg k7]
      rcases k8 with e | e <;> simp [e]
    have h2 : ∀ x, twoR ⟨x, 1, bOp o, f, 0⟩ = true := fun x => rfl
    unfold lineP
    rw [hw]
    have ht0 : tOf o s f = if 8 ≤ f then (1, 2, 0) else (1, 4, 0) := by unfold tOf opdsP; rw [h]; simp
    rw [ht0]
    rcases hv with e | e | e
    · subst e
      have hr : wReck o 0 i = wReck o 0 0 := by simp [wReck, k9]
      rw [hr]
      simp only [if_true]
      rw [if_neg (by omega)]
      simp [lineR, tailP, opdTx, twoR, two_ne k10 k11]
    · subst e
      rw [if_neg (by omega)]
      simp [lineR, tailP, opdTx, twoR, two_ne k10 k11, wReck]
    · have e0 : ¬ f = 0 := by omega
      have e1 : (f == 1) = false := by simp; omega
      rw [if_pos e, if_neg e0, e1]
      simp [lineR, tailP, opdTx, wReck, e0]
theorem prt1 (o d s f i : Int) (t : List UInt8) (h : formP o = 1) (hk : kinB o = true) (ht : tgB o = true) : Prt o d s f i t ⟨wJ4 o, 10, o, 0, 0⟩ := by
  intro hfit
  refine ⟨?_, ?_⟩
  · rw [tgt_none o s f i (.inl h) ht hk, bool_neg]
    simp [tfitP, h]
  · have ho : o = 149 := by simp [kinB, h] at hk; exact hk
    subst ho
    have hw : wordP 149 s f i = wJ4 149 := by
      unfold wordP wJ4
      rw [show cls 149 = 5 by decide]
      simp
    have ht0 : tOf 149 s f = (0, 0, 0) := by unfold tOf opdsP; rw [h]; simp
    simp [lineP, hw, ht0, lineR, tailP]
theorem prt2 (o d s f i : Int) (t : List UInt8) (h : formP o = 2) (hk : kinB o = true) (ht : tgB o = true) : Prt o d s f i t (if ordersP o then ⟨wImm o i, 3, o, 0, i⟩ else ⟨wReck o 0 0, 3, o, 0, 0⟩) := by
  intro hfit
  have hk0 := hk
  simp only [kinB, h] at hk
  simp at hk
  obtain ⟨⟨⟨⟨⟨k1, k2⟩, k3⟩, k4⟩, k5⟩, k6⟩ := hk
  have hf0 : f = 0 := by
    unfold fitO fitP offP at hfit
    simp only [h, k1] at hfit
    simp at hfit
    exact hfit.2.2.1
  refine ⟨?_, ?_⟩
  · rw [tgt_none o s f i (.inr (.inl h)) ht hk0, bool_neg]
    simp [tfitP, h]
  · have hw : wordP o s f i = wReck o f i := by
      unfold wordP
      have : ¬ cls o = 0 := by omega
      rw [if_neg this]
      rcases k5 with e | e <;> simp [e]
    have ht0 : tOf o s f = (1, 0, 0) := by unfold tOf opdsP; rw [h]; simp
    subst hf0
    unfold lineP
    rw [hw, ht0]
    cases ho : ordersP o
    · rw [ho] at k6
      have k6' : ¬ shrO o = 13 := by intro e; rw [e] at k6; simp at k6
      simp [lineR, tailP, opdTx, wReck, k6']
    · rw [ho] at k6
      have k6' : shrO o = 13 := by simpa using k6.symm
      simp [lineR, tailP, opdTx, wReck, k6']
theorem prt4 (o d s f i : Int) (t : List UInt8) (h : formP o = 4) (hk : kinB o = true) (ht : tgB o = true) (hm : wMem o i = wMem o 0) : Prt o d s f i t ⟨wMem o 0, 4, o, 0, 0⟩ := by
  intro hfit
  have hk0 := hk
  simp only [kinB, h] at hk
  simp at hk
  obtain ⟨⟨⟨⟨⟨k1, k2⟩, k3⟩, k4⟩, k5⟩, k6⟩ := hk
  refine ⟨?_, ?_⟩
  · rw [tgt_none o s f i (.inr (.inr (.inr (.inl h)))) ht hk0, bool_neg]
    simp [tfitP, h]
  · have hw : wordP o s f i = wMem o 0 := by
      unfold wordP
      rw [k6, ← hm]
      simp
    have ht0 : tOf o s f = (1, 5, 0) := by unfold tOf opdsP; rw [h]; simp
    simp [lineP, hw, ht0, lineR, tailP, opdTx, placeR]
theorem prt5 (o d s f i : Int) (t : List UInt8) (h : formP o = 5) (hk : kinB o = true) (ht : tgB o = true) (hm : wMem o i = wMem o 0) : Prt o d s f i t ⟨wMem o 0, if useS o 5 then 6 else 5, o, 0, 0⟩ := by
  intro hfit
  have hk0 := hk
  simp only [kinB, h] at hk
  simp at hk
  obtain ⟨⟨⟨⟨⟨⟨k1, k2⟩, k3⟩, k4⟩, k5⟩, k6⟩, k7⟩ := hk
  refine ⟨?_, ?_⟩
  · rw [tgt_none o s f i (.inr (.inr (.inr (.inr (.inl h))))) ht hk0, bool_neg]
    simp [tfitP, h]
  · have hw : wordP o s f i = wMem o 0 := by
      unfold wordP
      rw [← hm]
      rcases k5 with e | e <;> simp [e]
    have ht0 : tOf o s f = if useS o 5 then (6, 2, 0) else (6, 3, 0) := by unfold tOf opdsP; rw [h]; simp
    unfold lineP
    rw [hw, ht0]
    cases useS o 5 <;> simp [lineR, tailP, opdTx, placeR, twoR]
theorem prt6 (o d s f i : Int) (t : List UInt8) (h : formP o = 6) (hk : kinB o = true) (ht : tgB o = true) (hm : wMem o i = wImm o i) : Prt o d s f i t ⟨wImm o i, 6, o, 0, i⟩ := by
  intro hfit
  have hk0 := hk
  simp only [kinB, h] at hk
  simp at hk
  obtain ⟨⟨⟨⟨⟨⟨k1, k2⟩, k3⟩, k4⟩, k5⟩, k6⟩, k7⟩ := hk
  refine ⟨?_, ?_⟩
  · rw [tgt_none o s f i (.inr (.inr (.inr (.inr (.inr h))))) ht hk0, bool_neg]
    simp [tfitP, h]
  · have hw : wordP o s f i = wImm o i := by
      unfold wordP
      rw [k6, ← hm]
      simp
    have ht0 : tOf o s f = (6, 2, 0) := by unfold tOf opdsP; rw [h, k3]; simp
    simp [lineP, hw, ht0, lineR, tailP, opdTx, placeR]
theorem prt7 (o d s f i : Int) (t : List UInt8) (h : formP o = 7) (hk : kinB o = true) : Prt o d s f i t ⟨wJ4 o, 7, o, 0, 0⟩ := by
  intro hfit
  simp only [kinB, h] at hk
  simp at hk
  obtain ⟨⟨⟨k1, k2⟩, k3⟩, k4⟩ := hk
  have ht0 : tOf o s f = (7, 0, 0) := by unfold tOf opdsP; rw [h]; simp
  have hz : (o = 5 ∧ i = 0) ∨ (o = 6 ∧ f = 0) := by
    unfold fitO fitP offP immP at hfit
    rw [h, k3] at hfit
    rcases k4 with ⟨⟨e, a⟩, b⟩ | ⟨⟨e, a⟩, b⟩
    · rw [a, b] at hfit; simp at hfit; exact .inl ⟨e, hfit.2.2.2⟩
    · rw [a, b] at hfit; simp at hfit; exact .inr ⟨e, hfit.2.2.1⟩
  refine ⟨?_, ?_⟩
  · rcases hz with ⟨e, e2⟩ | ⟨e, e2⟩
    · subst e e2
      simp only [tgtR, shapeR, tfitP, h]
      cases nameP t <;> simp [bne]
    · subst e e2
      simp only [tgtR, shapeR, tfitP, h]
      cases nameP t <;> simp [bne]
  · have hw : wordP o s f i = wJ4 o := by
      rcases hz with ⟨e, _⟩ | ⟨e, _⟩
      · subst e; unfold wordP wJ4; rw [show cls 5 = 5 by decide]; simp
      · subst e; unfold wordP wJ4; rw [show cls 6 = 6 by decide]; simp
    simp [lineP, hw, ht0, lineR, tailP, opdTx]
theorem prt8 (o d s f i : Int) (t : List UInt8) (h : formP o = 8) (hk : kinB o = true) (ht : tgB o = true) : Prt o d s f i t ⟨wJ4 o, 8, bOp o, 0, 0⟩ := by
  intro hfit
  simp only [kinB, h] at hk
  simp at hk
  obtain ⟨⟨⟨⟨⟨⟨⟨⟨⟨k1, k2⟩, k3⟩, k4⟩, k5⟩, k6⟩, k7⟩, k8⟩, k9⟩, k10⟩ := hk
  have ht0 : tOf o s f = (1, 4, 7) := by unfold tOf opdsP; rw [h]; simp
  refine ⟨?_, ?_⟩
  · rw [tgt8 o s f i h ht]
    simp only [tfitP, h]
    cases nameP t <;> simp [bne]
  · have hw : wordP o s f i = wJ4 o := by
      unfold wordP wJ4
      rcases k6 with e | e <;> simp [e]
    simp [lineP, hw, ht0, lineR, tailP, opdTx, twoR, two_ne k9 k10]
theorem prt9 (o d s f i : Int) (t : List UInt8) (h : formP o = 9) (hk : kinB o = true) : Prt o d s f i t ⟨wJ4 o, 9, o, 0, 0⟩ := by
  intro hfit
  have ho : o = 133 := by simp [kinB, h] at hk; exact hk
  have ht0 : tOf o s f = (8, 0, 0) := by unfold tOf opdsP; rw [h]; simp
  have hs : s = 0 ∨ s = 1 := by
    subst ho
    unfold fitO fitP srcP at hfit
    rw [h, show useS 133 9 = false by decide] at hfit
    simp at hfit
    exact hfit.2.1
  have hg : tgtR o s f i = (s == 1, i + 1) := by subst ho; simp [tgtR, shapeR]
  refine ⟨?_, ?_⟩
  · rw [hg]
    rcases hs with e | e
    · subst e; simp [tfitP, h]
    · subst e
      simp only [tfitP, h]
      have : ((i + 1 != 0)) = !(i == -1) := by rw [Bool.eq_iff_iff]; simp; omega
      simp only [this]
      cases nameP t <;> simp [bne]
  · have hw : wordP o s f i = wJ4 o := by
      subst ho; unfold wordP wJ4; rw [show cls 133 = 5 by decide]; simp
    rcases hs with e | e <;> subst e <;> simp [lineP, hw, ht0, lineR, tailP, opdTx, hg, twoR]
theorem prt10 (o d s f i : Int) (t : List UInt8) (h : formP o = 10) (hk : kinB o = true) : Prt o d s f i t (if s = 0 then ⟨[108, 100, 100, 119], 11, 24, 0, 0⟩ else ⟨[108, 100, 109, 97, 112], 12, 24, 0, 0⟩) := by
  intro hfit
  have ho : o = 24 := by simp [kinB, h] at hk; exact hk
  have hs : s = 0 ∨ s = 1 := by
    subst ho
    unfold fitO fitP srcP at hfit
    rw [h, show useS 24 10 = false by decide] at hfit
    simp at hfit
    exact hfit.2.1
  have hc : cls 24 = 0 := by decide
  rcases hs with e | e
  · have hg : tgtR o s f i = (false, 0) := by subst ho e; simp [tgtR, shapeR]
    have ht0 : tOf o s f = (1, 3, 0) := by unfold tOf opdsP; rw [h, e]; simp
    refine ⟨?_, ?_⟩
    · rw [hg, bool_neg]; subst e; simp [tfitP, h]
    · subst ho e; simp [lineP, ht0, lineR, tailP, opdTx, twoR, wordP, hc]
  · have hg : tgtR o s f i = (true, i) := by subst ho e; simp [tgtR, shapeR]
    have ht0 : tOf o s f = (1, 7, 0) := by unfold tOf opdsP; rw [h, e]; simp
    refine ⟨?_, ?_⟩
    · rw [hg]; subst e; simp only [tfitP, h]; cases nameP t <;> simp [bne]
    · subst ho e; simp [lineP, ht0, lineR, tailP, opdTx, twoR, wordP, hc]
def memB (o : Int) : Bool := (!(formP o == 4 || formP o == 5) || (memT.find? (fun r => bits .andNot .i64 o 24 == r.1)).isSome) && (!(formP o == 6) || (memT.find? (fun r => bits .andNot .i64 o 24 == r.1)).isNone)
theorem mem_all4 : ∀ l ∈ opsT, ∀ o ∈ l, memB o = true := by decide +kernel
/-- the document's Print is the program's -/
theorem rprint_eq (o d s f i : Int) (t : List UInt8) : rprintP o d s f i t = printP o d s f i t := by
  by_cases h0 : formP o = 0
  · simp [rprintP, findR, pick_none o h0, printP, mayP, h0]
  obtain ⟨l, hl, ho⟩ := form_mem4 o h0
  have hp := pick_kinds l hl o ho
  have hk := kin_all l hl o ho
  have ht := tg_all l hl o ho
  have hm := mem_all4 l hl o ho
  have key : ∀ r, Fnd o d s f i r → Prt o d s f i t r → ¬ pickO o = [] → rprintP o d s f i t = printP o d s f i t := fun r hf hr hn => by
    have hmay : mayP o d s f i = if fitO o d s f i then 0 else 21 := by simp [mayP, h0]
    unfold rprintP printP
    rw [hmay, show findR o d s f i = _ from hf]
    cases hfit : fitO o d s f i
    · simp [hn]
    · obtain ⟨e1, e2⟩ := hr hfit
      simp only [if_true]
      rw [e1, e2]
      cases tfitP o s f i t <;> simp
  have hne : ¬ pickO o = [] := by
    rw [hp]; unfold expO
    repeat' split
    all_goals simp [immsT]
  have h1 : 1 ≤ formP o ∧ formP o ≤ 10 := by simp [kinB] at hk; exact hk.2
  rcases (show formP o = 1 ∨ formP o = 2 ∨ formP o = 3 ∨ formP o = 4 ∨ formP o = 5 ∨ formP o = 6 ∨ formP o = 7 ∨ formP o = 8 ∨ formP o = 9 ∨ formP o = 10 by omega) with e | e | e | e | e | e | e | e | e | e
  · exact key _ (find1 o d s f i e hp hk) (prt1 o d s f i t e hk ht) hne
  · exact key _ (find2 o d s f i e hp hk) (prt2 o d s f i t e hk ht) hne
  · exact key _ (find3 o d s f i e hp hk) (prt3 o d s f i t e hk ht) hne
  · have hw : wMem o i = wMem o 0 := by
      have hm2 : (memT.find? (fun r => bits .andNot .i64 o 24 == r.1)).isSome = true := by unfold memB at hm; rw [e] at hm; exact (Bool.and_eq_true _ _ ▸ hm).1
      unfold wMem
      split
      · rfl
      · rename_i hx; rw [hx] at hm2; cases hm2
    exact key _ (find4 o d s f i e hp hk) (prt4 o d s f i t e hk ht hw) hne
  · have hw : wMem o i = wMem o 0 := by
      have hm2 : (memT.find? (fun r => bits .andNot .i64 o 24 == r.1)).isSome = true := by unfold memB at hm; rw [e] at hm; exact (Bool.and_eq_true _ _ ▸ hm).1
      unfold wMem
      split
      · rfl
      · rename_i hx; rw [hx] at hm2; cases hm2
    exact key _ (find5 o d s f i e hp hk) (prt5 o d s f i t e hk ht hw) hne
  · have hw : wMem o i = wImm o i := by
      have hm2 : (memT.find? (fun r => bits .andNot .i64 o 24 == r.1)).isNone = true := by unfold memB at hm; rw [e] at hm; exact (Bool.and_eq_true _ _ ▸ hm).2
      unfold wMem
      split
      · rename_i hx; rw [hx] at hm2; cases hm2
      · rfl
    exact key _ (find6 o d s f i e hp hk) (prt6 o d s f i t e hk ht hw) hne
  · exact key _ (find7 o d s f i e hp hk) (prt7 o d s f i t e hk) hne
  · exact key _ (find8 o d s f i e hp hk) (prt8 o d s f i t e hk ht) hne
  · exact key _ (find9 o d s f i e hp hk) (prt9 o d s f i t e hk) hne
  · exact key _ (find10 o d s f i e hp hk) (prt10 o d s f i t e hk) hne
end Go.Proofs.YtcomhlimgocoaaaGreatDoor
