import Derived.Test.YtjlgkcnfdpnlkaaDoorNh
namespace Go.Proofs.YtjlgkcnfdpnlkaaDoor
open Go.RowKit Go.Sort
set_option linter.unusedVariables false
set_option linter.unusedSimpArgs false
set_option maxRecDepth 20000

theorem rd_ds_5 (o d s f i : Int) (w : World) (kd : Nat) (hkd : kd < 11) (hd : d = kd) (ks : Nat) (hks : ks < 11) (hs : s = ks) (hmay : ∀ w, Calls Tryd.prog 22 #[.agg #[.int .i64 o, .int .i64 d, .int .i64 s, .int .i64 f, .int .i64 i]] w fun e w' => e = .returned (.int .i64 0) ∧ Out w w') (h0 : (formP o == 0) = false) (hF : formP o = 5) (hS : useS o 5 = true) :
    Calls Tryd.prog 8 #[.agg #[.int .i64 o, .int .i64 d, .int .i64 s, .int .i64 f, .int .i64 i]] w fun e w' => ∃ v, e = .returned v ∧ Own w w' v (riseUp (upd (upd m0 kd) ks) 11) := by
  subst hd
  have hdI : (kd : Int) < 11 := by omega
  subst hs
  have hsI : (ks : Int) < 11 := by omega
  have hrows := fun w => rows_head o h0 w
  have zr : True := trivial
  go_enter Tryd.func8, Tryd.ntmps8
  go_upto_region 4 with (go_at_call 22; refine (hmay _).mono ?_; rintro e w1 ⟨rfl, h1⟩; have r1 := box_rule2 h1; have r1b := fun O o => box_rule2 (h1.alloc O) o; clear hmay)
  go_upto_region 5 with (go_at_call 23; refine (hrows _).mono ?_; rintro e w2 ⟨g, n, cap, rfl, hn0, hn1, ⟨iv, hiv, c0, c1, c2, c3, c4, c5, c6, c7, c8, c9⟩, h2⟩; obtain ⟨ai, ni, ci, rfl⟩ := nums_shape hiv; simp only [Nat.zero_mul, Nat.zero_add, baseR, hF, hS] at c0 c1 c2 c3 c4 c5 c6 c7 c8 c9; clear hrows hiv)
  have hlow : w.heap.size < w1.heap.size := Nat.lt_of_lt_of_le (by simp) h1.size
  have st0 : St w _ w1.heap.size m0 w2 := ⟨(h2.block _ (by simp)).trans (heap_alloc_new w1 _), Out.trans (h1.alloc _) h2, hlow⟩
  have st1 := st0.step kd hkd
  have x0 := st0.box
  have y0 := st0.cell kd hkd
  have z0 := st0.free kd
  have l1 : w1.heap.size < (w2.setCell ⟨w1.heap.size, kd, none⟩ (.bool true)).heap.size := lt_of_block st1.hB
  have hl12 : w1.heap.size < w2.heap.size := lt_of_block st0.hB
  have hne12 : w1.heap.size ≠ w2.heap.size := by omega
  have e0 : ((w2.setCell ⟨w1.heap.size, kd, none⟩ (.bool true)).alloc (.cells #[.int .i64 5, .int .i64 (groupP o 5), .bool (useD o 5), .bool true, .bool (useO o 5), .bool (useI o 5), .bool (o == 24), .int .i64 0, .int .i64 0, .slice ai ni ci] 39)).cell? ⟨w2.heap.size, 0, none⟩ = some (.int .i64 5) := cell_new _ _ _ _ _ (size_setCell _ _ _).symm
  have e3 : ((w2.setCell ⟨w1.heap.size, kd, none⟩ (.bool true)).alloc (.cells #[.int .i64 5, .int .i64 (groupP o 5), .bool (useD o 5), .bool true, .bool (useO o 5), .bool (useI o 5), .bool (o == 24), .int .i64 0, .int .i64 0, .slice ai ni ci] 39)).cell? ⟨w2.heap.size, 3, none⟩ = some (.bool true) := cell_new _ _ _ _ _ (size_setCell _ _ _).symm
  have sZ : St w _ w1.heap.size (upd m0 kd) ((w2.setCell ⟨w1.heap.size, kd, none⟩ (.bool true)).alloc (.cells #[.int .i64 5, .int .i64 (groupP o 5), .bool (useD o 5), .bool true, .bool (useO o 5), .bool (useI o 5), .bool (o == 24), .int .i64 0, .int .i64 0, .slice ai ni ci] 39)) := ⟨st1.row _, st1.out.alloc _, st1.low⟩
  clear r1 r1b h2 h1 st0 st1
  go_upto_region 19 with fail
  generalize ((w2.setCell ⟨w1.heap.size, kd, none⟩ (.bool true)).alloc (.cells #[.int .i64 5, .int .i64 (groupP o 5), .bool (useD o 5), .bool true, .bool (useO o 5), .bool (useI o 5), .bool (o == 24), .int .i64 0, .int .i64 0, .slice ai ni ci] 39)) = Z at *
  have sx := fun o => box_rule2 sZ.out o
  have sy : Z.cell? ⟨w1.heap.size, ks, none⟩ = some (.bool (upd m0 kd ks)) := (ten_cells sZ.hB ks).trans (marks_at _ ks hks)
  have sf : Z.frozen? ⟨w1.heap.size, ks, none⟩ = false := ten_free sZ.hB ks
  clear x0 y0 z0 l1 c0 c1 c2 c3 c4 c5 c6 c7 c8 c9
  go_upto_region 21 with fail
  have s2 := sZ.step ks hks
  have f0 : (Z.setCell ⟨w1.heap.size, ks, none⟩ (.bool true)).cell? ⟨w2.heap.size, 0, none⟩ = some (.int .i64 5) := (World.cell?_of_block (Below.heap_setCell _ _ _ _ (fun e => hne12 e.symm))).trans e0
  clear sZ sx sy sf e0 e3
  generalize (Z.setCell ⟨w1.heap.size, ks, none⟩ (.bool true)) = Y at *
  have ux := fun o => box_rule2 s2.out o
  have rE := s2.hB
  have oE := s2.out
  clear s2
  go_wp2_with (first | (refine wpList_load_row rfl 42 (.tmp 3) rfl w1.heap.size rfl 42 (marksC (upd (upd m0 kd) ks)) (0, 0) _ rE Tryd.underlying42 rfl size64 ?_) | (go_at_call 26; refine (rise_walk (upd (upd m0 kd) ks) _).mono ?_; rintro e w9 ⟨v, rfl, hv⟩))
  go_ret
  exact ⟨_, rfl, own_up (Out.trans (Out.alloc (Out.refl w) _) oE) hv⟩
theorem rd_ds_8 (o d s f i : Int) (w : World) (kd : Nat) (hkd : kd < 11) (hd : d = kd) (ks : Nat) (hks : ks < 11) (hs : s = ks) (hmay : ∀ w, Calls Tryd.prog 22 #[.agg #[.int .i64 o, .int .i64 d, .int .i64 s, .int .i64 f, .int .i64 i]] w fun e w' => e = .returned (.int .i64 0) ∧ Out w w') (h0 : (formP o == 0) = false) (hF : formP o = 8) (hS : useS o 8 = true) :
    Calls Tryd.prog 8 #[.agg #[.int .i64 o, .int .i64 d, .int .i64 s, .int .i64 f, .int .i64 i]] w fun e w' => ∃ v, e = .returned v ∧ Own w w' v (riseUp (upd (upd m0 kd) ks) 11) := by
  subst hd
  have hdI : (kd : Int) < 11 := by omega
  subst hs
  have hsI : (ks : Int) < 11 := by omega
  have hrows := fun w => rows_head o h0 w
  have zr : True := trivial
  go_enter Tryd.func8, Tryd.ntmps8
  go_upto_region 4 with (go_at_call 22; refine (hmay _).mono ?_; rintro e w1 ⟨rfl, h1⟩; have r1 := box_rule2 h1; have r1b := fun O o => box_rule2 (h1.alloc O) o; clear hmay)
  go_upto_region 5 with (go_at_call 23; refine (hrows _).mono ?_; rintro e w2 ⟨g, n, cap, rfl, hn0, hn1, ⟨iv, hiv, c0, c1, c2, c3, c4, c5, c6, c7, c8, c9⟩, h2⟩; obtain ⟨ai, ni, ci, rfl⟩ := nums_shape hiv; simp only [Nat.zero_mul, Nat.zero_add, baseR, hF, hS] at c0 c1 c2 c3 c4 c5 c6 c7 c8 c9; clear hrows hiv)
  have hlow : w.heap.size < w1.heap.size := Nat.lt_of_lt_of_le (by simp) h1.size
  have st0 : St w _ w1.heap.size m0 w2 := ⟨(h2.block _ (by simp)).trans (heap_alloc_new w1 _), Out.trans (h1.alloc _) h2, hlow⟩
  have st1 := st0.step kd hkd
  have x0 := st0.box
  have y0 := st0.cell kd hkd
  have z0 := st0.free kd
  have l1 : w1.heap.size < (w2.setCell ⟨w1.heap.size, kd, none⟩ (.bool true)).heap.size := lt_of_block st1.hB
  have hl12 : w1.heap.size < w2.heap.size := lt_of_block st0.hB
  have hne12 : w1.heap.size ≠ w2.heap.size := by omega
  have e0 : ((w2.setCell ⟨w1.heap.size, kd, none⟩ (.bool true)).alloc (.cells #[.int .i64 8, .int .i64 (groupP o 8), .bool (useD o 8), .bool true, .bool (useO o 8), .bool (useI o 8), .bool (o == 24), .int .i64 0, .int .i64 0, .slice ai ni ci] 39)).cell? ⟨w2.heap.size, 0, none⟩ = some (.int .i64 8) := cell_new _ _ _ _ _ (size_setCell _ _ _).symm
  have e3 : ((w2.setCell ⟨w1.heap.size, kd, none⟩ (.bool true)).alloc (.cells #[.int .i64 8, .int .i64 (groupP o 8), .bool (useD o 8), .bool true, .bool (useO o 8), .bool (useI o 8), .bool (o == 24), .int .i64 0, .int .i64 0, .slice ai ni ci] 39)).cell? ⟨w2.heap.size, 3, none⟩ = some (.bool true) := cell_new _ _ _ _ _ (size_setCell _ _ _).symm
  have sZ : St w _ w1.heap.size (upd m0 kd) ((w2.setCell ⟨w1.heap.size, kd, none⟩ (.bool true)).alloc (.cells #[.int .i64 8, .int .i64 (groupP o 8), .bool (useD o 8), .bool true, .bool (useO o 8), .bool (useI o 8), .bool (o == 24), .int .i64 0, .int .i64 0, .slice ai ni ci] 39)) := ⟨st1.row _, st1.out.alloc _, st1.low⟩
  clear r1 r1b h2 h1 st0 st1
  go_upto_region 19 with fail
  generalize ((w2.setCell ⟨w1.heap.size, kd, none⟩ (.bool true)).alloc (.cells #[.int .i64 8, .int .i64 (groupP o 8), .bool (useD o 8), .bool true, .bool (useO o 8), .bool (useI o 8), .bool (o == 24), .int .i64 0, .int .i64 0, .slice ai ni ci] 39)) = Z at *
  have sx := fun o => box_rule2 sZ.out o
  have sy : Z.cell? ⟨w1.heap.size, ks, none⟩ = some (.bool (upd m0 kd ks)) := (ten_cells sZ.hB ks).trans (marks_at _ ks hks)
  have sf : Z.frozen? ⟨w1.heap.size, ks, none⟩ = false := ten_free sZ.hB ks
  clear x0 y0 z0 l1 c0 c1 c2 c3 c4 c5 c6 c7 c8 c9
  go_upto_region 21 with fail
  have s2 := sZ.step ks hks
  have f0 : (Z.setCell ⟨w1.heap.size, ks, none⟩ (.bool true)).cell? ⟨w2.heap.size, 0, none⟩ = some (.int .i64 8) := (World.cell?_of_block (Below.heap_setCell _ _ _ _ (fun e => hne12 e.symm))).trans e0
  clear sZ sx sy sf e0 e3
  generalize (Z.setCell ⟨w1.heap.size, ks, none⟩ (.bool true)) = Y at *
  have ux := fun o => box_rule2 s2.out o
  have rE := s2.hB
  have oE := s2.out
  clear s2
  go_wp2_with (first | (refine wpList_load_row rfl 42 (.tmp 3) rfl w1.heap.size rfl 42 (marksC (upd (upd m0 kd) ks)) (0, 0) _ rE Tryd.underlying42 rfl size64 ?_) | (go_at_call 26; refine (rise_walk (upd (upd m0 kd) ks) _).mono ?_; rintro e w9 ⟨v, rfl, hv⟩))
  go_ret
  exact ⟨_, rfl, own_up (Out.trans (Out.alloc (Out.refl w) _) oE) hv⟩
theorem rd_a (o d s f i : Int) (w : World) (kd : Nat) (hkd : kd < 11) (hd : d = kd) (ks : Nat) (hks : ks < 11) (hs : s = ks) (hi : (i == 241) = false) (hmay : ∀ w, Calls Tryd.prog 22 #[.agg #[.int .i64 o, .int .i64 d, .int .i64 s, .int .i64 f, .int .i64 i]] w fun e w' => e = .returned (.int .i64 0) ∧ Out w w') (h0 : (formP o == 0) = false) (hF : formP o = 6) (hS : useS o 6 = true) :
    Calls Tryd.prog 8 #[.agg #[.int .i64 o, .int .i64 d, .int .i64 s, .int .i64 f, .int .i64 i]] w fun e w' => ∃ v, e = .returned v ∧ Own w w' v (riseUp (upd (upd m0 kd) ks) 11) := by
  subst hd
  have hdI : (kd : Int) < 11 := by omega
  subst hs
  have hsI : (ks : Int) < 11 := by omega
  have hrows := fun w => rows_head o h0 w
  have zr : True := trivial
  go_enter Tryd.func8, Tryd.ntmps8
  go_upto_region 4 with (go_at_call 22; refine (hmay _).mono ?_; rintro e w1 ⟨rfl, h1⟩; have r1 := box_rule2 h1; have r1b := fun O o => box_rule2 (h1.alloc O) o; clear hmay)
  go_upto_region 5 with (go_at_call 23; refine (hrows _).mono ?_; rintro e w2 ⟨g, n, cap, rfl, hn0, hn1, ⟨iv, hiv, c0, c1, c2, c3, c4, c5, c6, c7, c8, c9⟩, h2⟩; obtain ⟨ai, ni, ci, rfl⟩ := nums_shape hiv; simp only [Nat.zero_mul, Nat.zero_add, baseR, hF, hS] at c0 c1 c2 c3 c4 c5 c6 c7 c8 c9; clear hrows hiv)
  have hlow : w.heap.size < w1.heap.size := Nat.lt_of_lt_of_le (by simp) h1.size
  have st0 : St w _ w1.heap.size m0 w2 := ⟨(h2.block _ (by simp)).trans (heap_alloc_new w1 _), Out.trans (h1.alloc _) h2, hlow⟩
  have st1 := st0.step kd hkd
  have x0 := st0.box
  have y0 := st0.cell kd hkd
  have z0 := st0.free kd
  have l1 : w1.heap.size < (w2.setCell ⟨w1.heap.size, kd, none⟩ (.bool true)).heap.size := lt_of_block st1.hB
  have hl12 : w1.heap.size < w2.heap.size := lt_of_block st0.hB
  have hne12 : w1.heap.size ≠ w2.heap.size := by omega
  have e0 : ((w2.setCell ⟨w1.heap.size, kd, none⟩ (.bool true)).alloc (.cells #[.int .i64 6, .int .i64 (groupP o 6), .bool (useD o 6), .bool true, .bool (useO o 6), .bool (useI o 6), .bool (o == 24), .int .i64 0, .int .i64 0, .slice ai ni ci] 39)).cell? ⟨w2.heap.size, 0, none⟩ = some (.int .i64 6) := cell_new _ _ _ _ _ (size_setCell _ _ _).symm
  have e3 : ((w2.setCell ⟨w1.heap.size, kd, none⟩ (.bool true)).alloc (.cells #[.int .i64 6, .int .i64 (groupP o 6), .bool (useD o 6), .bool true, .bool (useO o 6), .bool (useI o 6), .bool (o == 24), .int .i64 0, .int .i64 0, .slice ai ni ci] 39)).cell? ⟨w2.heap.size, 3, none⟩ = some (.bool true) := cell_new _ _ _ _ _ (size_setCell _ _ _).symm
  have sZ : St w _ w1.heap.size (upd m0 kd) ((w2.setCell ⟨w1.heap.size, kd, none⟩ (.bool true)).alloc (.cells #[.int .i64 6, .int .i64 (groupP o 6), .bool (useD o 6), .bool true, .bool (useO o 6), .bool (useI o 6), .bool (o == 24), .int .i64 0, .int .i64 0, .slice ai ni ci] 39)) := ⟨st1.row _, st1.out.alloc _, st1.low⟩
  clear r1 r1b h2 h1 st0 st1
  go_upto_region 19 with fail
  generalize ((w2.setCell ⟨w1.heap.size, kd, none⟩ (.bool true)).alloc (.cells #[.int .i64 6, .int .i64 (groupP o 6), .bool (useD o 6), .bool true, .bool (useO o 6), .bool (useI o 6), .bool (o == 24), .int .i64 0, .int .i64 0, .slice ai ni ci] 39)) = Z at *
  have sx := fun o => box_rule2 sZ.out o
  have sy : Z.cell? ⟨w1.heap.size, ks, none⟩ = some (.bool (upd m0 kd ks)) := (ten_cells sZ.hB ks).trans (marks_at _ ks hks)
  have sf : Z.frozen? ⟨w1.heap.size, ks, none⟩ = false := ten_free sZ.hB ks
  clear x0 y0 z0 l1 c0 c1 c2 c3 c4 c5 c6 c7 c8 c9
  go_upto_region 21 with fail
  have s2 := sZ.step ks hks
  have f0 : (Z.setCell ⟨w1.heap.size, ks, none⟩ (.bool true)).cell? ⟨w2.heap.size, 0, none⟩ = some (.int .i64 6) := (World.cell?_of_block (Below.heap_setCell _ _ _ _ (fun e => hne12 e.symm))).trans e0
  clear sZ sx sy sf e0 e3
  generalize (Z.setCell ⟨w1.heap.size, ks, none⟩ (.bool true)) = Y at *
  have ux := fun o => box_rule2 s2.out o
  have rE := s2.hB
  have oE := s2.out
  clear s2
  go_wp2_with (first | (refine wpList_load_row rfl 42 (.tmp 3) rfl w1.heap.size rfl 42 (marksC (upd (upd m0 kd) ks)) (0, 0) _ rE Tryd.underlying42 rfl size64 ?_) | (go_at_call 26; refine (rise_walk (upd (upd m0 kd) ks) _).mono ?_; rintro e w9 ⟨v, rfl, hv⟩))
  go_ret
  exact ⟨_, rfl, own_up (Out.trans (Out.alloc (Out.refl w) _) oE) hv⟩
theorem rd_a0 (o d s f i : Int) (w : World) (kd : Nat) (hkd : kd < 11) (hd : d = kd) (ks : Nat) (hks : ks < 11) (hs : s = ks) (hi : (i == 241) = true) (hmay : ∀ w, Calls Tryd.prog 22 #[.agg #[.int .i64 o, .int .i64 d, .int .i64 s, .int .i64 f, .int .i64 i]] w fun e w' => e = .returned (.int .i64 0) ∧ Out w w') (h0 : (formP o == 0) = false) (hF : formP o = 6) (hS : useS o 6 = true) :
    Calls Tryd.prog 8 #[.agg #[.int .i64 o, .int .i64 d, .int .i64 s, .int .i64 f, .int .i64 i]] w fun e w' => ∃ v, e = .returned v ∧ Own w w' v (riseUp (upd (upd (upd m0 kd) ks) 0) 11) := by
  subst hd
  have hdI : (kd : Int) < 11 := by omega
  subst hs
  have hsI : (ks : Int) < 11 := by omega
  have hrows := fun w => rows_head o h0 w
  have zr : True := trivial
  go_enter Tryd.func8, Tryd.ntmps8
  go_upto_region 4 with (go_at_call 22; refine (hmay _).mono ?_; rintro e w1 ⟨rfl, h1⟩; have r1 := box_rule2 h1; have r1b := fun O o => box_rule2 (h1.alloc O) o; clear hmay)
  go_upto_region 5 with (go_at_call 23; refine (hrows _).mono ?_; rintro e w2 ⟨g, n, cap, rfl, hn0, hn1, ⟨iv, hiv, c0, c1, c2, c3, c4, c5, c6, c7, c8, c9⟩, h2⟩; obtain ⟨ai, ni, ci, rfl⟩ := nums_shape hiv; simp only [Nat.zero_mul, Nat.zero_add, baseR, hF, hS] at c0 c1 c2 c3 c4 c5 c6 c7 c8 c9; clear hrows hiv)
  have hlow : w.heap.size < w1.heap.size := Nat.lt_of_lt_of_le (by simp) h1.size
  have st0 : St w _ w1.heap.size m0 w2 := ⟨(h2.block _ (by simp)).trans (heap_alloc_new w1 _), Out.trans (h1.alloc _) h2, hlow⟩
  have st1 := st0.step kd hkd
  have x0 := st0.box
  have y0 := st0.cell kd hkd
  have z0 := st0.free kd
  have l1 : w1.heap.size < (w2.setCell ⟨w1.heap.size, kd, none⟩ (.bool true)).heap.size := lt_of_block st1.hB
  have hl12 : w1.heap.size < w2.heap.size := lt_of_block st0.hB
  have hne12 : w1.heap.size ≠ w2.heap.size := by omega
  have e0 : ((w2.setCell ⟨w1.heap.size, kd, none⟩ (.bool true)).alloc (.cells #[.int .i64 6, .int .i64 (groupP o 6), .bool (useD o 6), .bool true, .bool (useO o 6), .bool (useI o 6), .bool (o == 24), .int .i64 0, .int .i64 0, .slice ai ni ci] 39)).cell? ⟨w2.heap.size, 0, none⟩ = some (.int .i64 6) := cell_new _ _ _ _ _ (size_setCell _ _ _).symm
  have e3 : ((w2.setCell ⟨w1.heap.size, kd, none⟩ (.bool true)).alloc (.cells #[.int .i64 6, .int .i64 (groupP o 6), .bool (useD o 6), .bool true, .bool (useO o 6), .bool (useI o 6), .bool (o == 24), .int .i64 0, .int .i64 0, .slice ai ni ci] 39)).cell? ⟨w2.heap.size, 3, none⟩ = some (.bool true) := cell_new _ _ _ _ _ (size_setCell _ _ _).symm
  have sZ : St w _ w1.heap.size (upd m0 kd) ((w2.setCell ⟨w1.heap.size, kd, none⟩ (.bool true)).alloc (.cells #[.int .i64 6, .int .i64 (groupP o 6), .bool (useD o 6), .bool true, .bool (useO o 6), .bool (useI o 6), .bool (o == 24), .int .i64 0, .int .i64 0, .slice ai ni ci] 39)) := ⟨st1.row _, st1.out.alloc _, st1.low⟩
  clear r1 r1b h2 h1 st0 st1
  go_upto_region 19 with fail
  generalize ((w2.setCell ⟨w1.heap.size, kd, none⟩ (.bool true)).alloc (.cells #[.int .i64 6, .int .i64 (groupP o 6), .bool (useD o 6), .bool true, .bool (useO o 6), .bool (useI o 6), .bool (o == 24), .int .i64 0, .int .i64 0, .slice ai ni ci] 39)) = Z at *
  have sx := fun o => box_rule2 sZ.out o
  have sy : Z.cell? ⟨w1.heap.size, ks, none⟩ = some (.bool (upd m0 kd ks)) := (ten_cells sZ.hB ks).trans (marks_at _ ks hks)
  have sf : Z.frozen? ⟨w1.heap.size, ks, none⟩ = false := ten_free sZ.hB ks
  clear x0 y0 z0 l1 c0 c1 c2 c3 c4 c5 c6 c7 c8 c9
  go_upto_region 21 with fail
  have s2 := sZ.step ks hks
  have f0 : (Z.setCell ⟨w1.heap.size, ks, none⟩ (.bool true)).cell? ⟨w2.heap.size, 0, none⟩ = some (.int .i64 6) := (World.cell?_of_block (Below.heap_setCell _ _ _ _ (fun e => hne12 e.symm))).trans e0
  clear sZ sx sy sf e0 e3
  generalize (Z.setCell ⟨w1.heap.size, ks, none⟩ (.bool true)) = Y at *
  have ux := fun o => box_rule2 s2.out o
  have uy : Y.cell? ⟨w1.heap.size, 0, none⟩ = some (.bool (upd (upd m0 kd) ks 0)) := (ten_cells s2.hB 0).trans (marks_at _ 0 (by decide))
  have uf : Y.frozen? ⟨w1.heap.size, 0, none⟩ = false := ten_free s2.hB 0
  have s3 := s2.step 0 (by decide)
  have rE := s3.hB
  have oE := s3.out
  clear s2 s3
  go_wp2_with (first | (refine wpList_load_row rfl 42 (.tmp 3) rfl w1.heap.size rfl 42 (marksC (upd (upd (upd m0 kd) ks) 0)) (0, 0) _ rE Tryd.underlying42 rfl size64 ?_) | (go_at_call 26; refine (rise_walk (upd (upd (upd m0 kd) ks) 0) _).mono ?_; rintro e w9 ⟨v, rfl, hv⟩))
  go_ret
  exact ⟨_, rfl, own_up (Out.trans (Out.alloc (Out.refl w) _) oE) hv⟩
theorem rd_bs (o d s f i : Int) (w : World) (kd : Nat) (hkd : kd < 11) (hd : d = kd) (ks : Nat) (hks : ks < 11) (hs : s = ks) (n1 : (o == 183) = false) (n2 : (o == 191) = false) (n3 : (o == 180) = false) (n4 : (o == 188) = false) (hmay : ∀ w, Calls Tryd.prog 22 #[.agg #[.int .i64 o, .int .i64 d, .int .i64 s, .int .i64 f, .int .i64 i]] w fun e w' => e = .returned (.int .i64 0) ∧ Out w w') (h0 : (formP o == 0) = false) (hF : formP o = 3) (hS : useS o 3 = true) :
    Calls Tryd.prog 8 #[.agg #[.int .i64 o, .int .i64 d, .int .i64 s, .int .i64 f, .int .i64 i]] w fun e w' => ∃ v, e = .returned v ∧ Own w w' v (riseUp (upd (upd m0 kd) ks) 11) := by
  subst hd
  have hdI : (kd : Int) < 11 := by omega
  subst hs
  have hsI : (ks : Int) < 11 := by omega
  have hrows := fun w => rows_head o h0 w
  have zr : True := trivial
  go_enter Tryd.func8, Tryd.ntmps8
  go_upto_region 4 with (go_at_call 22; refine (hmay _).mono ?_; rintro e w1 ⟨rfl, h1⟩; have r1 := box_rule2 h1; have r1b := fun O o => box_rule2 (h1.alloc O) o; clear hmay)
  go_upto_region 5 with (go_at_call 23; refine (hrows _).mono ?_; rintro e w2 ⟨g, n, cap, rfl, hn0, hn1, ⟨iv, hiv, c0, c1, c2, c3, c4, c5, c6, c7, c8, c9⟩, h2⟩; obtain ⟨ai, ni, ci, rfl⟩ := nums_shape hiv; simp only [Nat.zero_mul, Nat.zero_add, baseR, hF, hS] at c0 c1 c2 c3 c4 c5 c6 c7 c8 c9; clear hrows hiv)
  have hlow : w.heap.size < w1.heap.size := Nat.lt_of_lt_of_le (by simp) h1.size
  have st0 : St w _ w1.heap.size m0 w2 := ⟨(h2.block _ (by simp)).trans (heap_alloc_new w1 _), Out.trans (h1.alloc _) h2, hlow⟩
  have st1 := st0.step kd hkd
  have x0 := st0.box
  have y0 := st0.cell kd hkd
  have z0 := st0.free kd
  have l1 : w1.heap.size < (w2.setCell ⟨w1.heap.size, kd, none⟩ (.bool true)).heap.size := lt_of_block st1.hB
  have hl12 : w1.heap.size < w2.heap.size := lt_of_block st0.hB
  have hne12 : w1.heap.size ≠ w2.heap.size := by omega
  have e0 : ((w2.setCell ⟨w1.heap.size, kd, none⟩ (.bool true)).alloc (.cells #[.int .i64 3, .int .i64 (groupP o 3), .bool (useD o 3), .bool true, .bool (useO o 3), .bool (useI o 3), .bool (o == 24), .int .i64 0, .int .i64 0, .slice ai ni ci] 39)).cell? ⟨w2.heap.size, 0, none⟩ = some (.int .i64 3) := cell_new _ _ _ _ _ (size_setCell _ _ _).symm
  have e3 : ((w2.setCell ⟨w1.heap.size, kd, none⟩ (.bool true)).alloc (.cells #[.int .i64 3, .int .i64 (groupP o 3), .bool (useD o 3), .bool true, .bool (useO o 3), .bool (useI o 3), .bool (o == 24), .int .i64 0, .int .i64 0, .slice ai ni ci] 39)).cell? ⟨w2.heap.size, 3, none⟩ = some (.bool true) := cell_new _ _ _ _ _ (size_setCell _ _ _).symm
  have sZ : St w _ w1.heap.size (upd m0 kd) ((w2.setCell ⟨w1.heap.size, kd, none⟩ (.bool true)).alloc (.cells #[.int .i64 3, .int .i64 (groupP o 3), .bool (useD o 3), .bool true, .bool (useO o 3), .bool (useI o 3), .bool (o == 24), .int .i64 0, .int .i64 0, .slice ai ni ci] 39)) := ⟨st1.row _, st1.out.alloc _, st1.low⟩
  clear r1 r1b h2 h1 st0 st1
  go_upto_region 19 with fail
  generalize ((w2.setCell ⟨w1.heap.size, kd, none⟩ (.bool true)).alloc (.cells #[.int .i64 3, .int .i64 (groupP o 3), .bool (useD o 3), .bool true, .bool (useO o 3), .bool (useI o 3), .bool (o == 24), .int .i64 0, .int .i64 0, .slice ai ni ci] 39)) = Z at *
  have sx := fun o => box_rule2 sZ.out o
  have sy : Z.cell? ⟨w1.heap.size, ks, none⟩ = some (.bool (upd m0 kd ks)) := (ten_cells sZ.hB ks).trans (marks_at _ ks hks)
  have sf : Z.frozen? ⟨w1.heap.size, ks, none⟩ = false := ten_free sZ.hB ks
  clear x0 y0 z0 l1 c0 c1 c2 c3 c4 c5 c6 c7 c8 c9
  go_upto_region 21 with fail
  have s2 := sZ.step ks hks
  have f0 : (Z.setCell ⟨w1.heap.size, ks, none⟩ (.bool true)).cell? ⟨w2.heap.size, 0, none⟩ = some (.int .i64 3) := (World.cell?_of_block (Below.heap_setCell _ _ _ _ (fun e => hne12 e.symm))).trans e0
  clear sZ sx sy sf e0 e3
  generalize (Z.setCell ⟨w1.heap.size, ks, none⟩ (.bool true)) = Y at *
  have ux := fun o => box_rule2 s2.out o
  have rE := s2.hB
  have oE := s2.out
  clear s2
  go_wp2_with (first | (refine wpList_load_row rfl 42 (.tmp 3) rfl w1.heap.size rfl 42 (marksC (upd (upd m0 kd) ks)) (0, 0) _ rE Tryd.underlying42 rfl size64 ?_) | (go_at_call 26; refine (rise_walk (upd (upd m0 kd) ks) _).mono ?_; rintro e w9 ⟨v, rfl, hv⟩))
  go_ret
  exact ⟨_, rfl, own_up (Out.trans (Out.alloc (Out.refl w) _) oE) hv⟩
end Go.Proofs.YtjlgkcnfdpnlkaaDoor
