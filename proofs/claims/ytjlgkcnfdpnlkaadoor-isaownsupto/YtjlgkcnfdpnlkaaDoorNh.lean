import Derived.Test.YtjlgkcnfdpnlkaaDoorNg
namespace Go.Proofs.YtjlgkcnfdpnlkaaDoor
open Go.RowKit Go.Sort
set_option linter.unusedVariables false
set_option linter.unusedSimpArgs false
set_option maxRecDepth 20000

def upd (m : Nat → Bool) (k : Nat) : Nat → Bool := fun j => if j = k then true else m j
def m0 : Nat → Bool := fun _ => false
theorem marks_set (m : Nat → Bool) (k : Nat) (h : k < 11) : (marksC m).setIfInBounds k (.bool true) = marksC (upd m k) := by
  rcases (show k = 0 ∨ k = 1 ∨ k = 2 ∨ k = 3 ∨ k = 4 ∨ k = 5 ∨ k = 6 ∨ k = 7 ∨ k = 8 ∨ k = 9 ∨ k = 10 from by omega) with rfl | rfl | rfl | rfl | rfl | rfl | rfl | rfl | rfl | rfl | rfl <;> simp [marksC, upd]
theorem one_same : ∀ k : Nat, k < 11 → [(k : Int)] = riseUp (upd m0 k) 11 := by decide +kernel
theorem two_same : ∀ k : Nat, k < 11 → ∀ j : Nat, j < 11 → Lib.compact (if (k : Int) ≤ (j : Int) then [(k : Int), (j : Int)] else [(j : Int), (k : Int)]) = riseUp (upd (upd m0 k) j) 11 := by decide +kernel
theorem three_same : ∀ k : Nat, k < 11 → ∀ j : Nat, j < 11 → Lib.compact (0 :: (if (k : Int) ≤ (j : Int) then [(k : Int), (j : Int)] else [(j : Int), (k : Int)])) = riseUp (upd (upd (upd m0 k) j) 0) 11 := by decide +kernel
theorem none_same : [] = riseUp m0 11 := by decide
structure St (w : World) (A : Obj) (B : Nat) (m : Nat → Bool) (W : World) : Prop where
  hB : W.heap[B]? = some (.cells (marksC m) 42 (0, 0))
  out : Out (w.alloc A) W
  low : w.heap.size < B
theorem St.step {w : World} {A : Obj} {B : Nat} {m : Nat → Bool} {W : World} (h : St w A B m W) (k : Nat) (hk : k < 11) : St w A B (upd m k) (W.setCell ⟨B, k, none⟩ (.bool true)) :=
  ⟨by rw [← marks_set m k hk]; exact set_row h.hB k _, Below.setCell h.out (by rw [size_alloc]; exact h.low) _, h.low⟩
theorem St.box {w : World} {A : Obj} {B : Nat} {m : Nat → Bool} {W : World} (h : St w A B m W) (R : Obj) (o : Nat) : (W.alloc R).cell? ⟨w.heap.size, o, none⟩ = (w.alloc A).cell? ⟨w.heap.size, o, none⟩ := box_rule2 (h.out.alloc R) o
theorem St.row {w : World} {A : Obj} {B : Nat} {m : Nat → Bool} {W : World} (h : St w A B m W) (R : Obj) : (W.alloc R).heap[B]? = some (.cells (marksC m) 42 (0, 0)) := (Below.heap_alloc _ _ _ (lt_of_block h.hB)).trans h.hB
theorem St.cell {w : World} {A : Obj} {B : Nat} {m : Nat → Bool} {W : World} (h : St w A B m W) (k : Nat) (hk : k < 11) (R : Obj) : (W.alloc R).cell? ⟨B, k, none⟩ = some (.bool (m k)) := (ten_cells (h.row R) k).trans (marks_at m k hk)
theorem St.free {w : World} {A : Obj} {B : Nat} {m : Nat → Bool} {W : World} (h : St w A B m W) (k : Nat) (R : Obj) : (W.alloc R).frozen? ⟨B, k, none⟩ = false := ten_free (h.row R) k
theorem size64 : (Tryd.prog.info? 42).map (·.size) = some 11 := by kernel_rfl
theorem rd_none (o d s f i : Int) (w : World) (c : Int) (n3 : (c == 3) = false) (n2 : (c == 2) = false) (n5 : (c == 5) = false) (n6 : (c == 6) = false) (n8 : (c == 8) = false) (n9 : (c == 9) = false) (n1 : (c == 1) = false) (hmay : ∀ w, Calls Tryd.prog 22 #[.agg #[.int .i64 o, .int .i64 d, .int .i64 s, .int .i64 f, .int .i64 i]] w fun e w' => e = .returned (.int .i64 0) ∧ Out w w') (h0 : (formP o == 0) = false) (hF : formP o = c) (hS : useS o c = false) :
    Calls Tryd.prog 8 #[.agg #[.int .i64 o, .int .i64 d, .int .i64 s, .int .i64 f, .int .i64 i]] w fun e w' => ∃ v, e = .returned v ∧ Own w w' v (riseUp m0 11) := by
  have hrows := fun w => rows_head o h0 w
  have zr : True := trivial
  go_enter Tryd.func8, Tryd.ntmps8
  go_upto_region 4 with (go_at_call 22; refine (hmay _).mono ?_; rintro e w1 ⟨rfl, h1⟩; have r1 := box_rule2 h1; have r1b := fun O o => box_rule2 (h1.alloc O) o; clear hmay)
  go_upto_region 5 with (go_at_call 23; refine (hrows _).mono ?_; rintro e w2 ⟨g, n, cap, rfl, hn0, hn1, ⟨iv, hiv, c0, c1, c2, c3, c4, c5, c6, c7, c8, c9⟩, h2⟩; obtain ⟨ai, ni, ci, rfl⟩ := nums_shape hiv; simp only [Nat.zero_mul, Nat.zero_add, baseR, hF, hS] at c0 c1 c2 c3 c4 c5 c6 c7 c8 c9; clear hrows hiv)
  have hlow : w.heap.size < w1.heap.size := Nat.lt_of_lt_of_le (by simp) h1.size
  have st0 : St w _ w1.heap.size m0 w2 := ⟨(h2.block _ (by simp)).trans (heap_alloc_new w1 _), Out.trans (h1.alloc _) h2, hlow⟩
  have xE := st0.box
  have rE := st0.row
  have oE := st0.out
  have hl12 : w1.heap.size < w2.heap.size := lt_of_block st0.hB
  clear r1 r1b st0 h2 h1
  go_wp2_with (first | (refine wpList_load_row rfl 42 (.tmp 3) rfl w1.heap.size rfl 42 (marksC m0) (0, 0) _ (rE _) Tryd.underlying42 rfl size64 ?_) | (go_at_call 26; refine (rise_walk m0 _).mono ?_; rintro e w9 ⟨v, rfl, hv⟩))
  go_ret
  exact ⟨_, rfl, own_up (Out.alloc (Out.trans (Out.alloc (Out.refl w) _) oE) _) hv⟩
theorem rd_d_2 (o d s f i : Int) (w : World) (kd : Nat) (hkd : kd < 11) (hd : d = kd) (hmay : ∀ w, Calls Tryd.prog 22 #[.agg #[.int .i64 o, .int .i64 d, .int .i64 s, .int .i64 f, .int .i64 i]] w fun e w' => e = .returned (.int .i64 0) ∧ Out w w') (h0 : (formP o == 0) = false) (hF : formP o = 2) (hS : useS o 2 = false) :
    Calls Tryd.prog 8 #[.agg #[.int .i64 o, .int .i64 d, .int .i64 s, .int .i64 f, .int .i64 i]] w fun e w' => ∃ v, e = .returned v ∧ Own w w' v (riseUp (upd m0 kd) 11) := by
  subst hd
  have hdI : (kd : Int) < 11 := by omega
  have hrows := fun w => rows_head o h0 w
  have zr : True := trivial
  go_enter Tryd.func8, Tryd.ntmps8
  go_upto_region 4 with (go_at_call 22; refine (hmay _).mono ?_; rintro e w1 ⟨rfl, h1⟩; have r1 := box_rule2 h1; have r1b := fun O o => box_rule2 (h1.alloc O) o; clear hmay)
  go_upto_region 5 with (go_at_call 23; refine (hrows _).mono ?_; rintro e w2 ⟨g, n, cap, rfl, hn0, hn1, ⟨iv, hiv, c0, c1, c2, c3, c4, c5, c6, c7, c8, c9⟩, h2⟩; obtain ⟨ai, ni, ci, rfl⟩ := nums_shape hiv; simp only [Nat.zero_mul, Nat.zero_add, baseR, hF, hS] at c0 c1 c2 c3 c4 c5 c6 c7 c8 c9; clear hrows hiv)
  have hlow : w.heap.size < w1.heap.size := Nat.lt_of_lt_of_le (by simp) h1.size
  have st0 : St w _ w1.heap.size m0 w2 := ⟨(h2.block _ (by simp)).trans (heap_alloc_new w1 _), Out.trans (h1.alloc _) h2, hlow⟩
  have st1 := st0.step kd hkd
  have x0 := st0.box
  have y0 := st0.cell kd hkd
  have z0 := st0.free kd
  have l1 : w1.heap.size < (w2.setCell ⟨w1.heap.size, kd, none⟩ (.bool true)).heap.size := lt_of_block st1.hB
  have xE := st1.box
  have rE := st1.row
  have oE := st1.out
  have hl12 : w1.heap.size < w2.heap.size := lt_of_block st0.hB
  clear r1 r1b st0 st1 h2 h1
  go_wp2_with (first | (refine wpList_load_row rfl 42 (.tmp 3) rfl w1.heap.size rfl 42 (marksC (upd m0 kd)) (0, 0) _ (rE _) Tryd.underlying42 rfl size64 ?_) | (go_at_call 26; refine (rise_walk (upd m0 kd) _).mono ?_; rintro e w9 ⟨v, rfl, hv⟩))
  go_ret
  exact ⟨_, rfl, own_up (Out.alloc (Out.trans (Out.alloc (Out.refl w) _) oE) _) hv⟩
theorem rd_d_5 (o d s f i : Int) (w : World) (kd : Nat) (hkd : kd < 11) (hd : d = kd) (hmay : ∀ w, Calls Tryd.prog 22 #[.agg #[.int .i64 o, .int .i64 d, .int .i64 s, .int .i64 f, .int .i64 i]] w fun e w' => e = .returned (.int .i64 0) ∧ Out w w') (h0 : (formP o == 0) = false) (hF : formP o = 5) (hS : useS o 5 = false) :
    Calls Tryd.prog 8 #[.agg #[.int .i64 o, .int .i64 d, .int .i64 s, .int .i64 f, .int .i64 i]] w fun e w' => ∃ v, e = .returned v ∧ Own w w' v (riseUp (upd m0 kd) 11) := by
  subst hd
  have hdI : (kd : Int) < 11 := by omega
  have hrows := fun w => rows_head o h0 w
  have zr : True := trivial
  go_enter Tryd.func8, Tryd.ntmps8
  go_upto_region 4 with (go_at_call 22; refine (hmay _).mono ?_; rintro e w1 ⟨rfl, h1⟩; have r1 := box_rule2 h1; have r1b := fun O o => box_rule2 (h1.alloc O) o; clear hmay)
  go_upto_region 5 with (go_at_call 23; refine (hrows _).mono ?_; rintro e w2 ⟨g, n, cap, rfl, hn0, hn1, ⟨iv, hiv, c0, c1, c2, c3, c4, c5, c6, c7, c8, c9⟩, h2⟩; obtain ⟨ai, ni, ci, rfl⟩ := nums_shape hiv; simp only [Nat.zero_mul, Nat.zero_add, baseR, hF, hS] at c0 c1 c2 c3 c4 c5 c6 c7 c8 c9; clear hrows hiv)
  have hlow : w.heap.size < w1.heap.size := Nat.lt_of_lt_of_le (by simp) h1.size
  have st0 : St w _ w1.heap.size m0 w2 := ⟨(h2.block _ (by simp)).trans (heap_alloc_new w1 _), Out.trans (h1.alloc _) h2, hlow⟩
  have st1 := st0.step kd hkd
  have x0 := st0.box
  have y0 := st0.cell kd hkd
  have z0 := st0.free kd
  have l1 : w1.heap.size < (w2.setCell ⟨w1.heap.size, kd, none⟩ (.bool true)).heap.size := lt_of_block st1.hB
  have xE := st1.box
  have rE := st1.row
  have oE := st1.out
  have hl12 : w1.heap.size < w2.heap.size := lt_of_block st0.hB
  clear r1 r1b st0 st1 h2 h1
  go_wp2_with (first | (refine wpList_load_row rfl 42 (.tmp 3) rfl w1.heap.size rfl 42 (marksC (upd m0 kd)) (0, 0) _ (rE _) Tryd.underlying42 rfl size64 ?_) | (go_at_call 26; refine (rise_walk (upd m0 kd) _).mono ?_; rintro e w9 ⟨v, rfl, hv⟩))
  go_ret
  exact ⟨_, rfl, own_up (Out.alloc (Out.trans (Out.alloc (Out.refl w) _) oE) _) hv⟩
theorem rd_d_8 (o d s f i : Int) (w : World) (kd : Nat) (hkd : kd < 11) (hd : d = kd) (hmay : ∀ w, Calls Tryd.prog 22 #[.agg #[.int .i64 o, .int .i64 d, .int .i64 s, .int .i64 f, .int .i64 i]] w fun e w' => e = .returned (.int .i64 0) ∧ Out w w') (h0 : (formP o == 0) = false) (hF : formP o = 8) (hS : useS o 8 = false) :
    Calls Tryd.prog 8 #[.agg #[.int .i64 o, .int .i64 d, .int .i64 s, .int .i64 f, .int .i64 i]] w fun e w' => ∃ v, e = .returned v ∧ Own w w' v (riseUp (upd m0 kd) 11) := by
  subst hd
  have hdI : (kd : Int) < 11 := by omega
  have hrows := fun w => rows_head o h0 w
  have zr : True := trivial
  go_enter Tryd.func8, Tryd.ntmps8
  go_upto_region 4 with (go_at_call 22; refine (hmay _).mono ?_; rintro e w1 ⟨rfl, h1⟩; have r1 := box_rule2 h1; have r1b := fun O o => box_rule2 (h1.alloc O) o; clear hmay)
  go_upto_region 5 with (go_at_call 23; refine (hrows _).mono ?_; rintro e w2 ⟨g, n, cap, rfl, hn0, hn1, ⟨iv, hiv, c0, c1, c2, c3, c4, c5, c6, c7, c8, c9⟩, h2⟩; obtain ⟨ai, ni, ci, rfl⟩ := nums_shape hiv; simp only [Nat.zero_mul, Nat.zero_add, baseR, hF, hS] at c0 c1 c2 c3 c4 c5 c6 c7 c8 c9; clear hrows hiv)
  have hlow : w.heap.size < w1.heap.size := Nat.lt_of_lt_of_le (by simp) h1.size
  have st0 : St w _ w1.heap.size m0 w2 := ⟨(h2.block _ (by simp)).trans (heap_alloc_new w1 _), Out.trans (h1.alloc _) h2, hlow⟩
  have st1 := st0.step kd hkd
  have x0 := st0.box
  have y0 := st0.cell kd hkd
  have z0 := st0.free kd
  have l1 : w1.heap.size < (w2.setCell ⟨w1.heap.size, kd, none⟩ (.bool true)).heap.size := lt_of_block st1.hB
  have xE := st1.box
  have rE := st1.row
  have oE := st1.out
  have hl12 : w1.heap.size < w2.heap.size := lt_of_block st0.hB
  clear r1 r1b st0 st1 h2 h1
  go_wp2_with (first | (refine wpList_load_row rfl 42 (.tmp 3) rfl w1.heap.size rfl 42 (marksC (upd m0 kd)) (0, 0) _ (rE _) Tryd.underlying42 rfl size64 ?_) | (go_at_call 26; refine (rise_walk (upd m0 kd) _).mono ?_; rintro e w9 ⟨v, rfl, hv⟩))
  go_ret
  exact ⟨_, rfl, own_up (Out.alloc (Out.trans (Out.alloc (Out.refl w) _) oE) _) hv⟩
theorem rd_b (o d s f i : Int) (w : World) (kd : Nat) (hkd : kd < 11) (hd : d = kd) (n1 : (o == 183) = false) (n2 : (o == 191) = false) (n3 : (o == 180) = false) (n4 : (o == 188) = false) (hmay : ∀ w, Calls Tryd.prog 22 #[.agg #[.int .i64 o, .int .i64 d, .int .i64 s, .int .i64 f, .int .i64 i]] w fun e w' => e = .returned (.int .i64 0) ∧ Out w w') (h0 : (formP o == 0) = false) (hF : formP o = 3) (hS : useS o 3 = false) :
    Calls Tryd.prog 8 #[.agg #[.int .i64 o, .int .i64 d, .int .i64 s, .int .i64 f, .int .i64 i]] w fun e w' => ∃ v, e = .returned v ∧ Own w w' v (riseUp (upd m0 kd) 11) := by
  subst hd
  have hdI : (kd : Int) < 11 := by omega
  have hrows := fun w => rows_head o h0 w
  have zr : True := trivial
  go_enter Tryd.func8, Tryd.ntmps8
  go_upto_region 4 with (go_at_call 22; refine (hmay _).mono ?_; rintro e w1 ⟨rfl, h1⟩; have r1 := box_rule2 h1; have r1b := fun O o => box_rule2 (h1.alloc O) o; clear hmay)
  go_upto_region 5 with (go_at_call 23; refine (hrows _).mono ?_; rintro e w2 ⟨g, n, cap, rfl, hn0, hn1, ⟨iv, hiv, c0, c1, c2, c3, c4, c5, c6, c7, c8, c9⟩, h2⟩; obtain ⟨ai, ni, ci, rfl⟩ := nums_shape hiv; simp only [Nat.zero_mul, Nat.zero_add, baseR, hF, hS] at c0 c1 c2 c3 c4 c5 c6 c7 c8 c9; clear hrows hiv)
  have hlow : w.heap.size < w1.heap.size := Nat.lt_of_lt_of_le (by simp) h1.size
  have st0 : St w _ w1.heap.size m0 w2 := ⟨(h2.block _ (by simp)).trans (heap_alloc_new w1 _), Out.trans (h1.alloc _) h2, hlow⟩
  have st1 := st0.step kd hkd
  have x0 := st0.box
  have y0 := st0.cell kd hkd
  have z0 := st0.free kd
  have l1 : w1.heap.size < (w2.setCell ⟨w1.heap.size, kd, none⟩ (.bool true)).heap.size := lt_of_block st1.hB
  have xE := st1.box
  have rE := st1.row
  have oE := st1.out
  have hl12 : w1.heap.size < w2.heap.size := lt_of_block st0.hB
  clear r1 r1b st0 st1 h2 h1
  go_wp2_with (first | (refine wpList_load_row rfl 42 (.tmp 3) rfl w1.heap.size rfl 42 (marksC (upd m0 kd)) (0, 0) _ (rE _) Tryd.underlying42 rfl size64 ?_) | (go_at_call 26; refine (rise_walk (upd m0 kd) _).mono ?_; rintro e w9 ⟨v, rfl, hv⟩))
  go_ret
  exact ⟨_, rfl, own_up (Out.alloc (Out.trans (Out.alloc (Out.refl w) _) oE) _) hv⟩
theorem rd_m183 (o d s f i : Int) (w : World) (q183 : (o == 183) = true) (hmay : ∀ w, Calls Tryd.prog 22 #[.agg #[.int .i64 o, .int .i64 d, .int .i64 s, .int .i64 f, .int .i64 i]] w fun e w' => e = .returned (.int .i64 0) ∧ Out w w') (h0 : (formP o == 0) = false) (hF : formP o = 3) (hS : useS o 3 = false) :
    Calls Tryd.prog 8 #[.agg #[.int .i64 o, .int .i64 d, .int .i64 s, .int .i64 f, .int .i64 i]] w fun e w' => ∃ v, e = .returned v ∧ Own w w' v (riseUp m0 11) := by
  have hrows := fun w => rows_head o h0 w
  have zr : True := trivial
  go_enter Tryd.func8, Tryd.ntmps8
  go_upto_region 4 with (go_at_call 22; refine (hmay _).mono ?_; rintro e w1 ⟨rfl, h1⟩; have r1 := box_rule2 h1; have r1b := fun O o => box_rule2 (h1.alloc O) o; clear hmay)
  go_upto_region 5 with (go_at_call 23; refine (hrows _).mono ?_; rintro e w2 ⟨g, n, cap, rfl, hn0, hn1, ⟨iv, hiv, c0, c1, c2, c3, c4, c5, c6, c7, c8, c9⟩, h2⟩; obtain ⟨ai, ni, ci, rfl⟩ := nums_shape hiv; simp only [Nat.zero_mul, Nat.zero_add, baseR, hF, hS] at c0 c1 c2 c3 c4 c5 c6 c7 c8 c9; clear hrows hiv)
  have hlow : w.heap.size < w1.heap.size := Nat.lt_of_lt_of_le (by simp) h1.size
  have st0 : St w _ w1.heap.size m0 w2 := ⟨(h2.block _ (by simp)).trans (heap_alloc_new w1 _), Out.trans (h1.alloc _) h2, hlow⟩
  have xE := st0.box
  have rE := st0.row
  have oE := st0.out
  have hl12 : w1.heap.size < w2.heap.size := lt_of_block st0.hB
  clear r1 r1b st0 h2 h1
  go_wp2_with (first | (refine wpList_load_row rfl 42 (.tmp 3) rfl w1.heap.size rfl 42 (marksC m0) (0, 0) _ (rE _) Tryd.underlying42 rfl size64 ?_) | (go_at_call 26; refine (rise_walk m0 _).mono ?_; rintro e w9 ⟨v, rfl, hv⟩))
  go_ret
  exact ⟨_, rfl, own_up (Out.alloc (Out.trans (Out.alloc (Out.refl w) _) oE) _) hv⟩
theorem rd_m180 (o d s f i : Int) (w : World) (q183 : (o == 183) = false) (q191 : (o == 191) = false) (q180 : (o == 180) = true) (hmay : ∀ w, Calls Tryd.prog 22 #[.agg #[.int .i64 o, .int .i64 d, .int .i64 s, .int .i64 f, .int .i64 i]] w fun e w' => e = .returned (.int .i64 0) ∧ Out w w') (h0 : (formP o == 0) = false) (hF : formP o = 3) (hS : useS o 3 = false) :
    Calls Tryd.prog 8 #[.agg #[.int .i64 o, .int .i64 d, .int .i64 s, .int .i64 f, .int .i64 i]] w fun e w' => ∃ v, e = .returned v ∧ Own w w' v (riseUp m0 11) := by
  have hrows := fun w => rows_head o h0 w
  have zr : True := trivial
  go_enter Tryd.func8, Tryd.ntmps8
  go_upto_region 4 with (go_at_call 22; refine (hmay _).mono ?_; rintro e w1 ⟨rfl, h1⟩; have r1 := box_rule2 h1; have r1b := fun O o => box_rule2 (h1.alloc O) o; clear hmay)
  go_upto_region 5 with (go_at_call 23; refine (hrows _).mono ?_; rintro e w2 ⟨g, n, cap, rfl, hn0, hn1, ⟨iv, hiv, c0, c1, c2, c3, c4, c5, c6, c7, c8, c9⟩, h2⟩; obtain ⟨ai, ni, ci, rfl⟩ := nums_shape hiv; simp only [Nat.zero_mul, Nat.zero_add, baseR, hF, hS] at c0 c1 c2 c3 c4 c5 c6 c7 c8 c9; clear hrows hiv)
  have hlow : w.heap.size < w1.heap.size := Nat.lt_of_lt_of_le (by simp) h1.size
  have st0 : St w _ w1.heap.size m0 w2 := ⟨(h2.block _ (by simp)).trans (heap_alloc_new w1 _), Out.trans (h1.alloc _) h2, hlow⟩
  have xE := st0.box
  have rE := st0.row
  have oE := st0.out
  have hl12 : w1.heap.size < w2.heap.size := lt_of_block st0.hB
  clear r1 r1b st0 h2 h1
  go_wp2_with (first | (refine wpList_load_row rfl 42 (.tmp 3) rfl w1.heap.size rfl 42 (marksC m0) (0, 0) _ (rE _) Tryd.underlying42 rfl size64 ?_) | (go_at_call 26; refine (rise_walk m0 _).mono ?_; rintro e w9 ⟨v, rfl, hv⟩))
  go_ret
  exact ⟨_, rfl, own_up (Out.alloc (Out.trans (Out.alloc (Out.refl w) _) oE) _) hv⟩
theorem rd_m191 (o d s f i : Int) (w : World) (ks : Nat) (hks : ks < 11) (hs : s = ks) (q183 : (o == 183) = false) (q191 : (o == 191) = true) (hmay : ∀ w, Calls Tryd.prog 22 #[.agg #[.int .i64 o, .int .i64 d, .int .i64 s, .int .i64 f, .int .i64 i]] w fun e w' => e = .returned (.int .i64 0) ∧ Out w w') (h0 : (formP o == 0) = false) (hF : formP o = 3) (hS : useS o 3 = true) :
    Calls Tryd.prog 8 #[.agg #[.int .i64 o, .int .i64 d, .int .i64 s, .int .i64 f, .int .i64 i]] w fun e w' => ∃ v, e = .returned v ∧ Own w w' v (riseUp (upd m0 ks) 11) := by
  subst hs
  have hsI : (ks : Int) < 11 := by omega
  have hrows := fun w => rows_head o h0 w
  have zr : True := trivial
  go_enter Tryd.func8, Tryd.ntmps8
  go_upto_region 4 with (go_at_call 22; refine (hmay _).mono ?_; rintro e w1 ⟨rfl, h1⟩; have r1 := box_rule2 h1; have r1b := fun O o => box_rule2 (h1.alloc O) o; clear hmay)
  go_upto_region 5 with (go_at_call 23; refine (hrows _).mono ?_; rintro e w2 ⟨g, n, cap, rfl, hn0, hn1, ⟨iv, hiv, c0, c1, c2, c3, c4, c5, c6, c7, c8, c9⟩, h2⟩; obtain ⟨ai, ni, ci, rfl⟩ := nums_shape hiv; simp only [Nat.zero_mul, Nat.zero_add, baseR, hF, hS] at c0 c1 c2 c3 c4 c5 c6 c7 c8 c9; clear hrows hiv)
  have hlow : w.heap.size < w1.heap.size := Nat.lt_of_lt_of_le (by simp) h1.size
  have st0 : St w _ w1.heap.size m0 w2 := ⟨(h2.block _ (by simp)).trans (heap_alloc_new w1 _), Out.trans (h1.alloc _) h2, hlow⟩
  have st1 := st0.step ks hks
  have x0 := st0.box
  have y0 := st0.cell ks hks
  have z0 := st0.free ks
  have l1 : w1.heap.size < (w2.setCell ⟨w1.heap.size, ks, none⟩ (.bool true)).heap.size := lt_of_block st1.hB
  have xE := st1.box
  have rE := st1.row
  have oE := st1.out
  have hl12 : w1.heap.size < w2.heap.size := lt_of_block st0.hB
  clear r1 r1b st0 st1 h2 h1
  go_wp2_with (first | (refine wpList_load_row rfl 42 (.tmp 3) rfl w1.heap.size rfl 42 (marksC (upd m0 ks)) (0, 0) _ (rE _) Tryd.underlying42 rfl size64 ?_) | (go_at_call 26; refine (rise_walk (upd m0 ks) _).mono ?_; rintro e w9 ⟨v, rfl, hv⟩))
  go_ret
  exact ⟨_, rfl, own_up (Out.alloc (Out.trans (Out.alloc (Out.refl w) _) oE) _) hv⟩
theorem rd_m188 (o d s f i : Int) (w : World) (ks : Nat) (hks : ks < 11) (hs : s = ks) (q183 : (o == 183) = false) (q191 : (o == 191) = false) (q180 : (o == 180) = false) (q188 : (o == 188) = true) (hmay : ∀ w, Calls Tryd.prog 22 #[.agg #[.int .i64 o, .int .i64 d, .int .i64 s, .int .i64 f, .int .i64 i]] w fun e w' => e = .returned (.int .i64 0) ∧ Out w w') (h0 : (formP o == 0) = false) (hF : formP o = 3) (hS : useS o 3 = true) :
    Calls Tryd.prog 8 #[.agg #[.int .i64 o, .int .i64 d, .int .i64 s, .int .i64 f, .int .i64 i]] w fun e w' => ∃ v, e = .returned v ∧ Own w w' v (riseUp (upd m0 ks) 11) := by
  subst hs
  have hsI : (ks : Int) < 11 := by omega
  have hrows := fun w => rows_head o h0 w
  have zr : True := trivial
  go_enter Tryd.func8, Tryd.ntmps8
  go_upto_region 4 with (go_at_call 22; refine (hmay _).mono ?_; rintro e w1 ⟨rfl, h1⟩; have r1 := box_rule2 h1; have r1b := fun O o => box_rule2 (h1.alloc O) o; clear hmay)
  go_upto_region 5 with (go_at_call 23; refine (hrows _).mono ?_; rintro e w2 ⟨g, n, cap, rfl, hn0, hn1, ⟨iv, hiv, c0, c1, c2, c3, c4, c5, c6, c7, c8, c9⟩, h2⟩; obtain ⟨ai, ni, ci, rfl⟩ := nums_shape hiv; simp only [Nat.zero_mul, Nat.zero_add, baseR, hF, hS] at c0 c1 c2 c3 c4 c5 c6 c7 c8 c9; clear hrows hiv)
  have hlow : w.heap.size < w1.heap.size := Nat.lt_of_lt_of_le (by simp) h1.size
  have st0 : St w _ w1.heap.size m0 w2 := ⟨(h2.block _ (by simp)).trans (heap_alloc_new w1 _), Out.trans (h1.alloc _) h2, hlow⟩
  have st1 := st0.step ks hks
  have x0 := st0.box
  have y0 := st0.cell ks hks
  have z0 := st0.free ks
  have l1 : w1.heap.size < (w2.setCell ⟨w1.heap.size, ks, none⟩ (.bool true)).heap.size := lt_of_block st1.hB
  have xE := st1.box
  have rE := st1.row
  have oE := st1.out
  have hl12 : w1.heap.size < w2.heap.size := lt_of_block st0.hB
  clear r1 r1b st0 st1 h2 h1
  go_wp2_with (first | (refine wpList_load_row rfl 42 (.tmp 3) rfl w1.heap.size rfl 42 (marksC (upd m0 ks)) (0, 0) _ (rE _) Tryd.underlying42 rfl size64 ?_) | (go_at_call 26; refine (rise_walk (upd m0 ks) _).mono ?_; rintro e w9 ⟨v, rfl, hv⟩))
  go_ret
  exact ⟨_, rfl, own_up (Out.alloc (Out.trans (Out.alloc (Out.refl w) _) oE) _) hv⟩
theorem rd_l (o d s f i : Int) (w : World) (ks : Nat) (hks : ks < 11) (hs : s = ks) (hmay : ∀ w, Calls Tryd.prog 22 #[.agg #[.int .i64 o, .int .i64 d, .int .i64 s, .int .i64 f, .int .i64 i]] w fun e w' => e = .returned (.int .i64 0) ∧ Out w w') (h0 : (formP o == 0) = false) (hF : formP o = 4) (hS : useS o 4 = true) :
    Calls Tryd.prog 8 #[.agg #[.int .i64 o, .int .i64 d, .int .i64 s, .int .i64 f, .int .i64 i]] w fun e w' => ∃ v, e = .returned v ∧ Own w w' v (riseUp (upd m0 ks) 11) := by
  subst hs
  have hsI : (ks : Int) < 11 := by omega
  have hrows := fun w => rows_head o h0 w
  have zr : True := trivial
  go_enter Tryd.func8, Tryd.ntmps8
  go_upto_region 4 with (go_at_call 22; refine (hmay _).mono ?_; rintro e w1 ⟨rfl, h1⟩; have r1 := box_rule2 h1; have r1b := fun O o => box_rule2 (h1.alloc O) o; clear hmay)
  go_upto_region 5 with (go_at_call 23; refine (hrows _).mono ?_; rintro e w2 ⟨g, n, cap, rfl, hn0, hn1, ⟨iv, hiv, c0, c1, c2, c3, c4, c5, c6, c7, c8, c9⟩, h2⟩; obtain ⟨ai, ni, ci, rfl⟩ := nums_shape hiv; simp only [Nat.zero_mul, Nat.zero_add, baseR, hF, hS] at c0 c1 c2 c3 c4 c5 c6 c7 c8 c9; clear hrows hiv)
  have hlow : w.heap.size < w1.heap.size := Nat.lt_of_lt_of_le (by simp) h1.size
  have st0 : St w _ w1.heap.size m0 w2 := ⟨(h2.block _ (by simp)).trans (heap_alloc_new w1 _), Out.trans (h1.alloc _) h2, hlow⟩
  have st1 := st0.step ks hks
  have x0 := st0.box
  have y0 := st0.cell ks hks
  have z0 := st0.free ks
  have l1 : w1.heap.size < (w2.setCell ⟨w1.heap.size, ks, none⟩ (.bool true)).heap.size := lt_of_block st1.hB
  have xE := st1.box
  have rE := st1.row
  have oE := st1.out
  have hl12 : w1.heap.size < w2.heap.size := lt_of_block st0.hB
  clear r1 r1b st0 st1 h2 h1
  go_wp2_with (first | (refine wpList_load_row rfl 42 (.tmp 3) rfl w1.heap.size rfl 42 (marksC (upd m0 ks)) (0, 0) _ (rE _) Tryd.underlying42 rfl size64 ?_) | (go_at_call 26; refine (rise_walk (upd m0 ks) _).mono ?_; rintro e w9 ⟨v, rfl, hv⟩))
  go_ret
  exact ⟨_, rfl, own_up (Out.alloc (Out.trans (Out.alloc (Out.refl w) _) oE) _) hv⟩
theorem rd_x (o d s f i : Int) (w : World)  (hmay : ∀ w, Calls Tryd.prog 22 #[.agg #[.int .i64 o, .int .i64 d, .int .i64 s, .int .i64 f, .int .i64 i]] w fun e w' => e = .returned (.int .i64 0) ∧ Out w w') (h0 : (formP o == 0) = false) (hF : formP o = 1) (hS : useS o 1 = false) :
    Calls Tryd.prog 8 #[.agg #[.int .i64 o, .int .i64 d, .int .i64 s, .int .i64 f, .int .i64 i]] w fun e w' => ∃ v, e = .returned v ∧ Own w w' v (riseUp (upd m0 0) 11) := by
  have hrows := fun w => rows_head o h0 w
  have zr : True := trivial
  go_enter Tryd.func8, Tryd.ntmps8
  go_upto_region 4 with (go_at_call 22; refine (hmay _).mono ?_; rintro e w1 ⟨rfl, h1⟩; have r1 := box_rule2 h1; have r1b := fun O o => box_rule2 (h1.alloc O) o; clear hmay)
  go_upto_region 5 with (go_at_call 23; refine (hrows _).mono ?_; rintro e w2 ⟨g, n, cap, rfl, hn0, hn1, ⟨iv, hiv, c0, c1, c2, c3, c4, c5, c6, c7, c8, c9⟩, h2⟩; obtain ⟨ai, ni, ci, rfl⟩ := nums_shape hiv; simp only [Nat.zero_mul, Nat.zero_add, baseR, hF, hS] at c0 c1 c2 c3 c4 c5 c6 c7 c8 c9; clear hrows hiv)
  have hlow : w.heap.size < w1.heap.size := Nat.lt_of_lt_of_le (by simp) h1.size
  have st0 : St w _ w1.heap.size m0 w2 := ⟨(h2.block _ (by simp)).trans (heap_alloc_new w1 _), Out.trans (h1.alloc _) h2, hlow⟩
  have st1 := st0.step 0 (by decide)
  have x0 := st0.box
  have y0 := st0.cell 0 (by decide)
  have z0 := st0.free 0
  have l1 : w1.heap.size < (w2.setCell ⟨w1.heap.size, 0, none⟩ (.bool true)).heap.size := lt_of_block st1.hB
  have xE := st1.box
  have rE := st1.row
  have oE := st1.out
  have hl12 : w1.heap.size < w2.heap.size := lt_of_block st0.hB
  clear r1 r1b st0 st1 h2 h1
  go_wp2_with (first | (refine wpList_load_row rfl 42 (.tmp 3) rfl w1.heap.size rfl 42 (marksC (upd m0 0)) (0, 0) _ (rE _) Tryd.underlying42 rfl size64 ?_) | (go_at_call 26; refine (rise_walk (upd m0 0) _).mono ?_; rintro e w9 ⟨v, rfl, hv⟩))
  go_ret
  exact ⟨_, rfl, own_up (Out.alloc (Out.trans (Out.alloc (Out.refl w) _) oE) _) hv⟩
end Go.Proofs.YtjlgkcnfdpnlkaaDoor
