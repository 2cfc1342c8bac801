import Derived.Test.YtjlgkcnfdpnlkaaDoorNc
import Derived.Test.YtjlgkcnfdpnlkaaDoorNd
namespace Go.Proofs.YtjlgkcnfdpnlkaaDoor
open Go.RowKit Go.Sort
set_option linter.unusedVariables false
set_option linter.unusedSimpArgs false
set_option maxRecDepth 20000

theorem box_rule2 {w w1 : World} {A : Obj} (h : Out (w.alloc A) w1) (o : Nat) : w1.cell? ⟨w.heap.size, o, none⟩ = (w.alloc A).cell? ⟨w.heap.size, o, none⟩ := h.cells _ _ (by simp)
theorem rows_head (op : Int) (hf : (formP op == 0) = false) (w : World) : Calls Tryd.prog 23 #[.int .i64 op] w fun e w' => ∃ g n cap, e = .returned (.slice (some ⟨g, 0, none⟩) n cap) ∧ 0 < n ∧ n ≤ 100 ∧ RowAt w' g 0 (baseR op) ∧ Out w w' := by
  refine (rows_any op w).mono ?_
  rintro e w1 ⟨⟨v, rfl, hv⟩, hout⟩
  have hr := rows_eq op hf
  have h0 : (rowsR op)[0]? = some (baseR op) := by rw [hr, allR]; rfl
  rcases hv with ⟨e0, rfl⟩ | ⟨g, cap, rfl, h⟩
  · rw [e0] at h0; simp at h0
  · exact ⟨g, _, cap, rfl, by rw [hr, allR]; simp, (rows_small op).1, h 0 _ h0, hout⟩
theorem head_form {w : World} {g : Nat} {op : Int} (h : RowAt w g 0 (baseR op)) : w.cell? ⟨g, 0, none⟩ = some (.int .i64 (formP op)) := by
  obtain ⟨iv, _, c0, _⟩ := h
  simpa [baseR] using c0
theorem atom_of {o d s f i : Int} (h : mayP o d s f i = 0) (h6 : formP o = 6) : i = 0 ∨ i = 64 ∨ i = 80 ∨ i = 160 ∨ i = 1 ∨ i = 65 ∨ i = 81 ∨ i = 161 ∨ i = 225 ∨ i = 241 := by
  obtain ⟨h0, hfit, _⟩ := may_ok h
  obtain ⟨l, hl, ho⟩ := form_mem o h0
  have hk := kind_all l hl o ho
  unfold kindB at hk
  simp [h6] at hk
  simp only [fitO, fitP, Bool.and_eq_true] at hfit
  obtain ⟨_, _, _, hi⟩ := hfit
  rw [h6] at hi
  simp [immP, hk, atomP, immsT] at hi
  omega
theorem may_vals2 (o d s f i : Int) : mayP o d s f i = 0 ∨ ¬ mayP o d s f i = 0 := Classical.em _
theorem whole_bad {o d s f i : Int} (h : ¬ mayP o d s f i = 0) : wholeP o d s f i = 0 := by
  unfold mayP at h
  unfold wholeP
  cases h1 : (formP o == 0)
  · cases h2 : fitO o d s f i
    · simp
    · simp [h1, h2] at h
  · simp
set_option maxHeartbeats 4000000 in
theorem refWrites_any (o d s f i : Int) (w : World) : Calls Tryd.prog 7 #[.agg #[.int .i64 o, .int .i64 d, .int .i64 s, .int .i64 f, .int .i64 i]] w fun e w' => ∃ v, e = .returned v ∧ Own w w' v (writesP o d s f i) := by
  have hmay := fun w => refMay_same o d s f i w
  rcases may_vals2 o d s f i with hm | hm
  · rw [hm] at hmay
    obtain ⟨h0, _, hwh⟩ := may_ok hm
    have hrows := fun w => rows_head o h0 w
    rw [show writesP o d s f i = writesC (formP o) d s i from by rw [writesP, hwh]]
    have hat := atom_of hm
    clear hm h0 hwh
    have hsrc : True := trivial
    generalize hF : formP o = c at *
    by_cases h3 : c = 3
    · subst h3
      rw [show writesC 3 d s i = [d] from by simp [writesC]]
      clear hat
      go_enter Tryd.func7, Tryd.ntmps7
      go_wp2_with (first | (go_at_call 22; refine (hmay _).mono ?_; rintro e w1 ⟨rfl, h1⟩; have r1 := box_rule2 h1; clear hmay) | (go_at_call 23; refine (hrows _).mono ?_; rintro e w2 ⟨g, n, cap, rfl, hn0, hn1, hrow, h2⟩; have c0 := head_form hrow; rw [hF] at c0; have r2 := box_rule2 (Out.trans h1 h2); clear hrows))
      go_ret
      exact ⟨_, rfl, own_lit [d] (Out.trans (Out.alloc (Out.refl w) _) (Out.trans h1 h2)) _ _ rfl rfl (by decide)⟩
    have b3 : (c == 3) = false := by simpa using h3
    clear h3
    by_cases h2 : c = 2
    · subst h2
      rw [show writesC 2 d s i = [d] from by simp [writesC]]
      clear hat
      go_enter Tryd.func7, Tryd.ntmps7
      go_wp2_with (first | (go_at_call 22; refine (hmay _).mono ?_; rintro e w1 ⟨rfl, h1⟩; have r1 := box_rule2 h1; clear hmay) | (go_at_call 23; refine (hrows _).mono ?_; rintro e w2 ⟨g, n, cap, rfl, hn0, hn1, hrow, h2⟩; have c0 := head_form hrow; rw [hF] at c0; have r2 := box_rule2 (Out.trans h1 h2); clear hrows))
      go_ret
      exact ⟨_, rfl, own_lit [d] (Out.trans (Out.alloc (Out.refl w) _) (Out.trans h1 h2)) _ _ rfl rfl (by decide)⟩
    have b2 : (c == 2) = false := by simpa using h2
    clear h2
    by_cases h4 : c = 4
    · subst h4
      rw [show writesC 4 d s i = [d] from by simp [writesC]]
      clear hat
      go_enter Tryd.func7, Tryd.ntmps7
      go_wp2_with (first | (go_at_call 22; refine (hmay _).mono ?_; rintro e w1 ⟨rfl, h1⟩; have r1 := box_rule2 h1; clear hmay) | (go_at_call 23; refine (hrows _).mono ?_; rintro e w2 ⟨g, n, cap, rfl, hn0, hn1, hrow, h2⟩; have c0 := head_form hrow; rw [hF] at c0; have r2 := box_rule2 (Out.trans h1 h2); clear hrows))
      go_ret
      exact ⟨_, rfl, own_lit [d] (Out.trans (Out.alloc (Out.refl w) _) (Out.trans h1 h2)) _ _ rfl rfl (by decide)⟩
    have b4 : (c == 4) = false := by simpa using h4
    clear h4
    by_cases h10 : c = 10
    · subst h10
      rw [show writesC 10 d s i = [d] from by simp [writesC]]
      clear hat
      go_enter Tryd.func7, Tryd.ntmps7
      go_wp2_with (first | (go_at_call 22; refine (hmay _).mono ?_; rintro e w1 ⟨rfl, h1⟩; have r1 := box_rule2 h1; clear hmay) | (go_at_call 23; refine (hrows _).mono ?_; rintro e w2 ⟨g, n, cap, rfl, hn0, hn1, hrow, h2⟩; have c0 := head_form hrow; rw [hF] at c0; have r2 := box_rule2 (Out.trans h1 h2); clear hrows))
      go_ret
      exact ⟨_, rfl, own_lit [d] (Out.trans (Out.alloc (Out.refl w) _) (Out.trans h1 h2)) _ _ rfl rfl (by decide)⟩
    have b10 : (c == 10) = false := by simpa using h10
    clear h10
    by_cases h6 : c = 6
    · subst h6
      rcases hat rfl with rfl | rfl | rfl | rfl | rfl | rfl | rfl | rfl | rfl | rfl
      · rw [show writesC 6 d s 0 = [] from by simp [writesC, atomW] <;> decide]
        clear hat
        go_enter Tryd.func7, Tryd.ntmps7
        go_wp2_with (first | (go_at_call 22; refine (hmay _).mono ?_; rintro e w1 ⟨rfl, h1⟩; have r1 := box_rule2 h1; clear hmay) | (go_at_call 23; refine (hrows _).mono ?_; rintro e w2 ⟨g, n, cap, rfl, hn0, hn1, hrow, h2⟩; have c0 := head_form hrow; rw [hF] at c0; have r2 := box_rule2 (Out.trans h1 h2); clear hrows))
        go_ret
        exact ⟨_, rfl, own_nil (Out.trans (Out.alloc (Out.refl w) _) (Out.trans h1 h2))⟩
      · rw [show writesC 6 d s 64 = [] from by simp [writesC, atomW] <;> decide]
        clear hat
        go_enter Tryd.func7, Tryd.ntmps7
        go_wp2_with (first | (go_at_call 22; refine (hmay _).mono ?_; rintro e w1 ⟨rfl, h1⟩; have r1 := box_rule2 h1; clear hmay) | (go_at_call 23; refine (hrows _).mono ?_; rintro e w2 ⟨g, n, cap, rfl, hn0, hn1, hrow, h2⟩; have c0 := head_form hrow; rw [hF] at c0; have r2 := box_rule2 (Out.trans h1 h2); clear hrows))
        go_ret
        exact ⟨_, rfl, own_nil (Out.trans (Out.alloc (Out.refl w) _) (Out.trans h1 h2))⟩
      · rw [show writesC 6 d s 80 = [] from by simp [writesC, atomW] <;> decide]
        clear hat
        go_enter Tryd.func7, Tryd.ntmps7
        go_wp2_with (first | (go_at_call 22; refine (hmay _).mono ?_; rintro e w1 ⟨rfl, h1⟩; have r1 := box_rule2 h1; clear hmay) | (go_at_call 23; refine (hrows _).mono ?_; rintro e w2 ⟨g, n, cap, rfl, hn0, hn1, hrow, h2⟩; have c0 := head_form hrow; rw [hF] at c0; have r2 := box_rule2 (Out.trans h1 h2); clear hrows))
        go_ret
        exact ⟨_, rfl, own_nil (Out.trans (Out.alloc (Out.refl w) _) (Out.trans h1 h2))⟩
      · rw [show writesC 6 d s 160 = [] from by simp [writesC, atomW] <;> decide]
        clear hat
        go_enter Tryd.func7, Tryd.ntmps7
        go_wp2_with (first | (go_at_call 22; refine (hmay _).mono ?_; rintro e w1 ⟨rfl, h1⟩; have r1 := box_rule2 h1; clear hmay) | (go_at_call 23; refine (hrows _).mono ?_; rintro e w2 ⟨g, n, cap, rfl, hn0, hn1, hrow, h2⟩; have c0 := head_form hrow; rw [hF] at c0; have r2 := box_rule2 (Out.trans h1 h2); clear hrows))
        go_ret
        exact ⟨_, rfl, own_nil (Out.trans (Out.alloc (Out.refl w) _) (Out.trans h1 h2))⟩
      · rw [show writesC 6 d s 1 = [s] from by simp [writesC, atomW] <;> decide]
        clear hat
        go_enter Tryd.func7, Tryd.ntmps7
        go_wp2_with (first | (go_at_call 22; refine (hmay _).mono ?_; rintro e w1 ⟨rfl, h1⟩; have r1 := box_rule2 h1; clear hmay) | (go_at_call 23; refine (hrows _).mono ?_; rintro e w2 ⟨g, n, cap, rfl, hn0, hn1, hrow, h2⟩; have c0 := head_form hrow; rw [hF] at c0; have r2 := box_rule2 (Out.trans h1 h2); clear hrows))
        go_ret
        exact ⟨_, rfl, own_lit [s] (Out.trans (Out.alloc (Out.refl w) _) (Out.trans h1 h2)) _ _ rfl rfl (by decide)⟩
      · rw [show writesC 6 d s 65 = [s] from by simp [writesC, atomW] <;> decide]
        clear hat
        go_enter Tryd.func7, Tryd.ntmps7
        go_wp2_with (first | (go_at_call 22; refine (hmay _).mono ?_; rintro e w1 ⟨rfl, h1⟩; have r1 := box_rule2 h1; clear hmay) | (go_at_call 23; refine (hrows _).mono ?_; rintro e w2 ⟨g, n, cap, rfl, hn0, hn1, hrow, h2⟩; have c0 := head_form hrow; rw [hF] at c0; have r2 := box_rule2 (Out.trans h1 h2); clear hrows))
        go_ret
        exact ⟨_, rfl, own_lit [s] (Out.trans (Out.alloc (Out.refl w) _) (Out.trans h1 h2)) _ _ rfl rfl (by decide)⟩
      · rw [show writesC 6 d s 81 = [s] from by simp [writesC, atomW] <;> decide]
        clear hat
        go_enter Tryd.func7, Tryd.ntmps7
        go_wp2_with (first | (go_at_call 22; refine (hmay _).mono ?_; rintro e w1 ⟨rfl, h1⟩; have r1 := box_rule2 h1; clear hmay) | (go_at_call 23; refine (hrows _).mono ?_; rintro e w2 ⟨g, n, cap, rfl, hn0, hn1, hrow, h2⟩; have c0 := head_form hrow; rw [hF] at c0; have r2 := box_rule2 (Out.trans h1 h2); clear hrows))
        go_ret
        exact ⟨_, rfl, own_lit [s] (Out.trans (Out.alloc (Out.refl w) _) (Out.trans h1 h2)) _ _ rfl rfl (by decide)⟩
      · rw [show writesC 6 d s 161 = [s] from by simp [writesC, atomW] <;> decide]
        clear hat
        go_enter Tryd.func7, Tryd.ntmps7
        go_wp2_with (first | (go_at_call 22; refine (hmay _).mono ?_; rintro e w1 ⟨rfl, h1⟩; have r1 := box_rule2 h1; clear hmay) | (go_at_call 23; refine (hrows _).mono ?_; rintro e w2 ⟨g, n, cap, rfl, hn0, hn1, hrow, h2⟩; have c0 := head_form hrow; rw [hF] at c0; have r2 := box_rule2 (Out.trans h1 h2); clear hrows))
        go_ret
        exact ⟨_, rfl, own_lit [s] (Out.trans (Out.alloc (Out.refl w) _) (Out.trans h1 h2)) _ _ rfl rfl (by decide)⟩
      · rw [show writesC 6 d s 225 = [s] from by simp [writesC, atomW] <;> decide]
        clear hat
        go_enter Tryd.func7, Tryd.ntmps7
        go_wp2_with (first | (go_at_call 22; refine (hmay _).mono ?_; rintro e w1 ⟨rfl, h1⟩; have r1 := box_rule2 h1; clear hmay) | (go_at_call 23; refine (hrows _).mono ?_; rintro e w2 ⟨g, n, cap, rfl, hn0, hn1, hrow, h2⟩; have c0 := head_form hrow; rw [hF] at c0; have r2 := box_rule2 (Out.trans h1 h2); clear hrows))
        go_ret
        exact ⟨_, rfl, own_lit [s] (Out.trans (Out.alloc (Out.refl w) _) (Out.trans h1 h2)) _ _ rfl rfl (by decide)⟩
      · rw [show writesC 6 d s 241 = [0] from by simp [writesC, atomW] <;> decide]
        clear hat
        go_enter Tryd.func7, Tryd.ntmps7
        go_wp2_with (first | (go_at_call 22; refine (hmay _).mono ?_; rintro e w1 ⟨rfl, h1⟩; have r1 := box_rule2 h1; clear hmay) | (go_at_call 23; refine (hrows _).mono ?_; rintro e w2 ⟨g, n, cap, rfl, hn0, hn1, hrow, h2⟩; have c0 := head_form hrow; rw [hF] at c0; have r2 := box_rule2 (Out.trans h1 h2); clear hrows))
        go_ret
        exact ⟨_, rfl, own_lit [0] (Out.trans (Out.alloc (Out.refl w) _) (Out.trans h1 h2)) _ _ rfl rfl (by decide)⟩
    have b6 : (c == 6) = false := by simpa using h6
    clear h6
    by_cases h9 : c = 9
    · subst h9
      rw [show writesC 9 d s i = upL 0 6 from by simp [writesC]]
      clear hat
      go_enter Tryd.func7, Tryd.ntmps7
      go_wp2_with (first | (go_at_call 22; refine (hmay _).mono ?_; rintro e w1 ⟨rfl, h1⟩; have r1 := box_rule2 h1; clear hmay) | (go_at_call 23; refine (hrows _).mono ?_; rintro e w2 ⟨g, n, cap, rfl, hn0, hn1, hrow, h2⟩; have c0 := head_form hrow; rw [hF] at c0; have r2 := box_rule2 (Out.trans h1 h2); clear hrows) | (go_at_call 24; refine (upTo_any 0 5 6 (by decide) (by decide) (by decide) (by decide) _).mono ?_; rintro e w3 ⟨v, rfl, hv⟩))
      go_ret
      exact ⟨_, rfl, own_up (Out.trans (Out.alloc (Out.refl w) _) (Out.trans h1 h2)) hv⟩
    have b9 : (c == 9) = false := by simpa using h9
    clear h9
    rw [show writesC c d s i = [] from by simp [writesC, b3, b2, b4, b10, b6, b9]]
    clear hat
    go_enter Tryd.func7, Tryd.ntmps7
    go_wp2_with (first | (go_at_call 22; refine (hmay _).mono ?_; rintro e w1 ⟨rfl, h1⟩; have r1 := box_rule2 h1; clear hmay) | (go_at_call 23; refine (hrows _).mono ?_; rintro e w2 ⟨g, n, cap, rfl, hn0, hn1, hrow, h2⟩; have c0 := head_form hrow; rw [hF] at c0; have r2 := box_rule2 (Out.trans h1 h2); clear hrows))
    go_ret
    exact ⟨_, rfl, own_nil (Out.trans (Out.alloc (Out.refl w) _) (Out.trans h1 h2))⟩
  · rw [show writesP o d s f i = [] from by rw [writesP, whole_bad hm]; rfl]
    have hne : (mayP o d s f i != 0) = true := by simpa using hm
    go_enter Tryd.func7, Tryd.ntmps7
    go_wp2_with (first | (go_at_call 22; refine (hmay _).mono ?_; rintro e w1 ⟨rfl, h1⟩; have r1 := box_rule2 h1; clear hmay))
    go_ret
    exact ⟨_, rfl, own_nil (Out.trans (Out.alloc (Out.refl w) _) h1)⟩
end Go.Proofs.YtjlgkcnfdpnlkaaDoor
