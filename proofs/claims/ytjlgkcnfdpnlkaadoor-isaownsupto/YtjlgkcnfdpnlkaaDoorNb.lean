import Derived.Test.YtjlgkcnfdpnlkaaDoorNa
namespace Go.Proofs.YtjlgkcnfdpnlkaaDoor
open Go.RowKit Go.Sort
set_option linter.unusedVariables false
set_option linter.unusedSimpArgs false

def writesC (c d s i : Int) : List Int := if c == 3 then [d] else if c == 2 then [d] else if c == 4 then [d] else if c == 10 then [d] else if c == 6 then atomW s i else if c == 9 then upL 0 6 else []
def readsC (c o d s i : Int) : List Int := if c == 3 then binL o d s else if c == 2 then [d] else if c == 4 then [s] else if c == 5 then storeL o d s else if c == 6 then atomL d s i else if c == 8 then branchL o d s else if c == 9 then callL s i else if c == 1 then [0] else []
def jumpsC (c s : Int) : Int := if c == 7 then 1 else if c == 8 then 2 else if c == 9 then (if s == 1 then 3 else 0) else if c == 1 then 4 else 0
def writesP (o d s f i : Int) : List Int := writesC (wholeP o d s f i) d s i
def readsP (o d s f i : Int) : List Int := readsC (wholeP o d s f i) o d s i
def jumpsP (o d s f i : Int) : Int := jumpsC (wholeP o d s f i) s
theorem writes_any (o d s f i : Int) (w : World) (hA : TabA w) (hO : TabO w) : Calls Tryd.prog 4 #[.agg #[.int .i64 o, .int .i64 d, .int .i64 s, .int .i64 f, .int .i64 i]] w fun e w' => ∃ v, e = .returned v ∧ Own w w' v (writesP o d s f i) := by
  unfold writesP
  have hw := fun w a b => whole_lit w a b o d s f i
  generalize wholeP o d s f i = c at *
  by_cases h3 : c = 3
  · subst h3
    rw [show writesC 3 d s i = [d] from by simp [writesC]]
    go_enter Tryd.func4, Tryd.ntmps4
    go_wp2_with (first | (go_at_call 14; refine (hw _ (hA.alloc _) (hO.alloc _)).mono ?_; rintro e w1 ⟨rfl, hout⟩; have hcs := hout.cells))
    go_ret
    exact ⟨_, rfl, own_lit [d] (Out.trans (Out.alloc (Out.refl w) _) hout) _ _ rfl rfl (by decide)⟩
  have b3 : (c == 3) = false := by simpa using h3
  clear h3
  by_cases h2 : c = 2
  · subst h2
    rw [show writesC 2 d s i = [d] from by simp [writesC]]
    go_enter Tryd.func4, Tryd.ntmps4
    go_wp2_with (first | (go_at_call 14; refine (hw _ (hA.alloc _) (hO.alloc _)).mono ?_; rintro e w1 ⟨rfl, hout⟩; have hcs := hout.cells))
    go_ret
    exact ⟨_, rfl, own_lit [d] (Out.trans (Out.alloc (Out.refl w) _) hout) _ _ rfl rfl (by decide)⟩
  have b2 : (c == 2) = false := by simpa using h2
  clear h2
  by_cases h4 : c = 4
  · subst h4
    rw [show writesC 4 d s i = [d] from by simp [writesC]]
    go_enter Tryd.func4, Tryd.ntmps4
    go_wp2_with (first | (go_at_call 14; refine (hw _ (hA.alloc _) (hO.alloc _)).mono ?_; rintro e w1 ⟨rfl, hout⟩; have hcs := hout.cells))
    go_ret
    exact ⟨_, rfl, own_lit [d] (Out.trans (Out.alloc (Out.refl w) _) hout) _ _ rfl rfl (by decide)⟩
  have b4 : (c == 4) = false := by simpa using h4
  clear h4
  by_cases h10 : c = 10
  · subst h10
    rw [show writesC 10 d s i = [d] from by simp [writesC]]
    go_enter Tryd.func4, Tryd.ntmps4
    go_wp2_with (first | (go_at_call 14; refine (hw _ (hA.alloc _) (hO.alloc _)).mono ?_; rintro e w1 ⟨rfl, hout⟩; have hcs := hout.cells))
    go_ret
    exact ⟨_, rfl, own_lit [d] (Out.trans (Out.alloc (Out.refl w) _) hout) _ _ rfl rfl (by decide)⟩
  have b10 : (c == 10) = false := by simpa using h10
  clear h10
  by_cases h6 : c = 6
  · subst h6
    rw [show writesC 6 d s i = atomW s i from by simp [writesC]]
    go_enter Tryd.func4, Tryd.ntmps4
    go_wp2_with (first | (go_at_call 14; refine (hw _ (hA.alloc _) (hO.alloc _)).mono ?_; rintro e w1 ⟨rfl, hout⟩; have hcs := hout.cells) | (go_at_call 15; refine (atomicWrites_any _ _ _ _ _ _).mono ?_; rintro e w2 ⟨v, rfl, hv⟩))
    go_ret
    exact ⟨_, rfl, own_up (Out.trans (Out.alloc (Out.refl w) _) hout) hv⟩
  have b6 : (c == 6) = false := by simpa using h6
  clear h6
  by_cases h9 : c = 9
  · subst h9
    rw [show writesC 9 d s i = upL 0 6 from by simp [writesC]]
    go_enter Tryd.func4, Tryd.ntmps4
    go_wp2_with (first | (go_at_call 14; refine (hw _ (hA.alloc _) (hO.alloc _)).mono ?_; rintro e w1 ⟨rfl, hout⟩; have hcs := hout.cells) | (go_at_call 16; refine (registers_any 0 5 6 (by decide) (by decide) (by decide) (by decide) _).mono ?_; rintro e w2 ⟨v, rfl, hv⟩))
    go_ret
    exact ⟨_, rfl, own_up (Out.trans (Out.alloc (Out.refl w) _) hout) hv⟩
  have b9 : (c == 9) = false := by simpa using h9
  clear h9
  rw [show writesC c d s i = [] from by simp [writesC, b3, b2, b4, b10, b6, b9]]
  go_enter Tryd.func4, Tryd.ntmps4
  go_wp2_with (first | (go_at_call 14; refine (hw _ (hA.alloc _) (hO.alloc _)).mono ?_; rintro e w1 ⟨rfl, hout⟩; have hcs := hout.cells))
  go_ret
  exact ⟨_, rfl, own_nil (Out.trans (Out.alloc (Out.refl w) _) hout)⟩
theorem reads_any (o d s f i : Int) (w : World) (hA : TabA w) (hO : TabO w) : Calls Tryd.prog 5 #[.agg #[.int .i64 o, .int .i64 d, .int .i64 s, .int .i64 f, .int .i64 i]] w fun e w' => ∃ v, e = .returned v ∧ Own w w' v (readsP o d s f i) := by
  unfold readsP
  have hw := fun w a b => whole_lit w a b o d s f i
  generalize wholeP o d s f i = c at *
  by_cases h3 : c = 3
  · subst h3
    rw [show readsC 3 o d s i = binL o d s from by simp [readsC]]
    go_enter Tryd.func5, Tryd.ntmps5
    go_wp2_with (first | (go_at_call 14; refine (hw _ (hA.alloc _) (hO.alloc _)).mono ?_; rintro e w1 ⟨rfl, hout⟩; have hcs := hout.cells) | (go_at_call 17; refine (binaryReads_any _ _ _ _ _ _).mono ?_; rintro e w2 ⟨v, rfl, hv⟩))
    go_ret
    exact ⟨_, rfl, own_up (Out.trans (Out.alloc (Out.refl w) _) hout) hv⟩
  have b3 : (c == 3) = false := by simpa using h3
  clear h3
  by_cases h2 : c = 2
  · subst h2
    rw [show readsC 2 o d s i = [d] from by simp [readsC]]
    go_enter Tryd.func5, Tryd.ntmps5
    go_wp2_with (first | (go_at_call 14; refine (hw _ (hA.alloc _) (hO.alloc _)).mono ?_; rintro e w1 ⟨rfl, hout⟩; have hcs := hout.cells))
    go_ret
    exact ⟨_, rfl, own_lit [d] (Out.trans (Out.alloc (Out.refl w) _) hout) _ _ rfl rfl (by decide)⟩
  have b2 : (c == 2) = false := by simpa using h2
  clear h2
  by_cases h4 : c = 4
  · subst h4
    rw [show readsC 4 o d s i = [s] from by simp [readsC]]
    go_enter Tryd.func5, Tryd.ntmps5
    go_wp2_with (first | (go_at_call 14; refine (hw _ (hA.alloc _) (hO.alloc _)).mono ?_; rintro e w1 ⟨rfl, hout⟩; have hcs := hout.cells))
    go_ret
    exact ⟨_, rfl, own_lit [s] (Out.trans (Out.alloc (Out.refl w) _) hout) _ _ rfl rfl (by decide)⟩
  have b4 : (c == 4) = false := by simpa using h4
  clear h4
  by_cases h5 : c = 5
  · subst h5
    rw [show readsC 5 o d s i = storeL o d s from by simp [readsC]]
    go_enter Tryd.func5, Tryd.ntmps5
    go_wp2_with (first | (go_at_call 14; refine (hw _ (hA.alloc _) (hO.alloc _)).mono ?_; rintro e w1 ⟨rfl, hout⟩; have hcs := hout.cells) | (go_at_call 18; refine (storeReads_any _ _ _ _ _ _).mono ?_; rintro e w2 ⟨v, rfl, hv⟩))
    go_ret
    exact ⟨_, rfl, own_up (Out.trans (Out.alloc (Out.refl w) _) hout) hv⟩
  have b5 : (c == 5) = false := by simpa using h5
  clear h5
  by_cases h6 : c = 6
  · subst h6
    rw [show readsC 6 o d s i = atomL d s i from by simp [readsC]]
    go_enter Tryd.func5, Tryd.ntmps5
    go_wp2_with (first | (go_at_call 14; refine (hw _ (hA.alloc _) (hO.alloc _)).mono ?_; rintro e w1 ⟨rfl, hout⟩; have hcs := hout.cells) | (go_at_call 19; refine (atomicReads_any _ _ _ _ _ _).mono ?_; rintro e w2 ⟨v, rfl, hv⟩))
    go_ret
    exact ⟨_, rfl, own_up (Out.trans (Out.alloc (Out.refl w) _) hout) hv⟩
  have b6 : (c == 6) = false := by simpa using h6
  clear h6
  by_cases h8 : c = 8
  · subst h8
    rw [show readsC 8 o d s i = branchL o d s from by simp [readsC]]
    go_enter Tryd.func5, Tryd.ntmps5
    go_wp2_with (first | (go_at_call 14; refine (hw _ (hA.alloc _) (hO.alloc _)).mono ?_; rintro e w1 ⟨rfl, hout⟩; have hcs := hout.cells) | (go_at_call 20; refine (branchReads_any _ _ _ _ _ _).mono ?_; rintro e w2 ⟨v, rfl, hv⟩))
    go_ret
    exact ⟨_, rfl, own_up (Out.trans (Out.alloc (Out.refl w) _) hout) hv⟩
  have b8 : (c == 8) = false := by simpa using h8
  clear h8
  by_cases h9 : c = 9
  · subst h9
    rw [show readsC 9 o d s i = callL s i from by simp [readsC]]
    go_enter Tryd.func5, Tryd.ntmps5
    go_wp2_with (first | (go_at_call 14; refine (hw _ (hA.alloc _) (hO.alloc _)).mono ?_; rintro e w1 ⟨rfl, hout⟩; have hcs := hout.cells) | (go_at_call 21; refine (callReads_any _ _ _ _ _ _).mono ?_; rintro e w2 ⟨v, rfl, hv⟩))
    go_ret
    exact ⟨_, rfl, own_up (Out.trans (Out.alloc (Out.refl w) _) hout) hv⟩
  have b9 : (c == 9) = false := by simpa using h9
  clear h9
  by_cases h1 : c = 1
  · subst h1
    rw [show readsC 1 o d s i = [0] from by simp [readsC]]
    go_enter Tryd.func5, Tryd.ntmps5
    go_wp2_with (first | (go_at_call 14; refine (hw _ (hA.alloc _) (hO.alloc _)).mono ?_; rintro e w1 ⟨rfl, hout⟩; have hcs := hout.cells))
    go_ret
    exact ⟨_, rfl, own_lit [0] (Out.trans (Out.alloc (Out.refl w) _) hout) _ _ rfl rfl (by decide)⟩
  have b1 : (c == 1) = false := by simpa using h1
  clear h1
  rw [show readsC c o d s i = [] from by simp [readsC, b3, b2, b4, b5, b6, b8, b9, b1]]
  go_enter Tryd.func5, Tryd.ntmps5
  go_wp2_with (first | (go_at_call 14; refine (hw _ (hA.alloc _) (hO.alloc _)).mono ?_; rintro e w1 ⟨rfl, hout⟩; have hcs := hout.cells))
  go_ret
  exact ⟨_, rfl, own_nil (Out.trans (Out.alloc (Out.refl w) _) hout)⟩
end Go.Proofs.YtjlgkcnfdpnlkaaDoor
