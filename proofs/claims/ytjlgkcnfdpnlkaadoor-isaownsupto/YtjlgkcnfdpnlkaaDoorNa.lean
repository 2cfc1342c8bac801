import Derived.Test.YtjlgkcnfdpnlkaaDoorMd
import Derived.Test.YtjlgkcnfdpnlkaaDoorJf
namespace Go.Proofs.YtjlgkcnfdpnlkaaDoor
open Go.RowKit Go.Sort
set_option linter.unusedVariables false
set_option linter.unusedSimpArgs false

theorem own_nil {w w' : World} (h : Out w w') : Own w w' (.slice none 0 0) [] := ⟨World.ownsRow_nil _ _ _ _, h⟩
theorem own_lit {w w1 : World} (l : List Int) (h : Out w w1) (b n : Nat) (hb : b = w1.heap.size) (hn : n = l.length) (hl : n ≤ 1000) : Own w (w1.alloc (.cells (l.map (Value.int .i64)).toArray 3)) (.slice (some ⟨b, 0, none⟩) n n) l := by
  subst hn
  refine ⟨?_, h.alloc _⟩
  have := ownsRow_at w1 w.heap.size 3 1 (l.map (Value.int .i64)).toArray l.length b hb (by rw [hb]; exact h.size) (by simp only [maxLen]; omega) (by simp)
  simpa using this
theorem own_up {w X w' : World} {v : Value} {l : List Int} (h : Out w X) (k : Own X w' v l) : Own w w' v l := by
  refine ⟨⟨k.1.1, ?_⟩, Out.trans h k.2⟩
  rcases k.1.2 with h0 | ⟨g, cap, cur, e, hb, r⟩
  · exact .inl h0
  · exact .inr ⟨g, cap, cur, e, Nat.le_trans h.size hb, r⟩
theorem compact_len (zs : List Int) : (Lib.compact zs).length ≤ zs.length := by
  unfold Lib.compact Lib.compactUpTo
  rw [List.length_map]
  exact Nat.le_trans (List.length_filter_le _ _) (by simp)
def rise2 (d s : Int) : List Int := Lib.compact (sortZ [d, s])
def rise3 (d s : Int) : List Int := Lib.compact (sortZ [0, d, s])
theorem rising2 (b : Nat) (d s : Int) (w : World) (h0 : w.cell? ⟨b, 0, none⟩ = some (.int .i64 d)) (h1 : w.cell? ⟨b, 1, none⟩ = some (.int .i64 s)) : Calls Tryd.prog 37 #[.slice (some ⟨b, 0, none⟩) 2 2] w fun e w' => ∃ v, e = .returned v ∧ Own w w' v (rise2 d s) :=
  rising_any b 2 [d, s] w (by simp) (by simp) (by
    intro j hj
    match j, hj with
    | 0, _ => exact h0
    | 1, _ => exact h1) (by have := compact_len (sortZ [d, s]); rw [sortZ_len] at this; exact this)
theorem rising3 (b : Nat) (d s : Int) (w : World) (h0 : w.cell? ⟨b, 0, none⟩ = some (.int .i64 0)) (h1 : w.cell? ⟨b, 1, none⟩ = some (.int .i64 d)) (h2 : w.cell? ⟨b, 2, none⟩ = some (.int .i64 s)) : Calls Tryd.prog 37 #[.slice (some ⟨b, 0, none⟩) 3 3] w fun e w' => ∃ v, e = .returned v ∧ Own w w' v (rise3 d s) :=
  rising_any b 3 [0, d, s] w (by simp) (by simp) (by
    intro j hj
    match j, hj with
    | 0, _ => exact h0
    | 1, _ => exact h1
    | 2, _ => exact h2) (by have := compact_len (sortZ [0, d, s]); rw [sortZ_len] at this; exact this)
def atomW (s i : Int) : List Int := if i == 241 then [0] else if bits .and .i64 i 1 != 0 then [s] else []
def binL (o d s : Int) : List Int := if hasSrc o then (if movesP o then [s] else rise2 d s) else (if movesP o then [] else [d])
def storeL (o d s : Int) : List Int := if bits .and .i64 o 7 == 3 then rise2 d s else [d]
def atomL (d s i : Int) : List Int := if i == 241 then rise3 d s else rise2 d s
def branchL (o d s : Int) : List Int := if hasSrc o then rise2 d s else [d]
def callL (s i : Int) : List Int := if s == 1 then upL 0 10 else if i == 1 then upL 1 2 else if i == 4 then upL 1 2 else if i == 2 then upL 1 4 else []
theorem atomicWrites_any (o d s f i : Int) (w : World) : Calls Tryd.prog 15 #[.agg #[.int .i64 o, .int .i64 d, .int .i64 s, .int .i64 f, .int .i64 i]] w fun e w' => ∃ v, e = .returned v ∧ Own w w' v (atomW s i) := by
  cases h1 : (i == 241)
  · cases h2 : (bits BinOp.and IntKind.i64 i 1 != 0)
    · rw [show atomW s i = [] from by simp [atomW, h1, h2]]
      go_enter Tryd.func15, Tryd.ntmps15
      go_wp2_with (first | fail)
      go_ret
      exact ⟨_, rfl, own_nil (Out.alloc (Out.refl w) _)⟩
    · rw [show atomW s i = [s] from by simp [atomW, h1, h2]]
      go_enter Tryd.func15, Tryd.ntmps15
      go_wp2_with (first | fail)
      go_ret
      exact ⟨_, rfl, own_lit [s] (Out.alloc (Out.refl w) _) _ _ (by simp) rfl (by decide)⟩
  · rw [show atomW s i = [0] from by simp [atomW, h1]]
    go_enter Tryd.func15, Tryd.ntmps15
    go_wp2_with (first | fail)
    go_ret
    exact ⟨_, rfl, own_lit [0] (Out.alloc (Out.refl w) _) _ _ (by simp) rfl (by decide)⟩
theorem binaryReads_any (o d s f i : Int) (w : World) : Calls Tryd.prog 17 #[.agg #[.int .i64 o, .int .i64 d, .int .i64 s, .int .i64 f, .int .i64 i]] w fun e w' => ∃ v, e = .returned v ∧ Own w w' v (binL o d s) := by
  cases h1 : hasSrc o
  · cases h2 : movesP o
    · rw [show binL o d s = [d] from by simp [binL, h1, h2]]
      go_enter Tryd.func17, Tryd.ntmps17
      go_wp2_with (first | (go_at_call 35; refine (hasSource_any _ _).mono ?_; rintro e w1 ⟨rfl, rfl⟩) | (go_at_call 36; refine (moves_any _ _).mono ?_; rintro e w1 ⟨rfl, rfl⟩))
      go_ret
      exact ⟨_, rfl, own_lit [d] (Out.alloc (Out.refl w) _) _ _ (by simp) rfl (by decide)⟩
    · rw [show binL o d s = [] from by simp [binL, h1, h2]]
      go_enter Tryd.func17, Tryd.ntmps17
      go_wp2_with (first | (go_at_call 35; refine (hasSource_any _ _).mono ?_; rintro e w1 ⟨rfl, rfl⟩) | (go_at_call 36; refine (moves_any _ _).mono ?_; rintro e w1 ⟨rfl, rfl⟩))
      go_ret
      exact ⟨_, rfl, own_nil (Out.alloc (Out.refl w) _)⟩
  · cases h2 : movesP o
    · rw [show binL o d s = rise2 d s from by simp [binL, h1, h2]]
      go_enter Tryd.func17, Tryd.ntmps17
      go_wp2_with (first | (go_at_call 35; refine (hasSource_any _ _).mono ?_; rintro e w1 ⟨rfl, rfl⟩) | (go_at_call 36; refine (moves_any _ _).mono ?_; rintro e w1 ⟨rfl, rfl⟩) | (go_at_call 37; refine (rising2 (w.heap.size + 1) d s _ (cell_new _ _ _ _ _ (by simp)) (cell_new _ _ _ _ _ (by simp))).mono ?_; rintro e w1 ⟨v, rfl, hv⟩))
      go_ret
      exact ⟨_, rfl, own_up (Out.alloc (Out.alloc (Out.refl w) _) _) hv⟩
    · rw [show binL o d s = [s] from by simp [binL, h1, h2]]
      go_enter Tryd.func17, Tryd.ntmps17
      go_wp2_with (first | (go_at_call 35; refine (hasSource_any _ _).mono ?_; rintro e w1 ⟨rfl, rfl⟩) | (go_at_call 36; refine (moves_any _ _).mono ?_; rintro e w1 ⟨rfl, rfl⟩))
      go_ret
      exact ⟨_, rfl, own_lit [s] (Out.alloc (Out.refl w) _) _ _ (by simp) rfl (by decide)⟩
theorem storeReads_any (o d s f i : Int) (w : World) : Calls Tryd.prog 18 #[.agg #[.int .i64 o, .int .i64 d, .int .i64 s, .int .i64 f, .int .i64 i]] w fun e w' => ∃ v, e = .returned v ∧ Own w w' v (storeL o d s) := by
  cases h1 : (bits BinOp.and IntKind.i64 o 7 == 3)
  · rw [show storeL o d s = [d] from by simp [storeL, h1]]
    go_enter Tryd.func18, Tryd.ntmps18
    go_wp2_with (first | fail)
    go_ret
    exact ⟨_, rfl, own_lit [d] (Out.alloc (Out.refl w) _) _ _ (by simp) rfl (by decide)⟩
  · rw [show storeL o d s = rise2 d s from by simp [storeL, h1]]
    go_enter Tryd.func18, Tryd.ntmps18
    go_wp2_with (first | (go_at_call 37; refine (rising2 (w.heap.size + 1) d s _ (cell_new _ _ _ _ _ (by simp)) (cell_new _ _ _ _ _ (by simp))).mono ?_; rintro e w1 ⟨v, rfl, hv⟩))
    go_ret
    exact ⟨_, rfl, own_up (Out.alloc (Out.alloc (Out.refl w) _) _) hv⟩
theorem atomicReads_any (o d s f i : Int) (w : World) : Calls Tryd.prog 19 #[.agg #[.int .i64 o, .int .i64 d, .int .i64 s, .int .i64 f, .int .i64 i]] w fun e w' => ∃ v, e = .returned v ∧ Own w w' v (atomL d s i) := by
  cases h1 : (i == 241)
  · rw [show atomL d s i = rise2 d s from by simp [atomL, h1]]
    go_enter Tryd.func19, Tryd.ntmps19
    go_wp2_with (first | (go_at_call 37; refine (rising2 (w.heap.size + 1) d s _ (cell_new _ _ _ _ _ (by simp)) (cell_new _ _ _ _ _ (by simp))).mono ?_; rintro e w1 ⟨v, rfl, hv⟩))
    go_ret
    exact ⟨_, rfl, own_up (Out.alloc (Out.alloc (Out.refl w) _) _) hv⟩
  · rw [show atomL d s i = rise3 d s from by simp [atomL, h1]]
    go_enter Tryd.func19, Tryd.ntmps19
    go_wp2_with (first | (go_at_call 37; refine (rising3 (w.heap.size + 1) d s _ (cell_new _ _ _ _ _ (by simp)) (cell_new _ _ _ _ _ (by simp)) (cell_new _ _ _ _ _ (by simp))).mono ?_; rintro e w1 ⟨v, rfl, hv⟩))
    go_ret
    exact ⟨_, rfl, own_up (Out.alloc (Out.alloc (Out.refl w) _) _) hv⟩
theorem branchReads_any (o d s f i : Int) (w : World) : Calls Tryd.prog 20 #[.agg #[.int .i64 o, .int .i64 d, .int .i64 s, .int .i64 f, .int .i64 i]] w fun e w' => ∃ v, e = .returned v ∧ Own w w' v (branchL o d s) := by
  cases h1 : hasSrc o
  · rw [show branchL o d s = [d] from by simp [branchL, h1]]
    go_enter Tryd.func20, Tryd.ntmps20
    go_wp2_with (first | (go_at_call 35; refine (hasSource_any _ _).mono ?_; rintro e w1 ⟨rfl, rfl⟩))
    go_ret
    exact ⟨_, rfl, own_lit [d] (Out.alloc (Out.refl w) _) _ _ (by simp) rfl (by decide)⟩
  · rw [show branchL o d s = rise2 d s from by simp [branchL, h1]]
    go_enter Tryd.func20, Tryd.ntmps20
    go_wp2_with (first | (go_at_call 35; refine (hasSource_any _ _).mono ?_; rintro e w1 ⟨rfl, rfl⟩) | (go_at_call 37; refine (rising2 (w.heap.size + 1) d s _ (cell_new _ _ _ _ _ (by simp)) (cell_new _ _ _ _ _ (by simp))).mono ?_; rintro e w1 ⟨v, rfl, hv⟩))
    go_ret
    exact ⟨_, rfl, own_up (Out.alloc (Out.alloc (Out.refl w) _) _) hv⟩
theorem callReads_any (o d s f i : Int) (w : World) : Calls Tryd.prog 21 #[.agg #[.int .i64 o, .int .i64 d, .int .i64 s, .int .i64 f, .int .i64 i]] w fun e w' => ∃ v, e = .returned v ∧ Own w w' v (callL s i) := by
  cases h1 : (s == 1)
  · cases h2 : (i == 1)
    · cases h3 : (i == 4)
      · cases h4 : (i == 2)
        · rw [show callL s i = [] from by simp [callL, h1, h2, h3, h4]]
          go_enter Tryd.func21, Tryd.ntmps21
          go_wp2_with (first | fail)
          go_ret
          exact ⟨_, rfl, own_nil (Out.alloc (Out.refl w) _)⟩
        · rw [show callL s i = upL 1 4 from by simp [callL, h1, h2, h3, h4]]
          go_enter Tryd.func21, Tryd.ntmps21
          go_wp2_with (first | (go_at_call 16; refine (registers_any 1 4 4 (by decide) (by decide) (by decide) (by decide) _).mono ?_; rintro e w1 ⟨v, rfl, hv⟩))
          go_ret
          exact ⟨_, rfl, own_up (Out.alloc (Out.refl w) _) hv⟩
      · rw [show callL s i = upL 1 2 from by simp [callL, h1, h2, h3]]
        go_enter Tryd.func21, Tryd.ntmps21
        go_wp2_with (first | (go_at_call 16; refine (registers_any 1 2 2 (by decide) (by decide) (by decide) (by decide) _).mono ?_; rintro e w1 ⟨v, rfl, hv⟩))
        go_ret
        exact ⟨_, rfl, own_up (Out.alloc (Out.refl w) _) hv⟩
    · rw [show callL s i = upL 1 2 from by simp [callL, h1, h2]]
      go_enter Tryd.func21, Tryd.ntmps21
      go_wp2_with (first | (go_at_call 16; refine (registers_any 1 2 2 (by decide) (by decide) (by decide) (by decide) _).mono ?_; rintro e w1 ⟨v, rfl, hv⟩))
      go_ret
      exact ⟨_, rfl, own_up (Out.alloc (Out.refl w) _) hv⟩
  · rw [show callL s i = upL 0 10 from by simp [callL, h1]]
    go_enter Tryd.func21, Tryd.ntmps21
    go_wp2_with (first | (go_at_call 16; refine (registers_any 0 9 10 (by decide) (by decide) (by decide) (by decide) _).mono ?_; rintro e w1 ⟨v, rfl, hv⟩))
    go_ret
    exact ⟨_, rfl, own_up (Out.alloc (Out.refl w) _) hv⟩
end Go.Proofs.YtjlgkcnfdpnlkaaDoor
