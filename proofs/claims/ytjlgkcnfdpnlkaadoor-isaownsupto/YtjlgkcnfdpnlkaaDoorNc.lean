import Derived.Test.YtjlgkcnfdpnlkaaDoorNb
import Derived.Test.YtjlgkcnfdpnlkaaDoorLMay
namespace Go.Proofs.YtjlgkcnfdpnlkaaDoor
open Go.RowKit Go.Sort
set_option linter.unusedVariables false
set_option linter.unusedSimpArgs false
set_option maxRecDepth 20000

theorem called_any (o d s f i : Int) (w : World) : Calls Tryd.prog 25 #[.agg #[.int .i64 o, .int .i64 d, .int .i64 s, .int .i64 f, .int .i64 i]] w fun e w' => ∃ v, e = .returned v ∧ Own w w' v (callL s i) := by
  cases h1 : (s == 1)
  · cases h2 : (i == 1)
    · cases h3 : (i == 4)
      · cases h4 : (i == 2)
        · rw [show callL s i = [] from by simp [callL, h1, h2, h3, h4]]
          go_enter Tryd.func25, Tryd.ntmps25
          go_wp2_with (first | fail)
          go_ret
          exact ⟨_, rfl, own_nil (Out.alloc (Out.refl w) _)⟩
        · rw [show callL s i = upL 1 4 from by simp [callL, h1, h2, h3, h4]]
          go_enter Tryd.func25, Tryd.ntmps25
          go_wp2_with (first | (go_at_call 24; refine (upTo_any 1 4 4 (by decide) (by decide) (by decide) (by decide) _).mono ?_; rintro e w1 ⟨v, rfl, hv⟩))
          go_ret
          exact ⟨_, rfl, own_up (Out.alloc (Out.refl w) _) hv⟩
      · rw [show callL s i = upL 1 2 from by simp [callL, h1, h2, h3]]
        go_enter Tryd.func25, Tryd.ntmps25
        go_wp2_with (first | (go_at_call 24; refine (upTo_any 1 2 2 (by decide) (by decide) (by decide) (by decide) _).mono ?_; rintro e w1 ⟨v, rfl, hv⟩))
        go_ret
        exact ⟨_, rfl, own_up (Out.alloc (Out.refl w) _) hv⟩
    · rw [show callL s i = upL 1 2 from by simp [callL, h1, h2]]
      go_enter Tryd.func25, Tryd.ntmps25
      go_wp2_with (first | (go_at_call 24; refine (upTo_any 1 2 2 (by decide) (by decide) (by decide) (by decide) _).mono ?_; rintro e w1 ⟨v, rfl, hv⟩))
      go_ret
      exact ⟨_, rfl, own_up (Out.alloc (Out.refl w) _) hv⟩
  · rw [show callL s i = upL 0 10 from by simp [callL, h1]]
    go_enter Tryd.func25, Tryd.ntmps25
    go_wp2_with (first | (go_at_call 24; refine (upTo_any 0 9 10 (by decide) (by decide) (by decide) (by decide) _).mono ?_; rintro e w1 ⟨v, rfl, hv⟩))
    go_ret
    exact ⟨_, rfl, own_up (Out.alloc (Out.refl w) _) hv⟩
def riseUp (m : Nat → Bool) : Nat → List Int
  | 0 => []
  | k + 1 => if m k then riseUp m k ++ [(k : Int)] else riseUp m k
theorem riseUp_len (m : Nat → Bool) : ∀ k, (riseUp m k).length ≤ k
  | 0 => Nat.le_refl _
  | k + 1 => by
    have := riseUp_len m k
    simp only [riseUp]
    split
    · simp; omega
    · omega
def marksC (m : Nat → Bool) : Array Value := #[.bool (m 0), .bool (m 1), .bool (m 2), .bool (m 3), .bool (m 4), .bool (m 5), .bool (m 6), .bool (m 7), .bool (m 8), .bool (m 9), .bool (m 10)]
theorem marks_at (m : Nat → Bool) (k : Nat) (h : k < 11) : (marksC m)[k]? = some (.bool (m k)) := by
  rcases (show k = 0 ∨ k = 1 ∨ k = 2 ∨ k = 3 ∨ k = 4 ∨ k = 5 ∨ k = 6 ∨ k = 7 ∨ k = 8 ∨ k = 9 ∨ k = 10 from by omega) with rfl | rfl | rfl | rfl | rfl | rfl | rfl | rfl | rfl | rfl | rfl <;> rfl
theorem rise_walk (m : Nat → Bool) (w : World) : Calls Tryd.prog 26 #[.agg (marksC m)] w fun e w' => ∃ v, e = .returned v ∧ Own w w' v (riseUp m 11) := by
  obtain ⟨i0, hi, hz0, hz1, hz2⟩ := info_parts info3
  have hcell : ∀ k, k < 11 → (w.alloc (.cells (marksC m) 42)).cell? ⟨w.heap.size, k, none⟩ = some (.bool (m k)) := fun k hk => (cell_new _ _ _ _ _ rfl).trans (marks_at m k hk)
  go_enter Tryd.func26, Tryd.ntmps26
  go_wp2
  go_loopw [3, 4] (fun v j wr => ∃ k : Nat, k ≤ 11 ∧ j = .int .i64 k ∧ wr.ownsRow (w.heap.size + 1) 3 1 v (riseUp m k).length ((riseUp m k).map (Value.int .i64)) ∧ Out (w.alloc (.cells (marksC m) 42)) wr) (fun _ j _ => 11 - (intOf j).toNat)
  case atStart => exact ⟨0, by omega, rfl, World.ownsRow_nil _ _ _ _, Out.refl _⟩
  case round =>
    obtain ⟨k, hk, rfl, hown, hor⟩ := hrel
    by_cases hkl : k < 11
    · have hki : (k : Int) < 11 := by omega
      have hul := riseUp_len m k
      have q := cell_later hor (hcell k hkl)
      clear hcell
      cases hm : m k
      · rw [hm] at q
        have hup : Hid (riseUp m (k + 1) = riseUp m k) := by simp [riseUp, hm, Hid]
        clear hm
        go_wp2
        go_roundw
        case rel => exact ⟨k + 1, by omega, by simp, by rw [hup.out]; exact hown, hor⟩
        case measure => simp [intOf]; omega
      · rw [hm] at q
        have hup : Hid (riseUp m (k + 1) = riseUp m k ++ [(k : Int)]) := by simp [riseUp, hm, Hid]
        clear hm
        go_wp2_with (first | (at_builtin; refine wpList_append_own _ rfl (.tmp 12) (.tmp 14) 25 rfl (w.heap.size + 1) 3 i0 (.int .i64 0) 1 8 Tryd.underlying25 hi hz0 hz1 hz2 rfl (by decide) _ _ _ rfl (hown.alloc _) ⟨wr.heap.size, 0, none⟩ 1 1 [.int .i64 k] rfl rfl (one_new _ _ _) (one_cell _) (by simp only [maxLen]; omega) (by omega) (Nat.le_trans (by rw [← size_alloc]; exact hor.size) (by rw [size_alloc]; omega)) ?_; intro v1 w1 hown1 hgrow1 _))
        have ho1 : Out (w.alloc (.cells (marksC m) 42)) w1 := own_out hor (by rw [size_alloc]; exact hown) hgrow1
        go_roundw
        case rel => exact ⟨k + 1, by omega, by simp, by rw [hup.out, List.length_append, List.map_append]; exact hown1, ho1⟩
        case measure => simp [intOf]; omega
    · obtain rfl : k = 11 := by omega
      go_wp2
      go_ret
      exact ⟨_, rfl, own_up (Out.alloc (Out.refl w) _) ⟨by rw [size_alloc]; exact hown, hor⟩⟩
end Go.Proofs.YtjlgkcnfdpnlkaaDoor
