import Derived.Test.YtjlgkcnfdpnlkaaDoorOc
import Derived.Test.YtjlgkcnfdpnlkaaDoorNd
namespace Go.Proofs.YtjlgkcnfdpnlkaaDoor
open Go.RowKit
set_option linter.unusedVariables false
set_option linter.unusedSimpArgs false
theorem drewN_twice (w : World) (a b : Nat) : (w.drewN a).drewN b = w.drewN (a + b) := by
  simp only [World.drewN, Nat.add_assoc]
theorem same_zero_n (a1 a2 : Option Addr) (c1 c2 : Nat) (w : World) : Calls Tryd.prog 6 #[.slice a1 0 c1, .slice a2 0 c2] w fun e w' => e = .returned (.bool true) ∧ ∃ n, w' = w.drewN n := by
  go_enter Tryd.func6, Tryd.ntmps6
  go_wp2
  refine wp_loop_rounds 1 ?_
  rw [rounds_succ]
  go_wp2
  go_ret
  exact ⟨rfl, 0, rfl⟩
theorem same_some_n (b1 b2 c1 c2 : Nat) (l : List Int) (w : World) (hl : l.length ≤ 9223372036854775807) (h1 : ∀ j, j < l.length → w.cell? ⟨b1, j, none⟩ = some (.int .i64 (l.getD j 0))) (h2 : ∀ j, j < l.length → w.cell? ⟨b2, j, none⟩ = some (.int .i64 (l.getD j 0))) :
    Calls Tryd.prog 6 #[.slice (some ⟨b1, 0, none⟩) l.length c1, .slice (some ⟨b2, 0, none⟩) l.length c2] w fun e w' => e = .returned (.bool true) ∧ ∃ n, w' = w.drewN n := by
  go_enter Tryd.func6, Tryd.ntmps6
  go_wp2
  go_loopw [5] (fun i wr => ∃ k : Nat, k ≤ l.length ∧ i = .int .i64 k ∧ ∃ n, wr = w.drewN n) (fun i _ => l.length - (intOf i).toNat)
  case atStart => exact ⟨0, by omega, rfl, 0, rfl⟩
  case round =>
    obtain ⟨k, hk, rfl, m, rfl⟩ := hrel
    by_cases hkl : k < l.length
    · have q1 : (w.drewN m).cell? ⟨b1, k, none⟩ = some (.int .i64 (l.getD k 0)) := h1 k hkl
      have q2 : (w.drewN m).cell? ⟨b2, k, none⟩ = some (.int .i64 (l.getD k 0)) := h2 k hkl
      clear h1 h2
      generalize l.getD k 0 = z at q1 q2
      have hz : (z != z) = false := by simp
      generalize hwm : w.drewN m = wm at *
      go_wp2
      go_quiet (fail)
      go_wp2
      go_roundw
      case rel => exact ⟨k + 1, by omega, by simp, by subst hwm; first | exact ⟨_, rfl⟩ | exact ⟨_, (drewN_twice _ _ _)⟩⟩
      case measure => simp [intOf]; omega
    · obtain rfl : k = l.length := by omega
      go_wp2
      go_ret
      exact ⟨rfl, _, rfl⟩
theorem same_n {v1 v2 : Value} {l : List Int} {w : World} (hl : l.length ≤ 9223372036854775807) (h1 : NumsAt w v1 l) (h2 : NumsAt w v2 l) : Calls Tryd.prog 6 #[v1, v2] w fun e w' => e = .returned (.bool true) ∧ ∃ n, w' = w.drewN n := by
  rcases h1 with ⟨rfl, rfl⟩ | ⟨b1, c1, rfl, h1⟩
  · rcases h2 with ⟨_, rfl⟩ | ⟨b2, c2, rfl, h2⟩
    · exact same_zero_n _ _ _ _ w
    · exact same_zero_n _ _ _ _ w
  · rcases h2 with ⟨rfl, rfl⟩ | ⟨b2, c2, rfl, h2⟩
    · exact same_zero_n _ _ _ _ w
    · exact same_some_n b1 b2 c1 c2 l w hl h1 h2
end Go.Proofs.YtjlgkcnfdpnlkaaDoor
