import Derived.Test.YtjlgkcnfdpnlkaaDoorOd
namespace Go.Proofs.YtjlgkcnfdpnlkaaDoor
open Go.RowKit
set_option linter.unusedVariables false
set_option linter.unusedSimpArgs false
theorem NumsAt.drewN {w : World} {v : Value} {l : List Int} (h : NumsAt w v l) (n : Nat) : NumsAt (w.drewN n) v l := h
theorem same_q {v1 v2 : Value} {l : List Int} {w : World} {n : Nat} (hl : l.length ≤ 9223372036854775807) (h1 : NumsAt w v1 l) (h2 : NumsAt w v2 l) : Calls Tryd.prog 6 #[v1, v2] (w.drewN n) fun e w' => e = .returned (.bool true) ∧ ∃ m, w' = w.drewN m :=
  (same_n hl (h1.drewN n) (h2.drewN n)).mono fun e w' ⟨he, m, hm⟩ => ⟨he, n + m, by rw [hm, drewN_twice]⟩
/-- two rows of lists that read alike, place by place -/
def Alike2 (w : World) (n g1 g2 : Nat) : Prop := ∀ j, j < n → ∃ x y l, w.cell? ⟨g1, j, none⟩ = some x ∧ w.cell? ⟨g2, j, none⟩ = some y ∧ NumsAt w x l ∧ NumsAt w y l ∧ l.length ≤ 9223372036854775807
theorem books_same0 (w : World) (p : Nat) (c0 c1 c2 fa ha ma wa : Value) (a1 : Option Addr) (cc1 : Nat) (hst : StAt w p #[c0, c1, c2, fa, ha, ma, .slice a1 0 cc1, wa]) :
    Calls Tryd.prog 31 #[.pointer (some ⟨p, 0, none⟩)] w fun e w' => e = .returned (.bool true) ∧ ∃ m, w' = w.drewN m := by
  have hc6 : w.cell? ⟨p, 6, none⟩ = some (.slice a1 0 cc1) := hst.cell 6
  go_enter Tryd.func31, Tryd.ntmps31
  go_wp2
  refine wp_loop_rounds 1 ?_
  rw [rounds_succ]
  go_wp2
  go_ret
  exact ⟨rfl, 0, rfl⟩
theorem books_same1 (w : World) (p : Nat) (c0 c1 c2 fa ha ma : Value) (g1 g2 n cc1 cc2 : Nat) (hn : n ≤ 1000000000) (hst : StAt w p #[c0, c1, c2, fa, ha, ma, .slice (some ⟨g1, 0, none⟩) n cc1, .slice (some ⟨g2, 0, none⟩) n cc2]) (hal : Alike2 w n g1 g2) :
    Calls Tryd.prog 31 #[.pointer (some ⟨p, 0, none⟩)] w fun e w' => e = .returned (.bool true) ∧ ∃ m, w' = w.drewN m := by
  have HA := show Hid _ from hal
  clear hal
  go_enter Tryd.func31, Tryd.ntmps31
  go_wp2
  go_loopw [3] (fun i wr => ∃ k : Nat, k ≤ n ∧ i = .int .i64 k ∧ ∃ m, wr = w.drewN m) (fun i _ => n - (intOf i).toNat)
  case atStart => exact ⟨0, by omega, rfl, 0, rfl⟩
  case round =>
    obtain ⟨k, hk, rfl, m, rfl⟩ := hrel
    have hc6 : (w.drewN m).cell? ⟨p, 6, none⟩ = some (.slice (some ⟨g1, 0, none⟩) n cc1) := hst.cell 6
    have hc7 : (w.drewN m).cell? ⟨p, 7, none⟩ = some (.slice (some ⟨g2, 0, none⟩) n cc2) := hst.cell 7
    have hxx : k < n → ∃ x y l, (w.drewN m).cell? ⟨g1, k, none⟩ = some x ∧ (w.drewN m).cell? ⟨g2, k, none⟩ = some y ∧ NumsAt (w.drewN m) x l ∧ NumsAt (w.drewN m) y l ∧ l.length ≤ 9223372036854775807 := HA.out k
    generalize hwm : w.drewN m = wm at *
    by_cases hkn : k < n
    · obtain ⟨x, y, l, q1, q2, n1, n2, hl⟩ := hxx hkn
      go_wp2
      go_quiet ((go_at_call 6; exact same_q hl n1 n2))
      go_wp2
      go_roundw
      case rel => exact ⟨k + 1, by omega, by simp, by subst hwm; first | exact ⟨_, rfl⟩ | exact ⟨_, (drewN_twice _ _ _)⟩⟩
      case measure => simp [intOf]; omega
    · obtain rfl : k = n := by omega
      clear hxx
      go_wp2
      go_ret
      exact ⟨rfl, _, hwm.symm⟩
end Go.Proofs.YtjlgkcnfdpnlkaaDoor
