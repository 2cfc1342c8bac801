import Derived.Test.YtjlgkcnfdpnlkaaDoorOf
import Derived.Deep.RegionHeld3
namespace Go.Proofs.YtjlgkcnfdpnlkaaDoor
open Go.RowKit
set_option linter.unusedVariables false
set_option linter.unusedSimpArgs false
theorem NumsAt.drew {w : World} {v : Value} {l : List Int} (h : NumsAt w v l) : NumsAt w.drew v l := h
theorem books_untouched1 (w : World) (p : Nat) (c0 c1 ma ka wa : Value) (g1 g2 n cc1 cc2 : Nat) (hn : n ≤ 1000000000) (hst : StAt w p #[c0, c1, .bool false, .slice (some ⟨g1, 0, none⟩) n cc1, .slice (some ⟨g2, 0, none⟩) n cc2, ma, ka, wa]) (hal : Alike2 w n g1 g2) :
    Calls Tryd.prog 30 #[.pointer (some ⟨p, 0, none⟩)] w fun e w' => (∃ r, e = .returned r) ∧ ∃ m, w' = w.drewN m := by
  have HA := show Hid _ from hal
  clear hal
  go_enter Tryd.func30, Tryd.ntmps30
  go_wp2
  go_loopw [2] (fun i wr => ∃ k : Nat, k ≤ n ∧ i = .int .i64 k ∧ ∃ m, wr = w.drewN m) (fun i _ => n - (intOf i).toNat)
  case atStart => exact ⟨0, by omega, rfl, 0, rfl⟩
  case round =>
    obtain ⟨k, hk, rfl, m, rfl⟩ := hrel
    have hs : StAt (w.drewN m) p _ := hst
    have hc2 : (w.drewN m).cell? ⟨p, 2, none⟩ = some (.bool false) := hst.cell 2
    have hf2 : (w.drewN m).frozen? ⟨p, 2, none⟩ = false := hst.frozen 2
    have hc3 : (w.drewN m).cell? ⟨p, 3, none⟩ = some (.slice (some ⟨g1, 0, none⟩) n cc1) := hst.cell 3
    have hc4 : (w.drewN m).cell? ⟨p, 4, none⟩ = some (.slice (some ⟨g2, 0, none⟩) n cc2) := hst.cell 4
    have hxx : k < n → ∃ x y l, (w.drewN m).cell? ⟨g1, k, none⟩ = some x ∧ (w.drewN m).cell? ⟨g2, k, none⟩ = some y ∧ NumsAt (w.drewN m) x l ∧ NumsAt (w.drewN m) y l ∧ l.length ≤ 9223372036854775807 := HA.out k
    have hself : ∀ q, ((w.drewN m).drewN q).setCell ⟨p, 2, none⟩ (.bool false) = (w.drewN m).drewN q := fun q => StAt.self (w := (w.drewN m).drewN q) hst rfl
    have HS := show Hid _ from hself
    have HT := show Hid _ from hs
    clear hself hs
    generalize hwm : w.drewN m = wm at *
    by_cases hkn : k < n
    · obtain ⟨x, y, l, q1, q2, n1, n2, hl⟩ := hxx hkn
      clear hxx
      go_upto_region 3 with fail
      go_region_held3 (fun w' => w'.cell? ⟨p, 2, none⟩ = some (.bool false) ∧ w'.cell? ⟨p, 3, none⟩ = some (.slice (some ⟨g1, 0, none⟩) n cc1) ∧ w'.cell? ⟨p, 4, none⟩ = some (.slice (some ⟨g2, 0, none⟩) n cc2) ∧ w'.cell? ⟨g1, k, none⟩ = some x ∧ w'.cell? ⟨g2, k, none⟩ = some y ∧ w'.frozen? ⟨p, 2, none⟩ = false) (first | (rw [HS.out]; go_keep) | (simp only [HS.out]; go_keep) | go_keep)
        (first | (go_at_call 6; refine (same_n hl ?_ ?_).mono ?_; (exact n1); (exact n2); rintro e w' ⟨rfl, q, rfl⟩))
      all_goals go_wp2
      all_goals go_roundw
      case rel => exact ⟨k + 1, by omega, by simp, by rw [HS.out]; subst hwm; exact ⟨_, (drewN_twice _ _ _)⟩⟩
      case measure => simp [intOf]; omega
    · obtain rfl : k = n := by omega
      clear hxx
      go_wp2
      go_end0
      exact ⟨⟨_, rfl⟩, _, hwm.symm⟩
end Go.Proofs.YtjlgkcnfdpnlkaaDoor
