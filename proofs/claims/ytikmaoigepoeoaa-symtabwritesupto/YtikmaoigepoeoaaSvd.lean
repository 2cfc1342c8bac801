import Derived.Test.YtikmaoigepoeoaaSvc
namespace Go.Proofs.Ytikmaoigepoeoaa
open Go.RowKit
set_option linter.unusedVariables false
set_option linter.unusedSimpArgs false
theorem StAt.self {w : World} {p j : Nat} {cs : Array Value} {u : Value} (h : StAt w p cs) (hj : cs[j]? = some u) : w.setCell ⟨p, j, none⟩ u = w := setCell_self h hj
theorem books_untouched0 (w : World) (p : Nat) (c0 c1 c2 ha ma ka wa : Value) (a1 : Option Addr) (cc1 : Nat) (hst : StAt w p #[c0, c1, c2, .slice a1 0 cc1, ha, ma, ka, wa]) :
    Calls Try.prog 23 #[.pointer (some ⟨p, 0, none⟩)] w fun e w' => (∃ r, e = .returned r) ∧ ∃ m, w' = w.drewN m := by
  have hc3 : w.cell? ⟨p, 3, none⟩ = some (.slice a1 0 cc1) := hst.cell 3
  go_enter Try.func23, Try.ntmps23
  go_wp2
  refine wp_loop_rounds 1 ?_
  rw [rounds_succ]
  go_wp2
  go_end0
  exact ⟨⟨_, rfl⟩, 0, rfl⟩
theorem books_untouched1 (w : World) (p : Nat) (c0 c1 ma ka wa : Value) (g1 g2 n cc1 cc2 : Nat) (hn : n ≤ 2000000000000) (hst : StAt w p #[c0, c1, .bool false, .slice (some ⟨g1, 0, none⟩) n cc1, .slice (some ⟨g2, 0, none⟩) n cc2, ma, ka, wa]) (hal : Alike2 w n g1 g2) :
    Calls Try.prog 23 #[.pointer (some ⟨p, 0, none⟩)] w fun e w' => (∃ r, e = .returned r) ∧ ∃ m, w' = w.drewN m := by
  have HA := hidOf hal
  clear hal
  go_enter Try.func23, Try.ntmps23
  go_wp2
  go_loopw [2] (fun i wr => ∃ k : Nat, k ≤ n ∧ i = .int .i64 k ∧ ∃ m, wr = w.drewN m) (fun i _ => n - (intOf i).toNat)
  case atStart => exact ⟨0, by omega, rfl, 0, rfl⟩
  case round =>
    obtain ⟨k, hk, rfl, m, rfl⟩ := hrel
    have hc2 : (w.drewN m).cell? ⟨p, 2, none⟩ = some (.bool false) := hst.cell 2
    have hf2 : (w.drewN m).frozen? ⟨p, 2, none⟩ = false := hst.frozen 2
    have hc3 : (w.drewN m).cell? ⟨p, 3, none⟩ = some (.slice (some ⟨g1, 0, none⟩) n cc1) := hst.cell 3
    have hc4 : (w.drewN m).cell? ⟨p, 4, none⟩ = some (.slice (some ⟨g2, 0, none⟩) n cc2) := hst.cell 4
    have hxx : k < n → ∃ x y s, (w.drewN m).cell? ⟨g1, k, none⟩ = some x ∧ (w.drewN m).cell? ⟨g2, k, none⟩ = some y ∧ ∀ q, (convert 37 9 x).run Try.prog ((w.drewN m).drewN q) = .ok (.string s) ((w.drewN m).drewN q) ∧ (convert 37 9 y).run Try.prog ((w.drewN m).drewN q) = .ok (.string s) ((w.drewN m).drewN q) := fun hk => by
      obtain ⟨x, y, s, h1, h2, h3⟩ := HA.out k hk
      exact ⟨x, y, s, h1, h2, fun q => by rw [drewN_twice]; exact h3 (m + q)⟩
    have hself : ∀ q, ((w.drewN m).drewN q).setCell ⟨p, 2, none⟩ (.bool false) = (w.drewN m).drewN q := fun q => StAt.self (w := (w.drewN m).drewN q) hst rfl
    have HS := hidOf hself
    have hself0 : (w.drewN m).setCell ⟨p, 2, none⟩ (.bool false) = w.drewN m := StAt.self (w := w.drewN m) hst rfl
    have HS0 := hidOf hself0
    clear hself hself0
    generalize hwm : w.drewN m = wm at *
    by_cases hkn : k < n
    · obtain ⟨x, y, s, q1, q2, hcv⟩ := hxx hkn
      have hv1 := fun q => (hcv q).1
      have hv2 := fun q => (hcv q).2
      have hw1 : (convert 37 9 x).run Try.prog wm.drew = .ok (.string s) wm.drew := hv1 1
      have hw2 : (convert 37 9 y).run Try.prog wm.drew = .ok (.string s) wm.drew := hv2 1
      clear hxx hcv
      have hlt : (k : Int) < n := by omega
      have h0k : (0 : Int) ≤ (k : Int) := by omega
      go_upto_region 3 with fail
      go_region_held3 (fun w' => w'.cell? ⟨p, 2, none⟩ = some (.bool false) ∧ w'.cell? ⟨p, 3, none⟩ = some (.slice (some ⟨g1, 0, none⟩) n cc1) ∧ w'.cell? ⟨p, 4, none⟩ = some (.slice (some ⟨g2, 0, none⟩) n cc2) ∧ w'.cell? ⟨g1, k, none⟩ = some x ∧ w'.cell? ⟨g2, k, none⟩ = some y ∧ w'.frozen? ⟨p, 2, none⟩ = false ∧ (convert 37 9 x).run Try.prog w' = .ok (.string s) w' ∧ (convert 37 9 y).run Try.prog w' = .ok (.string s) w') (first | (rw [HS0.out]; go_keep) | (rw [HS.out]; go_keep) | (simp only [HS.out]; go_keep) | go_keep)
        (fail)
      all_goals go_wp2
      all_goals go_roundw
      case rel =>
        refine ⟨k + 1, by omega, by simp, ?_⟩
        first | rw [HS0.out] | rw [HS.out]
        subst hwm
        first | exact ⟨_, rfl⟩ | exact ⟨_, (drewN_twice _ _ 1)⟩ | exact ⟨_, (drewN_twice _ _ _)⟩
      case measure => simp [intOf]; omega
    · obtain rfl : k = n := by omega
      clear hxx
      go_wp2
      go_end0
      exact ⟨⟨_, rfl⟩, _, hwm.symm⟩
end Go.Proofs.Ytikmaoigepoeoaa
