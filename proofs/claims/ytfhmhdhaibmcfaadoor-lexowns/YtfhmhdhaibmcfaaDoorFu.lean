import Derived.Test.YtfhmhdhaibmcfaaDoorFt
namespace Go.Proofs.YtfhmhdhaibmcfaaDoor
open Go.RowKit
set_option linter.unusedVariables false
set_option linter.unusedSimpArgs false
set_option maxHeartbeats 800000 in
theorem sameTokens_any (w : World) (a1 a2 : Option Addr) (c1 c2 : Nat) (S : List Tk) (h1 : TksAt w a1 S) (h2 : TksAt w a2 S) (hl : S.length ≤ 4611686018427387904) :
    Calls Tryd.prog 16 #[.slice a1 S.length c1, .slice a2 S.length c2] w fun e w' => e = .returned (.bool true) ∧ Out w w' := by
  have H1 := hidOf h1
  have H2 := hidOf h2
  clear h1 h2
  go_enter Tryd.func16, Tryd.ntmps16
  go_wp2
  go_loopw [5] (fun kv wr => ∃ k : Nat, kv = .int .i64 k ∧ k ≤ S.length ∧ Hid (Out w wr)) (fun kv _ => S.length - (intOf kv).toNat)
  case atStart => exact ⟨0, rfl, by omega, hidOf (Out.refl w)⟩
  case round =>
    obtain ⟨k, rfl, hk, HO⟩ := hrel
    by_cases hlt : k < S.length
    · have hltI : (k : Int) < S.length := by omega
      obtain ⟨x, hx⟩ : ∃ x, S[k]? = some x := ⟨_, List.getElem?_eq_getElem hlt⟩
      obtain ⟨b1, o1, rfl, hc1⟩ := H1.out.at (fun h => by rw [h] at hlt; simp at hlt)
      obtain ⟨b2, o2, rfl, hc2⟩ := H2.out.at (fun h => by rw [h] at hlt; simp at hlt)
      obtain ⟨q0, q1, q2, q3⟩ := hc1 k x hx
      obtain ⟨p0, p1, p2, p3⟩ := hc2 k x hx
      obtain ⟨xk, xt, xn, xl⟩ := x
      simp only at q0 q1 q2 q3 p0 p1 p2 p3
      have q0 := cell_later HO.out q0
      have q1 := cell_later HO.out q1
      have q2 := cell_later HO.out q2
      have q3 := cell_later HO.out q3
      have p0 := cell_later HO.out p0
      have p1 := cell_later HO.out p1
      have p2 := cell_later HO.out p2
      have p3 := cell_later HO.out p3
      clear hc1 hc2 hx
      go_upto_region 6 with fail
      go_quiet (fail)
      go_wp2
      go_roundw
      case rel => exact ⟨k + 1, by simp, by omega, hidOf (HO.out.drewN nq)⟩
      case measure => simp [intOf]; omega
    · have hltI : ¬ (k : Int) < S.length := by omega
      go_wp2
      go_ret
      exact ⟨rfl, HO.out⟩
end Go.Proofs.YtfhmhdhaibmcfaaDoor
