import Derived.Test.YtnbcenmckeplbaaDoorLg
import Derived.Test.YtnbcenmckeplbaaDoorLh
import Derived.Test.YtnbcenmckeplbaaDoorCm
namespace Go.Proofs.YtnbcenmckeplbaaDoor
open Go.RowKit
set_option linter.unusedVariables false
set_option linter.unusedSimpArgs false
theorem num_any (n : Int) (w : World) : Calls Tryd.prog 11 #[.int .i64 n] w fun e w' => e = .returned (.int .i64 n) ∧ w = w' := by
  go_enter Tryd.func11, Tryd.ntmps11
  go_wp2
  go_ret
  exact ⟨rfl, rfl⟩
theorem refMay_same (o d s f i : Int) (w : World) : Calls Tryd.prog 9 #[.agg #[.int .i64 o, .int .i64 d, .int .i64 s, .int .i64 f, .int .i64 i]] w fun e w' => e = .returned (.int .i64 (mayP o d s f i)) ∧ Out w w' := by
  rw [may_same]; exact refMay_any o d s f i w
theorem isaMay_walk (a : Option Addr) (len cap : Nat) (w : World) (hi : IsInsns w a len) (hlen : len ≤ maxLen) (hA : TabA w) (hO : TabO w) : Calls Tryd.prog 3 #[.slice a len cap] w fun e w' => e = .returned (.bool true) ∧ Out w w' := by
  have hm : (len : Int) ≤ 9223372036854775807 := by simp only [maxLen] at hlen; omega
  go_enter Tryd.func3, Tryd.ntmps3
  go_wp2
  go_loopw [3] (fun j wr => ∃ k : Nat, k ≤ len ∧ j = .int .i64 k ∧ Out w wr) (fun j _ => len - (intOf j).toNat)
  case atStart => exact ⟨0, by omega, rfl, Out.refl _⟩
  case round =>
    obtain ⟨k, hk, rfl, hor⟩ := hrel
    by_cases hkl : k < len
    · rcases hi with hz | ⟨b, off, rfl, hc⟩
      · omega
      obtain ⟨A, B, C, D, E, c0, c1, c2, c3, c4⟩ := hc k hkl
      have q0 := cell_later hor c0
      have q1 := cell_later hor c1
      have q2 := cell_later hor c2
      have q3 := cell_later hor c3
      have q4 := cell_later hor c4
      clear hc c0 c1 c2 c3 c4
      go_wp2_with (first | (go_at_call 9; refine (refMay_same _ _ _ _ _ _).mono ?_; rintro e w1 ⟨rfl, h1⟩; have p0 := cell_later h1 q0; have p1 := cell_later h1 q1; have p2 := cell_later h1 q2; have p3 := cell_later h1 q3; have p4 := cell_later h1 q4) | (go_at_call 10; refine (may_lit _ (by exact hA.out (Out.trans hor h1)) (by exact hO.out (Out.trans hor h1)) _ _ _ _ _).mono ?_; rintro e w2 ⟨rfl, h2⟩) | (go_at_call 11; refine (num_any _ _).mono ?_; rintro e w3 ⟨rfl, rfl⟩))
      exact ⟨⟨k + 1, by omega, by simp, Out.trans hor (Out.trans h1 h2)⟩, by simp [intOf]; omega⟩
    · obtain rfl : k = len := by omega
      go_wp2_with (go_at_call 12; refine (awake_any _ (hA.out hor) (hO.out hor)).mono ?_; rintro e w1 ⟨rfl, h1⟩)
      go_ret
      exact ⟨rfl, Out.trans hor h1⟩
end Go.Proofs.YtnbcenmckeplbaaDoor
