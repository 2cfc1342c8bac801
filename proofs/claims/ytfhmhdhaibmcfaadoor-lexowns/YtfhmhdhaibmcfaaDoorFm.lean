import Derived.Test.YtfhmhdhaibmcfaaDoorFd
namespace Go.Proofs.YtfhmhdhaibmcfaaDoor
open Go.RowKit
set_option linter.unusedVariables false
set_option linter.unusedSimpArgs false
theorem refLetter_any (c : Int) (w : World) : Calls Tryd.prog 55 #[.int .u8 c] w fun e w' => e = .returned (.bool (letP c)) ∧ w = w' := by
  go_enter Tryd.func55, Tryd.ntmps55
  go_wp2
  all_goals go_ret
  all_goals (refine ret_bool ?_; rw [Bool.eq_iff_iff]; simp [letP]; omega)
theorem refMark_any (c : Int) (w : World) : Calls Tryd.prog 53 #[.int .u8 c] w fun e w' => e = .returned (.bool (c == 58 || c == 44 || c == 91 || c == 93 || c == 43 || c == 45)) ∧ w = w' := by
  go_enter Tryd.func53, Tryd.ntmps53
  go_wp2
  all_goals go_ret
  all_goals (refine ⟨?_, rfl⟩; simp_all)
theorem refInner_any (c : Int) (w : World) : Calls Tryd.prog 65 #[.int .u8 c] w fun e w' => e = .returned (.bool (runP c)) ∧ w = w' := by
  go_enter Tryd.func65, Tryd.ntmps65
  go_wp2_with (go_at_call 55; refine (refLetter_any c _).mono ?_; rintro e w' ⟨rfl, rfl⟩)
  all_goals go_ret
  all_goals (refine ret_bool ?_; first | (simp_all [runP, digP]; done) | (rw [Bool.eq_iff_iff]; simp_all [runP, digP] <;> omega))
def digR (b c : Int) : Int := if 48 ≤ c ∧ c ≤ 57 then c - 48 else if b = 16 ∧ 97 ≤ c ∧ c ≤ 102 then c - 97 + 10 else if b = 16 ∧ 65 ≤ c ∧ c ≤ 70 then c - 65 + 10 else -1
theorem refDigit_any (c b : Int) (w : World) (h0 : 0 ≤ c) (h1 : c ≤ 255) : Calls Tryd.prog 79 #[.int .u8 c, .int .u64 b] w fun e w' => e = .returned (.int .i64 (digR b c)) ∧ w = w' := by
  go_enter Tryd.func79, Tryd.ntmps79
  go_wp2
  all_goals go_ret
  all_goals (refine ret_int ?_; unfold digR; first | (simp_all; done) | (simp_all; omega) | (repeat' split) <;> first | rfl | omega | simp_all)
end Go.Proofs.YtfhmhdhaibmcfaaDoor
