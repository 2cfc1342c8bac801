import Derived.Test.YteelicelpkjmhaaGreatDoorProg
import Derived.WalkKit
import Derived.Deep.QuietTactic
import Derived.BigQuiet
namespace Go.Proofs.YteelicelpkjmhaaGreatDoor
open Go.RowKit
set_option linter.unusedVariables false
set_option linter.unusedSimpArgs false
theorem hidOf {p : Prop} (h : p) : Hid p := h
theorem ret_bool {w : World} {a b : Bool} (h : a = b) : Ending.returned (Value.bool a) = Ending.returned (Value.bool b) ∧ w = w := ⟨by rw [h], rfl⟩
/-- bytes by their kinds -/
def letP (c : Int) : Bool := decide (97 ≤ c) && decide (c ≤ 122) || decide (65 ≤ c) && decide (c ≤ 90) || c == 95
def digP (c : Int) : Bool := decide (48 ≤ c) && decide (c ≤ 57)
def runP (c : Int) : Bool := letP c || digP c || c == 46 || c == 36
def hexP (c : Int) : Bool := digP c || decide (97 ≤ c) && decide (c ≤ 102) || decide (65 ≤ c) && decide (c ≤ 70)
theorem letter_any (c : Int) (w : World) : Calls Tryz.prog 110 #[.int .u8 c] w fun e w' => e = .returned (.bool (letP c)) ∧ w = w' := by
  go_enter Tryz.func110, Tryz.ntmps110
  go_wp2
  all_goals (go_ret; refine ret_bool ?_; unfold letP; rw [Bool.eq_iff_iff]; simp; omega)
theorem digit_any (c : Int) (w : World) : Calls Tryz.prog 111 #[.int .u8 c] w fun e w' => e = .returned (.bool (digP c)) ∧ w = w' := by
  go_enter Tryz.func111, Tryz.ntmps111
  go_wp2
  all_goals (go_ret; refine ret_bool ?_; unfold digP; rw [Bool.eq_iff_iff]; simp; omega)
theorem inRun_any (c : Int) (w : World) : Calls Tryz.prog 112 #[.int .u8 c] w fun e w' => e = .returned (.bool (runP c)) ∧ w = w' := by
  cases h1 : letP c <;> cases h2 : digP c <;> (
    go_enter Tryz.func112, Tryz.ntmps112
    go_wp2_with (first | (go_at_call 110; refine (letter_any _ _).mono ?_; rw [h1]; rintro e w1 ⟨rfl, rfl⟩) | (go_at_call 111; refine (digit_any _ _).mono ?_; rw [h2]; rintro e w2 ⟨rfl, rfl⟩))
    all_goals (go_ret; refine ret_bool ?_; unfold runP; first | (simp [h1, h2]; done) | (simp [h1, h2]; omega)))
theorem hexDigit_any (c : Int) (w : World) : Calls Tryz.prog 176 #[.int .u8 c] w fun e w' => e = .returned (.bool (hexP c)) ∧ w = w' := by
  cases h2 : digP c <;> (
    go_enter Tryz.func176, Tryz.ntmps176
    go_wp2_with (go_at_call 111; refine (digit_any _ _).mono ?_; rw [h2]; rintro e w2 ⟨rfl, rfl⟩)
    all_goals (go_ret; refine ret_bool ?_; unfold hexP; rw [h2, Bool.eq_iff_iff]; simp; try omega))
theorem refLetter_any (c : Int) (w : World) : Calls Tryz.prog 51 #[.int .u8 c] w fun e w' => e = .returned (.bool (letP c)) ∧ w = w' := by
  go_enter Tryz.func51, Tryz.ntmps51
  go_wp2
  all_goals (go_ret; refine ret_bool ?_; unfold letP; rw [Bool.eq_iff_iff]; simp; omega)
theorem refDigit_any (c : Int) (w : World) : Calls Tryz.prog 90 #[.int .u8 c] w fun e w' => e = .returned (.bool (digP c)) ∧ w = w' := by
  go_enter Tryz.func90, Tryz.ntmps90
  go_wp2
  all_goals (go_ret; refine ret_bool ?_; unfold digP; rw [Bool.eq_iff_iff]; simp; omega)
theorem refInner_any (c : Int) (w : World) : Calls Tryz.prog 52 #[.int .u8 c] w fun e w' => e = .returned (.bool (runP c)) ∧ w = w' := by
  cases h1 : letP c <;> cases h2 : digP c <;> (
    go_enter Tryz.func52, Tryz.ntmps52
    go_wp2_with (first | (go_at_call 51; refine (refLetter_any _ _).mono ?_; rw [h1]; rintro e w1 ⟨rfl, rfl⟩) | (go_at_call 90; refine (refDigit_any _ _).mono ?_; rw [h2]; rintro e w2 ⟨rfl, rfl⟩))
    all_goals (go_ret; refine ret_bool ?_; unfold runP; first | (simp [h1, h2]; done) | (simp [h1, h2]; omega)))
end Go.Proofs.YteelicelpkjmhaaGreatDoor
