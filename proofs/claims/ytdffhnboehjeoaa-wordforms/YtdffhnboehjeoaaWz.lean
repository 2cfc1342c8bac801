import Derived.Test.YtdffhnboehjeoaaWy
import Derived.WalkKit
import Derived.WalkLawsBesides
import Derived.Outline
import Derived.LoopTactic
import Derived.Deep.QuietTactic
import Derived.BigQuiet
namespace Go.Proofs.Ytdffhnboehjeoaa
open Go.RowKit
set_option linter.unusedVariables false
set_option linter.unusedSimpArgs false

theorem rSign_any (a width : Int) (w : World) (h0 : 0 ≤ a) (h1 : a < 18446744073709551616) :
    Calls Try.prog 22 #[.int .u64 a, .int .i64 width] w fun e w' => e = .returned (.int .u64 (sgnW width a)) ∧ ∃ n, w' = w.drewN n := by
  obtain ⟨x5, x6, x7, x8⟩ := k_bd width 0
  clear x5 x6
  have e1 := nar_b width a
  by_cases c : bW width < 64
  · have e2 := pw_b c
    cases d : negM (hW width) (narW width a)
    · have HR : Hid (narW width a = sgnW width a) := sgn_ref' d
      go_enter Try.func22, Try.ntmps22
      go_wp2_with (first | (go_at_call 43; refine (Wide_any _ _).mono ?_; rintro e w' ⟨rfl, rfl⟩) | (go_at_call 20; refine (rNarrow_any _ _ _ (by omega) (by omega)).mono ?_; rintro e w' ⟨rfl, n, rfl⟩) | (go_at_call 54; refine (minus_any _ _ _).mono ?_; rintro e w' ⟨rfl, rfl⟩) | (go_at_call 44; refine (power_any _ _ (by omega) (by omega)).mono ?_; rintro e w' ⟨rfl, rfl⟩))
      go_ret
      exact ⟨ret_int HR.out, (by first | exact ⟨_, rfl⟩ | (simp only [drewN_drewN]; exact ⟨_, rfl⟩) | exact ⟨0, rfl⟩)⟩
    · have HR : Hid (IntKind.u64.wrap (narW width a - mW width) = sgnW width a) := sgn_ref c d
      go_enter Try.func22, Try.ntmps22
      go_wp2_with (first | (go_at_call 43; refine (Wide_any _ _).mono ?_; rintro e w' ⟨rfl, rfl⟩) | (go_at_call 20; refine (rNarrow_any _ _ _ (by omega) (by omega)).mono ?_; rintro e w' ⟨rfl, n, rfl⟩) | (go_at_call 54; refine (minus_any _ _ _).mono ?_; rintro e w' ⟨rfl, rfl⟩) | (go_at_call 44; refine (power_any _ _ (by omega) (by omega)).mono ?_; rintro e w' ⟨rfl, rfl⟩))
      go_ret
      exact ⟨ret_int HR.out, (by first | exact ⟨_, rfl⟩ | (simp only [drewN_drewN]; exact ⟨_, rfl⟩) | exact ⟨0, rfl⟩)⟩
  · have HR : Hid (narW width a = sgnW width a) := sgn_ref64 c
    go_enter Try.func22, Try.ntmps22
    go_wp2_with (first | (go_at_call 43; refine (Wide_any _ _).mono ?_; rintro e w' ⟨rfl, rfl⟩) | (go_at_call 20; refine (rNarrow_any _ _ _ (by omega) (by omega)).mono ?_; rintro e w' ⟨rfl, n, rfl⟩) | (go_at_call 54; refine (minus_any _ _ _).mono ?_; rintro e w' ⟨rfl, rfl⟩) | (go_at_call 44; refine (power_any _ _ (by omega) (by omega)).mono ?_; rintro e w' ⟨rfl, rfl⟩))
    go_ret
    exact ⟨ret_int HR.out, (by first | exact ⟨_, rfl⟩ | (simp only [drewN_drewN]; exact ⟨_, rfl⟩) | exact ⟨0, rfl⟩)⟩
theorem size_any (x width : Int) (w : World) (h0 : 0 ≤ x) (h1 : x < 18446744073709551616) (h2 : x < mW width) :
    Calls Try.prog 82 #[.int .u64 x, .int .i64 (bW width)] w fun e w' => e = .returned (.int .u64 (magM (hW width) (mW width) x)) ∧ ∃ n, w' = w.drewN n := by
  have e1 := nar_b width (IntKind.u64.wrap (-x))
  obtain ⟨b1, b2⟩ := wrap_bd (-x)
  cases d : negM (hW width) x
  · have HR : Hid (x = magM (hW width) (mW width) x) := size_ref' h0 h2 d
    go_enter Try.func82, Try.ntmps82
    go_wp2_with (first | (go_at_call 20; refine (rNarrow_any _ _ _ (by omega) (by omega)).mono ?_; rintro e w' ⟨rfl, n, rfl⟩) | (go_at_call 54; refine (minus_any _ _ _).mono ?_; rintro e w' ⟨rfl, rfl⟩))
    go_ret
    exact ⟨ret_int HR.out, (by first | exact ⟨_, rfl⟩ | (simp only [drewN_drewN]; exact ⟨_, rfl⟩) | exact ⟨0, rfl⟩)⟩
  · have HR : Hid (narW width (IntKind.u64.wrap (-x)) = magM (hW width) (mW width) x) := size_ref h0 h2 d
    go_enter Try.func82, Try.ntmps82
    go_wp2_with (first | (go_at_call 20; refine (rNarrow_any _ _ _ (by omega) (by omega)).mono ?_; rintro e w' ⟨rfl, n, rfl⟩) | (go_at_call 54; refine (minus_any _ _ _).mono ?_; rintro e w' ⟨rfl, rfl⟩))
    go_ret
    exact ⟨ret_int HR.out, (by first | exact ⟨_, rfl⟩ | (simp only [drewN_drewN]; exact ⟨_, rfl⟩) | exact ⟨0, rfl⟩)⟩
theorem rDiv_any (a b width : Int) (w : World) (h0 : 0 ≤ a) (h1 : a < 18446744073709551616) (h2 : 0 ≤ b) (h3 : b < 18446744073709551616) :
    Calls Try.prog 30 #[.int .u64 a, .int .u64 b, .int .i64 width] w fun e w' => e = .returned (.int .u64 (divW width a b)) ∧ ∃ n, w' = w.drewN n := by
  obtain ⟨b1, b2⟩ := nar_bd width a
  obtain ⟨b3, b4⟩ := nar_bd width b
  by_cases c : narW width b = 0
  · have hb : (narW width b == 0) = true := beq_iff_eq.2 c
    have HR : Hid (0 = divW width a b) := (div_ref0 a c).1.symm
    clear c
    go_enter Try.func30, Try.ntmps30
    go_wp2_with (first | (go_at_call 20; refine (rNarrow_any _ _ _ (by omega) (by omega)).mono ?_; rintro e w' ⟨rfl, n, rfl⟩) | (go_at_call 73; refine (divide_any _ _ _ (by omega) (by omega) (by omega) (by omega)).mono ?_; rintro e w' ⟨rfl, rfl⟩))
    go_ret
    exact ⟨ret_int HR.out, (by first | exact ⟨_, rfl⟩ | (simp only [drewN_drewN]; exact ⟨_, rfl⟩) | exact ⟨0, rfl⟩)⟩
  · have hb : (narW width b == 0) = false := beq_eq_false_iff_ne.2 c
    have hp : 0 < narW width b := by omega
    have HR : Hid (narW width a / narW width b = divW width a b) := (div_ref a c).1.symm
    clear c
    go_enter Try.func30, Try.ntmps30
    go_wp2_with (first | (go_at_call 20; refine (rNarrow_any _ _ _ (by omega) (by omega)).mono ?_; rintro e w' ⟨rfl, n, rfl⟩) | (go_at_call 73; refine (divide_any _ _ _ (by omega) (by omega) (by omega) (by omega)).mono ?_; rintro e w' ⟨rfl, rfl⟩))
    go_ret
    exact ⟨ret_int HR.out, (by first | exact ⟨_, rfl⟩ | (simp only [drewN_drewN]; exact ⟨_, rfl⟩) | exact ⟨0, rfl⟩)⟩
theorem rMod_any (a b width : Int) (w : World) (h0 : 0 ≤ a) (h1 : a < 18446744073709551616) (h2 : 0 ≤ b) (h3 : b < 18446744073709551616) :
    Calls Try.prog 32 #[.int .u64 a, .int .u64 b, .int .i64 width] w fun e w' => e = .returned (.int .u64 (modW width a b)) ∧ ∃ n, w' = w.drewN n := by
  obtain ⟨b1, b2⟩ := nar_bd width a
  obtain ⟨b3, b4⟩ := nar_bd width b
  by_cases c : narW width b = 0
  · have hb : (narW width b == 0) = true := beq_iff_eq.2 c
    have HR : Hid (narW width a = modW width a b) := (div_ref0 a c).2.symm
    clear c
    go_enter Try.func32, Try.ntmps32
    go_wp2_with (first | (go_at_call 20; refine (rNarrow_any _ _ _ (by omega) (by omega)).mono ?_; rintro e w' ⟨rfl, n, rfl⟩) | (go_at_call 73; refine (divide_any _ _ _ (by omega) (by omega) (by omega) (by omega)).mono ?_; rintro e w' ⟨rfl, rfl⟩))
    go_ret
    exact ⟨ret_int HR.out, (by first | exact ⟨_, rfl⟩ | (simp only [drewN_drewN]; exact ⟨_, rfl⟩) | exact ⟨0, rfl⟩)⟩
  · have hb : (narW width b == 0) = false := beq_eq_false_iff_ne.2 c
    have hp : 0 < narW width b := by omega
    have HR : Hid (narW width a % narW width b = modW width a b) := (div_ref a c).2.symm
    clear c
    go_enter Try.func32, Try.ntmps32
    go_wp2_with (first | (go_at_call 20; refine (rNarrow_any _ _ _ (by omega) (by omega)).mono ?_; rintro e w' ⟨rfl, n, rfl⟩) | (go_at_call 73; refine (divide_any _ _ _ (by omega) (by omega) (by omega) (by omega)).mono ?_; rintro e w' ⟨rfl, rfl⟩))
    go_ret
    exact ⟨ret_int HR.out, (by first | exact ⟨_, rfl⟩ | (simp only [drewN_drewN]; exact ⟨_, rfl⟩) | exact ⟨0, rfl⟩)⟩
theorem rLess_any (a b width : Int) (w : World) (h0 : 0 ≤ a) (h1 : a < 18446744073709551616) (h2 : 0 ≤ b) (h3 : b < 18446744073709551616) :
    Calls Try.prog 26 #[.int .u64 a, .int .u64 b, .int .i64 width] w fun e w' => e = .returned (.bool (lessW width a b)) ∧ ∃ n, w' = w.drewN n := by
  go_enter Try.func26, Try.ntmps26
  go_wp2_with (first | (go_at_call 20; refine (rNarrow_any _ _ _ (by omega) (by omega)).mono ?_; rintro e w' ⟨rfl, n, rfl⟩))
  go_ret
  exact ⟨rfl, (by first | exact ⟨_, rfl⟩ | (simp only [drewN_drewN]; exact ⟨_, rfl⟩) | exact ⟨0, rfl⟩)⟩
theorem rSLess_any (a b width : Int) (w : World) (h0 : 0 ≤ a) (h1 : a < 18446744073709551616) (h2 : 0 ≤ b) (h3 : b < 18446744073709551616) :
    Calls Try.prog 28 #[.int .u64 a, .int .u64 b, .int .i64 width] w fun e w' => e = .returned (.bool (slessW width a b)) ∧ ∃ n, w' = w.drewN n := by
  have e1 := nar_b width a
  have e2 := nar_b width b
  rw [sless_ref]
  cases d1 : negM (hW width) (narW width a) <;> cases d2 : negM (hW width) (narW width b)
  all_goals
    go_enter Try.func28, Try.ntmps28
    go_wp2_with (first | (go_at_call 43; refine (Wide_any _ _).mono ?_; rintro e w' ⟨rfl, rfl⟩) | (go_at_call 20; refine (rNarrow_any _ _ _ (by omega) (by omega)).mono ?_; rintro e w' ⟨rfl, n, rfl⟩) | (go_at_call 54; refine (minus_any _ _ _).mono ?_; rintro e w' ⟨rfl, rfl⟩))
    go_ret
    exact ⟨rfl, (by first | exact ⟨_, rfl⟩ | (simp only [drewN_drewN]; exact ⟨_, rfl⟩) | exact ⟨0, rfl⟩)⟩
end Go.Proofs.Ytdffhnboehjeoaa
