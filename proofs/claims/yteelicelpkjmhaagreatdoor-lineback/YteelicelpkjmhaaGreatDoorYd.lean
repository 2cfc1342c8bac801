import Derived.Test.YteelicelpkjmhaaGreatDoorYc
import Derived.WalkKit
import Derived.WalkLawsBesides
import Derived.Outline
namespace Go.Proofs.YteelicelpkjmhaaGreatDoor.Wo
open Go.RowKit
set_option linter.unusedVariables false
set_option linter.unusedSimpArgs false

theorem pk1_8 (f8 f16 f32 f64 : Value) (w : World) :
    Calls Tryz.prog 179 #[.int .i64 8, f8, f16, f32, f64] w fun e w' => e = .returned f8 ∧ w' = w := by
  go_enter Tryz.func179, Tryz.ntmps179
  go_wp2
  go_ret
  exact ⟨rfl, rfl⟩
theorem pk1_16 (f8 f16 f32 f64 : Value) (w : World) :
    Calls Tryz.prog 179 #[.int .i64 16, f8, f16, f32, f64] w fun e w' => e = .returned f16 ∧ w' = w := by
  go_enter Tryz.func179, Tryz.ntmps179
  go_wp2
  go_ret
  exact ⟨rfl, rfl⟩
theorem pk1_32 (f8 f16 f32 f64 : Value) (w : World) :
    Calls Tryz.prog 179 #[.int .i64 32, f8, f16, f32, f64] w fun e w' => e = .returned f32 ∧ w' = w := by
  go_enter Tryz.func179, Tryz.ntmps179
  go_wp2
  go_ret
  exact ⟨rfl, rfl⟩
theorem pk1_64 (width : Int) (f8 f16 f32 f64 : Value) (w : World) (a : (width == 8) = false) (b : (width == 16) = false) (c : (width == 32) = false) :
    Calls Tryz.prog 179 #[.int .i64 width, f8, f16, f32, f64] w fun e w' => e = .returned f64 ∧ w' = w := by
  go_enter Tryz.func179, Tryz.ntmps179
  go_wp2
  go_ret
  exact ⟨rfl, rfl⟩
theorem Sign_any (a width : Int) (w : World) (h0 : 0 ≤ a) (h1 : a < 18446744073709551616) :
    Calls Tryz.prog 158 #[.int .u64 a, .int .i64 width] w fun e w' => e = .returned (.int .u64 (sgnW width a)) ∧ w' = w := by
  rcases wide_cases width with rfl | rfl | rfl | ⟨n8, n16, n32⟩
  · have hv : sgnW 8 a = sgnM 128 256 (a % 256) := rfl
    rw [hv]
    clear hv
    go_enter Tryz.func158, Tryz.ntmps158
    go_wp2_with (first | (go_at_call 179; refine (pk1_8 _ _ _ _ _).mono ?_; rintro e w' ⟨rfl, rfl⟩) | (go_at_call 180; refine (sgn_8 _ _ (by omega) (by omega)).mono ?_; rintro e w' ⟨rfl, rfl⟩))
    go_ret
    exact ⟨rfl, rfl⟩
  · have hv : sgnW 16 a = sgnM 32768 65536 (a % 65536) := rfl
    rw [hv]
    clear hv
    go_enter Tryz.func158, Tryz.ntmps158
    go_wp2_with (first | (go_at_call 179; refine (pk1_16 _ _ _ _ _).mono ?_; rintro e w' ⟨rfl, rfl⟩) | (go_at_call 181; refine (sgn_16 _ _ (by omega) (by omega)).mono ?_; rintro e w' ⟨rfl, rfl⟩))
    go_ret
    exact ⟨rfl, rfl⟩
  · have hv : sgnW 32 a = sgnM 2147483648 4294967296 (a % 4294967296) := rfl
    rw [hv]
    clear hv
    go_enter Tryz.func158, Tryz.ntmps158
    go_wp2_with (first | (go_at_call 179; refine (pk1_32 _ _ _ _ _).mono ?_; rintro e w' ⟨rfl, rfl⟩) | (go_at_call 182; refine (sgn_32 _ _ (by omega) (by omega)).mono ?_; rintro e w' ⟨rfl, rfl⟩))
    go_ret
    exact ⟨rfl, rfl⟩
  · have hv : sgnW width a = sgnM 9223372036854775808 18446744073709551616 (a % 18446744073709551616) := by unfold sgnW; rw [(W64 n8 n16 n32).1, (W64 n8 n16 n32).2.1]
    have g8 : (width == 8) = false := by simp [n8]
    have g16 : (width == 16) = false := by simp [n16]
    have g32 : (width == 32) = false := by simp [n32]
    rw [hv]
    clear hv n8 n16 n32
    go_enter Tryz.func158, Tryz.ntmps158
    go_wp2_with (first | (go_at_call 179; refine (pk1_64 _ _ _ _ _ _ (by assumption) (by assumption) (by assumption)).mono ?_; rintro e w' ⟨rfl, rfl⟩) | (go_at_call 183; refine (sgn_64 _ _ (by omega) (by omega)).mono ?_; rintro e w' ⟨rfl, rfl⟩))
    go_ret
    exact ⟨rfl, rfl⟩
theorem Sub_any (a b : Int) (w : World) :
    Calls Tryz.prog 178 #[.int .u64 a, .int .u64 b] w fun e w' => e = .returned (.int .u64 (subW a b)) ∧ w' = w := by
  go_enter Tryz.func178, Tryz.ntmps178
  go_wp2
  go_ret
  exact ⟨rfl, rfl⟩
theorem Neg_any (a : Int) (w : World) :
    Calls Tryz.prog 157 #[.int .u64 a] w fun e w' => e = .returned (.int .u64 (negW a)) ∧ w' = w := by
  go_enter Tryz.func157, Tryz.ntmps157
  go_wp2
  go_ret
  exact ⟨rfl, rfl⟩
end Go.Proofs.YteelicelpkjmhaaGreatDoor.Wo
