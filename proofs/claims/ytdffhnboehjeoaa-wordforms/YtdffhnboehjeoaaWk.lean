import Derived.Test.YtdffhnboehjeoaaWs
import Derived.WalkKit
import Derived.WalkLawsBesides
import Derived.Outline
namespace Go.Proofs.Ytdffhnboehjeoaa
open Go.RowKit
set_option linter.unusedVariables false
set_option linter.unusedSimpArgs false

theorem Add_c (w : World) : Calls Try.prog 10 #[.int .u64 18446744073709551615, .int .u64 2] w fun e w' => e = .returned (.int .u64 1) ∧ w' = w :=
  (Add_any 18446744073709551615 2 w).mono (by rintro e w' ⟨rfl, rfl⟩; exact ⟨ret_int (by decide +kernel), rfl⟩)
theorem Sub_c (w : World) : Calls Try.prog 11 #[.int .u64 1, .int .u64 2] w fun e w' => e = .returned (.int .u64 18446744073709551615) ∧ w' = w :=
  (Sub_any 1 2 w).mono (by rintro e w' ⟨rfl, rfl⟩; exact ⟨ret_int (by decide +kernel), rfl⟩)
theorem Neg_c (w : World) : Calls Try.prog 12 #[.int .u64 1] w fun e w' => e = .returned (.int .u64 18446744073709551615) ∧ w' = w :=
  (Neg_any 1 w).mono (by rintro e w' ⟨rfl, rfl⟩; exact ⟨ret_int (by decide +kernel), rfl⟩)
theorem Mul_c (w : World) : Calls Try.prog 13 #[.int .u64 9223372036854775808, .int .u64 2] w fun e w' => e = .returned (.int .u64 0) ∧ w' = w :=
  (Mul_any 9223372036854775808 2 w).mono (by rintro e w' ⟨rfl, rfl⟩; exact ⟨ret_int (by decide +kernel), rfl⟩)
theorem And_c (w : World) : Calls Try.prog 15 #[.int .u64 6, .int .u64 3] w fun e w' => e = .returned (.int .u64 2) ∧ w' = w :=
  (And_any 6 3 w).mono (by rintro e w' ⟨rfl, rfl⟩; exact ⟨ret_int (by decide +kernel), rfl⟩)
theorem Or_c (w : World) : Calls Try.prog 17 #[.int .u64 6, .int .u64 3] w fun e w' => e = .returned (.int .u64 7) ∧ w' = w :=
  (Or_any 6 3 w).mono (by rintro e w' ⟨rfl, rfl⟩; exact ⟨ret_int (by decide +kernel), rfl⟩)
theorem Xor_c (w : World) : Calls Try.prog 18 #[.int .u64 6, .int .u64 3] w fun e w' => e = .returned (.int .u64 5) ∧ w' = w :=
  (Xor_any 6 3 w).mono (by rintro e w' ⟨rfl, rfl⟩; exact ⟨ret_int (by decide +kernel), rfl⟩)
theorem Div_c (w : World) : Calls Try.prog 29 #[.int .u64 4294967302, .int .u64 4, .int .i64 32] w fun e w' => e = .returned (.int .u64 1) ∧ w' = w :=
  (Div_any 4294967302 4 32 w (by omega) (by omega) (by omega) (by omega)).mono (by rintro e w' ⟨rfl, rfl⟩; exact ⟨ret_int (by decide +kernel), rfl⟩)
theorem Mod_c (w : World) : Calls Try.prog 31 #[.int .u64 4294967301, .int .u64 0, .int .i64 32] w fun e w' => e = .returned (.int .u64 5) ∧ w' = w :=
  (Mod_any 4294967301 0 32 w (by omega) (by omega) (by omega) (by omega)).mono (by rintro e w' ⟨rfl, rfl⟩; exact ⟨ret_int (by decide +kernel), rfl⟩)
theorem SDiv_c (w : World) : Calls Try.prog 33 #[.int .u64 18446744073709551609, .int .u64 2, .int .i64 64] w fun e w' => e = .returned (.int .u64 18446744073709551613) ∧ w' = w :=
  (SDiv_any 18446744073709551609 2 64 w (by omega) (by omega) (by omega) (by omega)).mono (by rintro e w' ⟨rfl, rfl⟩; exact ⟨ret_int (by decide +kernel), rfl⟩)
theorem SMod_c (w : World) : Calls Try.prog 35 #[.int .u64 18446744073709551609, .int .u64 2, .int .i64 64] w fun e w' => e = .returned (.int .u64 18446744073709551615) ∧ w' = w :=
  (SMod_any 18446744073709551609 2 64 w (by omega) (by omega) (by omega) (by omega)).mono (by rintro e w' ⟨rfl, rfl⟩; exact ⟨ret_int (by decide +kernel), rfl⟩)
theorem Shl_c (w : World) : Calls Try.prog 37 #[.int .u64 1, .int .u64 65, .int .i64 64] w fun e w' => e = .returned (.int .u64 2) ∧ w' = w :=
  (Shl_any 1 65 64 w (by omega) (by omega) (by omega) (by omega)).mono (by rintro e w' ⟨rfl, rfl⟩; exact ⟨ret_int (by decide +kernel), rfl⟩)
theorem Shr_c (w : World) : Calls Try.prog 39 #[.int .u64 128, .int .u64 9, .int .i64 8] w fun e w' => e = .returned (.int .u64 64) ∧ w' = w :=
  (Shr_any 128 9 8 w (by omega) (by omega) (by omega) (by omega)).mono (by rintro e w' ⟨rfl, rfl⟩; exact ⟨ret_int (by decide +kernel), rfl⟩)
theorem Sar_c (w : World) : Calls Try.prog 41 #[.int .u64 128, .int .u64 3, .int .i64 8] w fun e w' => e = .returned (.int .u64 240) ∧ ∃ n, w' = w.drewN n :=
  (Sar_any 128 3 8 w (by omega) (by omega) (by omega) (by omega)).mono (by rintro e w' ⟨rfl, n, rfl⟩; exact ⟨ret_int (by decide +kernel), n, rfl⟩)
theorem Narrow_c (w : World) : Calls Try.prog 19 #[.int .u64 511, .int .i64 8] w fun e w' => e = .returned (.int .u64 255) ∧ w' = w :=
  (Narrow_any 511 8 w (by omega) (by omega)).mono (by rintro e w' ⟨rfl, rfl⟩; exact ⟨ret_int (by decide +kernel), rfl⟩)
theorem Sign_c (w : World) : Calls Try.prog 21 #[.int .u64 255, .int .i64 8] w fun e w' => e = .returned (.int .u64 18446744073709551615) ∧ w' = w :=
  (Sign_any 255 8 w (by omega) (by omega)).mono (by rintro e w' ⟨rfl, rfl⟩; exact ⟨ret_int (by decide +kernel), rfl⟩)
theorem Swap_c (w : World) : Calls Try.prog 23 #[.int .u64 1, .int .i64 64] w fun e w' => e = .returned (.int .u64 72057594037927936) ∧ w' = w :=
  (Swap_any 1 64 w (by omega) (by omega)).mono (by rintro e w' ⟨rfl, rfl⟩; exact ⟨ret_int (by decide +kernel), rfl⟩)
theorem Less_c (w : World) : Calls Try.prog 25 #[.int .u64 256, .int .u64 1, .int .i64 8] w fun e w' => e = .returned (.bool true) ∧ w' = w :=
  (Less_any 256 1 8 w (by omega) (by omega) (by omega) (by omega)).mono (by rintro e w' ⟨rfl, rfl⟩; exact ⟨ret_bool (by decide +kernel), rfl⟩)
theorem SLess_c (w : World) : Calls Try.prog 27 #[.int .u64 255, .int .u64 0, .int .i64 8] w fun e w' => e = .returned (.bool true) ∧ w' = w :=
  (SLess_any 255 0 8 w (by omega) (by omega) (by omega) (by omega)).mono (by rintro e w' ⟨rfl, rfl⟩; exact ⟨ret_bool (by decide +kernel), rfl⟩)
theorem awake_any (w : World) : Calls Try.prog 9 #[] w fun e w' => e = .returned (.bool true) ∧ ∃ n, w' = w.drewN n := by
  go_enter Try.func9, Try.ntmps9
  go_wp2_with (first | (go_at_call 10; refine (Add_c _).mono ?_; rintro e w' ⟨rfl, rfl⟩) | (go_at_call 11; refine (Sub_c _).mono ?_; rintro e w' ⟨rfl, rfl⟩) | (go_at_call 12; refine (Neg_c _).mono ?_; rintro e w' ⟨rfl, rfl⟩) | (go_at_call 13; refine (Mul_c _).mono ?_; rintro e w' ⟨rfl, rfl⟩) | (go_at_call 15; refine (And_c _).mono ?_; rintro e w' ⟨rfl, rfl⟩) | (go_at_call 17; refine (Or_c _).mono ?_; rintro e w' ⟨rfl, rfl⟩) | (go_at_call 18; refine (Xor_c _).mono ?_; rintro e w' ⟨rfl, rfl⟩) | (go_at_call 29; refine (Div_c _).mono ?_; rintro e w' ⟨rfl, rfl⟩) | (go_at_call 31; refine (Mod_c _).mono ?_; rintro e w' ⟨rfl, rfl⟩) | (go_at_call 33; refine (SDiv_c _).mono ?_; rintro e w' ⟨rfl, rfl⟩) | (go_at_call 35; refine (SMod_c _).mono ?_; rintro e w' ⟨rfl, rfl⟩) | (go_at_call 37; refine (Shl_c _).mono ?_; rintro e w' ⟨rfl, rfl⟩) | (go_at_call 39; refine (Shr_c _).mono ?_; rintro e w' ⟨rfl, rfl⟩) | (go_at_call 41; refine (Sar_c _).mono ?_; rintro e w' ⟨rfl, n, rfl⟩) | (go_at_call 19; refine (Narrow_c _).mono ?_; rintro e w' ⟨rfl, rfl⟩) | (go_at_call 21; refine (Sign_c _).mono ?_; rintro e w' ⟨rfl, rfl⟩) | (go_at_call 23; refine (Swap_c _).mono ?_; rintro e w' ⟨rfl, rfl⟩) | (go_at_call 25; refine (Less_c _).mono ?_; rintro e w' ⟨rfl, rfl⟩) | (go_at_call 27; refine (SLess_c _).mono ?_; rintro e w' ⟨rfl, rfl⟩))
  go_ret
  exact ⟨rfl, _, rfl⟩
end Go.Proofs.Ytdffhnboehjeoaa
