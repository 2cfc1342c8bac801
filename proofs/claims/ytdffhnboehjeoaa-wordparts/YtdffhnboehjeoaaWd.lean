import Derived.Test.YtdffhnboehjeoaaWc
import Derived.WalkKit
import Derived.WalkLawsBesides
import Derived.Outline
namespace Go.Proofs.Ytdffhnboehjeoaa
open Go.RowKit
set_option linter.unusedVariables false
set_option linter.unusedSimpArgs false

theorem pk1_8 (f8 f16 f32 f64 : Value) (w : World) :
    Calls Try.prog 45 #[.int .i64 8, f8, f16, f32, f64] w fun e w' => e = .returned f8 ∧ w' = w := by
  go_enter Try.func45, Try.ntmps45
  go_wp2
  go_ret
  exact ⟨rfl, rfl⟩
theorem pk1_16 (f8 f16 f32 f64 : Value) (w : World) :
    Calls Try.prog 45 #[.int .i64 16, f8, f16, f32, f64] w fun e w' => e = .returned f16 ∧ w' = w := by
  go_enter Try.func45, Try.ntmps45
  go_wp2
  go_ret
  exact ⟨rfl, rfl⟩
theorem pk1_32 (f8 f16 f32 f64 : Value) (w : World) :
    Calls Try.prog 45 #[.int .i64 32, f8, f16, f32, f64] w fun e w' => e = .returned f32 ∧ w' = w := by
  go_enter Try.func45, Try.ntmps45
  go_wp2
  go_ret
  exact ⟨rfl, rfl⟩
theorem pk1_64 (width : Int) (f8 f16 f32 f64 : Value) (w : World) (a : (width == 8) = false) (b : (width == 16) = false) (c : (width == 32) = false) :
    Calls Try.prog 45 #[.int .i64 width, f8, f16, f32, f64] w fun e w' => e = .returned f64 ∧ w' = w := by
  go_enter Try.func45, Try.ntmps45
  go_wp2
  go_ret
  exact ⟨rfl, rfl⟩
theorem pk2_8 (f8 f16 f32 f64 : Value) (w : World) :
    Calls Try.prog 68 #[.int .i64 8, f8, f16, f32, f64] w fun e w' => e = .returned f8 ∧ w' = w := by
  go_enter Try.func68, Try.ntmps68
  go_wp2
  go_ret
  exact ⟨rfl, rfl⟩
theorem pk2_16 (f8 f16 f32 f64 : Value) (w : World) :
    Calls Try.prog 68 #[.int .i64 16, f8, f16, f32, f64] w fun e w' => e = .returned f16 ∧ w' = w := by
  go_enter Try.func68, Try.ntmps68
  go_wp2
  go_ret
  exact ⟨rfl, rfl⟩
theorem pk2_32 (f8 f16 f32 f64 : Value) (w : World) :
    Calls Try.prog 68 #[.int .i64 32, f8, f16, f32, f64] w fun e w' => e = .returned f32 ∧ w' = w := by
  go_enter Try.func68, Try.ntmps68
  go_wp2
  go_ret
  exact ⟨rfl, rfl⟩
theorem pk2_64 (width : Int) (f8 f16 f32 f64 : Value) (w : World) (a : (width == 8) = false) (b : (width == 16) = false) (c : (width == 32) = false) :
    Calls Try.prog 68 #[.int .i64 width, f8, f16, f32, f64] w fun e w' => e = .returned f64 ∧ w' = w := by
  go_enter Try.func68, Try.ntmps68
  go_wp2
  go_ret
  exact ⟨rfl, rfl⟩
theorem pkb_8 (f8 f16 f32 f64 : Value) (w : World) :
    Calls Try.prog 59 #[.int .i64 8, f8, f16, f32, f64] w fun e w' => e = .returned f8 ∧ w' = w := by
  go_enter Try.func59, Try.ntmps59
  go_wp2
  go_ret
  exact ⟨rfl, rfl⟩
theorem pkb_16 (f8 f16 f32 f64 : Value) (w : World) :
    Calls Try.prog 59 #[.int .i64 16, f8, f16, f32, f64] w fun e w' => e = .returned f16 ∧ w' = w := by
  go_enter Try.func59, Try.ntmps59
  go_wp2
  go_ret
  exact ⟨rfl, rfl⟩
theorem pkb_32 (f8 f16 f32 f64 : Value) (w : World) :
    Calls Try.prog 59 #[.int .i64 32, f8, f16, f32, f64] w fun e w' => e = .returned f32 ∧ w' = w := by
  go_enter Try.func59, Try.ntmps59
  go_wp2
  go_ret
  exact ⟨rfl, rfl⟩
theorem pkb_64 (width : Int) (f8 f16 f32 f64 : Value) (w : World) (a : (width == 8) = false) (b : (width == 16) = false) (c : (width == 32) = false) :
    Calls Try.prog 59 #[.int .i64 width, f8, f16, f32, f64] w fun e w' => e = .returned f64 ∧ w' = w := by
  go_enter Try.func59, Try.ntmps59
  go_wp2
  go_ret
  exact ⟨rfl, rfl⟩
theorem Narrow_any (a width : Int) (w : World) (h0 : 0 ≤ a) (h1 : a < 18446744073709551616) :
    Calls Try.prog 19 #[.int .u64 a, .int .i64 width] w fun e w' => e = .returned (.int .u64 (narW width a)) ∧ w' = w := by
  rcases wide_cases width with rfl | rfl | rfl | ⟨n8, n16, n32⟩
  · have hv : narW 8 a = a % 256 := rfl
    rw [hv]
    clear hv
    go_enter Try.func19, Try.ntmps19
    go_wp2_with (first | (go_at_call 45; refine (pk1_8 _ _ _ _ _).mono ?_; rintro e w' ⟨rfl, rfl⟩) | (go_at_call 46; refine (nar_8 _ _ (by omega) (by omega)).mono ?_; rintro e w' ⟨rfl, rfl⟩))
    go_ret
    exact ⟨rfl, rfl⟩
  · have hv : narW 16 a = a % 65536 := rfl
    rw [hv]
    clear hv
    go_enter Try.func19, Try.ntmps19
    go_wp2_with (first | (go_at_call 45; refine (pk1_16 _ _ _ _ _).mono ?_; rintro e w' ⟨rfl, rfl⟩) | (go_at_call 47; refine (nar_16 _ _ (by omega) (by omega)).mono ?_; rintro e w' ⟨rfl, rfl⟩))
    go_ret
    exact ⟨rfl, rfl⟩
  · have hv : narW 32 a = a % 4294967296 := rfl
    rw [hv]
    clear hv
    go_enter Try.func19, Try.ntmps19
    go_wp2_with (first | (go_at_call 45; refine (pk1_32 _ _ _ _ _).mono ?_; rintro e w' ⟨rfl, rfl⟩) | (go_at_call 48; refine (nar_32 _ _ (by omega) (by omega)).mono ?_; rintro e w' ⟨rfl, rfl⟩))
    go_ret
    exact ⟨rfl, rfl⟩
  · have hv : narW width a = a % 18446744073709551616 := by unfold narW; rw [(W64 n8 n16 n32).1]
    have g8 : (width == 8) = false := by simp [n8]
    have g16 : (width == 16) = false := by simp [n16]
    have g32 : (width == 32) = false := by simp [n32]
    rw [hv]
    clear hv n8 n16 n32
    go_enter Try.func19, Try.ntmps19
    go_wp2_with (first | (go_at_call 45; refine (pk1_64 _ _ _ _ _ _ (by assumption) (by assumption) (by assumption)).mono ?_; rintro e w' ⟨rfl, rfl⟩) | (go_at_call 49; refine (nar_64 _ _ (by omega) (by omega)).mono ?_; rintro e w' ⟨rfl, rfl⟩))
    go_ret
    exact ⟨rfl, rfl⟩
theorem Sign_any (a width : Int) (w : World) (h0 : 0 ≤ a) (h1 : a < 18446744073709551616) :
    Calls Try.prog 21 #[.int .u64 a, .int .i64 width] w fun e w' => e = .returned (.int .u64 (sgnW width a)) ∧ w' = w := by
  rcases wide_cases width with rfl | rfl | rfl | ⟨n8, n16, n32⟩
  · have hv : sgnW 8 a = sgnM 128 256 (a % 256) := rfl
    rw [hv]
    clear hv
    go_enter Try.func21, Try.ntmps21
    go_wp2_with (first | (go_at_call 45; refine (pk1_8 _ _ _ _ _).mono ?_; rintro e w' ⟨rfl, rfl⟩) | (go_at_call 50; refine (sgn_8 _ _ (by omega) (by omega)).mono ?_; rintro e w' ⟨rfl, rfl⟩))
    go_ret
    exact ⟨rfl, rfl⟩
  · have hv : sgnW 16 a = sgnM 32768 65536 (a % 65536) := rfl
    rw [hv]
    clear hv
    go_enter Try.func21, Try.ntmps21
    go_wp2_with (first | (go_at_call 45; refine (pk1_16 _ _ _ _ _).mono ?_; rintro e w' ⟨rfl, rfl⟩) | (go_at_call 51; refine (sgn_16 _ _ (by omega) (by omega)).mono ?_; rintro e w' ⟨rfl, rfl⟩))
    go_ret
    exact ⟨rfl, rfl⟩
  · have hv : sgnW 32 a = sgnM 2147483648 4294967296 (a % 4294967296) := rfl
    rw [hv]
    clear hv
    go_enter Try.func21, Try.ntmps21
    go_wp2_with (first | (go_at_call 45; refine (pk1_32 _ _ _ _ _).mono ?_; rintro e w' ⟨rfl, rfl⟩) | (go_at_call 52; refine (sgn_32 _ _ (by omega) (by omega)).mono ?_; rintro e w' ⟨rfl, rfl⟩))
    go_ret
    exact ⟨rfl, rfl⟩
  · have hv : sgnW width a = sgnM 9223372036854775808 18446744073709551616 (a % 18446744073709551616) := by unfold sgnW; rw [(W64 n8 n16 n32).1, (W64 n8 n16 n32).2.1]
    have g8 : (width == 8) = false := by simp [n8]
    have g16 : (width == 16) = false := by simp [n16]
    have g32 : (width == 32) = false := by simp [n32]
    rw [hv]
    clear hv n8 n16 n32
    go_enter Try.func21, Try.ntmps21
    go_wp2_with (first | (go_at_call 45; refine (pk1_64 _ _ _ _ _ _ (by assumption) (by assumption) (by assumption)).mono ?_; rintro e w' ⟨rfl, rfl⟩) | (go_at_call 53; refine (sgn_64 _ _ (by omega) (by omega)).mono ?_; rintro e w' ⟨rfl, rfl⟩))
    go_ret
    exact ⟨rfl, rfl⟩
theorem Div_any (a b width : Int) (w : World) (h0 : 0 ≤ a) (h1 : a < 18446744073709551616) (h2 : 0 ≤ b) (h3 : b < 18446744073709551616) :
    Calls Try.prog 29 #[.int .u64 a, .int .u64 b, .int .i64 width] w fun e w' => e = .returned (.int .u64 (divW width a b)) ∧ w' = w := by
  rcases wide_cases width with rfl | rfl | rfl | ⟨n8, n16, n32⟩
  · have hv : divW 8 a b = divM (a % 256) (b % 256) := rfl
    rw [hv]
    clear hv
    go_enter Try.func29, Try.ntmps29
    go_wp2_with (first | (go_at_call 68; refine (pk2_8 _ _ _ _ _).mono ?_; rintro e w' ⟨rfl, rfl⟩) | (go_at_call 69; refine (div_8 _ _ _ (by omega) (by omega) (by omega) (by omega)).mono ?_; rintro e w' ⟨rfl, rfl⟩))
    go_ret
    exact ⟨rfl, rfl⟩
  · have hv : divW 16 a b = divM (a % 65536) (b % 65536) := rfl
    rw [hv]
    clear hv
    go_enter Try.func29, Try.ntmps29
    go_wp2_with (first | (go_at_call 68; refine (pk2_16 _ _ _ _ _).mono ?_; rintro e w' ⟨rfl, rfl⟩) | (go_at_call 70; refine (div_16 _ _ _ (by omega) (by omega) (by omega) (by omega)).mono ?_; rintro e w' ⟨rfl, rfl⟩))
    go_ret
    exact ⟨rfl, rfl⟩
  · have hv : divW 32 a b = divM (a % 4294967296) (b % 4294967296) := rfl
    rw [hv]
    clear hv
    go_enter Try.func29, Try.ntmps29
    go_wp2_with (first | (go_at_call 68; refine (pk2_32 _ _ _ _ _).mono ?_; rintro e w' ⟨rfl, rfl⟩) | (go_at_call 71; refine (div_32 _ _ _ (by omega) (by omega) (by omega) (by omega)).mono ?_; rintro e w' ⟨rfl, rfl⟩))
    go_ret
    exact ⟨rfl, rfl⟩
  · have hv : divW width a b = divM (a % 18446744073709551616) (b % 18446744073709551616) := by unfold divW; rw [(W64 n8 n16 n32).1]
    have g8 : (width == 8) = false := by simp [n8]
    have g16 : (width == 16) = false := by simp [n16]
    have g32 : (width == 32) = false := by simp [n32]
    rw [hv]
    clear hv n8 n16 n32
    go_enter Try.func29, Try.ntmps29
    go_wp2_with (first | (go_at_call 68; refine (pk2_64 _ _ _ _ _ _ (by assumption) (by assumption) (by assumption)).mono ?_; rintro e w' ⟨rfl, rfl⟩) | (go_at_call 72; refine (div_64 _ _ _ (by omega) (by omega) (by omega) (by omega)).mono ?_; rintro e w' ⟨rfl, rfl⟩))
    go_ret
    exact ⟨rfl, rfl⟩
theorem Mod_any (a b width : Int) (w : World) (h0 : 0 ≤ a) (h1 : a < 18446744073709551616) (h2 : 0 ≤ b) (h3 : b < 18446744073709551616) :
    Calls Try.prog 31 #[.int .u64 a, .int .u64 b, .int .i64 width] w fun e w' => e = .returned (.int .u64 (modW width a b)) ∧ w' = w := by
  rcases wide_cases width with rfl | rfl | rfl | ⟨n8, n16, n32⟩
  · have hv : modW 8 a b = modM (a % 256) (b % 256) := rfl
    rw [hv]
    clear hv
    go_enter Try.func31, Try.ntmps31
    go_wp2_with (first | (go_at_call 68; refine (pk2_8 _ _ _ _ _).mono ?_; rintro e w' ⟨rfl, rfl⟩) | (go_at_call 74; refine (mod_8 _ _ _ (by omega) (by omega) (by omega) (by omega)).mono ?_; rintro e w' ⟨rfl, rfl⟩))
    go_ret
    exact ⟨rfl, rfl⟩
  · have hv : modW 16 a b = modM (a % 65536) (b % 65536) := rfl
    rw [hv]
    clear hv
    go_enter Try.func31, Try.ntmps31
    go_wp2_with (first | (go_at_call 68; refine (pk2_16 _ _ _ _ _).mono ?_; rintro e w' ⟨rfl, rfl⟩) | (go_at_call 75; refine (mod_16 _ _ _ (by omega) (by omega) (by omega) (by omega)).mono ?_; rintro e w' ⟨rfl, rfl⟩))
    go_ret
    exact ⟨rfl, rfl⟩
  · have hv : modW 32 a b = modM (a % 4294967296) (b % 4294967296) := rfl
    rw [hv]
    clear hv
    go_enter Try.func31, Try.ntmps31
    go_wp2_with (first | (go_at_call 68; refine (pk2_32 _ _ _ _ _).mono ?_; rintro e w' ⟨rfl, rfl⟩) | (go_at_call 76; refine (mod_32 _ _ _ (by omega) (by omega) (by omega) (by omega)).mono ?_; rintro e w' ⟨rfl, rfl⟩))
    go_ret
    exact ⟨rfl, rfl⟩
  · have hv : modW width a b = modM (a % 18446744073709551616) (b % 18446744073709551616) := by unfold modW; rw [(W64 n8 n16 n32).1]
    have g8 : (width == 8) = false := by simp [n8]
    have g16 : (width == 16) = false := by simp [n16]
    have g32 : (width == 32) = false := by simp [n32]
    rw [hv]
    clear hv n8 n16 n32
    go_enter Try.func31, Try.ntmps31
    go_wp2_with (first | (go_at_call 68; refine (pk2_64 _ _ _ _ _ _ (by assumption) (by assumption) (by assumption)).mono ?_; rintro e w' ⟨rfl, rfl⟩) | (go_at_call 77; refine (mod_64 _ _ _ (by omega) (by omega) (by omega) (by omega)).mono ?_; rintro e w' ⟨rfl, rfl⟩))
    go_ret
    exact ⟨rfl, rfl⟩
theorem SDiv_any (a b width : Int) (w : World) (h0 : 0 ≤ a) (h1 : a < 18446744073709551616) (h2 : 0 ≤ b) (h3 : b < 18446744073709551616) :
    Calls Try.prog 33 #[.int .u64 a, .int .u64 b, .int .i64 width] w fun e w' => e = .returned (.int .u64 (sdivW width a b)) ∧ w' = w := by
  rcases wide_cases width with rfl | rfl | rfl | ⟨n8, n16, n32⟩
  · have hv : sdivW 8 a b = sdivM 128 256 (a % 256) (b % 256) := rfl
    rw [hv]
    clear hv
    go_enter Try.func33, Try.ntmps33
    go_wp2_with (first | (go_at_call 68; refine (pk2_8 _ _ _ _ _).mono ?_; rintro e w' ⟨rfl, rfl⟩) | (go_at_call 78; refine (sdiv_8 _ _ _ (by omega) (by omega) (by omega) (by omega)).mono ?_; rintro e w' ⟨rfl, rfl⟩))
    go_ret
    exact ⟨rfl, rfl⟩
  · have hv : sdivW 16 a b = sdivM 32768 65536 (a % 65536) (b % 65536) := rfl
    rw [hv]
    clear hv
    go_enter Try.func33, Try.ntmps33
    go_wp2_with (first | (go_at_call 68; refine (pk2_16 _ _ _ _ _).mono ?_; rintro e w' ⟨rfl, rfl⟩) | (go_at_call 79; refine (sdiv_16 _ _ _ (by omega) (by omega) (by omega) (by omega)).mono ?_; rintro e w' ⟨rfl, rfl⟩))
    go_ret
    exact ⟨rfl, rfl⟩
  · have hv : sdivW 32 a b = sdivM 2147483648 4294967296 (a % 4294967296) (b % 4294967296) := rfl
    rw [hv]
    clear hv
    go_enter Try.func33, Try.ntmps33
    go_wp2_with (first | (go_at_call 68; refine (pk2_32 _ _ _ _ _).mono ?_; rintro e w' ⟨rfl, rfl⟩) | (go_at_call 80; refine (sdiv_32 _ _ _ (by omega) (by omega) (by omega) (by omega)).mono ?_; rintro e w' ⟨rfl, rfl⟩))
    go_ret
    exact ⟨rfl, rfl⟩
  · have hv : sdivW width a b = sdivM 9223372036854775808 18446744073709551616 (a % 18446744073709551616) (b % 18446744073709551616) := by unfold sdivW; rw [(W64 n8 n16 n32).1, (W64 n8 n16 n32).2.1]
    have g8 : (width == 8) = false := by simp [n8]
    have g16 : (width == 16) = false := by simp [n16]
    have g32 : (width == 32) = false := by simp [n32]
    rw [hv]
    clear hv n8 n16 n32
    go_enter Try.func33, Try.ntmps33
    go_wp2_with (first | (go_at_call 68; refine (pk2_64 _ _ _ _ _ _ (by assumption) (by assumption) (by assumption)).mono ?_; rintro e w' ⟨rfl, rfl⟩) | (go_at_call 81; refine (sdiv_64 _ _ _ (by omega) (by omega) (by omega) (by omega)).mono ?_; rintro e w' ⟨rfl, rfl⟩))
    go_ret
    exact ⟨rfl, rfl⟩
theorem SMod_any (a b width : Int) (w : World) (h0 : 0 ≤ a) (h1 : a < 18446744073709551616) (h2 : 0 ≤ b) (h3 : b < 18446744073709551616) :
    Calls Try.prog 35 #[.int .u64 a, .int .u64 b, .int .i64 width] w fun e w' => e = .returned (.int .u64 (smodW width a b)) ∧ w' = w := by
  rcases wide_cases width with rfl | rfl | rfl | ⟨n8, n16, n32⟩
  · have hv : smodW 8 a b = smodM 128 256 (a % 256) (b % 256) := rfl
    rw [hv]
    clear hv
    go_enter Try.func35, Try.ntmps35
    go_wp2_with (first | (go_at_call 68; refine (pk2_8 _ _ _ _ _).mono ?_; rintro e w' ⟨rfl, rfl⟩) | (go_at_call 83; refine (smod_8 _ _ _ (by omega) (by omega) (by omega) (by omega)).mono ?_; rintro e w' ⟨rfl, rfl⟩))
    go_ret
    exact ⟨rfl, rfl⟩
  · have hv : smodW 16 a b = smodM 32768 65536 (a % 65536) (b % 65536) := rfl
    rw [hv]
    clear hv
    go_enter Try.func35, Try.ntmps35
    go_wp2_with (first | (go_at_call 68; refine (pk2_16 _ _ _ _ _).mono ?_; rintro e w' ⟨rfl, rfl⟩) | (go_at_call 84; refine (smod_16 _ _ _ (by omega) (by omega) (by omega) (by omega)).mono ?_; rintro e w' ⟨rfl, rfl⟩))
    go_ret
    exact ⟨rfl, rfl⟩
  · have hv : smodW 32 a b = smodM 2147483648 4294967296 (a % 4294967296) (b % 4294967296) := rfl
    rw [hv]
    clear hv
    go_enter Try.func35, Try.ntmps35
    go_wp2_with (first | (go_at_call 68; refine (pk2_32 _ _ _ _ _).mono ?_; rintro e w' ⟨rfl, rfl⟩) | (go_at_call 85; refine (smod_32 _ _ _ (by omega) (by omega) (by omega) (by omega)).mono ?_; rintro e w' ⟨rfl, rfl⟩))
    go_ret
    exact ⟨rfl, rfl⟩
  · have hv : smodW width a b = smodM 9223372036854775808 18446744073709551616 (a % 18446744073709551616) (b % 18446744073709551616) := by unfold smodW; rw [(W64 n8 n16 n32).1, (W64 n8 n16 n32).2.1]
    have g8 : (width == 8) = false := by simp [n8]
    have g16 : (width == 16) = false := by simp [n16]
    have g32 : (width == 32) = false := by simp [n32]
    rw [hv]
    clear hv n8 n16 n32
    go_enter Try.func35, Try.ntmps35
    go_wp2_with (first | (go_at_call 68; refine (pk2_64 _ _ _ _ _ _ (by assumption) (by assumption) (by assumption)).mono ?_; rintro e w' ⟨rfl, rfl⟩) | (go_at_call 86; refine (smod_64 _ _ _ (by omega) (by omega) (by omega) (by omega)).mono ?_; rintro e w' ⟨rfl, rfl⟩))
    go_ret
    exact ⟨rfl, rfl⟩
theorem Shl_any (a k width : Int) (w : World) (h0 : 0 ≤ a) (h1 : a < 18446744073709551616) (h2 : 0 ≤ k) (h3 : k < 18446744073709551616) :
    Calls Try.prog 37 #[.int .u64 a, .int .u64 k, .int .i64 width] w fun e w' => e = .returned (.int .u64 (shlW width a k)) ∧ w' = w := by
  rcases wide_cases width with rfl | rfl | rfl | ⟨n8, n16, n32⟩
  · have hv : shlW 8 a k = shlM 256 (a % 256) (k % 8) := rfl
    rw [hv]
    clear hv
    go_enter Try.func37, Try.ntmps37
    go_wp2_with (first | (go_at_call 68; refine (pk2_8 _ _ _ _ _).mono ?_; rintro e w' ⟨rfl, rfl⟩) | (go_at_call 87; refine (shl_8 _ _ _ (by omega) (by omega) (by omega) (by omega)).mono ?_; rintro e w' ⟨rfl, rfl⟩))
    go_ret
    exact ⟨rfl, rfl⟩
  · have hv : shlW 16 a k = shlM 65536 (a % 65536) (k % 16) := rfl
    rw [hv]
    clear hv
    go_enter Try.func37, Try.ntmps37
    go_wp2_with (first | (go_at_call 68; refine (pk2_16 _ _ _ _ _).mono ?_; rintro e w' ⟨rfl, rfl⟩) | (go_at_call 88; refine (shl_16 _ _ _ (by omega) (by omega) (by omega) (by omega)).mono ?_; rintro e w' ⟨rfl, rfl⟩))
    go_ret
    exact ⟨rfl, rfl⟩
  · have hv : shlW 32 a k = shlM 4294967296 (a % 4294967296) (k % 32) := rfl
    rw [hv]
    clear hv
    go_enter Try.func37, Try.ntmps37
    go_wp2_with (first | (go_at_call 68; refine (pk2_32 _ _ _ _ _).mono ?_; rintro e w' ⟨rfl, rfl⟩) | (go_at_call 89; refine (shl_32 _ _ _ (by omega) (by omega) (by omega) (by omega)).mono ?_; rintro e w' ⟨rfl, rfl⟩))
    go_ret
    exact ⟨rfl, rfl⟩
  · have hv : shlW width a k = shlM 18446744073709551616 (a % 18446744073709551616) (k % 64) := by unfold shlW; rw [(W64 n8 n16 n32).1, (W64 n8 n16 n32).2.2]
    have g8 : (width == 8) = false := by simp [n8]
    have g16 : (width == 16) = false := by simp [n16]
    have g32 : (width == 32) = false := by simp [n32]
    rw [hv]
    clear hv n8 n16 n32
    go_enter Try.func37, Try.ntmps37
    go_wp2_with (first | (go_at_call 68; refine (pk2_64 _ _ _ _ _ _ (by assumption) (by assumption) (by assumption)).mono ?_; rintro e w' ⟨rfl, rfl⟩) | (go_at_call 90; refine (shl_64 _ _ _ (by omega) (by omega) (by omega) (by omega)).mono ?_; rintro e w' ⟨rfl, rfl⟩))
    go_ret
    exact ⟨rfl, rfl⟩
theorem Shr_any (a k width : Int) (w : World) (h0 : 0 ≤ a) (h1 : a < 18446744073709551616) (h2 : 0 ≤ k) (h3 : k < 18446744073709551616) :
    Calls Try.prog 39 #[.int .u64 a, .int .u64 k, .int .i64 width] w fun e w' => e = .returned (.int .u64 (shrW width a k)) ∧ w' = w := by
  rcases wide_cases width with rfl | rfl | rfl | ⟨n8, n16, n32⟩
  · have hv : shrW 8 a k = shrM (a % 256) (k % 8) := rfl
    rw [hv]
    clear hv
    go_enter Try.func39, Try.ntmps39
    go_wp2_with (first | (go_at_call 68; refine (pk2_8 _ _ _ _ _).mono ?_; rintro e w' ⟨rfl, rfl⟩) | (go_at_call 91; refine (shr_8 _ _ _ (by omega) (by omega) (by omega) (by omega)).mono ?_; rintro e w' ⟨rfl, rfl⟩))
    go_ret
    exact ⟨rfl, rfl⟩
  · have hv : shrW 16 a k = shrM (a % 65536) (k % 16) := rfl
    rw [hv]
    clear hv
    go_enter Try.func39, Try.ntmps39
    go_wp2_with (first | (go_at_call 68; refine (pk2_16 _ _ _ _ _).mono ?_; rintro e w' ⟨rfl, rfl⟩) | (go_at_call 92; refine (shr_16 _ _ _ (by omega) (by omega) (by omega) (by omega)).mono ?_; rintro e w' ⟨rfl, rfl⟩))
    go_ret
    exact ⟨rfl, rfl⟩
  · have hv : shrW 32 a k = shrM (a % 4294967296) (k % 32) := rfl
    rw [hv]
    clear hv
    go_enter Try.func39, Try.ntmps39
    go_wp2_with (first | (go_at_call 68; refine (pk2_32 _ _ _ _ _).mono ?_; rintro e w' ⟨rfl, rfl⟩) | (go_at_call 93; refine (shr_32 _ _ _ (by omega) (by omega) (by omega) (by omega)).mono ?_; rintro e w' ⟨rfl, rfl⟩))
    go_ret
    exact ⟨rfl, rfl⟩
  · have hv : shrW width a k = shrM (a % 18446744073709551616) (k % 64) := by unfold shrW; rw [(W64 n8 n16 n32).1, (W64 n8 n16 n32).2.2]
    have g8 : (width == 8) = false := by simp [n8]
    have g16 : (width == 16) = false := by simp [n16]
    have g32 : (width == 32) = false := by simp [n32]
    rw [hv]
    clear hv n8 n16 n32
    go_enter Try.func39, Try.ntmps39
    go_wp2_with (first | (go_at_call 68; refine (pk2_64 _ _ _ _ _ _ (by assumption) (by assumption) (by assumption)).mono ?_; rintro e w' ⟨rfl, rfl⟩) | (go_at_call 94; refine (shr_64 _ _ _ (by omega) (by omega) (by omega) (by omega)).mono ?_; rintro e w' ⟨rfl, rfl⟩))
    go_ret
    exact ⟨rfl, rfl⟩
theorem Sar_any (a k width : Int) (w : World) (h0 : 0 ≤ a) (h1 : a < 18446744073709551616) (h2 : 0 ≤ k) (h3 : k < 18446744073709551616) :
    Calls Try.prog 41 #[.int .u64 a, .int .u64 k, .int .i64 width] w fun e w' => e = .returned (.int .u64 (sarW width a k)) ∧ ∃ n, w' = w.drewN n := by
  rcases wide_cases width with rfl | rfl | rfl | ⟨n8, n16, n32⟩
  · have hv : sarW 8 a k = sarM 128 256 (a % 256) (k % 8) := rfl
    rw [hv]
    clear hv
    go_enter Try.func41, Try.ntmps41
    go_wp2_with (first | (go_at_call 68; refine (pk2_8 _ _ _ _ _).mono ?_; rintro e w' ⟨rfl, rfl⟩) | (go_at_call 95; refine (sar_8 _ _ _ (by omega) (by omega) (by omega) (by omega)).mono ?_; rintro e w' ⟨rfl, n, rfl⟩))
    go_ret
    exact ⟨rfl, n, rfl⟩
  · have hv : sarW 16 a k = sarM 32768 65536 (a % 65536) (k % 16) := rfl
    rw [hv]
    clear hv
    go_enter Try.func41, Try.ntmps41
    go_wp2_with (first | (go_at_call 68; refine (pk2_16 _ _ _ _ _).mono ?_; rintro e w' ⟨rfl, rfl⟩) | (go_at_call 96; refine (sar_16 _ _ _ (by omega) (by omega) (by omega) (by omega)).mono ?_; rintro e w' ⟨rfl, n, rfl⟩))
    go_ret
    exact ⟨rfl, n, rfl⟩
  · have hv : sarW 32 a k = sarM 2147483648 4294967296 (a % 4294967296) (k % 32) := rfl
    rw [hv]
    clear hv
    go_enter Try.func41, Try.ntmps41
    go_wp2_with (first | (go_at_call 68; refine (pk2_32 _ _ _ _ _).mono ?_; rintro e w' ⟨rfl, rfl⟩) | (go_at_call 97; refine (sar_32 _ _ _ (by omega) (by omega) (by omega) (by omega)).mono ?_; rintro e w' ⟨rfl, n, rfl⟩))
    go_ret
    exact ⟨rfl, n, rfl⟩
  · have hv : sarW width a k = sarM 9223372036854775808 18446744073709551616 (a % 18446744073709551616) (k % 64) := by unfold sarW; rw [(W64 n8 n16 n32).1, (W64 n8 n16 n32).2.1, (W64 n8 n16 n32).2.2]
    have g8 : (width == 8) = false := by simp [n8]
    have g16 : (width == 16) = false := by simp [n16]
    have g32 : (width == 32) = false := by simp [n32]
    rw [hv]
    clear hv n8 n16 n32
    go_enter Try.func41, Try.ntmps41
    go_wp2_with (first | (go_at_call 68; refine (pk2_64 _ _ _ _ _ _ (by assumption) (by assumption) (by assumption)).mono ?_; rintro e w' ⟨rfl, rfl⟩) | (go_at_call 98; refine (sar_64 _ _ _ (by omega) (by omega) (by omega) (by omega)).mono ?_; rintro e w' ⟨rfl, n, rfl⟩))
    go_ret
    exact ⟨rfl, n, rfl⟩
theorem Less_any (a b width : Int) (w : World) (h0 : 0 ≤ a) (h1 : a < 18446744073709551616) (h2 : 0 ≤ b) (h3 : b < 18446744073709551616) :
    Calls Try.prog 25 #[.int .u64 a, .int .u64 b, .int .i64 width] w fun e w' => e = .returned (.bool (lessW width a b)) ∧ w' = w := by
  rcases wide_cases width with rfl | rfl | rfl | ⟨n8, n16, n32⟩
  · have hv : lessW 8 a b = lessM (a % 256) (b % 256) := rfl
    rw [hv]
    clear hv
    go_enter Try.func25, Try.ntmps25
    go_wp2_with (first | (go_at_call 59; refine (pkb_8 _ _ _ _ _).mono ?_; rintro e w' ⟨rfl, rfl⟩) | (go_at_call 60; refine (less_8 _ _ _ (by omega) (by omega) (by omega) (by omega)).mono ?_; rintro e w' ⟨rfl, rfl⟩))
    go_ret
    exact ⟨rfl, rfl⟩
  · have hv : lessW 16 a b = lessM (a % 65536) (b % 65536) := rfl
    rw [hv]
    clear hv
    go_enter Try.func25, Try.ntmps25
    go_wp2_with (first | (go_at_call 59; refine (pkb_16 _ _ _ _ _).mono ?_; rintro e w' ⟨rfl, rfl⟩) | (go_at_call 61; refine (less_16 _ _ _ (by omega) (by omega) (by omega) (by omega)).mono ?_; rintro e w' ⟨rfl, rfl⟩))
    go_ret
    exact ⟨rfl, rfl⟩
  · have hv : lessW 32 a b = lessM (a % 4294967296) (b % 4294967296) := rfl
    rw [hv]
    clear hv
    go_enter Try.func25, Try.ntmps25
    go_wp2_with (first | (go_at_call 59; refine (pkb_32 _ _ _ _ _).mono ?_; rintro e w' ⟨rfl, rfl⟩) | (go_at_call 62; refine (less_32 _ _ _ (by omega) (by omega) (by omega) (by omega)).mono ?_; rintro e w' ⟨rfl, rfl⟩))
    go_ret
    exact ⟨rfl, rfl⟩
  · have hv : lessW width a b = lessM (a % 18446744073709551616) (b % 18446744073709551616) := by unfold lessW; rw [(W64 n8 n16 n32).1]
    have g8 : (width == 8) = false := by simp [n8]
    have g16 : (width == 16) = false := by simp [n16]
    have g32 : (width == 32) = false := by simp [n32]
    rw [hv]
    clear hv n8 n16 n32
    go_enter Try.func25, Try.ntmps25
    go_wp2_with (first | (go_at_call 59; refine (pkb_64 _ _ _ _ _ _ (by assumption) (by assumption) (by assumption)).mono ?_; rintro e w' ⟨rfl, rfl⟩) | (go_at_call 63; refine (less_64 _ _ _ (by omega) (by omega) (by omega) (by omega)).mono ?_; rintro e w' ⟨rfl, rfl⟩))
    go_ret
    exact ⟨rfl, rfl⟩
theorem SLess_any (a b width : Int) (w : World) (h0 : 0 ≤ a) (h1 : a < 18446744073709551616) (h2 : 0 ≤ b) (h3 : b < 18446744073709551616) :
    Calls Try.prog 27 #[.int .u64 a, .int .u64 b, .int .i64 width] w fun e w' => e = .returned (.bool (slessW width a b)) ∧ w' = w := by
  rcases wide_cases width with rfl | rfl | rfl | ⟨n8, n16, n32⟩
  · have hv : slessW 8 a b = slessM 128 256 (a % 256) (b % 256) := rfl
    rw [hv]
    clear hv
    go_enter Try.func27, Try.ntmps27
    go_wp2_with (first | (go_at_call 59; refine (pkb_8 _ _ _ _ _).mono ?_; rintro e w' ⟨rfl, rfl⟩) | (go_at_call 64; refine (sless_8 _ _ _ (by omega) (by omega) (by omega) (by omega)).mono ?_; rintro e w' ⟨rfl, rfl⟩))
    go_ret
    exact ⟨rfl, rfl⟩
  · have hv : slessW 16 a b = slessM 32768 65536 (a % 65536) (b % 65536) := rfl
    rw [hv]
    clear hv
    go_enter Try.func27, Try.ntmps27
    go_wp2_with (first | (go_at_call 59; refine (pkb_16 _ _ _ _ _).mono ?_; rintro e w' ⟨rfl, rfl⟩) | (go_at_call 65; refine (sless_16 _ _ _ (by omega) (by omega) (by omega) (by omega)).mono ?_; rintro e w' ⟨rfl, rfl⟩))
    go_ret
    exact ⟨rfl, rfl⟩
  · have hv : slessW 32 a b = slessM 2147483648 4294967296 (a % 4294967296) (b % 4294967296) := rfl
    rw [hv]
    clear hv
    go_enter Try.func27, Try.ntmps27
    go_wp2_with (first | (go_at_call 59; refine (pkb_32 _ _ _ _ _).mono ?_; rintro e w' ⟨rfl, rfl⟩) | (go_at_call 66; refine (sless_32 _ _ _ (by omega) (by omega) (by omega) (by omega)).mono ?_; rintro e w' ⟨rfl, rfl⟩))
    go_ret
    exact ⟨rfl, rfl⟩
  · have hv : slessW width a b = slessM 9223372036854775808 18446744073709551616 (a % 18446744073709551616) (b % 18446744073709551616) := by unfold slessW; rw [(W64 n8 n16 n32).1, (W64 n8 n16 n32).2.1]
    have g8 : (width == 8) = false := by simp [n8]
    have g16 : (width == 16) = false := by simp [n16]
    have g32 : (width == 32) = false := by simp [n32]
    rw [hv]
    clear hv n8 n16 n32
    go_enter Try.func27, Try.ntmps27
    go_wp2_with (first | (go_at_call 59; refine (pkb_64 _ _ _ _ _ _ (by assumption) (by assumption) (by assumption)).mono ?_; rintro e w' ⟨rfl, rfl⟩) | (go_at_call 67; refine (sless_64 _ _ _ (by omega) (by omega) (by omega) (by omega)).mono ?_; rintro e w' ⟨rfl, rfl⟩))
    go_ret
    exact ⟨rfl, rfl⟩
theorem Add_any (a b : Int) (w : World) :
    Calls Try.prog 10 #[.int .u64 a, .int .u64 b] w fun e w' => e = .returned (.int .u64 (addW a b)) ∧ w' = w := by
  go_enter Try.func10, Try.ntmps10
  go_wp2
  go_ret
  exact ⟨rfl, rfl⟩
theorem Sub_any (a b : Int) (w : World) :
    Calls Try.prog 11 #[.int .u64 a, .int .u64 b] w fun e w' => e = .returned (.int .u64 (subW a b)) ∧ w' = w := by
  go_enter Try.func11, Try.ntmps11
  go_wp2
  go_ret
  exact ⟨rfl, rfl⟩
theorem Mul_any (a b : Int) (w : World) :
    Calls Try.prog 13 #[.int .u64 a, .int .u64 b] w fun e w' => e = .returned (.int .u64 (mulW a b)) ∧ w' = w := by
  go_enter Try.func13, Try.ntmps13
  go_wp2
  go_ret
  exact ⟨rfl, rfl⟩
theorem And_any (a b : Int) (w : World) :
    Calls Try.prog 15 #[.int .u64 a, .int .u64 b] w fun e w' => e = .returned (.int .u64 (andW a b)) ∧ w' = w := by
  go_enter Try.func15, Try.ntmps15
  go_wp2
  go_ret
  exact ⟨rfl, rfl⟩
theorem Or_any (a b : Int) (w : World) :
    Calls Try.prog 17 #[.int .u64 a, .int .u64 b] w fun e w' => e = .returned (.int .u64 (orW a b)) ∧ w' = w := by
  go_enter Try.func17, Try.ntmps17
  go_wp2
  go_ret
  exact ⟨rfl, rfl⟩
theorem Xor_any (a b : Int) (w : World) :
    Calls Try.prog 18 #[.int .u64 a, .int .u64 b] w fun e w' => e = .returned (.int .u64 (xorW a b)) ∧ w' = w := by
  go_enter Try.func18, Try.ntmps18
  go_wp2
  go_ret
  exact ⟨rfl, rfl⟩
theorem Neg_any (a : Int) (w : World) :
    Calls Try.prog 12 #[.int .u64 a] w fun e w' => e = .returned (.int .u64 (negW a)) ∧ w' = w := by
  go_enter Try.func12, Try.ntmps12
  go_wp2
  go_ret
  exact ⟨rfl, rfl⟩
end Go.Proofs.Ytdffhnboehjeoaa
