import Derived.Test.YtdffhnboehjeoaaWd
import Derived.Test.YtdffhnboehjeoaaWr
import Derived.WalkKit
import Derived.WalkLawsBesides
import Derived.Outline
namespace Go.Proofs.Ytdffhnboehjeoaa
open Go.RowKit
set_option linter.unusedVariables false
set_option linter.unusedSimpArgs false

theorem rev_any (a : Int) (w : World) (h0 : 0 ≤ a) (h1 : a < 18446744073709551616) :
    Calls Try.prog 103 #[.int .u64 a] w fun e w' => e = .returned (.int .u64 (revI a)) ∧ w' = w := by
  rw [← rev_all a h0 h1]
  go_enter Try.func103, Try.ntmps103
  go_wp2
  go_ret
  exact ⟨rfl, rfl⟩
theorem swap_8 (a : Int) (w : World) (h0 : 0 ≤ a) (h1 : a < 18446744073709551616) :
    Calls Try.prog 55 #[.int .u64 a] w fun e w' => e = .returned (.int .u64 (swB 1 0 (a % 256))) ∧ w' = w := by
  rw [← sw_8 a h0 h1]
  obtain ⟨hr0, hr1⟩ := revI_bd a
  go_enter Try.func55, Try.ntmps55
  go_wp2_with (first | (go_at_call 103; refine (rev_any _ _ (by omega) (by omega)).mono ?_; rintro e w' ⟨rfl, rfl⟩) | (go_at_call 104; refine (size_8 _).mono ?_; rintro e w' ⟨rfl, rfl⟩))
  go_ret
  exact ⟨ret_int (by first | rfl | omega), rfl⟩
theorem swap_16 (a : Int) (w : World) (h0 : 0 ≤ a) (h1 : a < 18446744073709551616) :
    Calls Try.prog 56 #[.int .u64 a] w fun e w' => e = .returned (.int .u64 (swB 2 0 (a % 65536))) ∧ w' = w := by
  rw [← sw_16 a h0 h1]
  obtain ⟨hr0, hr1⟩ := revI_bd a
  go_enter Try.func56, Try.ntmps56
  go_wp2_with (first | (go_at_call 103; refine (rev_any _ _ (by omega) (by omega)).mono ?_; rintro e w' ⟨rfl, rfl⟩) | (go_at_call 105; refine (size_16 _).mono ?_; rintro e w' ⟨rfl, rfl⟩))
  go_ret
  exact ⟨ret_int (by first | rfl | omega), rfl⟩
theorem swap_32 (a : Int) (w : World) (h0 : 0 ≤ a) (h1 : a < 18446744073709551616) :
    Calls Try.prog 57 #[.int .u64 a] w fun e w' => e = .returned (.int .u64 (swB 4 0 (a % 4294967296))) ∧ w' = w := by
  rw [← sw_32 a h0 h1]
  obtain ⟨hr0, hr1⟩ := revI_bd a
  go_enter Try.func57, Try.ntmps57
  go_wp2_with (first | (go_at_call 103; refine (rev_any _ _ (by omega) (by omega)).mono ?_; rintro e w' ⟨rfl, rfl⟩) | (go_at_call 106; refine (size_32 _).mono ?_; rintro e w' ⟨rfl, rfl⟩))
  go_ret
  exact ⟨ret_int (by first | rfl | omega), rfl⟩
theorem swap_64 (a : Int) (w : World) (h0 : 0 ≤ a) (h1 : a < 18446744073709551616) :
    Calls Try.prog 58 #[.int .u64 a] w fun e w' => e = .returned (.int .u64 (swB 8 0 (a % 18446744073709551616))) ∧ w' = w := by
  rw [← sw_64 a h0 h1]
  obtain ⟨hr0, hr1⟩ := revI_bd a
  go_enter Try.func58, Try.ntmps58
  go_wp2_with (first | (go_at_call 103; refine (rev_any _ _ (by omega) (by omega)).mono ?_; rintro e w' ⟨rfl, rfl⟩) | (go_at_call 107; refine (size_64 _).mono ?_; rintro e w' ⟨rfl, rfl⟩))
  go_ret
  exact ⟨ret_int (by first | rfl | omega), rfl⟩
theorem Swap_any (a width : Int) (w : World) (h0 : 0 ≤ a) (h1 : a < 18446744073709551616) :
    Calls Try.prog 23 #[.int .u64 a, .int .i64 width] w fun e w' => e = .returned (.int .u64 (swapW width a)) ∧ w' = w := by
  rcases wide_cases width with rfl | rfl | rfl | ⟨n8, n16, n32⟩
  · have hv : swapW 8 a = swB 1 0 (a % 256) := rfl
    rw [hv]
    clear hv
    go_enter Try.func23, Try.ntmps23
    go_wp2_with (first | (go_at_call 45; refine (pk1_8 _ _ _ _ _).mono ?_; rintro e w' ⟨rfl, rfl⟩) | (go_at_call 55; refine (swap_8 _ _ (by omega) (by omega)).mono ?_; rintro e w' ⟨rfl, rfl⟩))
    go_ret
    exact ⟨rfl, rfl⟩
  · have hv : swapW 16 a = swB 2 0 (a % 65536) := rfl
    rw [hv]
    clear hv
    go_enter Try.func23, Try.ntmps23
    go_wp2_with (first | (go_at_call 45; refine (pk1_16 _ _ _ _ _).mono ?_; rintro e w' ⟨rfl, rfl⟩) | (go_at_call 56; refine (swap_16 _ _ (by omega) (by omega)).mono ?_; rintro e w' ⟨rfl, rfl⟩))
    go_ret
    exact ⟨rfl, rfl⟩
  · have hv : swapW 32 a = swB 4 0 (a % 4294967296) := rfl
    rw [hv]
    clear hv
    go_enter Try.func23, Try.ntmps23
    go_wp2_with (first | (go_at_call 45; refine (pk1_32 _ _ _ _ _).mono ?_; rintro e w' ⟨rfl, rfl⟩) | (go_at_call 57; refine (swap_32 _ _ (by omega) (by omega)).mono ?_; rintro e w' ⟨rfl, rfl⟩))
    go_ret
    exact ⟨rfl, rfl⟩
  · have hv : swapW width a = swB 8 0 (a % 18446744073709551616) := by unfold swapW; rw [(W64 n8 n16 n32).1, (W64 n8 n16 n32).2.2]; rfl
    have g8 : (width == 8) = false := by simp [n8]
    have g16 : (width == 16) = false := by simp [n16]
    have g32 : (width == 32) = false := by simp [n32]
    rw [hv]
    clear hv n8 n16 n32
    go_enter Try.func23, Try.ntmps23
    go_wp2_with (first | (go_at_call 45; refine (pk1_64 _ _ _ _ _ _ (by assumption) (by assumption) (by assumption)).mono ?_; rintro e w' ⟨rfl, rfl⟩) | (go_at_call 58; refine (swap_64 _ _ (by omega) (by omega)).mono ?_; rintro e w' ⟨rfl, rfl⟩))
    go_ret
    exact ⟨rfl, rfl⟩
end Go.Proofs.Ytdffhnboehjeoaa
