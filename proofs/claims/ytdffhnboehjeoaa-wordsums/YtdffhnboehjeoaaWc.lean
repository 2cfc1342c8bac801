import Derived.Test.YtdffhnboehjeoaaRows
import Derived.Test.YtdffhnboehjeoaaWb
import Derived.WalkKit
import Derived.WalkLawsBesides
import Derived.Outline
import Derived.Deep.QuietTactic
import Derived.BigQuiet
namespace Go.Proofs.Ytdffhnboehjeoaa
open Go.RowKit
set_option linter.unusedVariables false
set_option linter.unusedSimpArgs false
attribute [local go_sem] IntKind.wrap_u16 IntKind.wrap_u32' IntKind.wrap_u64 IntKind.wrap_u8'

theorem sdiv_8 (a b : Int) (w : World) (h0 : 0 ≤ a) (h1 : a < 18446744073709551616) (h2 : 0 ≤ b) (h3 : b < 18446744073709551616) :
    Calls Try.prog 78 #[.int .u64 a, .int .u64 b] w fun e w' => e = .returned (.int .u64 (sdivM 128 256 (a % 256) (b % 256))) ∧ w' = w := by
  skip
  skip
  by_cases hn : (b % 256) = 0
  · have hd : sdivM 128 256 (a % 256) (b % 256) = 0 := by unfold sdivM; rw [if_pos hn]
    have hb : ((b % 256) == 0) = true := by simp [hn]
    rw [hd]
    clear hd hn
    go_enter Try.func78, Try.ntmps78
    go_wp2
    go_ret
    exact ⟨rfl, rfl⟩
  · have hb : ((b % 256) == 0) = false := by simp [hn]
    have hp : 0 < magM 128 256 (b % 256) := mag_pos (by omega) (by omega) (by omega)
    obtain ⟨hm0, hm1⟩ := mag_bd (h := 128) (m := 256) (n := (a % 256)) (by omega) (by omega) (by omega)
    obtain ⟨hm2, hm3⟩ := mag_bd (h := 128) (m := 256) (n := (b % 256)) (by omega) (by omega) (by omega)
    obtain ⟨hq0, hq1⟩ := div_bd (x := magM 128 256 (a % 256)) (y := magM 128 256 (b % 256)) (B := 256 - 1) (by omega) (by omega) hp
    by_cases hs : negM 128 (a % 256) = negM 128 (b % 256)
    · have hd : sdivM 128 256 (a % 256) (b % 256) = magM 128 256 (a % 256) / magM 128 256 (b % 256) := by unfold sdivM; rw [if_neg hn, if_pos hs]
      have hs' : (negM 128 (a % 256) == negM 128 (b % 256)) = true := by simp [hs]
      rw [hd]
      clear hd hs
      go_enter Try.func78, Try.ntmps78
      go_wp2_with (first | (go_at_call 108; refine (mag_8 _ _ (by omega) (by omega)).mono ?_; rintro e w' ⟨rfl, rfl⟩) | (go_at_call 99; refine (neg_8 _ _).mono ?_; rintro e w' ⟨rfl, rfl⟩))
      go_ret
      exact ⟨ret_int (by (try rw [Int.tdiv_eq_ediv_of_nonneg (by omega)]); first | rfl | omega), rfl⟩
    · have hd : sdivM 128 256 (a % 256) (b % 256) = -(magM 128 256 (a % 256) / magM 128 256 (b % 256)) % 256 := by unfold sdivM; rw [if_neg hn, if_neg hs]
      have hs' : (negM 128 (a % 256) == negM 128 (b % 256)) = false := by simp [hs]
      rw [hd]
      clear hd hs
      go_enter Try.func78, Try.ntmps78
      go_wp2_with (first | (go_at_call 108; refine (mag_8 _ _ (by omega) (by omega)).mono ?_; rintro e w' ⟨rfl, rfl⟩) | (go_at_call 99; refine (neg_8 _ _).mono ?_; rintro e w' ⟨rfl, rfl⟩))
      go_ret
      exact ⟨ret_int (by (try rw [Int.tdiv_eq_ediv_of_nonneg (by omega)]); first | rfl | omega), rfl⟩
theorem smod_8 (a b : Int) (w : World) (h0 : 0 ≤ a) (h1 : a < 18446744073709551616) (h2 : 0 ≤ b) (h3 : b < 18446744073709551616) :
    Calls Try.prog 83 #[.int .u64 a, .int .u64 b] w fun e w' => e = .returned (.int .u64 (smodM 128 256 (a % 256) (b % 256))) ∧ w' = w := by
  skip
  skip
  by_cases hn : (b % 256) = 0
  · have hd : smodM 128 256 (a % 256) (b % 256) = (a % 256) := by unfold smodM; rw [if_pos hn]
    have hb : ((b % 256) == 0) = true := by simp [hn]
    rw [hd]
    clear hd hn
    go_enter Try.func83, Try.ntmps83
    go_wp2
    go_ret
    exact ⟨ret_int (by first | rfl | omega), rfl⟩
  · have hb : ((b % 256) == 0) = false := by simp [hn]
    have hp : 0 < magM 128 256 (b % 256) := mag_pos (by omega) (by omega) (by omega)
    obtain ⟨hm0, hm1⟩ := mag_bd (h := 128) (m := 256) (n := (a % 256)) (by omega) (by omega) (by omega)
    obtain ⟨hm2, hm3⟩ := mag_bd (h := 128) (m := 256) (n := (b % 256)) (by omega) (by omega) (by omega)
    obtain ⟨hq0, hq1⟩ := rem_bd (x := magM 128 256 (a % 256)) (y := magM 128 256 (b % 256)) hp
    by_cases hs : 128 ≤ (a % 256)
    · have hd : smodM 128 256 (a % 256) (b % 256) = -(magM 128 256 (a % 256) % magM 128 256 (b % 256)) % 256 := by unfold smodM; rw [if_neg hn, if_pos hs]
      have hs' : negM 128 (a % 256) = true := by simp [negM, hs]
      rw [hd]
      clear hd
      go_enter Try.func83, Try.ntmps83
      go_wp2_with (first | (go_at_call 108; refine (mag_8 _ _ (by omega) (by omega)).mono ?_; rintro e w' ⟨rfl, rfl⟩) | (go_at_call 99; refine (neg_8 _ _).mono ?_; rintro e w' ⟨rfl, rfl⟩))
      go_ret
      exact ⟨ret_int (by first | rfl | omega), rfl⟩
    · have hd : smodM 128 256 (a % 256) (b % 256) = magM 128 256 (a % 256) % magM 128 256 (b % 256) := by unfold smodM; rw [if_neg hn, if_neg hs]
      have hs' : negM 128 (a % 256) = false := by simp [negM]; omega
      rw [hd]
      clear hd
      go_enter Try.func83, Try.ntmps83
      go_wp2_with (first | (go_at_call 108; refine (mag_8 _ _ (by omega) (by omega)).mono ?_; rintro e w' ⟨rfl, rfl⟩) | (go_at_call 99; refine (neg_8 _ _).mono ?_; rintro e w' ⟨rfl, rfl⟩))
      go_ret
      exact ⟨ret_int (by first | rfl | omega), rfl⟩
theorem sar_8 (a k : Int) (w : World) (h0 : 0 ≤ a) (h1 : a < 18446744073709551616) (h2 : 0 ≤ k) (h3 : k < 18446744073709551616) :
    Calls Try.prog 95 #[.int .u64 a, .int .u64 k] w fun e w' => e = .returned (.int .u64 (sarM 128 256 (a % 256) (k % 8))) ∧ ∃ n, w' = w.drewN n := by
  skip
  by_cases hs : 128 ≤ (a % 256)
  · have hd : sarM 128 256 (a % 256) (k % 8) = 256 - 1 - (256 - 1 - (a % 256)) / 2 ^ (k % 8).toNat := by unfold sarM; rw [if_pos hs]
    have hs' : negM 128 (a % 256) = true := by simp [negM, hs]
    obtain ⟨hq0, hq1⟩ := div_bd (x := 256 - 1 - (a % 256)) (y := 2 ^ (k % 8).toNat) (B := 256 - 1) (by omega) (by omega) (pow_pos2 _)
    have hx := not_u8 (a % 256) (by omega) (by omega)
    rw [hd]
    clear hd
    go_enter Try.func95, Try.ntmps95
    go_wp2
    go_quiet ((go_at_call 104; exact Calls.quiet_of_same (size_8 _)))
    go_wp2_with (go_at_call 99; refine (neg_8 _ _).mono ?_; rintro e w' ⟨rfl, rfl⟩)
    go_ret
    exact ⟨ret_int (by (try simp only [Int.reduceSub] at *); rw [not_u8 _ (by omega) (by omega)]; (try omega)), _, rfl⟩
  · have hd : sarM 128 256 (a % 256) (k % 8) = (a % 256) / 2 ^ (k % 8).toNat := by unfold sarM; rw [if_neg hs]
    have hs' : negM 128 (a % 256) = false := by simp [negM]; omega
    obtain ⟨hq0, hq1⟩ := div_bd (x := (a % 256)) (y := 2 ^ (k % 8).toNat) (B := 256 - 1) (by omega) (by omega) (pow_pos2 _)
    rw [hd]
    clear hd
    go_enter Try.func95, Try.ntmps95
    go_wp2
    go_quiet ((go_at_call 104; exact Calls.quiet_of_same (size_8 _)))
    go_wp2_with (go_at_call 99; refine (neg_8 _ _).mono ?_; rintro e w' ⟨rfl, rfl⟩)
    go_ret
    exact ⟨ret_int (by first | rfl | omega), _, rfl⟩
theorem sless_8 (a b : Int) (w : World) (h0 : 0 ≤ a) (h1 : a < 18446744073709551616) (h2 : 0 ≤ b) (h3 : b < 18446744073709551616) :
    Calls Try.prog 64 #[.int .u64 a, .int .u64 b] w fun e w' => e = .returned (.bool (slessM 128 256 (a % 256) (b % 256))) ∧ w' = w := by
  go_enter Try.func64, Try.ntmps64
  go_wp2_with (go_at_call 50; refine (sgn_8 _ _ (by omega) (by omega)).mono ?_; rintro e w' ⟨rfl, rfl⟩)
  go_ret
  exact ⟨ret_bool (by unfold slessM sgnM wrap64; rw [decide_eq_decide]; split <;> split <;> omega), rfl⟩
theorem sdiv_16 (a b : Int) (w : World) (h0 : 0 ≤ a) (h1 : a < 18446744073709551616) (h2 : 0 ≤ b) (h3 : b < 18446744073709551616) :
    Calls Try.prog 79 #[.int .u64 a, .int .u64 b] w fun e w' => e = .returned (.int .u64 (sdivM 32768 65536 (a % 65536) (b % 65536))) ∧ w' = w := by
  skip
  skip
  by_cases hn : (b % 65536) = 0
  · have hd : sdivM 32768 65536 (a % 65536) (b % 65536) = 0 := by unfold sdivM; rw [if_pos hn]
    have hb : ((b % 65536) == 0) = true := by simp [hn]
    rw [hd]
    clear hd hn
    go_enter Try.func79, Try.ntmps79
    go_wp2
    go_ret
    exact ⟨rfl, rfl⟩
  · have hb : ((b % 65536) == 0) = false := by simp [hn]
    have hp : 0 < magM 32768 65536 (b % 65536) := mag_pos (by omega) (by omega) (by omega)
    obtain ⟨hm0, hm1⟩ := mag_bd (h := 32768) (m := 65536) (n := (a % 65536)) (by omega) (by omega) (by omega)
    obtain ⟨hm2, hm3⟩ := mag_bd (h := 32768) (m := 65536) (n := (b % 65536)) (by omega) (by omega) (by omega)
    obtain ⟨hq0, hq1⟩ := div_bd (x := magM 32768 65536 (a % 65536)) (y := magM 32768 65536 (b % 65536)) (B := 65536 - 1) (by omega) (by omega) hp
    by_cases hs : negM 32768 (a % 65536) = negM 32768 (b % 65536)
    · have hd : sdivM 32768 65536 (a % 65536) (b % 65536) = magM 32768 65536 (a % 65536) / magM 32768 65536 (b % 65536) := by unfold sdivM; rw [if_neg hn, if_pos hs]
      have hs' : (negM 32768 (a % 65536) == negM 32768 (b % 65536)) = true := by simp [hs]
      rw [hd]
      clear hd hs
      go_enter Try.func79, Try.ntmps79
      go_wp2_with (first | (go_at_call 109; refine (mag_16 _ _ (by omega) (by omega)).mono ?_; rintro e w' ⟨rfl, rfl⟩) | (go_at_call 100; refine (neg_16 _ _).mono ?_; rintro e w' ⟨rfl, rfl⟩))
      go_ret
      exact ⟨ret_int (by (try rw [Int.tdiv_eq_ediv_of_nonneg (by omega)]); first | rfl | omega), rfl⟩
    · have hd : sdivM 32768 65536 (a % 65536) (b % 65536) = -(magM 32768 65536 (a % 65536) / magM 32768 65536 (b % 65536)) % 65536 := by unfold sdivM; rw [if_neg hn, if_neg hs]
      have hs' : (negM 32768 (a % 65536) == negM 32768 (b % 65536)) = false := by simp [hs]
      rw [hd]
      clear hd hs
      go_enter Try.func79, Try.ntmps79
      go_wp2_with (first | (go_at_call 109; refine (mag_16 _ _ (by omega) (by omega)).mono ?_; rintro e w' ⟨rfl, rfl⟩) | (go_at_call 100; refine (neg_16 _ _).mono ?_; rintro e w' ⟨rfl, rfl⟩))
      go_ret
      exact ⟨ret_int (by (try rw [Int.tdiv_eq_ediv_of_nonneg (by omega)]); first | rfl | omega), rfl⟩
theorem smod_16 (a b : Int) (w : World) (h0 : 0 ≤ a) (h1 : a < 18446744073709551616) (h2 : 0 ≤ b) (h3 : b < 18446744073709551616) :
    Calls Try.prog 84 #[.int .u64 a, .int .u64 b] w fun e w' => e = .returned (.int .u64 (smodM 32768 65536 (a % 65536) (b % 65536))) ∧ w' = w := by
  skip
  skip
  by_cases hn : (b % 65536) = 0
  · have hd : smodM 32768 65536 (a % 65536) (b % 65536) = (a % 65536) := by unfold smodM; rw [if_pos hn]
    have hb : ((b % 65536) == 0) = true := by simp [hn]
    rw [hd]
    clear hd hn
    go_enter Try.func84, Try.ntmps84
    go_wp2
    go_ret
    exact ⟨ret_int (by first | rfl | omega), rfl⟩
  · have hb : ((b % 65536) == 0) = false := by simp [hn]
    have hp : 0 < magM 32768 65536 (b % 65536) := mag_pos (by omega) (by omega) (by omega)
    obtain ⟨hm0, hm1⟩ := mag_bd (h := 32768) (m := 65536) (n := (a % 65536)) (by omega) (by omega) (by omega)
    obtain ⟨hm2, hm3⟩ := mag_bd (h := 32768) (m := 65536) (n := (b % 65536)) (by omega) (by omega) (by omega)
    obtain ⟨hq0, hq1⟩ := rem_bd (x := magM 32768 65536 (a % 65536)) (y := magM 32768 65536 (b % 65536)) hp
    by_cases hs : 32768 ≤ (a % 65536)
    · have hd : smodM 32768 65536 (a % 65536) (b % 65536) = -(magM 32768 65536 (a % 65536) % magM 32768 65536 (b % 65536)) % 65536 := by unfold smodM; rw [if_neg hn, if_pos hs]
      have hs' : negM 32768 (a % 65536) = true := by simp [negM, hs]
      rw [hd]
      clear hd
      go_enter Try.func84, Try.ntmps84
      go_wp2_with (first | (go_at_call 109; refine (mag_16 _ _ (by omega) (by omega)).mono ?_; rintro e w' ⟨rfl, rfl⟩) | (go_at_call 100; refine (neg_16 _ _).mono ?_; rintro e w' ⟨rfl, rfl⟩))
      go_ret
      exact ⟨ret_int (by first | rfl | omega), rfl⟩
    · have hd : smodM 32768 65536 (a % 65536) (b % 65536) = magM 32768 65536 (a % 65536) % magM 32768 65536 (b % 65536) := by unfold smodM; rw [if_neg hn, if_neg hs]
      have hs' : negM 32768 (a % 65536) = false := by simp [negM]; omega
      rw [hd]
      clear hd
      go_enter Try.func84, Try.ntmps84
      go_wp2_with (first | (go_at_call 109; refine (mag_16 _ _ (by omega) (by omega)).mono ?_; rintro e w' ⟨rfl, rfl⟩) | (go_at_call 100; refine (neg_16 _ _).mono ?_; rintro e w' ⟨rfl, rfl⟩))
      go_ret
      exact ⟨ret_int (by first | rfl | omega), rfl⟩
theorem sar_16 (a k : Int) (w : World) (h0 : 0 ≤ a) (h1 : a < 18446744073709551616) (h2 : 0 ≤ k) (h3 : k < 18446744073709551616) :
    Calls Try.prog 96 #[.int .u64 a, .int .u64 k] w fun e w' => e = .returned (.int .u64 (sarM 32768 65536 (a % 65536) (k % 16))) ∧ ∃ n, w' = w.drewN n := by
  skip
  by_cases hs : 32768 ≤ (a % 65536)
  · have hd : sarM 32768 65536 (a % 65536) (k % 16) = 65536 - 1 - (65536 - 1 - (a % 65536)) / 2 ^ (k % 16).toNat := by unfold sarM; rw [if_pos hs]
    have hs' : negM 32768 (a % 65536) = true := by simp [negM, hs]
    obtain ⟨hq0, hq1⟩ := div_bd (x := 65536 - 1 - (a % 65536)) (y := 2 ^ (k % 16).toNat) (B := 65536 - 1) (by omega) (by omega) (pow_pos2 _)
    have hx := not_u16 (a % 65536) (by omega) (by omega)
    rw [hd]
    clear hd
    go_enter Try.func96, Try.ntmps96
    go_wp2
    go_quiet ((go_at_call 105; exact Calls.quiet_of_same (size_16 _)))
    go_wp2_with (go_at_call 100; refine (neg_16 _ _).mono ?_; rintro e w' ⟨rfl, rfl⟩)
    go_ret
    exact ⟨ret_int (by (try simp only [Int.reduceSub] at *); rw [not_u16 _ (by omega) (by omega)]; (try omega)), _, rfl⟩
  · have hd : sarM 32768 65536 (a % 65536) (k % 16) = (a % 65536) / 2 ^ (k % 16).toNat := by unfold sarM; rw [if_neg hs]
    have hs' : negM 32768 (a % 65536) = false := by simp [negM]; omega
    obtain ⟨hq0, hq1⟩ := div_bd (x := (a % 65536)) (y := 2 ^ (k % 16).toNat) (B := 65536 - 1) (by omega) (by omega) (pow_pos2 _)
    rw [hd]
    clear hd
    go_enter Try.func96, Try.ntmps96
    go_wp2
    go_quiet ((go_at_call 105; exact Calls.quiet_of_same (size_16 _)))
    go_wp2_with (go_at_call 100; refine (neg_16 _ _).mono ?_; rintro e w' ⟨rfl, rfl⟩)
    go_ret
    exact ⟨ret_int (by first | rfl | omega), _, rfl⟩
theorem sless_16 (a b : Int) (w : World) (h0 : 0 ≤ a) (h1 : a < 18446744073709551616) (h2 : 0 ≤ b) (h3 : b < 18446744073709551616) :
    Calls Try.prog 65 #[.int .u64 a, .int .u64 b] w fun e w' => e = .returned (.bool (slessM 32768 65536 (a % 65536) (b % 65536))) ∧ w' = w := by
  go_enter Try.func65, Try.ntmps65
  go_wp2_with (go_at_call 51; refine (sgn_16 _ _ (by omega) (by omega)).mono ?_; rintro e w' ⟨rfl, rfl⟩)
  go_ret
  exact ⟨ret_bool (by unfold slessM sgnM wrap64; rw [decide_eq_decide]; split <;> split <;> omega), rfl⟩
theorem sdiv_32 (a b : Int) (w : World) (h0 : 0 ≤ a) (h1 : a < 18446744073709551616) (h2 : 0 ≤ b) (h3 : b < 18446744073709551616) :
    Calls Try.prog 80 #[.int .u64 a, .int .u64 b] w fun e w' => e = .returned (.int .u64 (sdivM 2147483648 4294967296 (a % 4294967296) (b % 4294967296))) ∧ w' = w := by
  skip
  skip
  by_cases hn : (b % 4294967296) = 0
  · have hd : sdivM 2147483648 4294967296 (a % 4294967296) (b % 4294967296) = 0 := by unfold sdivM; rw [if_pos hn]
    have hb : ((b % 4294967296) == 0) = true := by simp [hn]
    rw [hd]
    clear hd hn
    go_enter Try.func80, Try.ntmps80
    go_wp2
    go_ret
    exact ⟨rfl, rfl⟩
  · have hb : ((b % 4294967296) == 0) = false := by simp [hn]
    have hp : 0 < magM 2147483648 4294967296 (b % 4294967296) := mag_pos (by omega) (by omega) (by omega)
    obtain ⟨hm0, hm1⟩ := mag_bd (h := 2147483648) (m := 4294967296) (n := (a % 4294967296)) (by omega) (by omega) (by omega)
    obtain ⟨hm2, hm3⟩ := mag_bd (h := 2147483648) (m := 4294967296) (n := (b % 4294967296)) (by omega) (by omega) (by omega)
    obtain ⟨hq0, hq1⟩ := div_bd (x := magM 2147483648 4294967296 (a % 4294967296)) (y := magM 2147483648 4294967296 (b % 4294967296)) (B := 4294967296 - 1) (by omega) (by omega) hp
    by_cases hs : negM 2147483648 (a % 4294967296) = negM 2147483648 (b % 4294967296)
    · have hd : sdivM 2147483648 4294967296 (a % 4294967296) (b % 4294967296) = magM 2147483648 4294967296 (a % 4294967296) / magM 2147483648 4294967296 (b % 4294967296) := by unfold sdivM; rw [if_neg hn, if_pos hs]
      have hs' : (negM 2147483648 (a % 4294967296) == negM 2147483648 (b % 4294967296)) = true := by simp [hs]
      rw [hd]
      clear hd hs
      go_enter Try.func80, Try.ntmps80
      go_wp2_with (first | (go_at_call 110; refine (mag_32 _ _ (by omega) (by omega)).mono ?_; rintro e w' ⟨rfl, rfl⟩) | (go_at_call 101; refine (neg_32 _ _).mono ?_; rintro e w' ⟨rfl, rfl⟩))
      go_ret
      exact ⟨ret_int (by (try rw [Int.tdiv_eq_ediv_of_nonneg (by omega)]); first | rfl | omega), rfl⟩
    · have hd : sdivM 2147483648 4294967296 (a % 4294967296) (b % 4294967296) = -(magM 2147483648 4294967296 (a % 4294967296) / magM 2147483648 4294967296 (b % 4294967296)) % 4294967296 := by unfold sdivM; rw [if_neg hn, if_neg hs]
      have hs' : (negM 2147483648 (a % 4294967296) == negM 2147483648 (b % 4294967296)) = false := by simp [hs]
      rw [hd]
      clear hd hs
      go_enter Try.func80, Try.ntmps80
      go_wp2_with (first | (go_at_call 110; refine (mag_32 _ _ (by omega) (by omega)).mono ?_; rintro e w' ⟨rfl, rfl⟩) | (go_at_call 101; refine (neg_32 _ _).mono ?_; rintro e w' ⟨rfl, rfl⟩))
      go_ret
      exact ⟨ret_int (by (try rw [Int.tdiv_eq_ediv_of_nonneg (by omega)]); first | rfl | omega), rfl⟩
theorem smod_32 (a b : Int) (w : World) (h0 : 0 ≤ a) (h1 : a < 18446744073709551616) (h2 : 0 ≤ b) (h3 : b < 18446744073709551616) :
    Calls Try.prog 85 #[.int .u64 a, .int .u64 b] w fun e w' => e = .returned (.int .u64 (smodM 2147483648 4294967296 (a % 4294967296) (b % 4294967296))) ∧ w' = w := by
  skip
  skip
  by_cases hn : (b % 4294967296) = 0
  · have hd : smodM 2147483648 4294967296 (a % 4294967296) (b % 4294967296) = (a % 4294967296) := by unfold smodM; rw [if_pos hn]
    have hb : ((b % 4294967296) == 0) = true := by simp [hn]
    rw [hd]
    clear hd hn
    go_enter Try.func85, Try.ntmps85
    go_wp2
    go_ret
    exact ⟨ret_int (by first | rfl | omega), rfl⟩
  · have hb : ((b % 4294967296) == 0) = false := by simp [hn]
    have hp : 0 < magM 2147483648 4294967296 (b % 4294967296) := mag_pos (by omega) (by omega) (by omega)
    obtain ⟨hm0, hm1⟩ := mag_bd (h := 2147483648) (m := 4294967296) (n := (a % 4294967296)) (by omega) (by omega) (by omega)
    obtain ⟨hm2, hm3⟩ := mag_bd (h := 2147483648) (m := 4294967296) (n := (b % 4294967296)) (by omega) (by omega) (by omega)
    obtain ⟨hq0, hq1⟩ := rem_bd (x := magM 2147483648 4294967296 (a % 4294967296)) (y := magM 2147483648 4294967296 (b % 4294967296)) hp
    by_cases hs : 2147483648 ≤ (a % 4294967296)
    · have hd : smodM 2147483648 4294967296 (a % 4294967296) (b % 4294967296) = -(magM 2147483648 4294967296 (a % 4294967296) % magM 2147483648 4294967296 (b % 4294967296)) % 4294967296 := by unfold smodM; rw [if_neg hn, if_pos hs]
      have hs' : negM 2147483648 (a % 4294967296) = true := by simp [negM, hs]
      rw [hd]
      clear hd
      go_enter Try.func85, Try.ntmps85
      go_wp2_with (first | (go_at_call 110; refine (mag_32 _ _ (by omega) (by omega)).mono ?_; rintro e w' ⟨rfl, rfl⟩) | (go_at_call 101; refine (neg_32 _ _).mono ?_; rintro e w' ⟨rfl, rfl⟩))
      go_ret
      exact ⟨ret_int (by first | rfl | omega), rfl⟩
    · have hd : smodM 2147483648 4294967296 (a % 4294967296) (b % 4294967296) = magM 2147483648 4294967296 (a % 4294967296) % magM 2147483648 4294967296 (b % 4294967296) := by unfold smodM; rw [if_neg hn, if_neg hs]
      have hs' : negM 2147483648 (a % 4294967296) = false := by simp [negM]; omega
      rw [hd]
      clear hd
      go_enter Try.func85, Try.ntmps85
      go_wp2_with (first | (go_at_call 110; refine (mag_32 _ _ (by omega) (by omega)).mono ?_; rintro e w' ⟨rfl, rfl⟩) | (go_at_call 101; refine (neg_32 _ _).mono ?_; rintro e w' ⟨rfl, rfl⟩))
      go_ret
      exact ⟨ret_int (by first | rfl | omega), rfl⟩
theorem sar_32 (a k : Int) (w : World) (h0 : 0 ≤ a) (h1 : a < 18446744073709551616) (h2 : 0 ≤ k) (h3 : k < 18446744073709551616) :
    Calls Try.prog 97 #[.int .u64 a, .int .u64 k] w fun e w' => e = .returned (.int .u64 (sarM 2147483648 4294967296 (a % 4294967296) (k % 32))) ∧ ∃ n, w' = w.drewN n := by
  skip
  by_cases hs : 2147483648 ≤ (a % 4294967296)
  · have hd : sarM 2147483648 4294967296 (a % 4294967296) (k % 32) = 4294967296 - 1 - (4294967296 - 1 - (a % 4294967296)) / 2 ^ (k % 32).toNat := by unfold sarM; rw [if_pos hs]
    have hs' : negM 2147483648 (a % 4294967296) = true := by simp [negM, hs]
    obtain ⟨hq0, hq1⟩ := div_bd (x := 4294967296 - 1 - (a % 4294967296)) (y := 2 ^ (k % 32).toNat) (B := 4294967296 - 1) (by omega) (by omega) (pow_pos2 _)
    have hx := not_u32 (a % 4294967296) (by omega) (by omega)
    rw [hd]
    clear hd
    go_enter Try.func97, Try.ntmps97
    go_wp2
    go_quiet ((go_at_call 106; exact Calls.quiet_of_same (size_32 _)))
    go_wp2_with (go_at_call 101; refine (neg_32 _ _).mono ?_; rintro e w' ⟨rfl, rfl⟩)
    go_ret
    exact ⟨ret_int (by (try simp only [Int.reduceSub] at *); rw [not_u32 _ (by omega) (by omega)]; (try omega)), _, rfl⟩
  · have hd : sarM 2147483648 4294967296 (a % 4294967296) (k % 32) = (a % 4294967296) / 2 ^ (k % 32).toNat := by unfold sarM; rw [if_neg hs]
    have hs' : negM 2147483648 (a % 4294967296) = false := by simp [negM]; omega
    obtain ⟨hq0, hq1⟩ := div_bd (x := (a % 4294967296)) (y := 2 ^ (k % 32).toNat) (B := 4294967296 - 1) (by omega) (by omega) (pow_pos2 _)
    rw [hd]
    clear hd
    go_enter Try.func97, Try.ntmps97
    go_wp2
    go_quiet ((go_at_call 106; exact Calls.quiet_of_same (size_32 _)))
    go_wp2_with (go_at_call 101; refine (neg_32 _ _).mono ?_; rintro e w' ⟨rfl, rfl⟩)
    go_ret
    exact ⟨ret_int (by first | rfl | omega), _, rfl⟩
theorem sless_32 (a b : Int) (w : World) (h0 : 0 ≤ a) (h1 : a < 18446744073709551616) (h2 : 0 ≤ b) (h3 : b < 18446744073709551616) :
    Calls Try.prog 66 #[.int .u64 a, .int .u64 b] w fun e w' => e = .returned (.bool (slessM 2147483648 4294967296 (a % 4294967296) (b % 4294967296))) ∧ w' = w := by
  go_enter Try.func66, Try.ntmps66
  go_wp2_with (go_at_call 52; refine (sgn_32 _ _ (by omega) (by omega)).mono ?_; rintro e w' ⟨rfl, rfl⟩)
  go_ret
  exact ⟨ret_bool (by unfold slessM sgnM wrap64; rw [decide_eq_decide]; split <;> split <;> omega), rfl⟩
theorem sdiv_64 (a b : Int) (w : World) (h0 : 0 ≤ a) (h1 : a < 18446744073709551616) (h2 : 0 ≤ b) (h3 : b < 18446744073709551616) :
    Calls Try.prog 81 #[.int .u64 a, .int .u64 b] w fun e w' => e = .returned (.int .u64 (sdivM 9223372036854775808 18446744073709551616 (a % 18446744073709551616) (b % 18446744073709551616))) ∧ w' = w := by
  rw [show a % 18446744073709551616 = a from by omega]
  rw [show b % 18446744073709551616 = b from by omega]
  by_cases hn : b = 0
  · have hd : sdivM 9223372036854775808 18446744073709551616 a b = 0 := by unfold sdivM; rw [if_pos hn]
    have hb : (b == 0) = true := by simp [hn]
    rw [hd]
    clear hd hn
    go_enter Try.func81, Try.ntmps81
    go_wp2
    go_ret
    exact ⟨rfl, rfl⟩
  · have hb : (b == 0) = false := by simp [hn]
    have hp : 0 < magM 9223372036854775808 18446744073709551616 b := mag_pos (by omega) (by omega) (by omega)
    obtain ⟨hm0, hm1⟩ := mag_bd (h := 9223372036854775808) (m := 18446744073709551616) (n := a) (by omega) (by omega) (by omega)
    obtain ⟨hm2, hm3⟩ := mag_bd (h := 9223372036854775808) (m := 18446744073709551616) (n := b) (by omega) (by omega) (by omega)
    obtain ⟨hq0, hq1⟩ := div_bd (x := magM 9223372036854775808 18446744073709551616 a) (y := magM 9223372036854775808 18446744073709551616 b) (B := 18446744073709551616 - 1) (by omega) (by omega) hp
    by_cases hs : negM 9223372036854775808 a = negM 9223372036854775808 b
    · have hd : sdivM 9223372036854775808 18446744073709551616 a b = magM 9223372036854775808 18446744073709551616 a / magM 9223372036854775808 18446744073709551616 b := by unfold sdivM; rw [if_neg hn, if_pos hs]
      have hs' : (negM 9223372036854775808 a == negM 9223372036854775808 b) = true := by simp [hs]
      rw [hd]
      clear hd hs
      go_enter Try.func81, Try.ntmps81
      go_wp2_with (first | (go_at_call 111; refine (mag_64 _ _ (by omega) (by omega)).mono ?_; rintro e w' ⟨rfl, rfl⟩) | (go_at_call 102; refine (neg_64 _ _).mono ?_; rintro e w' ⟨rfl, rfl⟩))
      go_ret
      exact ⟨ret_int (by (try rw [Int.tdiv_eq_ediv_of_nonneg (by omega)]); first | rfl | omega), rfl⟩
    · have hd : sdivM 9223372036854775808 18446744073709551616 a b = -(magM 9223372036854775808 18446744073709551616 a / magM 9223372036854775808 18446744073709551616 b) % 18446744073709551616 := by unfold sdivM; rw [if_neg hn, if_neg hs]
      have hs' : (negM 9223372036854775808 a == negM 9223372036854775808 b) = false := by simp [hs]
      rw [hd]
      clear hd hs
      go_enter Try.func81, Try.ntmps81
      go_wp2_with (first | (go_at_call 111; refine (mag_64 _ _ (by omega) (by omega)).mono ?_; rintro e w' ⟨rfl, rfl⟩) | (go_at_call 102; refine (neg_64 _ _).mono ?_; rintro e w' ⟨rfl, rfl⟩))
      go_ret
      exact ⟨ret_int (by (try rw [Int.tdiv_eq_ediv_of_nonneg (by omega)]); first | rfl | omega), rfl⟩
theorem smod_64 (a b : Int) (w : World) (h0 : 0 ≤ a) (h1 : a < 18446744073709551616) (h2 : 0 ≤ b) (h3 : b < 18446744073709551616) :
    Calls Try.prog 86 #[.int .u64 a, .int .u64 b] w fun e w' => e = .returned (.int .u64 (smodM 9223372036854775808 18446744073709551616 (a % 18446744073709551616) (b % 18446744073709551616))) ∧ w' = w := by
  rw [show a % 18446744073709551616 = a from by omega]
  rw [show b % 18446744073709551616 = b from by omega]
  by_cases hn : b = 0
  · have hd : smodM 9223372036854775808 18446744073709551616 a b = a := by unfold smodM; rw [if_pos hn]
    have hb : (b == 0) = true := by simp [hn]
    rw [hd]
    clear hd hn
    go_enter Try.func86, Try.ntmps86
    go_wp2
    go_ret
    exact ⟨ret_int (by first | rfl | omega), rfl⟩
  · have hb : (b == 0) = false := by simp [hn]
    have hp : 0 < magM 9223372036854775808 18446744073709551616 b := mag_pos (by omega) (by omega) (by omega)
    obtain ⟨hm0, hm1⟩ := mag_bd (h := 9223372036854775808) (m := 18446744073709551616) (n := a) (by omega) (by omega) (by omega)
    obtain ⟨hm2, hm3⟩ := mag_bd (h := 9223372036854775808) (m := 18446744073709551616) (n := b) (by omega) (by omega) (by omega)
    obtain ⟨hq0, hq1⟩ := rem_bd (x := magM 9223372036854775808 18446744073709551616 a) (y := magM 9223372036854775808 18446744073709551616 b) hp
    by_cases hs : 9223372036854775808 ≤ a
    · have hd : smodM 9223372036854775808 18446744073709551616 a b = -(magM 9223372036854775808 18446744073709551616 a % magM 9223372036854775808 18446744073709551616 b) % 18446744073709551616 := by unfold smodM; rw [if_neg hn, if_pos hs]
      have hs' : negM 9223372036854775808 a = true := by simp [negM, hs]
      rw [hd]
      clear hd
      go_enter Try.func86, Try.ntmps86
      go_wp2_with (first | (go_at_call 111; refine (mag_64 _ _ (by omega) (by omega)).mono ?_; rintro e w' ⟨rfl, rfl⟩) | (go_at_call 102; refine (neg_64 _ _).mono ?_; rintro e w' ⟨rfl, rfl⟩))
      go_ret
      exact ⟨ret_int (by first | rfl | omega), rfl⟩
    · have hd : smodM 9223372036854775808 18446744073709551616 a b = magM 9223372036854775808 18446744073709551616 a % magM 9223372036854775808 18446744073709551616 b := by unfold smodM; rw [if_neg hn, if_neg hs]
      have hs' : negM 9223372036854775808 a = false := by simp [negM]; omega
      rw [hd]
      clear hd
      go_enter Try.func86, Try.ntmps86
      go_wp2_with (first | (go_at_call 111; refine (mag_64 _ _ (by omega) (by omega)).mono ?_; rintro e w' ⟨rfl, rfl⟩) | (go_at_call 102; refine (neg_64 _ _).mono ?_; rintro e w' ⟨rfl, rfl⟩))
      go_ret
      exact ⟨ret_int (by first | rfl | omega), rfl⟩
theorem sar_64 (a k : Int) (w : World) (h0 : 0 ≤ a) (h1 : a < 18446744073709551616) (h2 : 0 ≤ k) (h3 : k < 18446744073709551616) :
    Calls Try.prog 98 #[.int .u64 a, .int .u64 k] w fun e w' => e = .returned (.int .u64 (sarM 9223372036854775808 18446744073709551616 (a % 18446744073709551616) (k % 64))) ∧ ∃ n, w' = w.drewN n := by
  rw [show a % 18446744073709551616 = a from by omega]
  by_cases hs : 9223372036854775808 ≤ a
  · have hd : sarM 9223372036854775808 18446744073709551616 a (k % 64) = 18446744073709551616 - 1 - (18446744073709551616 - 1 - a) / 2 ^ (k % 64).toNat := by unfold sarM; rw [if_pos hs]
    have hs' : negM 9223372036854775808 a = true := by simp [negM, hs]
    obtain ⟨hq0, hq1⟩ := div_bd (x := 18446744073709551616 - 1 - a) (y := 2 ^ (k % 64).toNat) (B := 18446744073709551616 - 1) (by omega) (by omega) (pow_pos2 _)
    have hx := not_u64 a (by omega) (by omega)
    rw [hd]
    clear hd
    go_enter Try.func98, Try.ntmps98
    go_wp2
    go_quiet ((go_at_call 107; exact Calls.quiet_of_same (size_64 _)))
    go_wp2_with (go_at_call 102; refine (neg_64 _ _).mono ?_; rintro e w' ⟨rfl, rfl⟩)
    go_ret
    exact ⟨ret_int (by (try simp only [Int.reduceSub] at *); rw [not_u64 _ (by omega) (by omega)]; (try omega)), _, rfl⟩
  · have hd : sarM 9223372036854775808 18446744073709551616 a (k % 64) = a / 2 ^ (k % 64).toNat := by unfold sarM; rw [if_neg hs]
    have hs' : negM 9223372036854775808 a = false := by simp [negM]; omega
    obtain ⟨hq0, hq1⟩ := div_bd (x := a) (y := 2 ^ (k % 64).toNat) (B := 18446744073709551616 - 1) (by omega) (by omega) (pow_pos2 _)
    rw [hd]
    clear hd
    go_enter Try.func98, Try.ntmps98
    go_wp2
    go_quiet ((go_at_call 107; exact Calls.quiet_of_same (size_64 _)))
    go_wp2_with (go_at_call 102; refine (neg_64 _ _).mono ?_; rintro e w' ⟨rfl, rfl⟩)
    go_ret
    exact ⟨ret_int (by first | rfl | omega), _, rfl⟩
theorem sless_64 (a b : Int) (w : World) (h0 : 0 ≤ a) (h1 : a < 18446744073709551616) (h2 : 0 ≤ b) (h3 : b < 18446744073709551616) :
    Calls Try.prog 67 #[.int .u64 a, .int .u64 b] w fun e w' => e = .returned (.bool (slessM 9223372036854775808 18446744073709551616 (a % 18446744073709551616) (b % 18446744073709551616))) ∧ w' = w := by
  go_enter Try.func67, Try.ntmps67
  go_wp2_with (go_at_call 53; refine (sgn_64 _ _ (by omega) (by omega)).mono ?_; rintro e w' ⟨rfl, rfl⟩)
  go_ret
  exact ⟨ret_bool (by unfold slessM sgnM wrap64; rw [decide_eq_decide]; split <;> split <;> omega), rfl⟩
end Go.Proofs.Ytdffhnboehjeoaa
