import Derived.Test.YtdffhnboehjeoaaRows
import Derived.Test.YtdffhnboehjeoaaWp
import Derived.WalkKit
import Derived.WalkLawsBesides
import Derived.Outline
namespace Go.Proofs.Ytdffhnboehjeoaa
open Go.RowKit
set_option linter.unusedVariables false
set_option linter.unusedSimpArgs false
attribute [local go_sem] IntKind.wrap_u16 IntKind.wrap_u32' IntKind.wrap_u64 IntKind.wrap_u8'

theorem neg_8 (n : Int) (w : World) :
    Calls Try.prog 99 #[.int .u8 n] w fun e w' => e = .returned (.bool (negM 128 n)) ∧ w' = w := by
  go_enter Try.func99, Try.ntmps99
  go_wp2
  go_ret
  exact ⟨ret_bool (by rw [not_u8 0 (by omega) (by omega)]; unfold negM; rw [decide_eq_decide]; omega), rfl⟩
theorem mag_8 (n : Int) (w : World) (h0 : 0 ≤ n) (h1 : n < 256) :
    Calls Try.prog 108 #[.int .u8 n] w fun e w' => e = .returned (.int .u8 (magM 128 256 n)) ∧ w' = w := by
  by_cases hn : 128 ≤ n
  · have hb : negM 128 n = true := by simp [negM, hn]
    go_enter Try.func108, Try.ntmps108
    go_wp2_with (go_at_call 99; refine (neg_8 _ _).mono ?_; rintro e w' ⟨rfl, rfl⟩)
    go_ret
    exact ⟨ret_int (by unfold magM; rw [if_pos hn]; (try simp only [IntKind.wrap_u8', IntKind.wrap_u16, IntKind.wrap_u32', IntKind.wrap_u64]); omega), rfl⟩
  · have hb : negM 128 n = false := by simp [negM]; omega
    go_enter Try.func108, Try.ntmps108
    go_wp2_with (go_at_call 99; refine (neg_8 _ _).mono ?_; rintro e w' ⟨rfl, rfl⟩)
    go_ret
    exact ⟨ret_int (by unfold magM; rw [if_neg (by omega)]), rfl⟩
theorem nar_8 (a : Int) (w : World) (h0 : 0 ≤ a) (h1 : a < 18446744073709551616) :
    Calls Try.prog 46 #[.int .u64 a] w fun e w' => e = .returned (.int .u64 (a % 256)) ∧ w' = w := by
  go_enter Try.func46, Try.ntmps46
  go_wp2
  go_ret
  exact ⟨ret_int (by first | rfl | ((try simp only [IntKind.wrap_u8', IntKind.wrap_u16, IntKind.wrap_u32', IntKind.wrap_u64]); omega)), rfl⟩
theorem sgn_8 (a : Int) (w : World) (h0 : 0 ≤ a) (h1 : a < 18446744073709551616) :
    Calls Try.prog 50 #[.int .u64 a] w fun e w' => e = .returned (.int .u64 (sgnM 128 256 (a % 256))) ∧ w' = w := by
  skip
  by_cases hn : 128 ≤ (a % 256)
  · have hb : negM 128 (a % 256) = true := by simp [negM, hn]
    go_enter Try.func50, Try.ntmps50
    go_wp2_with (go_at_call 99; refine (neg_8 _ _).mono ?_; rintro e w' ⟨rfl, rfl⟩)
    go_ret
    exact ⟨ret_int (by
      unfold sgnM; rw [if_pos hn, not_u8 (a % 256) (by omega) (by omega), not_u64 _ (by omega) (by omega)]; omega), rfl⟩
  · have hb : negM 128 (a % 256) = false := by simp [negM]; omega
    go_enter Try.func50, Try.ntmps50
    go_wp2_with (go_at_call 99; refine (neg_8 _ _).mono ?_; rintro e w' ⟨rfl, rfl⟩)
    go_ret
    exact ⟨ret_int (by unfold sgnM; rw [if_neg (by omega)]; (try omega)), rfl⟩
set_option maxRecDepth 100000 in
theorem len_8 (w : World) : Calls Try.prog 112 #[.int .u64 (256 - 1)] w fun e w' => e = .returned (.int .i64 8) ∧ w' = w := by
  go_enter Try.func112, Try.ntmps112
  go_wp2
  go_ret
  exact ⟨ret_int (by decide +kernel), rfl⟩
theorem size_8 (w : World) : Calls Try.prog 104 #[] w fun e w' => e = .returned (.int .u64 8) ∧ w' = w := by
  have e1 : bits .xor .u8 IntKind.u8.max 0 = 256 - 1 := by rw [not_u8 0 (by omega) (by omega)]; omega
  go_enter Try.func104, Try.ntmps104
  go_wp2_with (go_at_call 112; refine (len_8 _).mono ?_; rintro e w' ⟨rfl, rfl⟩)
  go_ret
  exact ⟨ret_int (by first | rfl | omega), rfl⟩
theorem div_8 (a b : Int) (w : World) (h0 : 0 ≤ a) (h1 : a < 18446744073709551616) (h2 : 0 ≤ b) (h3 : b < 18446744073709551616) :
    Calls Try.prog 69 #[.int .u64 a, .int .u64 b] w fun e w' => e = .returned (.int .u64 (divM (a % 256) (b % 256))) ∧ w' = w := by
  skip
  skip
  by_cases hn : (b % 256) = 0
  · have hd : divM (a % 256) (b % 256) = 0 := by unfold divM; rw [if_pos hn]
    have hb : ((b % 256) == 0) = true := by simp [hn]
    rw [hd]
    clear hd hn
    go_enter Try.func69, Try.ntmps69
    go_wp2
    go_ret
    exact ⟨rfl, rfl⟩
  · have hd : divM (a % 256) (b % 256) = (a % 256) / (b % 256) := by unfold divM; rw [if_neg hn]
    have hb : ((b % 256) == 0) = false := by simp [hn]
    have hp : 0 < (b % 256) := by omega
    have hq := div_bd (x := (a % 256)) (y := (b % 256)) (B := 256 - 1) (by omega) (by omega) hp
    obtain ⟨hq0, hq1⟩ := hq
    rw [hd]
    clear hd
    go_enter Try.func69, Try.ntmps69
    go_wp2
    go_ret
    exact ⟨ret_int (by (try rw [Int.tdiv_eq_ediv_of_nonneg (by omega)]); first | rfl | omega), rfl⟩
theorem mod_8 (a b : Int) (w : World) (h0 : 0 ≤ a) (h1 : a < 18446744073709551616) (h2 : 0 ≤ b) (h3 : b < 18446744073709551616) :
    Calls Try.prog 74 #[.int .u64 a, .int .u64 b] w fun e w' => e = .returned (.int .u64 (modM (a % 256) (b % 256))) ∧ w' = w := by
  skip
  skip
  by_cases hn : (b % 256) = 0
  · have hd : modM (a % 256) (b % 256) = (a % 256) := by unfold modM; rw [if_pos hn]
    have hb : ((b % 256) == 0) = true := by simp [hn]
    rw [hd]
    clear hd hn
    go_enter Try.func74, Try.ntmps74
    go_wp2
    go_ret
    exact ⟨ret_int (by first | rfl | omega), rfl⟩
  · have hd : modM (a % 256) (b % 256) = (a % 256) % (b % 256) := by unfold modM; rw [if_neg hn]
    have hb : ((b % 256) == 0) = false := by simp [hn]
    have hp : 0 < (b % 256) := by omega
    have hq := rem_bd (x := (a % 256)) (y := (b % 256)) hp
    obtain ⟨hq0, hq1⟩ := hq
    rw [hd]
    clear hd
    go_enter Try.func74, Try.ntmps74
    go_wp2
    go_ret
    exact ⟨ret_int (by first | rfl | omega), rfl⟩
theorem less_8 (a b : Int) (w : World) (h0 : 0 ≤ a) (h1 : a < 18446744073709551616) (h2 : 0 ≤ b) (h3 : b < 18446744073709551616) :
    Calls Try.prog 60 #[.int .u64 a, .int .u64 b] w fun e w' => e = .returned (.bool (lessM (a % 256) (b % 256))) ∧ w' = w := by
  skip
  skip
  go_enter Try.func60, Try.ntmps60
  go_wp2
  go_ret
  exact ⟨ret_bool (by first | rfl | (unfold lessM; rw [decide_eq_decide]; omega)), rfl⟩
theorem shl_8 (a k : Int) (w : World) (h0 : 0 ≤ a) (h1 : a < 18446744073709551616) (h2 : 0 ≤ k) (h3 : k < 18446744073709551616) :
    Calls Try.prog 87 #[.int .u64 a, .int .u64 k] w fun e w' => e = .returned (.int .u64 (shlM 256 (a % 256) (k % 8))) ∧ w' = w := by
  skip
  go_enter Try.func87, Try.ntmps87
  go_wp2_with (go_at_call 104; refine (size_8 _).mono ?_; rintro e w' ⟨rfl, rfl⟩)
  go_ret
  exact ⟨ret_int (by first | rfl | (unfold shlM; omega)), rfl⟩
theorem shr_8 (a k : Int) (w : World) (h0 : 0 ≤ a) (h1 : a < 18446744073709551616) (h2 : 0 ≤ k) (h3 : k < 18446744073709551616) :
    Calls Try.prog 91 #[.int .u64 a, .int .u64 k] w fun e w' => e = .returned (.int .u64 (shrM (a % 256) (k % 8))) ∧ w' = w := by
  skip
  have hq := div_bd (x := (a % 256)) (y := 2 ^ (k % 8).toNat) (B := 256 - 1) (by omega) (by omega) (pow_pos2 _)
  obtain ⟨hq0, hq1⟩ := hq
  go_enter Try.func91, Try.ntmps91
  go_wp2_with (go_at_call 104; refine (size_8 _).mono ?_; rintro e w' ⟨rfl, rfl⟩)
  go_ret
  exact ⟨ret_int (by first | rfl | (unfold shrM; omega)), rfl⟩
theorem neg_16 (n : Int) (w : World) :
    Calls Try.prog 100 #[.int .u16 n] w fun e w' => e = .returned (.bool (negM 32768 n)) ∧ w' = w := by
  go_enter Try.func100, Try.ntmps100
  go_wp2
  go_ret
  exact ⟨ret_bool (by rw [not_u16 0 (by omega) (by omega)]; unfold negM; rw [decide_eq_decide]; omega), rfl⟩
theorem mag_16 (n : Int) (w : World) (h0 : 0 ≤ n) (h1 : n < 65536) :
    Calls Try.prog 109 #[.int .u16 n] w fun e w' => e = .returned (.int .u16 (magM 32768 65536 n)) ∧ w' = w := by
  by_cases hn : 32768 ≤ n
  · have hb : negM 32768 n = true := by simp [negM, hn]
    go_enter Try.func109, Try.ntmps109
    go_wp2_with (go_at_call 100; refine (neg_16 _ _).mono ?_; rintro e w' ⟨rfl, rfl⟩)
    go_ret
    exact ⟨ret_int (by unfold magM; rw [if_pos hn]; (try simp only [IntKind.wrap_u8', IntKind.wrap_u16, IntKind.wrap_u32', IntKind.wrap_u64]); omega), rfl⟩
  · have hb : negM 32768 n = false := by simp [negM]; omega
    go_enter Try.func109, Try.ntmps109
    go_wp2_with (go_at_call 100; refine (neg_16 _ _).mono ?_; rintro e w' ⟨rfl, rfl⟩)
    go_ret
    exact ⟨ret_int (by unfold magM; rw [if_neg (by omega)]), rfl⟩
theorem nar_16 (a : Int) (w : World) (h0 : 0 ≤ a) (h1 : a < 18446744073709551616) :
    Calls Try.prog 47 #[.int .u64 a] w fun e w' => e = .returned (.int .u64 (a % 65536)) ∧ w' = w := by
  go_enter Try.func47, Try.ntmps47
  go_wp2
  go_ret
  exact ⟨ret_int (by first | rfl | ((try simp only [IntKind.wrap_u8', IntKind.wrap_u16, IntKind.wrap_u32', IntKind.wrap_u64]); omega)), rfl⟩
theorem sgn_16 (a : Int) (w : World) (h0 : 0 ≤ a) (h1 : a < 18446744073709551616) :
    Calls Try.prog 51 #[.int .u64 a] w fun e w' => e = .returned (.int .u64 (sgnM 32768 65536 (a % 65536))) ∧ w' = w := by
  skip
  by_cases hn : 32768 ≤ (a % 65536)
  · have hb : negM 32768 (a % 65536) = true := by simp [negM, hn]
    go_enter Try.func51, Try.ntmps51
    go_wp2_with (go_at_call 100; refine (neg_16 _ _).mono ?_; rintro e w' ⟨rfl, rfl⟩)
    go_ret
    exact ⟨ret_int (by
      unfold sgnM; rw [if_pos hn, not_u16 (a % 65536) (by omega) (by omega), not_u64 _ (by omega) (by omega)]; omega), rfl⟩
  · have hb : negM 32768 (a % 65536) = false := by simp [negM]; omega
    go_enter Try.func51, Try.ntmps51
    go_wp2_with (go_at_call 100; refine (neg_16 _ _).mono ?_; rintro e w' ⟨rfl, rfl⟩)
    go_ret
    exact ⟨ret_int (by unfold sgnM; rw [if_neg (by omega)]; (try omega)), rfl⟩
set_option maxRecDepth 100000 in
theorem len_16 (w : World) : Calls Try.prog 112 #[.int .u64 (65536 - 1)] w fun e w' => e = .returned (.int .i64 16) ∧ w' = w := by
  go_enter Try.func112, Try.ntmps112
  go_wp2
  go_ret
  exact ⟨ret_int (by decide +kernel), rfl⟩
theorem size_16 (w : World) : Calls Try.prog 105 #[] w fun e w' => e = .returned (.int .u64 16) ∧ w' = w := by
  have e1 : bits .xor .u16 IntKind.u16.max 0 = 65536 - 1 := by rw [not_u16 0 (by omega) (by omega)]; omega
  go_enter Try.func105, Try.ntmps105
  go_wp2_with (go_at_call 112; refine (len_16 _).mono ?_; rintro e w' ⟨rfl, rfl⟩)
  go_ret
  exact ⟨ret_int (by first | rfl | omega), rfl⟩
theorem div_16 (a b : Int) (w : World) (h0 : 0 ≤ a) (h1 : a < 18446744073709551616) (h2 : 0 ≤ b) (h3 : b < 18446744073709551616) :
    Calls Try.prog 70 #[.int .u64 a, .int .u64 b] w fun e w' => e = .returned (.int .u64 (divM (a % 65536) (b % 65536))) ∧ w' = w := by
  skip
  skip
  by_cases hn : (b % 65536) = 0
  · have hd : divM (a % 65536) (b % 65536) = 0 := by unfold divM; rw [if_pos hn]
    have hb : ((b % 65536) == 0) = true := by simp [hn]
    rw [hd]
    clear hd hn
    go_enter Try.func70, Try.ntmps70
    go_wp2
    go_ret
    exact ⟨rfl, rfl⟩
  · have hd : divM (a % 65536) (b % 65536) = (a % 65536) / (b % 65536) := by unfold divM; rw [if_neg hn]
    have hb : ((b % 65536) == 0) = false := by simp [hn]
    have hp : 0 < (b % 65536) := by omega
    have hq := div_bd (x := (a % 65536)) (y := (b % 65536)) (B := 65536 - 1) (by omega) (by omega) hp
    obtain ⟨hq0, hq1⟩ := hq
    rw [hd]
    clear hd
    go_enter Try.func70, Try.ntmps70
    go_wp2
    go_ret
    exact ⟨ret_int (by (try rw [Int.tdiv_eq_ediv_of_nonneg (by omega)]); first | rfl | omega), rfl⟩
theorem mod_16 (a b : Int) (w : World) (h0 : 0 ≤ a) (h1 : a < 18446744073709551616) (h2 : 0 ≤ b) (h3 : b < 18446744073709551616) :
    Calls Try.prog 75 #[.int .u64 a, .int .u64 b] w fun e w' => e = .returned (.int .u64 (modM (a % 65536) (b % 65536))) ∧ w' = w := by
  skip
  skip
  by_cases hn : (b % 65536) = 0
  · have hd : modM (a % 65536) (b % 65536) = (a % 65536) := by unfold modM; rw [if_pos hn]
    have hb : ((b % 65536) == 0) = true := by simp [hn]
    rw [hd]
    clear hd hn
    go_enter Try.func75, Try.ntmps75
    go_wp2
    go_ret
    exact ⟨ret_int (by first | rfl | omega), rfl⟩
  · have hd : modM (a % 65536) (b % 65536) = (a % 65536) % (b % 65536) := by unfold modM; rw [if_neg hn]
    have hb : ((b % 65536) == 0) = false := by simp [hn]
    have hp : 0 < (b % 65536) := by omega
    have hq := rem_bd (x := (a % 65536)) (y := (b % 65536)) hp
    obtain ⟨hq0, hq1⟩ := hq
    rw [hd]
    clear hd
    go_enter Try.func75, Try.ntmps75
    go_wp2
    go_ret
    exact ⟨ret_int (by first | rfl | omega), rfl⟩
theorem less_16 (a b : Int) (w : World) (h0 : 0 ≤ a) (h1 : a < 18446744073709551616) (h2 : 0 ≤ b) (h3 : b < 18446744073709551616) :
    Calls Try.prog 61 #[.int .u64 a, .int .u64 b] w fun e w' => e = .returned (.bool (lessM (a % 65536) (b % 65536))) ∧ w' = w := by
  skip
  skip
  go_enter Try.func61, Try.ntmps61
  go_wp2
  go_ret
  exact ⟨ret_bool (by first | rfl | (unfold lessM; rw [decide_eq_decide]; omega)), rfl⟩
theorem shl_16 (a k : Int) (w : World) (h0 : 0 ≤ a) (h1 : a < 18446744073709551616) (h2 : 0 ≤ k) (h3 : k < 18446744073709551616) :
    Calls Try.prog 88 #[.int .u64 a, .int .u64 k] w fun e w' => e = .returned (.int .u64 (shlM 65536 (a % 65536) (k % 16))) ∧ w' = w := by
  skip
  go_enter Try.func88, Try.ntmps88
  go_wp2_with (go_at_call 105; refine (size_16 _).mono ?_; rintro e w' ⟨rfl, rfl⟩)
  go_ret
  exact ⟨ret_int (by first | rfl | (unfold shlM; omega)), rfl⟩
theorem shr_16 (a k : Int) (w : World) (h0 : 0 ≤ a) (h1 : a < 18446744073709551616) (h2 : 0 ≤ k) (h3 : k < 18446744073709551616) :
    Calls Try.prog 92 #[.int .u64 a, .int .u64 k] w fun e w' => e = .returned (.int .u64 (shrM (a % 65536) (k % 16))) ∧ w' = w := by
  skip
  have hq := div_bd (x := (a % 65536)) (y := 2 ^ (k % 16).toNat) (B := 65536 - 1) (by omega) (by omega) (pow_pos2 _)
  obtain ⟨hq0, hq1⟩ := hq
  go_enter Try.func92, Try.ntmps92
  go_wp2_with (go_at_call 105; refine (size_16 _).mono ?_; rintro e w' ⟨rfl, rfl⟩)
  go_ret
  exact ⟨ret_int (by first | rfl | (unfold shrM; omega)), rfl⟩
theorem neg_32 (n : Int) (w : World) :
    Calls Try.prog 101 #[.int .u32 n] w fun e w' => e = .returned (.bool (negM 2147483648 n)) ∧ w' = w := by
  go_enter Try.func101, Try.ntmps101
  go_wp2
  go_ret
  exact ⟨ret_bool (by rw [not_u32 0 (by omega) (by omega)]; unfold negM; rw [decide_eq_decide]; omega), rfl⟩
theorem mag_32 (n : Int) (w : World) (h0 : 0 ≤ n) (h1 : n < 4294967296) :
    Calls Try.prog 110 #[.int .u32 n] w fun e w' => e = .returned (.int .u32 (magM 2147483648 4294967296 n)) ∧ w' = w := by
  by_cases hn : 2147483648 ≤ n
  · have hb : negM 2147483648 n = true := by simp [negM, hn]
    go_enter Try.func110, Try.ntmps110
    go_wp2_with (go_at_call 101; refine (neg_32 _ _).mono ?_; rintro e w' ⟨rfl, rfl⟩)
    go_ret
    exact ⟨ret_int (by unfold magM; rw [if_pos hn]; (try simp only [IntKind.wrap_u8', IntKind.wrap_u16, IntKind.wrap_u32', IntKind.wrap_u64]); omega), rfl⟩
  · have hb : negM 2147483648 n = false := by simp [negM]; omega
    go_enter Try.func110, Try.ntmps110
    go_wp2_with (go_at_call 101; refine (neg_32 _ _).mono ?_; rintro e w' ⟨rfl, rfl⟩)
    go_ret
    exact ⟨ret_int (by unfold magM; rw [if_neg (by omega)]), rfl⟩
theorem nar_32 (a : Int) (w : World) (h0 : 0 ≤ a) (h1 : a < 18446744073709551616) :
    Calls Try.prog 48 #[.int .u64 a] w fun e w' => e = .returned (.int .u64 (a % 4294967296)) ∧ w' = w := by
  go_enter Try.func48, Try.ntmps48
  go_wp2
  go_ret
  exact ⟨ret_int (by first | rfl | ((try simp only [IntKind.wrap_u8', IntKind.wrap_u16, IntKind.wrap_u32', IntKind.wrap_u64]); omega)), rfl⟩
theorem sgn_32 (a : Int) (w : World) (h0 : 0 ≤ a) (h1 : a < 18446744073709551616) :
    Calls Try.prog 52 #[.int .u64 a] w fun e w' => e = .returned (.int .u64 (sgnM 2147483648 4294967296 (a % 4294967296))) ∧ w' = w := by
  skip
  by_cases hn : 2147483648 ≤ (a % 4294967296)
  · have hb : negM 2147483648 (a % 4294967296) = true := by simp [negM, hn]
    go_enter Try.func52, Try.ntmps52
    go_wp2_with (go_at_call 101; refine (neg_32 _ _).mono ?_; rintro e w' ⟨rfl, rfl⟩)
    go_ret
    exact ⟨ret_int (by
      unfold sgnM; rw [if_pos hn, not_u32 (a % 4294967296) (by omega) (by omega), not_u64 _ (by omega) (by omega)]; omega), rfl⟩
  · have hb : negM 2147483648 (a % 4294967296) = false := by simp [negM]; omega
    go_enter Try.func52, Try.ntmps52
    go_wp2_with (go_at_call 101; refine (neg_32 _ _).mono ?_; rintro e w' ⟨rfl, rfl⟩)
    go_ret
    exact ⟨ret_int (by unfold sgnM; rw [if_neg (by omega)]; (try omega)), rfl⟩
set_option maxRecDepth 100000 in
theorem len_32 (w : World) : Calls Try.prog 112 #[.int .u64 (4294967296 - 1)] w fun e w' => e = .returned (.int .i64 32) ∧ w' = w := by
  go_enter Try.func112, Try.ntmps112
  go_wp2
  go_ret
  exact ⟨ret_int (by decide +kernel), rfl⟩
theorem size_32 (w : World) : Calls Try.prog 106 #[] w fun e w' => e = .returned (.int .u64 32) ∧ w' = w := by
  have e1 : bits .xor .u32 IntKind.u32.max 0 = 4294967296 - 1 := by rw [not_u32 0 (by omega) (by omega)]; omega
  go_enter Try.func106, Try.ntmps106
  go_wp2_with (go_at_call 112; refine (len_32 _).mono ?_; rintro e w' ⟨rfl, rfl⟩)
  go_ret
  exact ⟨ret_int (by first | rfl | omega), rfl⟩
theorem div_32 (a b : Int) (w : World) (h0 : 0 ≤ a) (h1 : a < 18446744073709551616) (h2 : 0 ≤ b) (h3 : b < 18446744073709551616) :
    Calls Try.prog 71 #[.int .u64 a, .int .u64 b] w fun e w' => e = .returned (.int .u64 (divM (a % 4294967296) (b % 4294967296))) ∧ w' = w := by
  skip
  skip
  by_cases hn : (b % 4294967296) = 0
  · have hd : divM (a % 4294967296) (b % 4294967296) = 0 := by unfold divM; rw [if_pos hn]
    have hb : ((b % 4294967296) == 0) = true := by simp [hn]
    rw [hd]
    clear hd hn
    go_enter Try.func71, Try.ntmps71
    go_wp2
    go_ret
    exact ⟨rfl, rfl⟩
  · have hd : divM (a % 4294967296) (b % 4294967296) = (a % 4294967296) / (b % 4294967296) := by unfold divM; rw [if_neg hn]
    have hb : ((b % 4294967296) == 0) = false := by simp [hn]
    have hp : 0 < (b % 4294967296) := by omega
    have hq := div_bd (x := (a % 4294967296)) (y := (b % 4294967296)) (B := 4294967296 - 1) (by omega) (by omega) hp
    obtain ⟨hq0, hq1⟩ := hq
    rw [hd]
    clear hd
    go_enter Try.func71, Try.ntmps71
    go_wp2
    go_ret
    exact ⟨ret_int (by (try rw [Int.tdiv_eq_ediv_of_nonneg (by omega)]); first | rfl | omega), rfl⟩
theorem mod_32 (a b : Int) (w : World) (h0 : 0 ≤ a) (h1 : a < 18446744073709551616) (h2 : 0 ≤ b) (h3 : b < 18446744073709551616) :
    Calls Try.prog 76 #[.int .u64 a, .int .u64 b] w fun e w' => e = .returned (.int .u64 (modM (a % 4294967296) (b % 4294967296))) ∧ w' = w := by
  skip
  skip
  by_cases hn : (b % 4294967296) = 0
  · have hd : modM (a % 4294967296) (b % 4294967296) = (a % 4294967296) := by unfold modM; rw [if_pos hn]
    have hb : ((b % 4294967296) == 0) = true := by simp [hn]
    rw [hd]
    clear hd hn
    go_enter Try.func76, Try.ntmps76
    go_wp2
    go_ret
    exact ⟨ret_int (by first | rfl | omega), rfl⟩
  · have hd : modM (a % 4294967296) (b % 4294967296) = (a % 4294967296) % (b % 4294967296) := by unfold modM; rw [if_neg hn]
    have hb : ((b % 4294967296) == 0) = false := by simp [hn]
    have hp : 0 < (b % 4294967296) := by omega
    have hq := rem_bd (x := (a % 4294967296)) (y := (b % 4294967296)) hp
    obtain ⟨hq0, hq1⟩ := hq
    rw [hd]
    clear hd
    go_enter Try.func76, Try.ntmps76
    go_wp2
    go_ret
    exact ⟨ret_int (by first | rfl | omega), rfl⟩
theorem less_32 (a b : Int) (w : World) (h0 : 0 ≤ a) (h1 : a < 18446744073709551616) (h2 : 0 ≤ b) (h3 : b < 18446744073709551616) :
    Calls Try.prog 62 #[.int .u64 a, .int .u64 b] w fun e w' => e = .returned (.bool (lessM (a % 4294967296) (b % 4294967296))) ∧ w' = w := by
  skip
  skip
  go_enter Try.func62, Try.ntmps62
  go_wp2
  go_ret
  exact ⟨ret_bool (by first | rfl | (unfold lessM; rw [decide_eq_decide]; omega)), rfl⟩
theorem shl_32 (a k : Int) (w : World) (h0 : 0 ≤ a) (h1 : a < 18446744073709551616) (h2 : 0 ≤ k) (h3 : k < 18446744073709551616) :
    Calls Try.prog 89 #[.int .u64 a, .int .u64 k] w fun e w' => e = .returned (.int .u64 (shlM 4294967296 (a % 4294967296) (k % 32))) ∧ w' = w := by
  skip
  go_enter Try.func89, Try.ntmps89
  go_wp2_with (go_at_call 106; refine (size_32 _).mono ?_; rintro e w' ⟨rfl, rfl⟩)
  go_ret
  exact ⟨ret_int (by first | rfl | (unfold shlM; omega)), rfl⟩
theorem shr_32 (a k : Int) (w : World) (h0 : 0 ≤ a) (h1 : a < 18446744073709551616) (h2 : 0 ≤ k) (h3 : k < 18446744073709551616) :
    Calls Try.prog 93 #[.int .u64 a, .int .u64 k] w fun e w' => e = .returned (.int .u64 (shrM (a % 4294967296) (k % 32))) ∧ w' = w := by
  skip
  have hq := div_bd (x := (a % 4294967296)) (y := 2 ^ (k % 32).toNat) (B := 4294967296 - 1) (by omega) (by omega) (pow_pos2 _)
  obtain ⟨hq0, hq1⟩ := hq
  go_enter Try.func93, Try.ntmps93
  go_wp2_with (go_at_call 106; refine (size_32 _).mono ?_; rintro e w' ⟨rfl, rfl⟩)
  go_ret
  exact ⟨ret_int (by first | rfl | (unfold shrM; omega)), rfl⟩
theorem neg_64 (n : Int) (w : World) :
    Calls Try.prog 102 #[.int .u64 n] w fun e w' => e = .returned (.bool (negM 9223372036854775808 n)) ∧ w' = w := by
  go_enter Try.func102, Try.ntmps102
  go_wp2
  go_ret
  exact ⟨ret_bool (by rw [not_u64 0 (by omega) (by omega)]; unfold negM; rw [decide_eq_decide]; omega), rfl⟩
theorem mag_64 (n : Int) (w : World) (h0 : 0 ≤ n) (h1 : n < 18446744073709551616) :
    Calls Try.prog 111 #[.int .u64 n] w fun e w' => e = .returned (.int .u64 (magM 9223372036854775808 18446744073709551616 n)) ∧ w' = w := by
  by_cases hn : 9223372036854775808 ≤ n
  · have hb : negM 9223372036854775808 n = true := by simp [negM, hn]
    go_enter Try.func111, Try.ntmps111
    go_wp2_with (go_at_call 102; refine (neg_64 _ _).mono ?_; rintro e w' ⟨rfl, rfl⟩)
    go_ret
    exact ⟨ret_int (by unfold magM; rw [if_pos hn]; (try simp only [IntKind.wrap_u8', IntKind.wrap_u16, IntKind.wrap_u32', IntKind.wrap_u64]); omega), rfl⟩
  · have hb : negM 9223372036854775808 n = false := by simp [negM]; omega
    go_enter Try.func111, Try.ntmps111
    go_wp2_with (go_at_call 102; refine (neg_64 _ _).mono ?_; rintro e w' ⟨rfl, rfl⟩)
    go_ret
    exact ⟨ret_int (by unfold magM; rw [if_neg (by omega)]), rfl⟩
theorem nar_64 (a : Int) (w : World) (h0 : 0 ≤ a) (h1 : a < 18446744073709551616) :
    Calls Try.prog 49 #[.int .u64 a] w fun e w' => e = .returned (.int .u64 (a % 18446744073709551616)) ∧ w' = w := by
  go_enter Try.func49, Try.ntmps49
  go_wp2
  go_ret
  exact ⟨ret_int (by first | rfl | ((try simp only [IntKind.wrap_u8', IntKind.wrap_u16, IntKind.wrap_u32', IntKind.wrap_u64]); omega)), rfl⟩
theorem sgn_64 (a : Int) (w : World) (h0 : 0 ≤ a) (h1 : a < 18446744073709551616) :
    Calls Try.prog 53 #[.int .u64 a] w fun e w' => e = .returned (.int .u64 (sgnM 9223372036854775808 18446744073709551616 (a % 18446744073709551616))) ∧ w' = w := by
  rw [show a % 18446744073709551616 = a from by omega]
  by_cases hn : 9223372036854775808 ≤ a
  · have hb : negM 9223372036854775808 a = true := by simp [negM, hn]
    go_enter Try.func53, Try.ntmps53
    go_wp2_with (go_at_call 102; refine (neg_64 _ _).mono ?_; rintro e w' ⟨rfl, rfl⟩)
    go_ret
    exact ⟨ret_int (by
      unfold sgnM; rw [if_pos hn, not_u64 a (by omega) (by omega), not_u64 _ (by omega) (by omega)]; omega), rfl⟩
  · have hb : negM 9223372036854775808 a = false := by simp [negM]; omega
    go_enter Try.func53, Try.ntmps53
    go_wp2_with (go_at_call 102; refine (neg_64 _ _).mono ?_; rintro e w' ⟨rfl, rfl⟩)
    go_ret
    exact ⟨ret_int (by unfold sgnM; rw [if_neg (by omega)]; (try omega)), rfl⟩
set_option maxRecDepth 100000 in
theorem len_64 (w : World) : Calls Try.prog 112 #[.int .u64 (18446744073709551616 - 1)] w fun e w' => e = .returned (.int .i64 64) ∧ w' = w := by
  go_enter Try.func112, Try.ntmps112
  go_wp2
  go_ret
  exact ⟨ret_int (by decide +kernel), rfl⟩
theorem size_64 (w : World) : Calls Try.prog 107 #[] w fun e w' => e = .returned (.int .u64 64) ∧ w' = w := by
  have e1 : bits .xor .u64 IntKind.u64.max 0 = 18446744073709551616 - 1 := by rw [not_u64 0 (by omega) (by omega)]; omega
  go_enter Try.func107, Try.ntmps107
  go_wp2_with (go_at_call 112; refine (len_64 _).mono ?_; rintro e w' ⟨rfl, rfl⟩)
  go_ret
  exact ⟨ret_int (by first | rfl | omega), rfl⟩
theorem div_64 (a b : Int) (w : World) (h0 : 0 ≤ a) (h1 : a < 18446744073709551616) (h2 : 0 ≤ b) (h3 : b < 18446744073709551616) :
    Calls Try.prog 72 #[.int .u64 a, .int .u64 b] w fun e w' => e = .returned (.int .u64 (divM (a % 18446744073709551616) (b % 18446744073709551616))) ∧ w' = w := by
  rw [show a % 18446744073709551616 = a from by omega]
  rw [show b % 18446744073709551616 = b from by omega]
  by_cases hn : b = 0
  · have hd : divM a b = 0 := by unfold divM; rw [if_pos hn]
    have hb : (b == 0) = true := by simp [hn]
    rw [hd]
    clear hd hn
    go_enter Try.func72, Try.ntmps72
    go_wp2
    go_ret
    exact ⟨rfl, rfl⟩
  · have hd : divM a b = a / b := by unfold divM; rw [if_neg hn]
    have hb : (b == 0) = false := by simp [hn]
    have hp : 0 < b := by omega
    have hq := div_bd (x := a) (y := b) (B := 18446744073709551616 - 1) (by omega) (by omega) hp
    obtain ⟨hq0, hq1⟩ := hq
    rw [hd]
    clear hd
    go_enter Try.func72, Try.ntmps72
    go_wp2
    go_ret
    exact ⟨ret_int (by (try rw [Int.tdiv_eq_ediv_of_nonneg (by omega)]); first | rfl | omega), rfl⟩
theorem mod_64 (a b : Int) (w : World) (h0 : 0 ≤ a) (h1 : a < 18446744073709551616) (h2 : 0 ≤ b) (h3 : b < 18446744073709551616) :
    Calls Try.prog 77 #[.int .u64 a, .int .u64 b] w fun e w' => e = .returned (.int .u64 (modM (a % 18446744073709551616) (b % 18446744073709551616))) ∧ w' = w := by
  rw [show a % 18446744073709551616 = a from by omega]
  rw [show b % 18446744073709551616 = b from by omega]
  by_cases hn : b = 0
  · have hd : modM a b = a := by unfold modM; rw [if_pos hn]
    have hb : (b == 0) = true := by simp [hn]
    rw [hd]
    clear hd hn
    go_enter Try.func77, Try.ntmps77
    go_wp2
    go_ret
    exact ⟨ret_int (by first | rfl | omega), rfl⟩
  · have hd : modM a b = a % b := by unfold modM; rw [if_neg hn]
    have hb : (b == 0) = false := by simp [hn]
    have hp : 0 < b := by omega
    have hq := rem_bd (x := a) (y := b) hp
    obtain ⟨hq0, hq1⟩ := hq
    rw [hd]
    clear hd
    go_enter Try.func77, Try.ntmps77
    go_wp2
    go_ret
    exact ⟨ret_int (by first | rfl | omega), rfl⟩
theorem less_64 (a b : Int) (w : World) (h0 : 0 ≤ a) (h1 : a < 18446744073709551616) (h2 : 0 ≤ b) (h3 : b < 18446744073709551616) :
    Calls Try.prog 63 #[.int .u64 a, .int .u64 b] w fun e w' => e = .returned (.bool (lessM (a % 18446744073709551616) (b % 18446744073709551616))) ∧ w' = w := by
  rw [show a % 18446744073709551616 = a from by omega]
  rw [show b % 18446744073709551616 = b from by omega]
  go_enter Try.func63, Try.ntmps63
  go_wp2
  go_ret
  exact ⟨ret_bool (by first | rfl | (unfold lessM; rw [decide_eq_decide]; omega)), rfl⟩
theorem shl_64 (a k : Int) (w : World) (h0 : 0 ≤ a) (h1 : a < 18446744073709551616) (h2 : 0 ≤ k) (h3 : k < 18446744073709551616) :
    Calls Try.prog 90 #[.int .u64 a, .int .u64 k] w fun e w' => e = .returned (.int .u64 (shlM 18446744073709551616 (a % 18446744073709551616) (k % 64))) ∧ w' = w := by
  rw [show a % 18446744073709551616 = a from by omega]
  go_enter Try.func90, Try.ntmps90
  go_wp2_with (go_at_call 107; refine (size_64 _).mono ?_; rintro e w' ⟨rfl, rfl⟩)
  go_ret
  exact ⟨ret_int (by first | rfl | (unfold shlM; omega)), rfl⟩
theorem shr_64 (a k : Int) (w : World) (h0 : 0 ≤ a) (h1 : a < 18446744073709551616) (h2 : 0 ≤ k) (h3 : k < 18446744073709551616) :
    Calls Try.prog 94 #[.int .u64 a, .int .u64 k] w fun e w' => e = .returned (.int .u64 (shrM (a % 18446744073709551616) (k % 64))) ∧ w' = w := by
  rw [show a % 18446744073709551616 = a from by omega]
  have hq := div_bd (x := a) (y := 2 ^ (k % 64).toNat) (B := 18446744073709551616 - 1) (by omega) (by omega) (pow_pos2 _)
  obtain ⟨hq0, hq1⟩ := hq
  go_enter Try.func94, Try.ntmps94
  go_wp2_with (go_at_call 107; refine (size_64 _).mono ?_; rintro e w' ⟨rfl, rfl⟩)
  go_ret
  exact ⟨ret_int (by first | rfl | (unfold shrM; omega)), rfl⟩
end Go.Proofs.Ytdffhnboehjeoaa
