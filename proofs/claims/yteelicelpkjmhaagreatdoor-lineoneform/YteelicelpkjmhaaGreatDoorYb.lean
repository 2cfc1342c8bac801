import Derived.Test.YteelicelpkjmhaaGreatDoorRows
import Derived.Test.YteelicelpkjmhaaGreatDoorYp
import Derived.WalkKit
import Derived.WalkLawsBesides
import Derived.Outline
namespace Go.Proofs.YteelicelpkjmhaaGreatDoor.Wo
open Go.RowKit
set_option linter.unusedVariables false
set_option linter.unusedSimpArgs false
attribute [local go_sem] IntKind.wrap_u16 IntKind.wrap_u32' IntKind.wrap_u64 IntKind.wrap_u8'

theorem neg_8 (n : Int) (w : World) :
    Calls Tryz.prog 191 #[.int .u8 n] w fun e w' => e = .returned (.bool (negM 128 n)) ∧ w' = w := by
  go_enter Tryz.func191, Tryz.ntmps191
  go_wp2
  go_ret
  exact ⟨ret_bool (by rw [not_u8 0 (by omega) (by omega)]; unfold negM; rw [decide_eq_decide]; omega), rfl⟩
theorem sgn_8 (a : Int) (w : World) (h0 : 0 ≤ a) (h1 : a < 18446744073709551616) :
    Calls Tryz.prog 180 #[.int .u64 a] w fun e w' => e = .returned (.int .u64 (sgnM 128 256 (a % 256))) ∧ w' = w := by
  skip
  by_cases hn : 128 ≤ (a % 256)
  · have hb : negM 128 (a % 256) = true := by simp [negM, hn]
    go_enter Tryz.func180, Tryz.ntmps180
    go_wp2_with (go_at_call 191; refine (neg_8 _ _).mono ?_; rintro e w' ⟨rfl, rfl⟩)
    go_ret
    exact ⟨ret_int (by
      unfold sgnM; rw [if_pos hn, not_u8 (a % 256) (by omega) (by omega), not_u64 _ (by omega) (by omega)]; omega), rfl⟩
  · have hb : negM 128 (a % 256) = false := by simp [negM]; omega
    go_enter Tryz.func180, Tryz.ntmps180
    go_wp2_with (go_at_call 191; refine (neg_8 _ _).mono ?_; rintro e w' ⟨rfl, rfl⟩)
    go_ret
    exact ⟨ret_int (by unfold sgnM; rw [if_neg (by omega)]; (try omega)), rfl⟩
set_option maxRecDepth 100000 in
theorem len_8 (w : World) : Calls Tryz.prog 149 #[.int .u64 (256 - 1)] w fun e w' => e = .returned (.int .i64 8) ∧ w' = w := by
  go_enter Tryz.func149, Tryz.ntmps149
  go_wp2
  go_ret
  exact ⟨ret_int (by decide +kernel), rfl⟩
theorem neg_16 (n : Int) (w : World) :
    Calls Tryz.prog 192 #[.int .u16 n] w fun e w' => e = .returned (.bool (negM 32768 n)) ∧ w' = w := by
  go_enter Tryz.func192, Tryz.ntmps192
  go_wp2
  go_ret
  exact ⟨ret_bool (by rw [not_u16 0 (by omega) (by omega)]; unfold negM; rw [decide_eq_decide]; omega), rfl⟩
theorem sgn_16 (a : Int) (w : World) (h0 : 0 ≤ a) (h1 : a < 18446744073709551616) :
    Calls Tryz.prog 181 #[.int .u64 a] w fun e w' => e = .returned (.int .u64 (sgnM 32768 65536 (a % 65536))) ∧ w' = w := by
  skip
  by_cases hn : 32768 ≤ (a % 65536)
  · have hb : negM 32768 (a % 65536) = true := by simp [negM, hn]
    go_enter Tryz.func181, Tryz.ntmps181
    go_wp2_with (go_at_call 192; refine (neg_16 _ _).mono ?_; rintro e w' ⟨rfl, rfl⟩)
    go_ret
    exact ⟨ret_int (by
      unfold sgnM; rw [if_pos hn, not_u16 (a % 65536) (by omega) (by omega), not_u64 _ (by omega) (by omega)]; omega), rfl⟩
  · have hb : negM 32768 (a % 65536) = false := by simp [negM]; omega
    go_enter Tryz.func181, Tryz.ntmps181
    go_wp2_with (go_at_call 192; refine (neg_16 _ _).mono ?_; rintro e w' ⟨rfl, rfl⟩)
    go_ret
    exact ⟨ret_int (by unfold sgnM; rw [if_neg (by omega)]; (try omega)), rfl⟩
set_option maxRecDepth 100000 in
theorem len_16 (w : World) : Calls Tryz.prog 149 #[.int .u64 (65536 - 1)] w fun e w' => e = .returned (.int .i64 16) ∧ w' = w := by
  go_enter Tryz.func149, Tryz.ntmps149
  go_wp2
  go_ret
  exact ⟨ret_int (by decide +kernel), rfl⟩
theorem neg_32 (n : Int) (w : World) :
    Calls Tryz.prog 193 #[.int .u32 n] w fun e w' => e = .returned (.bool (negM 2147483648 n)) ∧ w' = w := by
  go_enter Tryz.func193, Tryz.ntmps193
  go_wp2
  go_ret
  exact ⟨ret_bool (by rw [not_u32 0 (by omega) (by omega)]; unfold negM; rw [decide_eq_decide]; omega), rfl⟩
theorem sgn_32 (a : Int) (w : World) (h0 : 0 ≤ a) (h1 : a < 18446744073709551616) :
    Calls Tryz.prog 182 #[.int .u64 a] w fun e w' => e = .returned (.int .u64 (sgnM 2147483648 4294967296 (a % 4294967296))) ∧ w' = w := by
  skip
  by_cases hn : 2147483648 ≤ (a % 4294967296)
  · have hb : negM 2147483648 (a % 4294967296) = true := by simp [negM, hn]
    go_enter Tryz.func182, Tryz.ntmps182
    go_wp2_with (go_at_call 193; refine (neg_32 _ _).mono ?_; rintro e w' ⟨rfl, rfl⟩)
    go_ret
    exact ⟨ret_int (by
      unfold sgnM; rw [if_pos hn, not_u32 (a % 4294967296) (by omega) (by omega), not_u64 _ (by omega) (by omega)]; omega), rfl⟩
  · have hb : negM 2147483648 (a % 4294967296) = false := by simp [negM]; omega
    go_enter Tryz.func182, Tryz.ntmps182
    go_wp2_with (go_at_call 193; refine (neg_32 _ _).mono ?_; rintro e w' ⟨rfl, rfl⟩)
    go_ret
    exact ⟨ret_int (by unfold sgnM; rw [if_neg (by omega)]; (try omega)), rfl⟩
set_option maxRecDepth 100000 in
theorem len_32 (w : World) : Calls Tryz.prog 149 #[.int .u64 (4294967296 - 1)] w fun e w' => e = .returned (.int .i64 32) ∧ w' = w := by
  go_enter Tryz.func149, Tryz.ntmps149
  go_wp2
  go_ret
  exact ⟨ret_int (by decide +kernel), rfl⟩
theorem neg_64 (n : Int) (w : World) :
    Calls Tryz.prog 194 #[.int .u64 n] w fun e w' => e = .returned (.bool (negM 9223372036854775808 n)) ∧ w' = w := by
  go_enter Tryz.func194, Tryz.ntmps194
  go_wp2
  go_ret
  exact ⟨ret_bool (by rw [not_u64 0 (by omega) (by omega)]; unfold negM; rw [decide_eq_decide]; omega), rfl⟩
theorem sgn_64 (a : Int) (w : World) (h0 : 0 ≤ a) (h1 : a < 18446744073709551616) :
    Calls Tryz.prog 183 #[.int .u64 a] w fun e w' => e = .returned (.int .u64 (sgnM 9223372036854775808 18446744073709551616 (a % 18446744073709551616))) ∧ w' = w := by
  rw [show a % 18446744073709551616 = a from by omega]
  by_cases hn : 9223372036854775808 ≤ a
  · have hb : negM 9223372036854775808 a = true := by simp [negM, hn]
    go_enter Tryz.func183, Tryz.ntmps183
    go_wp2_with (go_at_call 194; refine (neg_64 _ _).mono ?_; rintro e w' ⟨rfl, rfl⟩)
    go_ret
    exact ⟨ret_int (by
      unfold sgnM; rw [if_pos hn, not_u64 a (by omega) (by omega), not_u64 _ (by omega) (by omega)]; omega), rfl⟩
  · have hb : negM 9223372036854775808 a = false := by simp [negM]; omega
    go_enter Tryz.func183, Tryz.ntmps183
    go_wp2_with (go_at_call 194; refine (neg_64 _ _).mono ?_; rintro e w' ⟨rfl, rfl⟩)
    go_ret
    exact ⟨ret_int (by unfold sgnM; rw [if_neg (by omega)]; (try omega)), rfl⟩
set_option maxRecDepth 100000 in
theorem len_64 (w : World) : Calls Tryz.prog 149 #[.int .u64 (18446744073709551616 - 1)] w fun e w' => e = .returned (.int .i64 64) ∧ w' = w := by
  go_enter Tryz.func149, Tryz.ntmps149
  go_wp2
  go_ret
  exact ⟨ret_int (by decide +kernel), rfl⟩
end Go.Proofs.YteelicelpkjmhaaGreatDoor.Wo
