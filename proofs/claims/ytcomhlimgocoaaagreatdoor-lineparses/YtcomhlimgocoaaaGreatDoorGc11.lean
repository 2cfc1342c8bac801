import Derived.Test.YtcomhlimgocoaaaGreatDoorRows
import Derived.Test.YtcomhlimgocoaaaGreatDoorGc10
import Derived.WalkKit
import Derived.WalkLawsBesides
import Derived.Outline
import Derived.Deep.QuietTactic
import Derived.BigQuiet
namespace Go.Proofs.YtcomhlimgocoaaaGreatDoor.Wo
open Go.RowKit
set_option linter.unusedVariables false
set_option linter.unusedSimpArgs false
attribute [local go_sem] IntKind.wrap_u16 IntKind.wrap_u32' IntKind.wrap_u64 IntKind.wrap_u8'

theorem neg_8 (n : Int) (w : World) :
    Calls Tryz.prog 188 #[.int .u8 n] w fun e w' => e = .returned (.bool (negM 128 n)) ∧ w' = w := by
  go_enter Tryz.func188, Tryz.ntmps188
  go_wp2
  go_ret
  exact ⟨ret_bool (by rw [not_u8 0 (by omega) (by omega)]; unfold negM; rw [decide_eq_decide]; omega), rfl⟩
theorem sgn_8 (a : Int) (w : World) (h0 : 0 ≤ a) (h1 : a < 18446744073709551616) :
    Calls Tryz.prog 177 #[.int .u64 a] w fun e w' => e = .returned (.int .u64 (sgnM 128 256 (a % 256))) ∧ w' = w := by
  skip
  by_cases hn : 128 ≤ (a % 256)
  · have hb : negM 128 (a % 256) = true := by simp [negM, hn]
    go_enter Tryz.func177, Tryz.ntmps177
    go_wp2_with (go_at_call 188; refine (neg_8 _ _).mono ?_; rintro e w' ⟨rfl, rfl⟩)
    go_ret
    exact ⟨ret_int (by
      unfold sgnM; rw [if_pos hn, not_u8 (a % 256) (by omega) (by omega), not_u64 _ (by omega) (by omega)]; omega), rfl⟩
  · have hb : negM 128 (a % 256) = false := by simp [negM]; omega
    go_enter Tryz.func177, Tryz.ntmps177
    go_wp2_with (go_at_call 188; refine (neg_8 _ _).mono ?_; rintro e w' ⟨rfl, rfl⟩)
    go_ret
    exact ⟨ret_int (by unfold sgnM; rw [if_neg (by omega)]; (try omega)), rfl⟩
set_option maxRecDepth 100000 in
theorem len_8 (w : World) : Calls Tryz.prog 146 #[.int .u64 (256 - 1)] w fun e w' => e = .returned (.int .i64 8) ∧ w' = w := by
  go_enter Tryz.func146, Tryz.ntmps146
  go_wp2
  go_ret
  exact ⟨ret_int (by decide +kernel), rfl⟩
theorem neg_16 (n : Int) (w : World) :
    Calls Tryz.prog 189 #[.int .u16 n] w fun e w' => e = .returned (.bool (negM 32768 n)) ∧ w' = w := by
  go_enter Tryz.func189, Tryz.ntmps189
  go_wp2
  go_ret
  exact ⟨ret_bool (by rw [not_u16 0 (by omega) (by omega)]; unfold negM; rw [decide_eq_decide]; omega), rfl⟩
theorem sgn_16 (a : Int) (w : World) (h0 : 0 ≤ a) (h1 : a < 18446744073709551616) :
    Calls Tryz.prog 178 #[.int .u64 a] w fun e w' => e = .returned (.int .u64 (sgnM 32768 65536 (a % 65536))) ∧ w' = w := by
  skip
  by_cases hn : 32768 ≤ (a % 65536)
  · have hb : negM 32768 (a % 65536) = true := by simp [negM, hn]
    go_enter Tryz.func178, Tryz.ntmps178
    go_wp2_with (go_at_call 189; refine (neg_16 _ _).mono ?_; rintro e w' ⟨rfl, rfl⟩)
    go_ret
    exact ⟨ret_int (by
      unfold sgnM; rw [if_pos hn, not_u16 (a % 65536) (by omega) (by omega), not_u64 _ (by omega) (by omega)]; omega), rfl⟩
  · have hb : negM 32768 (a % 65536) = false := by simp [negM]; omega
    go_enter Tryz.func178, Tryz.ntmps178
    go_wp2_with (go_at_call 189; refine (neg_16 _ _).mono ?_; rintro e w' ⟨rfl, rfl⟩)
    go_ret
    exact ⟨ret_int (by unfold sgnM; rw [if_neg (by omega)]; (try omega)), rfl⟩
set_option maxRecDepth 100000 in
theorem len_16 (w : World) : Calls Tryz.prog 146 #[.int .u64 (65536 - 1)] w fun e w' => e = .returned (.int .i64 16) ∧ w' = w := by
  go_enter Tryz.func146, Tryz.ntmps146
  go_wp2
  go_ret
  exact ⟨ret_int (by decide +kernel), rfl⟩
theorem neg_32 (n : Int) (w : World) :
    Calls Tryz.prog 190 #[.int .u32 n] w fun e w' => e = .returned (.bool (negM 2147483648 n)) ∧ w' = w := by
  go_enter Tryz.func190, Tryz.ntmps190
  go_wp2
  go_ret
  exact ⟨ret_bool (by rw [not_u32 0 (by omega) (by omega)]; unfold negM; rw [decide_eq_decide]; omega), rfl⟩
theorem sgn_32 (a : Int) (w : World) (h0 : 0 ≤ a) (h1 : a < 18446744073709551616) :
    Calls Tryz.prog 179 #[.int .u64 a] w fun e w' => e = .returned (.int .u64 (sgnM 2147483648 4294967296 (a % 4294967296))) ∧ w' = w := by
  skip
  by_cases hn : 2147483648 ≤ (a % 4294967296)
  · have hb : negM 2147483648 (a % 4294967296) = true := by simp [negM, hn]
    go_enter Tryz.func179, Tryz.ntmps179
    go_wp2_with (go_at_call 190; refine (neg_32 _ _).mono ?_; rintro e w' ⟨rfl, rfl⟩)
    go_ret
    exact ⟨ret_int (by
      unfold sgnM; rw [if_pos hn, not_u32 (a % 4294967296) (by omega) (by omega), not_u64 _ (by omega) (by omega)]; omega), rfl⟩
  · have hb : negM 2147483648 (a % 4294967296) = false := by simp [negM]; omega
    go_enter Tryz.func179, Tryz.ntmps179
    go_wp2_with (go_at_call 190; refine (neg_32 _ _).mono ?_; rintro e w' ⟨rfl, rfl⟩)
    go_ret
    exact ⟨ret_int (by unfold sgnM; rw [if_neg (by omega)]; (try omega)), rfl⟩
set_option maxRecDepth 100000 in
theorem len_32 (w : World) : Calls Tryz.prog 146 #[.int .u64 (4294967296 - 1)] w fun e w' => e = .returned (.int .i64 32) ∧ w' = w := by
  go_enter Tryz.func146, Tryz.ntmps146
  go_wp2
  go_ret
  exact ⟨ret_int (by decide +kernel), rfl⟩
theorem neg_64 (n : Int) (w : World) :
    Calls Tryz.prog 191 #[.int .u64 n] w fun e w' => e = .returned (.bool (negM 9223372036854775808 n)) ∧ w' = w := by
  go_enter Tryz.func191, Tryz.ntmps191
  go_wp2
  go_ret
  exact ⟨ret_bool (by rw [not_u64 0 (by omega) (by omega)]; unfold negM; rw [decide_eq_decide]; omega), rfl⟩
theorem sgn_64 (a : Int) (w : World) (h0 : 0 ≤ a) (h1 : a < 18446744073709551616) :
    Calls Tryz.prog 180 #[.int .u64 a] w fun e w' => e = .returned (.int .u64 (sgnM 9223372036854775808 18446744073709551616 (a % 18446744073709551616))) ∧ w' = w := by
  rw [show a % 18446744073709551616 = a from by omega]
  by_cases hn : 9223372036854775808 ≤ a
  · have hb : negM 9223372036854775808 a = true := by simp [negM, hn]
    go_enter Tryz.func180, Tryz.ntmps180
    go_wp2_with (go_at_call 191; refine (neg_64 _ _).mono ?_; rintro e w' ⟨rfl, rfl⟩)
    go_ret
    exact ⟨ret_int (by
      unfold sgnM; rw [if_pos hn, not_u64 a (by omega) (by omega), not_u64 _ (by omega) (by omega)]; omega), rfl⟩
  · have hb : negM 9223372036854775808 a = false := by simp [negM]; omega
    go_enter Tryz.func180, Tryz.ntmps180
    go_wp2_with (go_at_call 191; refine (neg_64 _ _).mono ?_; rintro e w' ⟨rfl, rfl⟩)
    go_ret
    exact ⟨ret_int (by unfold sgnM; rw [if_neg (by omega)]; (try omega)), rfl⟩
set_option maxRecDepth 100000 in
theorem len_64 (w : World) : Calls Tryz.prog 146 #[.int .u64 (18446744073709551616 - 1)] w fun e w' => e = .returned (.int .i64 64) ∧ w' = w := by
  go_enter Tryz.func146, Tryz.ntmps146
  go_wp2
  go_ret
  exact ⟨ret_int (by decide +kernel), rfl⟩
end Go.Proofs.YtcomhlimgocoaaaGreatDoor.Wo
namespace Go.Proofs.YtcomhlimgocoaaaGreatDoor.Wo
open Go.RowKit
set_option linter.unusedVariables false
set_option linter.unusedSimpArgs false
attribute [local go_sem] IntKind.wrap_u16 IntKind.wrap_u32' IntKind.wrap_u64 IntKind.wrap_u8'

end Go.Proofs.YtcomhlimgocoaaaGreatDoor.Wo
namespace Go.Proofs.YtcomhlimgocoaaaGreatDoor.Wo
open Go.RowKit
set_option linter.unusedVariables false
set_option linter.unusedSimpArgs false

theorem pk1_8 (f8 f16 f32 f64 : Value) (w : World) :
    Calls Tryz.prog 176 #[.int .i64 8, f8, f16, f32, f64] w fun e w' => e = .returned f8 ∧ w' = w := by
  go_enter Tryz.func176, Tryz.ntmps176
  go_wp2
  go_ret
  exact ⟨rfl, rfl⟩
theorem pk1_16 (f8 f16 f32 f64 : Value) (w : World) :
    Calls Tryz.prog 176 #[.int .i64 16, f8, f16, f32, f64] w fun e w' => e = .returned f16 ∧ w' = w := by
  go_enter Tryz.func176, Tryz.ntmps176
  go_wp2
  go_ret
  exact ⟨rfl, rfl⟩
theorem pk1_32 (f8 f16 f32 f64 : Value) (w : World) :
    Calls Tryz.prog 176 #[.int .i64 32, f8, f16, f32, f64] w fun e w' => e = .returned f32 ∧ w' = w := by
  go_enter Tryz.func176, Tryz.ntmps176
  go_wp2
  go_ret
  exact ⟨rfl, rfl⟩
theorem pk1_64 (width : Int) (f8 f16 f32 f64 : Value) (w : World) (a : (width == 8) = false) (b : (width == 16) = false) (c : (width == 32) = false) :
    Calls Tryz.prog 176 #[.int .i64 width, f8, f16, f32, f64] w fun e w' => e = .returned f64 ∧ w' = w := by
  go_enter Tryz.func176, Tryz.ntmps176
  go_wp2
  go_ret
  exact ⟨rfl, rfl⟩
theorem Sign_any (a width : Int) (w : World) (h0 : 0 ≤ a) (h1 : a < 18446744073709551616) :
    Calls Tryz.prog 155 #[.int .u64 a, .int .i64 width] w fun e w' => e = .returned (.int .u64 (sgnW width a)) ∧ w' = w := by
  rcases wide_cases width with rfl | rfl | rfl | ⟨n8, n16, n32⟩
  · have hv : sgnW 8 a = sgnM 128 256 (a % 256) := rfl
    rw [hv]
    clear hv
    go_enter Tryz.func155, Tryz.ntmps155
    go_wp2_with (first | (go_at_call 176; refine (pk1_8 _ _ _ _ _).mono ?_; rintro e w' ⟨rfl, rfl⟩) | (go_at_call 177; refine (sgn_8 _ _ (by omega) (by omega)).mono ?_; rintro e w' ⟨rfl, rfl⟩))
    go_ret
    exact ⟨rfl, rfl⟩
  · have hv : sgnW 16 a = sgnM 32768 65536 (a % 65536) := rfl
    rw [hv]
    clear hv
    go_enter Tryz.func155, Tryz.ntmps155
    go_wp2_with (first | (go_at_call 176; refine (pk1_16 _ _ _ _ _).mono ?_; rintro e w' ⟨rfl, rfl⟩) | (go_at_call 178; refine (sgn_16 _ _ (by omega) (by omega)).mono ?_; rintro e w' ⟨rfl, rfl⟩))
    go_ret
    exact ⟨rfl, rfl⟩
  · have hv : sgnW 32 a = sgnM 2147483648 4294967296 (a % 4294967296) := rfl
    rw [hv]
    clear hv
    go_enter Tryz.func155, Tryz.ntmps155
    go_wp2_with (first | (go_at_call 176; refine (pk1_32 _ _ _ _ _).mono ?_; rintro e w' ⟨rfl, rfl⟩) | (go_at_call 179; refine (sgn_32 _ _ (by omega) (by omega)).mono ?_; rintro e w' ⟨rfl, rfl⟩))
    go_ret
    exact ⟨rfl, rfl⟩
  · have hv : sgnW width a = sgnM 9223372036854775808 18446744073709551616 (a % 18446744073709551616) := by unfold sgnW; rw [(W64 n8 n16 n32).1, (W64 n8 n16 n32).2.1]
    have g8 : (width == 8) = false := by simp [n8]
    have g16 : (width == 16) = false := by simp [n16]
    have g32 : (width == 32) = false := by simp [n32]
    rw [hv]
    clear hv n8 n16 n32
    go_enter Tryz.func155, Tryz.ntmps155
    go_wp2_with (first | (go_at_call 176; refine (pk1_64 _ _ _ _ _ _ (by assumption) (by assumption) (by assumption)).mono ?_; rintro e w' ⟨rfl, rfl⟩) | (go_at_call 180; refine (sgn_64 _ _ (by omega) (by omega)).mono ?_; rintro e w' ⟨rfl, rfl⟩))
    go_ret
    exact ⟨rfl, rfl⟩
theorem Sub_any (a b : Int) (w : World) :
    Calls Tryz.prog 175 #[.int .u64 a, .int .u64 b] w fun e w' => e = .returned (.int .u64 (subW a b)) ∧ w' = w := by
  go_enter Tryz.func175, Tryz.ntmps175
  go_wp2
  go_ret
  exact ⟨rfl, rfl⟩
theorem Neg_any (a : Int) (w : World) :
    Calls Tryz.prog 154 #[.int .u64 a] w fun e w' => e = .returned (.int .u64 (negW a)) ∧ w' = w := by
  go_enter Tryz.func154, Tryz.ntmps154
  go_wp2
  go_ret
  exact ⟨rfl, rfl⟩
end Go.Proofs.YtcomhlimgocoaaaGreatDoor.Wo
