import Derived.Test.YtdffhnboehjeoaaWk
import Derived.Test.YtdffhnboehjeoaaWm
import Derived.Test.YtdffhnboehjeoaaWx
import Derived.WalkKit
import Derived.WalkLawsBesides
import Derived.Outline
namespace Go.Proofs.Ytdffhnboehjeoaa
open Go.RowKit
set_option linter.unusedVariables false
set_option linter.unusedSimpArgs false

set_option maxHeartbeats 1000000 in
theorem WordDivides_zero (a b width : Int) (w : World) (h0 : 0 ≤ a) (h1 : a < 18446744073709551616) (h2 : 0 ≤ b) (h3 : b < 18446744073709551616) (hz : narW width b = 0) :
    Calls Try.prog 6 #[.int .u64 a, .int .u64 b, .int .i64 width] w fun e w' => e = .returned (.bool true) ∧ ∃ n, w' = w.drewN n := by
  obtain ⟨z1, z2, z3, z4⟩ := div_zero width a b hz
  have f0 : (narW width b == 0) = true := beq_iff_eq.2 hz
  have f1 : (divW width a b == 0) = true := beq_iff_eq.2 z1
  have f2 : (modW width a b == narW width a) = true := beq_iff_eq.2 z2
  have f3 : (sdivW width a b == 0) = true := beq_iff_eq.2 z3
  have f4 : (smodW width a b == narW width a) = true := beq_iff_eq.2 z4
  clear hz z1 z2 z3 z4
  go_enter Try.func6, Try.ntmps6
  go_wp2_with (first | (go_at_call 9; refine (awake_any _).mono ?_; rintro e w' ⟨rfl, n, rfl⟩) | (go_at_call 19; refine (Narrow_any _ _ _ (by omega) (by omega)).mono ?_; rintro e w' ⟨rfl, rfl⟩) | (go_at_call 29; refine (Div_any _ _ _ _ (by omega) (by omega) (by omega) (by omega)).mono ?_; rintro e w' ⟨rfl, rfl⟩) | (go_at_call 31; refine (Mod_any _ _ _ _ (by omega) (by omega) (by omega) (by omega)).mono ?_; rintro e w' ⟨rfl, rfl⟩) | (go_at_call 33; refine (SDiv_any _ _ _ _ (by omega) (by omega) (by omega) (by omega)).mono ?_; rintro e w' ⟨rfl, rfl⟩) | (go_at_call 35; refine (SMod_any _ _ _ _ (by omega) (by omega) (by omega) (by omega)).mono ?_; rintro e w' ⟨rfl, rfl⟩) | (go_at_call 10; refine (Add_any _ _ _).mono ?_; rintro e w' ⟨rfl, rfl⟩) | (go_at_call 13; refine (Mul_any _ _ _).mono ?_; rintro e w' ⟨rfl, rfl⟩) | (go_at_call 27; refine (SLess_any _ _ _ _ (by omega) (by omega) (by omega) (by omega)).mono ?_; rintro e w' ⟨rfl, rfl⟩) | (go_at_call 12; refine (Neg_any _ _).mono ?_; rintro e w' ⟨rfl, rfl⟩))
  go_ret
  exact ⟨rfl, _, rfl⟩
set_option maxHeartbeats 2000000 in
theorem WordDivides_else (a b width : Int) (w : World) (h0 : 0 ≤ a) (h1 : a < 18446744073709551616) (h2 : 0 ≤ b) (h3 : b < 18446744073709551616) (hz : narW width b ≠ 0) :
    Calls Try.prog 6 #[.int .u64 a, .int .u64 b, .int .i64 width] w fun e w' => e = .returned (.bool true) ∧ ∃ n, w' = w.drewN n := by
  obtain ⟨z1, z2, z3⟩ := div_plain width a b hz
  have z4 := div_signed width a b hz
  obtain ⟨z5, z6⟩ := left_mag width a b hz
  have ts := smodW_lt width a b
  have ys := nar_lt width b
  have xs := nar_lt width a
  have s1 := sless0 width (smodW width a b) ts.1 ts.2
  have s2 := sless0 width (narW width b) ys.1 ys.2
  have s3 := sless0 width (narW width a) xs.1 xs.2
  have m1 := mag_far width (smodW width a b) ts.1 ts.2
  have m2 := mag_far width (narW width b) ys.1 ys.2
  have f0 : (narW width b == 0) = false := beq_eq_false_iff_ne.2 hz
  have f3 : (addW (mulW (divW width a b) (narW width b)) (modW width a b) != narW width a) = false := bne_false z3
  have f4 : (narW width (addW (mulW (sdivW width a b) (narW width b)) (smodW width a b)) != narW width a) = false := bne_false z4
  have f5 : (smodW width a b == 0) = true ∨ ((smodW width a b == 0) = false ∧ slessW width (narW width a) 0 = slessW width (smodW width a b) 0) := by
    by_cases e : smodW width a b = 0
    · exact .inl (beq_iff_eq.2 e)
    · exact .inr ⟨beq_eq_false_iff_ne.2 e, by rw [s1, s3]; exact (z6 e).symm⟩
  have f6 : (slessW width (smodW width a b) 0 = true ∧ slessW width (narW width b) 0 = true ∧ narW width (negW (smodW width a b)) < narW width (negW (narW width b))) ∨
      (slessW width (smodW width a b) 0 = true ∧ slessW width (narW width b) 0 = false ∧ narW width (negW (smodW width a b)) < narW width b) ∨
      (slessW width (smodW width a b) 0 = false ∧ slessW width (narW width b) 0 = true ∧ smodW width a b < narW width (negW (narW width b))) ∨
      (slessW width (smodW width a b) 0 = false ∧ slessW width (narW width b) 0 = false ∧ smodW width a b < narW width b) := by
    rw [s1, s2]
    cases c1 : negM (hW width) (smodW width a b) <;> cases c2 : negM (hW width) (narW width b)
    · refine .inr (.inr (.inr ⟨rfl, rfl, ?_⟩))
      rw [← m1.2 c1, ← m2.2 c2] at z5; exact z5
    · refine .inr (.inr (.inl ⟨rfl, rfl, ?_⟩))
      rw [← m1.2 c1, ← m2.1 c2] at z5; exact z5
    · refine .inr (.inl ⟨rfl, rfl, ?_⟩)
      rw [← m1.1 c1, ← m2.2 c2] at z5; exact z5
    · refine .inl ⟨rfl, rfl, ?_⟩
      rw [← m1.1 c1, ← m2.1 c2] at z5; exact z5
  obtain ⟨b1, b2⟩ := smodW_bd width a b
  obtain ⟨b3, b4⟩ := nar_bd width b
  obtain ⟨b5, b6⟩ := nar_bd width a
  obtain ⟨b7, b8⟩ := negW_bd (smodW width a b)
  obtain ⟨b9, b10⟩ := negW_bd (narW width b)
  obtain ⟨b11, b12⟩ := add_bd (mulW (sdivW width a b) (narW width b)) (smodW width a b)
  clear z3 z4 z5 z6 ts ys xs s1 s2 s3 m1 m2 hz
  rcases f5 with f5 | ⟨f5, f7⟩ <;> rcases f6 with ⟨g1, g2, g3⟩ | ⟨g1, g2, g3⟩ | ⟨g1, g2, g3⟩ | ⟨g1, g2, g3⟩
  all_goals (try rw [g1] at f7)
  all_goals
    go_enter Try.func6, Try.ntmps6
    go_wp2_with (first | (go_at_call 9; refine (awake_any _).mono ?_; rintro e w' ⟨rfl, n, rfl⟩) | (go_at_call 19; refine (Narrow_any _ _ _ (by omega) (by omega)).mono ?_; rintro e w' ⟨rfl, rfl⟩) | (go_at_call 29; refine (Div_any _ _ _ _ (by omega) (by omega) (by omega) (by omega)).mono ?_; rintro e w' ⟨rfl, rfl⟩) | (go_at_call 31; refine (Mod_any _ _ _ _ (by omega) (by omega) (by omega) (by omega)).mono ?_; rintro e w' ⟨rfl, rfl⟩) | (go_at_call 33; refine (SDiv_any _ _ _ _ (by omega) (by omega) (by omega) (by omega)).mono ?_; rintro e w' ⟨rfl, rfl⟩) | (go_at_call 35; refine (SMod_any _ _ _ _ (by omega) (by omega) (by omega) (by omega)).mono ?_; rintro e w' ⟨rfl, rfl⟩) | (go_at_call 10; refine (Add_any _ _ _).mono ?_; rintro e w' ⟨rfl, rfl⟩) | (go_at_call 13; refine (Mul_any _ _ _).mono ?_; rintro e w' ⟨rfl, rfl⟩) | (go_at_call 27; refine (SLess_any _ _ _ _ (by omega) (by omega) (by omega) (by omega)).mono ?_; rintro e w' ⟨rfl, rfl⟩) | (go_at_call 12; refine (Neg_any _ _).mono ?_; rintro e w' ⟨rfl, rfl⟩))
    go_ret
    exact ⟨rfl, _, rfl⟩
theorem WordDivides_any (a b width : Int) (w : World) (h0 : 0 ≤ a) (h1 : a < 18446744073709551616) (h2 : 0 ≤ b) (h3 : b < 18446744073709551616) :
    Calls Try.prog 6 #[.int .u64 a, .int .u64 b, .int .i64 width] w fun e w' => e = .returned (.bool true) ∧ ∃ n, w' = w.drewN n := by
  by_cases hz : narW width b = 0
  · exact WordDivides_zero a b width w h0 h1 h2 h3 hz
  · exact WordDivides_else a b width w h0 h1 h2 h3 hz
end Go.Proofs.Ytdffhnboehjeoaa
