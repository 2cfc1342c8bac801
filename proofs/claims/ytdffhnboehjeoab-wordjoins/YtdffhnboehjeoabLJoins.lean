import Derived.Test.YtdffhnboehjeoabWk
import Derived.Test.YtdffhnboehjeoabWj
import Derived.WalkKit
import Derived.WalkLawsBesides
import Derived.Outline
namespace Go.Proofs.Ytdffhnboehjeoab
open Go.RowKit
set_option linter.unusedVariables false
set_option linter.unusedSimpArgs false

set_option maxHeartbeats 1000000 in
theorem WordJoins_any (a b width : Int) (w : World) (h0 : 0 ≤ a) (h1 : a < 18446744073709551616) (h2 : 0 ≤ b) (h3 : b < 18446744073709551616) :
    Calls Try.prog 4 #[.int .u64 a, .int .u64 b, .int .i64 width] w fun e w' => e = .returned (.bool true) ∧ ∃ n, w' = w.drewN n := by
  have f1 : (narW width (addW a b) == narW width (addW (narW width a) (narW width b))) = true := beq_iff_eq.2 (joins_sum width a b)
  have f2 : (narW width (mulW a b) == narW width (mulW (narW width a) (narW width b))) = true := beq_iff_eq.2 (joins_product width a b)
  obtain ⟨j1, j2, j3, j4⟩ := joins_bits a b h0 h1 h2 h3
  have f3 : (addW (andW a b) (orW a b) == addW a b) = true := beq_iff_eq.2 j1
  have f4 : (subW (orW a b) (andW a b) == xorW a b) = true := beq_iff_eq.2 j2
  have f5 : (subW (addW a b) b == a) = true := beq_iff_eq.2 j3
  have f6 : (addW a (negW a) == 0) = true := beq_iff_eq.2 j4
  clear j1 j2 j3 j4
  obtain ⟨b1, b2⟩ := add_bd a b
  obtain ⟨b3, b4⟩ := add_bd (narW width a) (narW width b)
  obtain ⟨b5, b6⟩ := mul_bd a b
  obtain ⟨b7, b8⟩ := mul_bd (narW width a) (narW width b)
  go_enter Try.func4, Try.ntmps4
  go_wp2_with (first | (go_at_call 5; refine (awake_any _).mono ?_; rintro e w' ⟨rfl, n, rfl⟩) | (go_at_call 6; refine (Narrow_any _ _ _ (by omega) (by omega)).mono ?_; rintro e w' ⟨rfl, rfl⟩) | (go_at_call 12; refine (Add_any _ _ _).mono ?_; rintro e w' ⟨rfl, rfl⟩) | (go_at_call 13; refine (Mul_any _ _ _).mono ?_; rintro e w' ⟨rfl, rfl⟩) | (go_at_call 14; refine (And_any _ _ _).mono ?_; rintro e w' ⟨rfl, rfl⟩) | (go_at_call 15; refine (Or_any _ _ _).mono ?_; rintro e w' ⟨rfl, rfl⟩) | (go_at_call 16; refine (Sub_any _ _ _).mono ?_; rintro e w' ⟨rfl, rfl⟩) | (go_at_call 11; refine (Xor_any _ _ _).mono ?_; rintro e w' ⟨rfl, rfl⟩) | (go_at_call 17; refine (Neg_any _ _).mono ?_; rintro e w' ⟨rfl, rfl⟩))
  go_ret
  exact ⟨rfl, _, rfl⟩
end Go.Proofs.Ytdffhnboehjeoab
