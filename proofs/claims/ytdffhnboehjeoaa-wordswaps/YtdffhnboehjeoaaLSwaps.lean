import Derived.Test.YtdffhnboehjeoaaWk
import Derived.Test.YtdffhnboehjeoaaWm
import Derived.Test.YtdffhnboehjeoaaWx
import Derived.WalkKit
import Derived.WalkLawsBesides
import Derived.Outline
namespace Go.Proofs.Ytdffhnboehjeoaa
open Go.RowKit
set_option linter.unusedVariables false
set_option linter.unusedSimpArgs false

set_option maxHeartbeats 1000000 in
theorem WordSwaps_any (a width : Int) (w : World) (h0 : 0 ≤ a) (h1 : a < 18446744073709551616) :
    Calls Try.prog 8 #[.int .u64 a, .int .i64 width] w fun e w' => e = .returned (.bool true) ∧ ∃ n, w' = w.drewN n := by
  have f1 : (swapW width (swapW width a) != narW width a) = false := bne_false (swap_twice width a)
  have f2 : (narW 8 a != shrW 64 (swapW width a) (bW width - 8)) = false := bne_false (swap_low width a)
  have f3 : (narW width (swapW width a) != swapW width a) = false := bne_false (nar_self width _ (swapW_lt width a).1 (swapW_lt width a).2)
  have f4 : (narW width (sgnW width a) == narW width a) = true := beq_iff_eq.2 (sgn_nar width a)
  have f5 : (sarW 64 (sgnW width a) (bW width - 1) == negW (shrW 64 (narW width a) (bW width - 1))) = true := beq_iff_eq.2 (sgn_sar width a)
  have f6 : (sgnW width (sgnW width a) == sgnW width a) = true := beq_iff_eq.2 (sgn_sgn width a)
  obtain ⟨x1, x2⟩ := swapW_bd width a
  obtain ⟨x3, x4⟩ := sgn_bd width a
  obtain ⟨y3, y4⟩ := nar_bd width a
  obtain ⟨x5, x6, x7, x8⟩ := k_bd width 0
  clear x5 x6
  go_enter Try.func8, Try.ntmps8
  go_wp2_with (first | (go_at_call 9; refine (awake_any _).mono ?_; rintro e w' ⟨rfl, n, rfl⟩) | (go_at_call 19; refine (Narrow_any _ _ _ (by omega) (by omega)).mono ?_; rintro e w' ⟨rfl, rfl⟩) | (go_at_call 23; refine (Swap_any _ _ _ (by omega) (by omega)).mono ?_; rintro e w' ⟨rfl, rfl⟩) | (go_at_call 21; refine (Sign_any _ _ _ (by omega) (by omega)).mono ?_; rintro e w' ⟨rfl, rfl⟩) | (go_at_call 39; refine (Shr_any _ _ _ _ (by omega) (by omega) (by omega) (by omega)).mono ?_; rintro e w' ⟨rfl, rfl⟩) | (go_at_call 41; refine (Sar_any _ _ _ _ (by omega) (by omega) (by omega) (by omega)).mono ?_; rintro e w' ⟨rfl, nq, rfl⟩) | (go_at_call 12; refine (Neg_any _ _).mono ?_; rintro e w' ⟨rfl, rfl⟩) | (go_at_call 43; refine (Wide_any _ _).mono ?_; rintro e w' ⟨rfl, rfl⟩))
  go_ret
  exact ⟨rfl, _, rfl⟩
end Go.Proofs.Ytdffhnboehjeoaa
