import Derived.Test.YtdffhnboehjeoaaWk
import Derived.Test.YtdffhnboehjeoaaWm
import Derived.Test.YtdffhnboehjeoaaWx
import Derived.WalkKit
import Derived.WalkLawsBesides
import Derived.Outline
namespace Go.Proofs.Ytdffhnboehjeoaa
open Go.RowKit
set_option linter.unusedVariables false
set_option linter.unusedSimpArgs false

set_option maxHeartbeats 1000000 in
theorem WordShifts_any (a k width : Int) (w : World) (h0 : 0 ≤ a) (h1 : a < 18446744073709551616) (h2 : 0 ≤ k) (h3 : k < 18446744073709551616) :
    Calls Try.prog 7 #[.int .u64 a, .int .u64 k, .int .i64 width] w fun e w' => e = .returned (.bool true) ∧ ∃ n, w' = w.drewN n := by
  have f1 : (shlW width a k == narW width (mulW a (shlW 64 1 (modW 64 k (bW width))))) = true := beq_iff_eq.2 (shift_up width a k h2 h3)
  have f2 : (shrW width a k == divW 64 (narW width a) (shlW 64 1 (modW 64 k (bW width)))) = true := beq_iff_eq.2 (shift_down width a k h2 h3)
  have f3 := shift_rest width a k h2 h3
  have f4 : (shlW width a (bW width) == narW width a) = true := beq_iff_eq.2 (shift_none width a).1
  have f5 : (sarW width a (bW width) == narW width a) = true := beq_iff_eq.2 (shift_none width a).2
  obtain ⟨x1, x2⟩ := modW_bd 64 k (bW width)
  obtain ⟨x3, x4⟩ := shlW_bd 64 1 (modW 64 k (bW width))
  obtain ⟨y1, y2⟩ := mul_bd a (shlW 64 1 (modW 64 k (bW width)))
  obtain ⟨y3, y4⟩ := nar_bd width a
  obtain ⟨y5, y6⟩ := sarW_bd width a k
  obtain ⟨y7, y8⟩ := sgn_bd width (sarW width a k)
  obtain ⟨y9, y10⟩ := sgn_bd width a
  obtain ⟨x5, x6, x7, x8⟩ := k_bd width 0
  clear x5 x6
  go_enter Try.func7, Try.ntmps7
  go_wp2_with (first | (go_at_call 9; refine (awake_any _).mono ?_; rintro e w' ⟨rfl, n, rfl⟩) | (go_at_call 19; refine (Narrow_any _ _ _ (by omega) (by omega)).mono ?_; rintro e w' ⟨rfl, rfl⟩) | (go_at_call 21; refine (Sign_any _ _ _ (by omega) (by omega)).mono ?_; rintro e w' ⟨rfl, rfl⟩) | (go_at_call 13; refine (Mul_any _ _ _).mono ?_; rintro e w' ⟨rfl, rfl⟩) | (go_at_call 11; refine (Sub_any _ _ _).mono ?_; rintro e w' ⟨rfl, rfl⟩) | (go_at_call 29; refine (Div_any _ _ _ _ (by omega) (by omega) (by omega) (by omega)).mono ?_; rintro e w' ⟨rfl, rfl⟩) | (go_at_call 31; refine (Mod_any _ _ _ _ (by omega) (by omega) (by omega) (by omega)).mono ?_; rintro e w' ⟨rfl, rfl⟩) | (go_at_call 37; refine (Shl_any _ _ _ _ (by omega) (by omega) (by omega) (by omega)).mono ?_; rintro e w' ⟨rfl, rfl⟩) | (go_at_call 39; refine (Shr_any _ _ _ _ (by omega) (by omega) (by omega) (by omega)).mono ?_; rintro e w' ⟨rfl, rfl⟩) | (go_at_call 41; refine (Sar_any _ _ _ _ (by omega) (by omega) (by omega) (by omega)).mono ?_; rintro e w' ⟨rfl, nq, rfl⟩) | (go_at_call 43; refine (Wide_any _ _).mono ?_; rintro e w' ⟨rfl, rfl⟩))
  go_ret
  exact ⟨rfl, _, rfl⟩
end Go.Proofs.Ytdffhnboehjeoaa
