import Derived.Test.YtdffhnboehjeoaaWy
import Derived.Test.YtdffhnboehjeoaaWt
import Derived.WalkKit
import Derived.WalkLawsBesides
import Derived.Outline
import Derived.LoopTactic
import Derived.Deep.QuietTactic
import Derived.BigQuiet
namespace Go.Proofs.Ytdffhnboehjeoaa
open Go.RowKit
set_option linter.unusedVariables false
set_option linter.unusedSimpArgs false

set_option maxHeartbeats 1000000 in
theorem rMul_any (a b : Int) (w : World) (h0 : 0 ≤ a) (h1 : a < 18446744073709551616) (h2 : 0 ≤ b) (h3 : b < 18446744073709551616) :
    Calls Try.prog 14 #[.int .u64 a, .int .u64 b] w fun e w' => e = .returned (.int .u64 (mulW a b)) ∧ w' = w := by
  have Z1 : Hid (axj a 0 = a) := axj_zero h0 h1
  have Z2 : Hid (bxj b 0 = b) := bxj_zero b
  have Z3 : Hid (sxj a b 0 = 0) := sxj_zero a b
  have E : Hid (sxj a b 64 = mulW a b) := sxj_end h2 h3
  go_enter Try.func14, Try.ntmps14
  go_wp2
  go_loop [0, 1, 5, 6] (fun x y s i => ∃ j : Nat, j ≤ 64 ∧ i = .int .i64 j ∧ x = .int .u64 (axj a j) ∧ y = .int .u64 (bxj b j) ∧ s = .int .u64 (sxj a b j)) (fun _ _ _ i => 64 - (intOf i).toNat)
  case atStart => exact ⟨0, by omega, rfl, congrArg (Value.int IntKind.u64) Z1.out.symm, congrArg (Value.int IntKind.u64) Z2.out.symm, congrArg (Value.int IntKind.u64) Z3.out.symm⟩
  case round =>
    obtain ⟨j, hj, rfl, rfl, rfl, rfl⟩ := hrel
    by_cases hlt : j < 64
    · have H1 : Hid (IntKind.u64.wrap (axj a j + axj a j) = axj a (j + 1)) := axj_succ a j
      have H2 : Hid (bxj b j / 2 = bxj b (j + 1)) := bxj_succ b j
      have hb := bxj_nonneg (b := b) j h2
      have hb' := bxj_lt (b := b) j h2 h3
      by_cases c : bxj b j % 2 = 1
      · have H3 : Hid (IntKind.u64.wrap (sxj a b j + axj a j) = sxj a b (j + 1)) := sxj_one h2 c
        have c' : (bxj b j % 2 == 1) = true := beq_iff_eq.2 c
        clear c
        go_wp2
        exact ⟨⟨j + 1, by omega, congrArg (Value.int IntKind.i64) (by omega), congrArg (Value.int IntKind.u64) H1.out, congrArg (Value.int IntKind.u64) H2.out, congrArg (Value.int IntKind.u64) H3.out⟩, by simp [intOf]; omega⟩
      · have H3 : Hid (sxj a b j = sxj a b (j + 1)) := sxj_none h2 c
        have c' : (bxj b j % 2 == 1) = false := beq_eq_false_iff_ne.2 c
        clear c
        go_wp2
        exact ⟨⟨j + 1, by omega, congrArg (Value.int IntKind.i64) (by omega), congrArg (Value.int IntKind.u64) H1.out, congrArg (Value.int IntKind.u64) H2.out, congrArg (Value.int IntKind.u64) H3.out⟩, by simp [intOf]; omega⟩
    · go_wp2
      go_ret
      exact ⟨ret_int (by rw [← E.out, show j = 64 by omega]), rfl⟩
set_option maxHeartbeats 1000000 in
theorem rBits_0 (a b : Int) (w : World) (h0 : 0 ≤ a) (h1 : a < 18446744073709551616) (h2 : 0 ≤ b) (h3 : b < 18446744073709551616) :
    Calls Try.prog 16 #[.int .i64 0, .int .u64 a, .int .u64 b] w fun e w' => e = .returned (.int .u64 (andW a b)) ∧ w' = w := by
  have Z1 : Hid (oand a b 0 = 0) := oand_zero h0 h1 h2 h3
  have E : Hid (oand a b 64 = andW a b) := oand_end h0 h1 h2 h3
  go_enter Try.func16, Try.ntmps16
  go_wp2
  go_loop [7, 8] (fun o i => ∃ j : Nat, j ≤ 64 ∧ i = .int .i64 (63 - (j : Int)) ∧ o = .int .u64 (oand a b j)) (fun _ i => (intOf i + 1).toNat)
  case atStart => exact ⟨0, by omega, rfl, congrArg (Value.int IntKind.u64) Z1.out.symm⟩
  case round =>
    obtain ⟨j, hj, rfl, rfl⟩ := hrel
    by_cases hlt : j ≤ 63
    · have H1 : Hid (IntKind.u64.wrap (IntKind.u64.wrap (oand a b j + oand a b j) + (a / pw (63 - j) % 2 + b / pw (63 - j) % 2) / 2) = oand a b (j + 1)) := oand_succ j hlt h0 h1 h2 h3
      have hp := pw_pos (63 - j)
      have ha := Int.ediv_nonneg h0 (Int.le_of_lt hp)
      have hb := Int.ediv_nonneg h2 (Int.le_of_lt hp)
      go_wp2_with (first | (go_at_call 44; refine (power_any _ _ (by omega) (by omega)).mono ?_; rintro e w' ⟨rfl, hw⟩; have hw := hw.symm; subst hw))
      exact ⟨⟨j + 1, by omega, congrArg (Value.int IntKind.i64) (by omega), congrArg (Value.int IntKind.u64) H1.out⟩, by simp [intOf]; omega⟩
    · go_wp2
      go_ret
      exact ⟨ret_int (by rw [← E.out, show j = 64 by omega]), rfl⟩
set_option maxHeartbeats 1000000 in
theorem rBits_1 (a b : Int) (w : World) (h0 : 0 ≤ a) (h1 : a < 18446744073709551616) (h2 : 0 ≤ b) (h3 : b < 18446744073709551616) :
    Calls Try.prog 16 #[.int .i64 1, .int .u64 a, .int .u64 b] w fun e w' => e = .returned (.int .u64 (orW a b)) ∧ w' = w := by
  have Z1 : Hid (oor a b 0 = 0) := oor_zero h0 h1 h2 h3
  have E : Hid (oor a b 64 = orW a b) := oor_end h0 h1 h2 h3
  go_enter Try.func16, Try.ntmps16
  go_wp2
  go_loop [7, 8] (fun o i => ∃ j : Nat, j ≤ 64 ∧ i = .int .i64 (63 - (j : Int)) ∧ o = .int .u64 (oor a b j)) (fun _ i => (intOf i + 1).toNat)
  case atStart => exact ⟨0, by omega, rfl, congrArg (Value.int IntKind.u64) Z1.out.symm⟩
  case round =>
    obtain ⟨j, hj, rfl, rfl⟩ := hrel
    by_cases hlt : j ≤ 63
    · have H1 : Hid (IntKind.u64.wrap (IntKind.u64.wrap (oor a b j + oor a b j) + (a / pw (63 - j) % 2 + b / pw (63 - j) % 2 + 1) / 2) = oor a b (j + 1)) := oor_succ j hlt h0 h1 h2 h3
      have hp := pw_pos (63 - j)
      have ha := Int.ediv_nonneg h0 (Int.le_of_lt hp)
      have hb := Int.ediv_nonneg h2 (Int.le_of_lt hp)
      go_wp2_with (first | (go_at_call 44; refine (power_any _ _ (by omega) (by omega)).mono ?_; rintro e w' ⟨rfl, hw⟩; have hw := hw.symm; subst hw))
      exact ⟨⟨j + 1, by omega, congrArg (Value.int IntKind.i64) (by omega), congrArg (Value.int IntKind.u64) H1.out⟩, by simp [intOf]; omega⟩
    · go_wp2
      go_ret
      exact ⟨ret_int (by rw [← E.out, show j = 64 by omega]), rfl⟩
set_option maxHeartbeats 1000000 in
theorem rBits_2 (a b : Int) (w : World) (h0 : 0 ≤ a) (h1 : a < 18446744073709551616) (h2 : 0 ≤ b) (h3 : b < 18446744073709551616) :
    Calls Try.prog 16 #[.int .i64 2, .int .u64 a, .int .u64 b] w fun e w' => e = .returned (.int .u64 (xorW a b)) ∧ w' = w := by
  have Z1 : Hid (oxor a b 0 = 0) := oxor_zero h0 h1 h2 h3
  have E : Hid (oxor a b 64 = xorW a b) := oxor_end h0 h1 h2 h3
  go_enter Try.func16, Try.ntmps16
  go_wp2
  go_loop [7, 8] (fun o i => ∃ j : Nat, j ≤ 64 ∧ i = .int .i64 (63 - (j : Int)) ∧ o = .int .u64 (oxor a b j)) (fun _ i => (intOf i + 1).toNat)
  case atStart => exact ⟨0, by omega, rfl, congrArg (Value.int IntKind.u64) Z1.out.symm⟩
  case round =>
    obtain ⟨j, hj, rfl, rfl⟩ := hrel
    by_cases hlt : j ≤ 63
    · have H1 : Hid (IntKind.u64.wrap (IntKind.u64.wrap (oxor a b j + oxor a b j) + (a / pw (63 - j) + b / pw (63 - j)) % 2) = oxor a b (j + 1)) := oxor_succ' j hlt h0 h1 h2 h3
      have hp := pw_pos (63 - j)
      have ha := Int.ediv_nonneg h0 (Int.le_of_lt hp)
      have hb := Int.ediv_nonneg h2 (Int.le_of_lt hp)
      go_wp2_with (first | (go_at_call 44; refine (power_any _ _ (by omega) (by omega)).mono ?_; rintro e w' ⟨rfl, hw⟩; have hw := hw.symm; subst hw))
      exact ⟨⟨j + 1, by omega, congrArg (Value.int IntKind.i64) (by omega), congrArg (Value.int IntKind.u64) H1.out⟩, by simp [intOf]; omega⟩
    · go_wp2
      go_ret
      exact ⟨ret_int (by rw [← E.out, show j = 64 by omega]), rfl⟩
def bitsK (kind a b : Int) : Int := if kind = 0 then andW a b else if kind = 1 then orW a b else xorW a b
theorem rBits_any (kind a b : Int) (w : World) (hk : 0 ≤ kind) (hk2 : kind ≤ 2) (h0 : 0 ≤ a) (h1 : a < 18446744073709551616) (h2 : 0 ≤ b) (h3 : b < 18446744073709551616) :
    Calls Try.prog 16 #[.int .i64 kind, .int .u64 a, .int .u64 b] w fun e w' => e = .returned (.int .u64 (bitsK kind a b)) ∧ w' = w := by
  rcases (show kind = 0 ∨ kind = 1 ∨ kind = 2 by omega) with rfl | rfl | rfl
  · exact rBits_0 a b w h0 h1 h2 h3
  · exact rBits_1 a b w h0 h1 h2 h3
  · exact rBits_2 a b w h0 h1 h2 h3
set_option maxHeartbeats 1000000 in
theorem rSwap_any (a width : Int) (w : World) (h0 : 0 ≤ a) (h1 : a < 18446744073709551616) :
    Calls Try.prog 24 #[.int .u64 a, .int .i64 width] w fun e w' => e = .returned (.int .u64 (swapW width a)) ∧ ∃ n, w' = w.drewN n := by
  obtain ⟨N, hN, eN, hb1, hb2⟩ := n_bytes width
  have E : Hid (oO (narW width a) N = swapW width a) := by unfold Hid; rw [← eN]; exact o_end width a
  clear eN
  obtain ⟨hn, hn'⟩ := nar_bd width a
  go_enter Try.func24, Try.ntmps24
  go_wp2_with (first | (go_at_call 20; refine (rNarrow_any _ _ _ (by omega) (by omega)).mono ?_; rintro e w' ⟨rfl, n, rfl⟩))
  go_loopw [5, 6, 7] (fun x o i wr => ∃ j : Nat, j ≤ N ∧ i = .int .i64 (8 * (j : Int)) ∧ x = .int .u64 (oX (narW width a) j) ∧ o = .int .u64 (oO (narW width a) j) ∧ ∃ n, wr = w.drewN n) (fun _ _ i _ => 64 - (intOf i).toNat)
  case atStart => exact ⟨0, by omega, rfl, rfl, rfl, (by first | exact ⟨_, rfl⟩ | (simp only [drewN_drewN]; exact ⟨_, rfl⟩) | exact ⟨0, rfl⟩)⟩
  case round =>
    obtain ⟨j, hj, rfl, rfl, rfl, n0, rfl⟩ := hrel
    by_cases hlt : j < N
    · have H1 : Hid (oO (narW width a) j * 256 + oX (narW width a) j % 256 = oO (narW width a) (j + 1)) := oO_succ _ _
      have H2 : Hid (oX (narW width a) j / 256 = oX (narW width a) (j + 1)) := oX_succ _ _
      obtain ⟨r1, r2⟩ := o_room (narW width a) hn j (by omega)
      obtain ⟨r3, r4, r5⟩ := o_bd (narW width a) hn j
      clear r4
      have r6 := oX_lt (narW width a) hn hn' j
      go_wp2_with (first | (go_at_call 43; refine (Wide_any _ _).mono ?_; rintro e w' ⟨rfl, hw⟩; have hw := hw.symm; subst hw))
      exact ⟨⟨j + 1, by omega, congrArg (Value.int IntKind.i64) (by omega), congrArg (Value.int IntKind.u64) H2.out, congrArg (Value.int IntKind.u64) H1.out, (by first | exact ⟨_, rfl⟩ | (simp only [drewN_drewN]; exact ⟨_, rfl⟩) | exact ⟨0, rfl⟩)⟩, by simp [intOf]; omega⟩
    · go_wp2_with (first | (go_at_call 43; refine (Wide_any _ _).mono ?_; rintro e w' ⟨rfl, hw⟩; have hw := hw.symm; subst hw))
      go_ret
      exact ⟨ret_int (by rw [← E.out, show j = N by omega]), (by first | exact ⟨_, rfl⟩ | (simp only [drewN_drewN]; exact ⟨_, rfl⟩) | exact ⟨0, rfl⟩)⟩
end Go.Proofs.Ytdffhnboehjeoaa
