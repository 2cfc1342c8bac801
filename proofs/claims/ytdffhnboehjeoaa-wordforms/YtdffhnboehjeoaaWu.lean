import Derived.Test.YtdffhnboehjeoaaWz
import Derived.WalkKit
import Derived.WalkLawsBesides
import Derived.Outline
import Derived.LoopTactic
import Derived.Deep.QuietTactic
import Derived.BigQuiet
namespace Go.Proofs.Ytdffhnboehjeoaa
open Go.RowKit
set_option linter.unusedVariables false
set_option linter.unusedSimpArgs false

theorem rSDiv_any (a b width : Int) (w : World) (h0 : 0 ≤ a) (h1 : a < 18446744073709551616) (h2 : 0 ≤ b) (h3 : b < 18446744073709551616) :
    Calls Try.prog 34 #[.int .u64 a, .int .u64 b, .int .i64 width] w fun e w' => e = .returned (.int .u64 (sdivW width a b)) ∧ ∃ n, w' = w.drewN n := by
  obtain ⟨b1, b2⟩ := nar_bd width a
  obtain ⟨b3, b4⟩ := nar_bd width b
  have b5 : narW width a < mW width := (nar_lt width a).2
  have b6 : narW width b < mW width := (nar_lt width b).2
  have e1 := nar_b width a
  have e2 := nar_b width b
  by_cases c : narW width b = 0
  · have hb : (narW width b == 0) = true := beq_iff_eq.2 c
    have HR : Hid (0 = sdivW width a b) := (div_zero width a b c).2.2.1.symm
    clear c
    go_enter Try.func34, Try.ntmps34
    go_wp2_with (first | (go_at_call 43; refine (Wide_any _ _).mono ?_; rintro e w' ⟨rfl, rfl⟩) | (go_at_call 20; refine (rNarrow_any _ _ _ (by omega) (by omega)).mono ?_; rintro e w' ⟨rfl, n, rfl⟩) | (go_at_call 54; refine (minus_any _ _ _).mono ?_; rintro e w' ⟨rfl, rfl⟩) | (go_at_call 82; refine (size_any _ _ _ (by omega) (by omega) (by omega)).mono ?_; rintro e w' ⟨rfl, n, rfl⟩) | (go_at_call 73; refine (divide_any _ _ _ (by omega) (by omega) (by omega) (by omega)).mono ?_; rintro e w' ⟨rfl, rfl⟩))
    go_ret
    exact ⟨ret_int HR.out, (by first | exact ⟨_, rfl⟩ | (simp only [drewN_drewN]; exact ⟨_, rfl⟩) | exact ⟨0, rfl⟩)⟩
  · have hb : (narW width b == 0) = false := beq_eq_false_iff_ne.2 c
    have hp : 0 < magM (hW width) (mW width) (narW width b) := magW_pos c
    obtain ⟨m1, m2, m3⟩ : 0 ≤ magM (hW width) (mW width) (narW width a) ∧ magM (hW width) (mW width) (narW width a) < 18446744073709551616 ∧ magM (hW width) (mW width) (narW width a) ≤ hW width := magW_bd width a
    obtain ⟨m4, m5, m6⟩ : 0 ≤ magM (hW width) (mW width) (narW width b) ∧ magM (hW width) (mW width) (narW width b) < 18446744073709551616 ∧ magM (hW width) (mW width) (narW width b) ≤ hW width := magW_bd width b
    obtain ⟨q1, q2⟩ := div_bd (x := magM (hW width) (mW width) (narW width a)) (y := magM (hW width) (mW width) (narW width b)) (B := 18446744073709551615) (by omega) (by omega) hp
    obtain ⟨w1, w2⟩ := wrap_bd (-(magM (hW width) (mW width) (narW width a) / magM (hW width) (mW width) (narW width b)))
    have e3 := nar_b width (magM (hW width) (mW width) (narW width a) / magM (hW width) (mW width) (narW width b))
    have e4 := nar_b width (IntKind.u64.wrap (-(magM (hW width) (mW width) (narW width a) / magM (hW width) (mW width) (narW width b))))
    by_cases s : negM (hW width) (narW width a) = negM (hW width) (narW width b)
    · have s' : (negM (hW width) (narW width a) == negM (hW width) (narW width b)) = true := beq_iff_eq.2 s
      have HR : Hid (narW width (magM (hW width) (mW width) (narW width a) / magM (hW width) (mW width) (narW width b)) = sdivW width a b) := sdiv_ref a c s
      clear c s
      go_enter Try.func34, Try.ntmps34
      go_wp2_with (first | (go_at_call 43; refine (Wide_any _ _).mono ?_; rintro e w' ⟨rfl, rfl⟩) | (go_at_call 20; refine (rNarrow_any _ _ _ (by omega) (by omega)).mono ?_; rintro e w' ⟨rfl, n, rfl⟩) | (go_at_call 54; refine (minus_any _ _ _).mono ?_; rintro e w' ⟨rfl, rfl⟩) | (go_at_call 82; refine (size_any _ _ _ (by omega) (by omega) (by omega)).mono ?_; rintro e w' ⟨rfl, n, rfl⟩) | (go_at_call 73; refine (divide_any _ _ _ (by omega) (by omega) (by omega) (by omega)).mono ?_; rintro e w' ⟨rfl, rfl⟩))
      go_ret
      exact ⟨ret_int HR.out, (by first | exact ⟨_, rfl⟩ | (simp only [drewN_drewN]; exact ⟨_, rfl⟩) | exact ⟨0, rfl⟩)⟩
    · have s' : (negM (hW width) (narW width a) == negM (hW width) (narW width b)) = false := beq_eq_false_iff_ne.2 s
      have HR : Hid (narW width (IntKind.u64.wrap (-(magM (hW width) (mW width) (narW width a) / magM (hW width) (mW width) (narW width b)))) = sdivW width a b) := sdiv_ref' a c s
      clear c s
      go_enter Try.func34, Try.ntmps34
      go_wp2_with (first | (go_at_call 43; refine (Wide_any _ _).mono ?_; rintro e w' ⟨rfl, rfl⟩) | (go_at_call 20; refine (rNarrow_any _ _ _ (by omega) (by omega)).mono ?_; rintro e w' ⟨rfl, n, rfl⟩) | (go_at_call 54; refine (minus_any _ _ _).mono ?_; rintro e w' ⟨rfl, rfl⟩) | (go_at_call 82; refine (size_any _ _ _ (by omega) (by omega) (by omega)).mono ?_; rintro e w' ⟨rfl, n, rfl⟩) | (go_at_call 73; refine (divide_any _ _ _ (by omega) (by omega) (by omega) (by omega)).mono ?_; rintro e w' ⟨rfl, rfl⟩))
      go_ret
      exact ⟨ret_int HR.out, (by first | exact ⟨_, rfl⟩ | (simp only [drewN_drewN]; exact ⟨_, rfl⟩) | exact ⟨0, rfl⟩)⟩
theorem rSMod_any (a b width : Int) (w : World) (h0 : 0 ≤ a) (h1 : a < 18446744073709551616) (h2 : 0 ≤ b) (h3 : b < 18446744073709551616) :
    Calls Try.prog 36 #[.int .u64 a, .int .u64 b, .int .i64 width] w fun e w' => e = .returned (.int .u64 (smodW width a b)) ∧ ∃ n, w' = w.drewN n := by
  obtain ⟨b1, b2⟩ := nar_bd width a
  obtain ⟨b3, b4⟩ := nar_bd width b
  have b5 : narW width a < mW width := (nar_lt width a).2
  have b6 : narW width b < mW width := (nar_lt width b).2
  have e1 := nar_b width a
  have e2 := nar_b width b
  by_cases c : narW width b = 0
  · have hb : (narW width b == 0) = true := beq_iff_eq.2 c
    have HR : Hid (narW width a = smodW width a b) := (div_zero width a b c).2.2.2.symm
    clear c
    go_enter Try.func36, Try.ntmps36
    go_wp2_with (first | (go_at_call 43; refine (Wide_any _ _).mono ?_; rintro e w' ⟨rfl, rfl⟩) | (go_at_call 20; refine (rNarrow_any _ _ _ (by omega) (by omega)).mono ?_; rintro e w' ⟨rfl, n, rfl⟩) | (go_at_call 54; refine (minus_any _ _ _).mono ?_; rintro e w' ⟨rfl, rfl⟩) | (go_at_call 82; refine (size_any _ _ _ (by omega) (by omega) (by omega)).mono ?_; rintro e w' ⟨rfl, n, rfl⟩) | (go_at_call 73; refine (divide_any _ _ _ (by omega) (by omega) (by omega) (by omega)).mono ?_; rintro e w' ⟨rfl, rfl⟩))
    go_ret
    exact ⟨ret_int HR.out, (by first | exact ⟨_, rfl⟩ | (simp only [drewN_drewN]; exact ⟨_, rfl⟩) | exact ⟨0, rfl⟩)⟩
  · have hb : (narW width b == 0) = false := beq_eq_false_iff_ne.2 c
    have hp : 0 < magM (hW width) (mW width) (narW width b) := magW_pos c
    obtain ⟨m1, m2, m3⟩ : 0 ≤ magM (hW width) (mW width) (narW width a) ∧ magM (hW width) (mW width) (narW width a) < 18446744073709551616 ∧ magM (hW width) (mW width) (narW width a) ≤ hW width := magW_bd width a
    obtain ⟨m4, m5, m6⟩ : 0 ≤ magM (hW width) (mW width) (narW width b) ∧ magM (hW width) (mW width) (narW width b) < 18446744073709551616 ∧ magM (hW width) (mW width) (narW width b) ≤ hW width := magW_bd width b
    obtain ⟨q1, q2⟩ := rem_bd (x := magM (hW width) (mW width) (narW width a)) (y := magM (hW width) (mW width) (narW width b)) hp
    obtain ⟨w1, w2⟩ := wrap_bd (-(magM (hW width) (mW width) (narW width a) % magM (hW width) (mW width) (narW width b)))
    have e3 := nar_b width (magM (hW width) (mW width) (narW width a) % magM (hW width) (mW width) (narW width b))
    have e4 := nar_b width (IntKind.u64.wrap (-(magM (hW width) (mW width) (narW width a) % magM (hW width) (mW width) (narW width b))))
    cases s : negM (hW width) (narW width a)
    · have HR : Hid (narW width (magM (hW width) (mW width) (narW width a) % magM (hW width) (mW width) (narW width b)) = smodW width a b) := smod_ref' a c s
      clear c
      go_enter Try.func36, Try.ntmps36
      go_wp2_with (first | (go_at_call 43; refine (Wide_any _ _).mono ?_; rintro e w' ⟨rfl, rfl⟩) | (go_at_call 20; refine (rNarrow_any _ _ _ (by omega) (by omega)).mono ?_; rintro e w' ⟨rfl, n, rfl⟩) | (go_at_call 54; refine (minus_any _ _ _).mono ?_; rintro e w' ⟨rfl, rfl⟩) | (go_at_call 82; refine (size_any _ _ _ (by omega) (by omega) (by omega)).mono ?_; rintro e w' ⟨rfl, n, rfl⟩) | (go_at_call 73; refine (divide_any _ _ _ (by omega) (by omega) (by omega) (by omega)).mono ?_; rintro e w' ⟨rfl, rfl⟩))
      go_ret
      exact ⟨ret_int HR.out, (by first | exact ⟨_, rfl⟩ | (simp only [drewN_drewN]; exact ⟨_, rfl⟩) | exact ⟨0, rfl⟩)⟩
    · have HR : Hid (narW width (IntKind.u64.wrap (-(magM (hW width) (mW width) (narW width a) % magM (hW width) (mW width) (narW width b)))) = smodW width a b) := smod_ref a c s
      clear c
      go_enter Try.func36, Try.ntmps36
      go_wp2_with (first | (go_at_call 43; refine (Wide_any _ _).mono ?_; rintro e w' ⟨rfl, rfl⟩) | (go_at_call 20; refine (rNarrow_any _ _ _ (by omega) (by omega)).mono ?_; rintro e w' ⟨rfl, n, rfl⟩) | (go_at_call 54; refine (minus_any _ _ _).mono ?_; rintro e w' ⟨rfl, rfl⟩) | (go_at_call 82; refine (size_any _ _ _ (by omega) (by omega) (by omega)).mono ?_; rintro e w' ⟨rfl, n, rfl⟩) | (go_at_call 73; refine (divide_any _ _ _ (by omega) (by omega) (by omega) (by omega)).mono ?_; rintro e w' ⟨rfl, rfl⟩))
      go_ret
      exact ⟨ret_int HR.out, (by first | exact ⟨_, rfl⟩ | (simp only [drewN_drewN]; exact ⟨_, rfl⟩) | exact ⟨0, rfl⟩)⟩
set_option maxHeartbeats 1000000 in
theorem rShl_any (a k width : Int) (w : World) (h0 : 0 ≤ a) (h1 : a < 18446744073709551616) (h2 : 0 ≤ k) (h3 : k < 18446744073709551616) :
    Calls Try.prog 38 #[.int .u64 a, .int .u64 k, .int .i64 width] w fun e w' => e = .returned (.int .u64 (shlW width a k)) ∧ ∃ n, w' = w.drewN n := by
  obtain ⟨k1, k2, k3, k4⟩ := k_bd width k
  have e1 := nar_b width a
  have Z : Hid (shlx width a 0 = narW width a) := shlx_zero width a
  have E : Hid (shlx width a (k % bW width).toNat = shlW width a k) := shlx_end width a k
  obtain ⟨K, hK⟩ := Int.eq_ofNat_of_zero_le k1
  have HK : Hid (k % bW width = (K : Int)) := hK
  clear hK
  have K2 : K < 64 := by have := HK.out; omega
  go_enter Try.func38, Try.ntmps38
  go_wp2_with (first | (go_at_call 43; refine (Wide_any _ _).mono ?_; rintro e w' ⟨rfl, hw⟩; have hw := hw.symm; subst hw) | (go_at_call 20; refine (rNarrow_any _ _ _ (by omega) (by omega)).mono ?_; rintro e w' ⟨rfl, n, rfl⟩))
  go_loopw [8, 9] (fun x c wr => ∃ j : Nat, j ≤ K ∧ c = .int .u64 ((K : Int) - (j : Int)) ∧ x = .int .u64 (shlx width a j) ∧ ∃ n, wr = w.drewN n) (fun _ c _ => (intOf c).toNat)
  case atStart => exact ⟨0, by omega, congrArg (Value.int IntKind.u64) (by rw [HK.out]; omega), congrArg (Value.int IntKind.u64) Z.out.symm, (by first | exact ⟨_, rfl⟩ | (simp only [drewN_drewN]; exact ⟨_, rfl⟩) | exact ⟨0, rfl⟩)⟩
  case round =>
    obtain ⟨j, hj, rfl, rfl, n0, rfl⟩ := hrel
    by_cases hlt : j < K
    · skip
      obtain ⟨v1, v2⟩ := wrap_bd (shlx width a j + shlx width a j)
      have e5 := nar_b width (IntKind.u64.wrap (shlx width a j + shlx width a j))
      have HS : Hid (narW width (IntKind.u64.wrap (shlx width a j + shlx width a j)) = shlx width a (j + 1)) := shlx_succ width a j
      go_wp2_with (first | (go_at_call 43; refine (Wide_any _ _).mono ?_; rintro e w' ⟨rfl, hw⟩; have hw := hw.symm; subst hw) | (go_at_call 20; refine (rNarrow_any _ _ _ (by omega) (by omega)).mono ?_; rintro e w' ⟨rfl, n, rfl⟩))
      exact ⟨⟨j + 1, by omega, congrArg (Value.int IntKind.u64) (by omega), congrArg (Value.int IntKind.u64) HS.out, (by first | exact ⟨_, rfl⟩ | (simp only [drewN_drewN]; exact ⟨_, rfl⟩) | exact ⟨0, rfl⟩)⟩, by simp [intOf]; omega⟩
    · go_wp2
      go_ret
      exact ⟨ret_int (by rw [← E.out, HK.out, Int.toNat_natCast, show j = K by omega]), (by first | exact ⟨_, rfl⟩ | (simp only [drewN_drewN]; exact ⟨_, rfl⟩) | exact ⟨0, rfl⟩)⟩
set_option maxHeartbeats 1000000 in
theorem rShr_any (a k width : Int) (w : World) (h0 : 0 ≤ a) (h1 : a < 18446744073709551616) (h2 : 0 ≤ k) (h3 : k < 18446744073709551616) :
    Calls Try.prog 40 #[.int .u64 a, .int .u64 k, .int .i64 width] w fun e w' => e = .returned (.int .u64 (shrW width a k)) ∧ ∃ n, w' = w.drewN n := by
  obtain ⟨k1, k2, k3, k4⟩ := k_bd width k
  have e1 := nar_b width a
  have Z : Hid (shrx width a 0 = narW width a) := shrx_zero width a
  have E : Hid (shrx width a (k % bW width).toNat = shrW width a k) := shrx_end width a k
  obtain ⟨K, hK⟩ := Int.eq_ofNat_of_zero_le k1
  have HK : Hid (k % bW width = (K : Int)) := hK
  clear hK
  have K2 : K < 64 := by have := HK.out; omega
  go_enter Try.func40, Try.ntmps40
  go_wp2_with (first | (go_at_call 43; refine (Wide_any _ _).mono ?_; rintro e w' ⟨rfl, hw⟩; have hw := hw.symm; subst hw) | (go_at_call 20; refine (rNarrow_any _ _ _ (by omega) (by omega)).mono ?_; rintro e w' ⟨rfl, n, rfl⟩))
  go_loopw [8, 9] (fun x c wr => ∃ j : Nat, j ≤ K ∧ c = .int .u64 ((K : Int) - (j : Int)) ∧ x = .int .u64 (shrx width a j) ∧ ∃ n, wr = w.drewN n) (fun _ c _ => (intOf c).toNat)
  case atStart => exact ⟨0, by omega, congrArg (Value.int IntKind.u64) (by rw [HK.out]; omega), congrArg (Value.int IntKind.u64) Z.out.symm, (by first | exact ⟨_, rfl⟩ | (simp only [drewN_drewN]; exact ⟨_, rfl⟩) | exact ⟨0, rfl⟩)⟩
  case round =>
    obtain ⟨j, hj, rfl, rfl, n0, rfl⟩ := hrel
    by_cases hlt : j < K
    · skip
      obtain ⟨v1, v2⟩ := shrx_bd width a j
      have HS : Hid (shrx width a j / 2 = shrx width a (j + 1)) := shrx_succ width a j
      go_wp2
      exact ⟨⟨j + 1, by omega, congrArg (Value.int IntKind.u64) (by omega), congrArg (Value.int IntKind.u64) HS.out, (by first | exact ⟨_, rfl⟩ | (simp only [drewN_drewN]; exact ⟨_, rfl⟩) | exact ⟨0, rfl⟩)⟩, by simp [intOf]; omega⟩
    · go_wp2
      go_ret
      exact ⟨ret_int (by rw [← E.out, HK.out, Int.toNat_natCast, show j = K by omega]), (by first | exact ⟨_, rfl⟩ | (simp only [drewN_drewN]; exact ⟨_, rfl⟩) | exact ⟨0, rfl⟩)⟩
set_option maxHeartbeats 1000000 in
theorem rSar_any (a k width : Int) (w : World) (h0 : 0 ≤ a) (h1 : a < 18446744073709551616) (h2 : 0 ≤ k) (h3 : k < 18446744073709551616) :
    Calls Try.prog 42 #[.int .u64 a, .int .u64 k, .int .i64 width] w fun e w' => e = .returned (.int .u64 (sarW width a k)) ∧ ∃ n, w' = w.drewN n := by
  obtain ⟨k1, k2, k3, k4⟩ := k_bd width k
  have e1 := nar_b width a
  have Z : Hid (sarx width a 0 = narW width a) := sarx_zero width a
  have E : Hid (sarx width a (k % bW width).toNat = sarW width a k) := sarx_end width a k
  obtain ⟨K, hK⟩ := Int.eq_ofNat_of_zero_le k1
  have HK : Hid (k % bW width = (K : Int)) := hK
  clear hK
  have K2 : K < 64 := by have := HK.out; omega
  go_enter Try.func42, Try.ntmps42
  go_wp2_with (first | (go_at_call 43; refine (Wide_any _ _).mono ?_; rintro e w' ⟨rfl, hw⟩; have hw := hw.symm; subst hw) | (go_at_call 20; refine (rNarrow_any _ _ _ (by omega) (by omega)).mono ?_; rintro e w' ⟨rfl, n, rfl⟩))
  go_loopw [8, 9] (fun x c wr => ∃ j : Nat, j ≤ K ∧ c = .int .u64 ((K : Int) - (j : Int)) ∧ x = .int .u64 (sarx width a j) ∧ ∃ n, wr = w.drewN n) (fun _ c _ => (intOf c).toNat)
  case atStart => exact ⟨0, by omega, congrArg (Value.int IntKind.u64) (by rw [HK.out]; omega), congrArg (Value.int IntKind.u64) Z.out.symm, (by first | exact ⟨_, rfl⟩ | (simp only [drewN_drewN]; exact ⟨_, rfl⟩) | exact ⟨0, rfl⟩)⟩
  case round =>
    obtain ⟨j, hj, rfl, rfl, n0, rfl⟩ := hrel
    by_cases hlt : j < K
    · skip
      obtain ⟨v1, v2⟩ := sarx_bd width a j
      obtain ⟨v3, v4⟩ := sarx_bd width a (j + 1)
      obtain ⟨v5, v6, v7⟩ := m_bd width
      have e5 := pw_b1' width
      cases d : negM (hW width) (sarx width a j)
      · have HS : Hid (sarx width a j / 2 = sarx width a (j + 1)) := (sarx_succ width a j).2 d
        go_wp2_with (first | (go_at_call 54; refine (minus_any _ _ _).mono ?_; rintro e w' ⟨rfl, hw⟩; have hw := hw.symm; subst hw) | (go_at_call 44; refine (power_any _ _ (by omega) (by omega)).mono ?_; rintro e w' ⟨rfl, hw⟩; have hw := hw.symm; subst hw))
        exact ⟨⟨j + 1, by omega, congrArg (Value.int IntKind.u64) (by omega), congrArg (Value.int IntKind.u64) HS.out, (by first | exact ⟨_, rfl⟩ | (simp only [drewN_drewN]; exact ⟨_, rfl⟩) | exact ⟨0, rfl⟩)⟩, by simp [intOf]; omega⟩
      · have HS : Hid (sarx width a j / 2 + hW width = sarx width a (j + 1)) := (sarx_succ width a j).1 d
        have v8 : sarx width a j / 2 + hW width < 18446744073709551616 := by rw [HS.out]; omega
        go_wp2_with (first | (go_at_call 54; refine (minus_any _ _ _).mono ?_; rintro e w' ⟨rfl, hw⟩; have hw := hw.symm; subst hw) | (go_at_call 44; refine (power_any _ _ (by omega) (by omega)).mono ?_; rintro e w' ⟨rfl, hw⟩; have hw := hw.symm; subst hw))
        exact ⟨⟨j + 1, by omega, congrArg (Value.int IntKind.u64) (by omega), congrArg (Value.int IntKind.u64) HS.out, (by first | exact ⟨_, rfl⟩ | (simp only [drewN_drewN]; exact ⟨_, rfl⟩) | exact ⟨0, rfl⟩)⟩, by simp [intOf]; omega⟩
    · go_wp2
      go_ret
      exact ⟨ret_int (by rw [← E.out, HK.out, Int.toNat_natCast, show j = K by omega]), (by first | exact ⟨_, rfl⟩ | (simp only [drewN_drewN]; exact ⟨_, rfl⟩) | exact ⟨0, rfl⟩)⟩
end Go.Proofs.Ytdffhnboehjeoaa
