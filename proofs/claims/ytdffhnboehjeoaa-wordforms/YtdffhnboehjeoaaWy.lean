import Derived.Test.YtdffhnboehjeoaaWq
import Derived.Test.YtdffhnboehjeoaaWx
import Derived.WalkKit
import Derived.WalkLawsBesides
import Derived.Outline
import Derived.LoopTactic
import Derived.Deep.QuietTactic
import Derived.BigQuiet
namespace Go.Proofs.Ytdffhnboehjeoaa
open Go.RowKit
set_option linter.unusedVariables false
set_option linter.unusedSimpArgs false

theorem power_any (k : Int) (w : World) (h0 : 0 ≤ k) (h1 : k ≤ 63) :
    Calls Try.prog 44 #[.int .i64 k] w fun e w' => e = .returned (.int .u64 (pw k.toNat)) ∧ w' = w := by
  obtain ⟨n, rfl⟩ := Int.eq_ofNat_of_zero_le h0
  rw [Int.toNat_natCast]
  go_enter Try.func44, Try.ntmps44
  go_wp2
  go_loop [3, 4] (fun p i => ∃ j : Nat, j ≤ n ∧ i = .int .i64 j ∧ p = .int .u64 (pw j)) (fun _ i => n - (intOf i).toNat)
  case atStart => exact ⟨0, Nat.zero_le _, rfl, rfl⟩
  case round =>
    obtain ⟨j, hj, rfl, rfl⟩ := hrel
    by_cases hlt : j < n
    · have hp := pw_bd (j := j) (by omega)
      have hq := pw_bd (j := j + 1) (by omega)
      obtain ⟨hp0, hp1⟩ := hp
      obtain ⟨hq0, hq1⟩ := hq
      have HS : Hid (pw (j + 1) = pw j + pw j) := pw_succ j
      have hr : pw j + pw j ≤ 9223372036854775808 := by rw [← pw_succ]; exact hq1
      go_wp2
      go_round
      case rel => exact ⟨j + 1, by omega, by go_num, by rw [HS.out]⟩
      case measure => simp [intOf]; omega
    · go_wp2
      go_ret
      exact ⟨ret_int (by rw [show j = n by omega]), rfl⟩
theorem minus_any (x width : Int) (w : World) :
    Calls Try.prog 54 #[.int .u64 x, .int .i64 (bW width)] w fun e w' => e = .returned (.bool (negM (hW width) x)) ∧ w' = w := by
  obtain ⟨x5, x6, x7, x8⟩ := k_bd width 0
  clear x5 x6
  have e := pw_b1' width
  go_enter Try.func54, Try.ntmps54
  go_wp2_with (go_at_call 44; refine (power_any _ _ (by omega) (by omega)).mono ?_; rintro e w' ⟨rfl, rfl⟩)
  go_ret
  exact ⟨rfl, rfl⟩
theorem rNarrow_any (a width : Int) (w : World) (h0 : 0 ≤ a) (h1 : a < 18446744073709551616) :
    Calls Try.prog 20 #[.int .u64 a, .int .i64 width] w fun e w' => e = .returned (.int .u64 (narW width a)) ∧ ∃ n, w' = w.drewN n := by
  obtain ⟨x5, x6, x7, x8⟩ := k_bd width 0
  clear x5 x6
  by_cases c : bW width < 64
  · have hb : (bW width == 64) = false := beq_eq_false_iff_ne.2 (by omega)
    have HR : Hid (IntKind.u64.wrap (a - IntKind.u64.wrap (a / pw (bW width).toNat * pw (bW width).toNat)) = narW width a) := narrow_ref h0 c
    obtain ⟨p0, p1⟩ := pw_bd (j := (bW width).toNat) (by omega)
    obtain ⟨q0, q1⟩ := div_bd (x := a) (y := pw (bW width).toNat) (B := 18446744073709551615) (by omega) (by omega) (by omega)
    go_enter Try.func20, Try.ntmps20
    go_wp2_with (go_at_call 43; refine (Wide_any _ _).mono ?_; rintro e w' ⟨rfl, rfl⟩)
    go_quiet ((go_at_call 44; exact Calls.quiet_of_same (power_any _ _ (by omega) (by omega))))
    go_wp2
    go_ret
    exact ⟨ret_int HR.out, _, rfl⟩
  · have hb : (bW width == 64) = true := beq_iff_eq.2 (by omega)
    have HR : Hid (a = narW width a) := by unfold Hid narW; rw [(bW_64 c).1]; omega
    go_enter Try.func20, Try.ntmps20
    go_wp2_with (go_at_call 43; refine (Wide_any _ _).mono ?_; rintro e w' ⟨rfl, rfl⟩)
    go_ret
    exact ⟨ret_int HR.out, 0, rfl⟩
set_option maxHeartbeats 1000000 in
theorem divide_any (a b : Int) (w : World) (h0 : 0 ≤ a) (h1 : a < 18446744073709551616) (h2 : 0 < b) (h3 : b < 18446744073709551616) :
    Calls Try.prog 73 #[.int .u64 a, .int .u64 b] w fun e w' => e = .returned (.tuple #[.int .u64 (a / b), .int .u64 (a % b)]) ∧ w' = w := by
  have z := hi_zero h0 h1
  go_enter Try.func73, Try.ntmps73
  go_wp2
  go_loop [6, 7, 8] (fun q r i => ∃ j : Nat, j ≤ 64 ∧ i = .int .i64 (63 - (j : Int)) ∧ q = .int .u64 (hi a j / b) ∧ r = .int .u64 (hi a j % b)) (fun _ _ i => (intOf i + 1).toNat)
  case atStart => exact ⟨0, by omega, rfl, by rw [z]; simp, by rw [z]; simp⟩
  case round =>
    obtain ⟨j, hj, rfl, rfl, rfl⟩ := hrel
    clear z
    by_cases hlt : j ≤ 63
    · have hp := pw_pos (63 - j)
      have hi' := hi_bd (a := a) j h0 h1
      have HH : Hid (_) := divide_high a b j h0 h1 h2 h3 hlt
      have HO : Hid (_) := divide_over a b j h0 h1 h2 h3 hlt
      have HU : Hid (_) := divide_under a b j h0 h1 h2 h3 hlt
      clear hi'
      have hq := Int.ediv_nonneg h0 (Int.le_of_lt hp)
      by_cases c1 : pw 63 ≤ hi a j % b
      · go_wp2_with (go_at_call 44; refine (power_any _ _ (by omega) (by omega)).mono ?_; rintro e w' ⟨rfl, rfl⟩)
        have E := HH.out c1
        exact ⟨⟨j + 1, by omega, congrArg (Value.int IntKind.i64) (by omega), congrArg (Value.int IntKind.u64) E.2, congrArg (Value.int IntKind.u64) E.1⟩, by simp [intOf]; omega⟩
      · have c1' : hi a j % b < pw 63 := by omega
        clear c1
        by_cases c2 : b ≤ IntKind.u64.wrap (IntKind.u64.wrap (hi a j % b + hi a j % b) + a / pw (63 - j) % 2)
        · go_wp2_with (go_at_call 44; refine (power_any _ _ (by omega) (by omega)).mono ?_; rintro e w' ⟨rfl, rfl⟩)
          have E := HO.out c1' c2
          exact ⟨⟨j + 1, by omega, congrArg (Value.int IntKind.i64) (by omega), congrArg (Value.int IntKind.u64) E.2, congrArg (Value.int IntKind.u64) E.1⟩, by simp [intOf]; omega⟩
        · have c2' : IntKind.u64.wrap (IntKind.u64.wrap (hi a j % b + hi a j % b) + a / pw (63 - j) % 2) < b := by omega
          clear c2
          go_wp2_with (go_at_call 44; refine (power_any _ _ (by omega) (by omega)).mono ?_; rintro e w' ⟨rfl, rfl⟩)
          have E := HU.out c1' c2'
          exact ⟨⟨j + 1, by omega, congrArg (Value.int IntKind.i64) (by omega), congrArg (Value.int IntKind.u64) E.2, congrArg (Value.int IntKind.u64) E.1⟩, by simp [intOf]; omega⟩
    · go_wp2
      go_ret2
      rw [show j = 64 by omega, hi_all]
      exact ⟨rfl, rfl⟩
end Go.Proofs.Ytdffhnboehjeoaa
