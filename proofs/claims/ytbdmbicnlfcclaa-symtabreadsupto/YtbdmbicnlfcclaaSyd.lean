import Derived.Test.YtbdmbicnlfcclaaSyb
import Derived.Deep.RegionHeld3
namespace Go.Proofs.Ytbdmbicnlfcclaa
open Go.RowKit
set_option linter.unusedVariables false
set_option linter.unusedSimpArgs false
theorem follows_function (r c v n : Int) (w : World) (hc : 0 ≤ c ∧ c ≤ 100000000000000) : Calls Try.prog 71 #[.agg #[], .agg #[.int .i64 r, .int .i64 c, .int .i64 v], .int .i64 n] w fun e w' => e = .returned (.bool (foP 1 ⟨r, c, v⟩ n)) ∧ Out w w' := by
  obtain ⟨hc0, hc1⟩ := hc
  by_cases h0 : c = 0
  · subst h0
    go_enter Try.func71, Try.ntmps71
    go_wp2
    all_goals
      go_ret
      exact ⟨rfl, by first | exact ((Out.refl _).alloc _).alloc _ | exact (((Out.refl _).alloc _).alloc _).drew | exact (Out.refl _).alloc _ | exact ((Out.refl _).alloc _).drew⟩
  · have h1 : (c == 0) = false := by simp [h0]
    by_cases h2 : v < n
    · have h3 : n > v := h2
      go_enter Try.func71, Try.ntmps71
      go_wp2
      all_goals
        go_ret
        refine ⟨?_, by first | exact ((Out.refl _).alloc _).alloc _ | exact (((Out.refl _).alloc _).alloc _).drew | exact (Out.refl _).alloc _ | exact ((Out.refl _).alloc _).drew⟩
        first | rfl | (show Ending.returned (Value.bool _) = _; simp [foP, h0, h2]; done)
    · go_enter Try.func71, Try.ntmps71
      go_wp2
      all_goals
        go_ret
        refine ⟨?_, by first | exact ((Out.refl _).alloc _).alloc _ | exact (((Out.refl _).alloc _).alloc _).drew | exact (Out.refl _).alloc _ | exact ((Out.refl _).alloc _).drew⟩
        first | rfl | (show Ending.returned (Value.bool _) = _; simp [foP, h0, h2]; done)
theorem follows_table (r c v n : Int) (w : World) (hc : 0 ≤ c ∧ c ≤ 100000000000000) : Calls Try.prog 76 #[.agg #[], .agg #[.int .i64 r, .int .i64 c, .int .i64 v], .int .i64 n] w fun e w' => e = .returned (.bool (foP 2 ⟨r, c, v⟩ n)) ∧ Out w w' := by
  obtain ⟨hc0, hc1⟩ := hc
  go_enter Try.func76, Try.ntmps76
  go_wp2
  all_goals
    go_ret
    refine ⟨?_, by first | exact ((Out.refl _).alloc _).alloc _ | exact (((Out.refl _).alloc _).alloc _).drew | exact (Out.refl _).alloc _ | exact ((Out.refl _).alloc _).drew⟩
    first | rfl | (show Ending.returned (Value.bool _) = _; simp [foP]; done)
theorem follows_extern (r c v n : Int) (w : World) (hc : 0 ≤ c ∧ c ≤ 100000000000000) : Calls Try.prog 82 #[.agg #[], .agg #[.int .i64 r, .int .i64 c, .int .i64 v], .int .i64 n] w fun e w' => e = .returned (.bool (foP 4 ⟨r, c, v⟩ n)) ∧ Out w w' := by
  obtain ⟨hc0, hc1⟩ := hc
  go_enter Try.func82, Try.ntmps82
  go_wp2
  all_goals
    go_ret
    refine ⟨?_, by first | exact ((Out.refl _).alloc _).alloc _ | exact (((Out.refl _).alloc _).alloc _).drew | exact (Out.refl _).alloc _ | exact ((Out.refl _).alloc _).drew⟩
    first | rfl | (show Ending.returned (Value.bool _) = _; simp [foP]; done)
end Go.Proofs.Ytbdmbicnlfcclaa
