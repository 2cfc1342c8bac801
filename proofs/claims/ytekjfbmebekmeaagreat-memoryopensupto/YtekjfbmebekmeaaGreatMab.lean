import Derived.Test.YtekjfbmebekmeaaGreatMaa
namespace Go.Proofs.YtekjfbmebekmeaaGreat
open Go.RowKit
set_option linter.unusedVariables false
set_option linter.unusedSimpArgs false
theorem mayBeR (w : World) (f n c : Nat) (a : Option Addr) (hn2 : n ≤ 140737488355328) (hf : f < 18446744073709551616) : Calls Tryz.prog 49 #[.agg #[.int .u64 f, .slice a n c]] w fun e w' => e = .returned (.bool (mayR f n)) ∧ Out w w' := by
  obtain ⟨q, hq⟩ : ∃ q, Hid (q = w.heap.size) := ⟨_, rfl⟩
  obtain ⟨wA, hwA⟩ : ∃ wA, Hid (wA = w.alloc (.cells #[.int .u64 f, .slice a n c] 36)) := ⟨_, rfl⟩
  have OA : Out w wA := by rw [hwA.out]; exact Out.alloc (Out.refl _) _
  have q0 : wA.cell? ⟨q, 0, none⟩ = some (.int .u64 f) := by rw [hwA.out]; exact cell_fresh w _ _ 0 q hq.out
  have q1 : wA.cell? ⟨q, 1, none⟩ = some (.slice a n c) := by rw [hwA.out]; exact cell_fresh w _ _ 1 q hq.out
  by_cases h0 : n = 0
  · subst h0
    go_enter Tryz.func49, Tryz.ntmps49
    go_upto_region 1 with fail
    rw [← hwA.out, ← hq.out]
    go_wp2_with (go_at_call 52; refine (isEmptyR _ _ _ _ _).mono ?_; rintro e w2 ⟨rfl, ho⟩; have O2 := hidOf ho; clear ho)
    go_ret
    exact ⟨rfl, Out.trans OA O2.out⟩
  · obtain ⟨k, rfl⟩ : ∃ k, n = k + 1 := ⟨n - 1, by omega⟩
    have hb : ((k + 1 : Nat) == 0) = false := rfl
    have h1 : IntKind.u64.wrap (k : Int) = k := by rw [IntKind.wrap_u64]; omega
    have h2 : IntKind.u64.wrap (18446744073709551615 - (f : Int)) = 18446744073709551615 - (f : Int) := by rw [IntKind.wrap_u64]; omega
    go_enter Tryz.func49, Tryz.ntmps49
    go_upto_region 1 with fail
    rw [← hwA.out, ← hq.out]
    go_wp2_with (go_at_call 52; refine (isEmptyR _ _ _ _ _).mono ?_; rintro e w2 ⟨rfl, ho⟩; have O2 := hidOf ho; have q0 := cell_later ho q0; have q1 := cell_later ho q1; clear ho)
    go_ret
    refine ⟨?_, Out.trans OA O2.out⟩
    unfold mayR
    rw [hb]
    congr 2
    simp
    omega
set_option maxRecDepth 20000 in
theorem len8 (w : World) : Calls Tryz.prog 109 #[.int .u64 255] w fun e w' => e = .returned (.int .i64 8) ∧ w = w' := by
  go_enter Tryz.func109, Tryz.ntmps109
  go_wp2
  go_ret
  exact ⟨by kernel_rfl, rfl⟩
theorem size8 (w : World) : Calls Tryz.prog 85 #[] w fun e w' => e = .returned (.int .i64 1) ∧ w = w' := by
  go_enter Tryz.func85, Tryz.ntmps85
  go_wp2_with (go_at_call 109; refine (len8 _).mono ?_; rintro e w2 ⟨rfl, hw⟩; subst hw)
  go_ret
  exact ⟨rfl, rfl⟩
set_option maxRecDepth 20000 in
theorem len16 (w : World) : Calls Tryz.prog 109 #[.int .u64 65535] w fun e w' => e = .returned (.int .i64 16) ∧ w = w' := by
  go_enter Tryz.func109, Tryz.ntmps109
  go_wp2
  go_ret
  exact ⟨by kernel_rfl, rfl⟩
theorem size16 (w : World) : Calls Tryz.prog 87 #[] w fun e w' => e = .returned (.int .i64 2) ∧ w = w' := by
  go_enter Tryz.func87, Tryz.ntmps87
  go_wp2_with (go_at_call 109; refine (len16 _).mono ?_; rintro e w2 ⟨rfl, hw⟩; subst hw)
  go_ret
  exact ⟨rfl, rfl⟩
set_option maxRecDepth 20000 in
theorem len32 (w : World) : Calls Tryz.prog 109 #[.int .u64 4294967295] w fun e w' => e = .returned (.int .i64 32) ∧ w = w' := by
  go_enter Tryz.func109, Tryz.ntmps109
  go_wp2
  go_ret
  exact ⟨by kernel_rfl, rfl⟩
theorem size32 (w : World) : Calls Tryz.prog 89 #[] w fun e w' => e = .returned (.int .i64 4) ∧ w = w' := by
  go_enter Tryz.func89, Tryz.ntmps89
  go_wp2_with (go_at_call 109; refine (len32 _).mono ?_; rintro e w2 ⟨rfl, hw⟩; subst hw)
  go_ret
  exact ⟨rfl, rfl⟩
set_option maxRecDepth 20000 in
theorem len64 (w : World) : Calls Tryz.prog 109 #[.int .u64 18446744073709551615] w fun e w' => e = .returned (.int .i64 64) ∧ w = w' := by
  go_enter Tryz.func109, Tryz.ntmps109
  go_wp2
  go_ret
  exact ⟨by kernel_rfl, rfl⟩
theorem size64 (w : World) : Calls Tryz.prog 91 #[] w fun e w' => e = .returned (.int .i64 8) ∧ w = w' := by
  go_enter Tryz.func91, Tryz.ntmps91
  go_wp2_with (go_at_call 109; refine (len64 _).mono ?_; rintro e w2 ⟨rfl, hw⟩; subst hw)
  go_ret
  exact ⟨rfl, rfl⟩
end Go.Proofs.YtekjfbmebekmeaaGreat
