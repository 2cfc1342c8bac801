import Derived.Test.YtekjfbmebekmeaaGreatAa
namespace Go.Proofs.YtekjfbmebekmeaaGreat
open Go.RowKit
set_option linter.unusedVariables false
set_option linter.unusedSimpArgs false
/-- does a region of n bytes at f have no byte behind the last address? -/
def mayR (f n : Nat) : Bool := n == 0 || decide (n - 1 ≤ 18446744073709551615 - f)
theorem isEmptyR (w : World) (f n c : Nat) (a : Option Addr) : Calls Tryz.prog 52 #[.agg #[.int .u64 f, .slice a n c]] w fun e w' => e = .returned (.bool (n == 0)) ∧ Out w w' := by
  go_enter Tryz.func52, Tryz.ntmps52
  go_wp2
  go_ret
  refine ⟨?_, Out.alloc (Out.refl _) _⟩
  congr 2
  by_cases h : n = 0
  · subst h; rfl
  · rw [beq_eq_false_iff_ne.2 h]; simp; omega
theorem lastR (w : World) (f n c : Nat) (a : Option Addr) (hn : 0 < n) (hn2 : n ≤ 140737488355328) (hf : f + (n - 1) < 18446744073709551616) : Calls Tryz.prog 79 #[.agg #[.int .u64 f, .slice a n c]] w fun e w' => e = .returned (.int .u64 ((f + (n - 1) : Nat) : Int)) ∧ Out w w' := by
  obtain ⟨k, rfl⟩ : ∃ k, n = k + 1 := ⟨n - 1, by omega⟩
  rw [show k + 1 - 1 = k by omega] at hf ⊢
  have h1 : IntKind.u64.wrap (k : Int) = k := by rw [IntKind.wrap_u64]; omega
  have h2 : IntKind.u64.wrap ((f : Int) + k) = (f : Int) + k := by rw [IntKind.wrap_u64]; omega
  go_enter Tryz.func79, Tryz.ntmps79
  go_wp2
  go_ret
  exact ⟨by simp, Out.alloc (Out.refl _) _⟩
theorem hasR (w : World) (f n c at_ : Nat) (a : Option Addr) (hn2 : n ≤ 140737488355328) (hf : f ≤ at_) (ha : at_ < 18446744073709551616) : Calls Tryz.prog 97 #[.agg #[.int .u64 f, .slice a n c], .int .u64 at_] w fun e w' => e = .returned (.bool (decide (at_ - f < n))) ∧ Out w w' := by
  obtain ⟨k, rfl⟩ : ∃ k, at_ = f + k := ⟨at_ - f, by omega⟩
  rw [show f + k - f = k by omega]
  have h1 : IntKind.u64.wrap (n : Int) = n := by rw [IntKind.wrap_u64]; omega
  have h2 : IntKind.u64.wrap (((f + k : Nat) : Int) - f) = k := by rw [IntKind.wrap_u64]; omega
  have h3 : IntKind.u64.wrap ((f : Int) + k - f) = k := by rw [IntKind.wrap_u64]; omega
  go_enter Tryz.func97, Tryz.ntmps97
  go_wp2
  go_ret
  exact ⟨by simp, Out.alloc (Out.refl _) _⟩
end Go.Proofs.YtekjfbmebekmeaaGreat
