import Derived.Test.YtekjfbmebekmeaaGreatMbl
namespace Go.Proofs.YtekjfbmebekmeaaGreat
open Go.RowKit
set_option linter.unusedVariables false
set_option linter.unusedSimpArgs false
/-- do two regions clash, as the document's own space asks it? -/
def cl1 (f1 n1 f2 n2 : Nat) : Bool := f1 == f2 || (decide (0 < n1) && decide (0 < n2) && (if f2 < f1 then decide (f1 - f2 < n2) else decide (f2 - f1 < n1)))
theorem cl1_iff (f1 n1 f2 n2 : Nat) : cl1 f1 n1 f2 n2 = true ↔ f1 = f2 ∨ (0 < n1 ∧ 0 < n2 ∧ (f2 < f1 ∧ f1 - f2 < n2 ∨ ¬ f2 < f1 ∧ f2 - f1 < n1)) := by
  unfold cl1
  simp only [Bool.or_eq_true, beq_iff_eq, Bool.and_eq_true, decide_eq_true_eq]
  by_cases h : f2 < f1 <;> simp [h, and_assoc]
end Go.Proofs.YtekjfbmebekmeaaGreat
