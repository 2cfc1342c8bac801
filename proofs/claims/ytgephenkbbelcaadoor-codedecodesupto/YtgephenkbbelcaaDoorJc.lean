import Derived.Test.YtgephenkbbelcaaDoorJb
namespace Go.Proofs.YtgephenkbbelcaaDoor
open Go.RowKit
set_option linter.unusedVariables false
set_option linter.unusedSimpArgs false

def hasSrc (op : Int) : Bool := bits .and .i64 op 8 != 0
def movesP (op : Int) : Bool := bits .and .i64 op 240 == 176
def groupP (op form : Int) : Int := if form == 6 then 3 else if form == 3 then (if bits .and .i64 op 240 == 32 then 2 else if bits .and .i64 op 240 == 48 then 2 else if bits .and .i64 op 240 == 144 then 2 else 1) else 1
def isReg (n : Int) : Bool := decide (0 ≤ n) && decide (n ≤ 10)
def ordersP (op : Int) : Bool := (op == 212 || op == 220) || op == 215
def variantP (op off : Int) : Bool :=
  if bits .and .i64 op 240 == 48 then off == 1 else if bits .and .i64 op 240 == 144 then off == 1 else
  if bits .and .i64 op 240 == 176 then hasSrc op && ((off == 8 || off == 16) || (off == 32 && op == 191)) else false

theorem hasSource_any (op : Int) (w : World) : Calls Tryd.prog 52 #[.int .i64 op] w fun e w' => e = .returned (.bool (hasSrc op)) ∧ w = w' := by
  go_enter Tryd.func52, Tryd.ntmps52
  go_wp2
  go_ret
  exact ⟨rfl, rfl⟩
theorem groupOf_any (op form : Int) (w : World) : Calls Tryd.prog 51 #[.int .i64 op, .int .i64 form] w fun e w' => e = .returned (.int .i64 (groupP op form)) ∧ w = w' := by
  go_enter Tryd.func51, Tryd.ntmps51
  go_wp2
  all_goals go_ret
  all_goals exact ⟨by simp_all [groupP], rfl⟩
theorem isRegister_any (n : Int) (w : World) : Calls Tryd.prog 53 #[.int .i64 n] w fun e w' => e = .returned (.bool (isReg n)) ∧ w = w' := by
  go_enter Tryd.func53, Tryd.ntmps53
  go_wp2
  all_goals go_ret
  all_goals exact ⟨by simp_all [isReg] <;> omega, rfl⟩
theorem orders_any (op : Int) (w : World) : Calls Tryd.prog 56 #[.int .i64 op] w fun e w' => e = .returned (.bool (ordersP op)) ∧ w = w' := by
  go_enter Tryd.func56, Tryd.ntmps56
  go_wp2
  all_goals go_ret
  all_goals exact ⟨by first | (simp_all [ordersP]; done) | (simp_all [ordersP]; grind), rfl⟩
theorem variant_any (op off : Int) (w : World) : Calls Tryd.prog 54 #[.int .i64 op, .int .i64 off] w fun e w' => e = .returned (.bool (variantP op off)) ∧ w = w' := by
  go_enter Tryd.func54, Tryd.ntmps54
  go_wp2_with (go_at_call 52; refine (hasSource_any _ _).mono ?_; rintro e w' ⟨rfl, rfl⟩)
  all_goals go_ret
  all_goals exact ⟨by first | (simp_all [variantP]; done) | (simp_all [variantP]; grind), rfl⟩
end Go.Proofs.YtgephenkbbelcaaDoor
