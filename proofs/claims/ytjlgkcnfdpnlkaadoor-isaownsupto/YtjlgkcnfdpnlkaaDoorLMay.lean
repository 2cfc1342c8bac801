import Derived.Test.YtjlgkcnfdpnlkaaDoorLg
import Derived.Test.YtjlgkcnfdpnlkaaDoorLh
import Derived.Test.YtjlgkcnfdpnlkaaDoorCm
namespace Go.Proofs.YtjlgkcnfdpnlkaaDoor
open Go.RowKit
set_option linter.unusedVariables false
set_option linter.unusedSimpArgs false
theorem refMay_same (o d s f i : Int) (w : World) : Calls Tryd.prog 22 #[.agg #[.int .i64 o, .int .i64 d, .int .i64 s, .int .i64 f, .int .i64 i]] w fun e w' => e = .returned (.int .i64 (mayP o d s f i)) ∧ Out w w' := by
  rw [may_same]; exact refMay_any o d s f i w
end Go.Proofs.YtjlgkcnfdpnlkaaDoor
