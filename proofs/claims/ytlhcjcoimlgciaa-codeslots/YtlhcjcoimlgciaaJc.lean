import Derived.Test.YtlhcjcoimlgciaaJb
namespace Go.Proofs.Ytlhcjcoimlgciaa
open Go.RowKit
set_option linter.unusedVariables false
set_option linter.unusedSimpArgs false

def hasSrc (op : Int) : Bool := bits .and .i64 op 8 != 0
def movesP (op : Int) : Bool := bits .and .i64 op 240 == 176
def groupP (op form : Int) : Int := if form == 6 then 3 else if form == 3 then (if bits .and .i64 op 240 == 32 then 2 else if bits .and .i64 op 240 == 48 then 2 else if bits .and .i64 op 240 == 144 then 2 else 1) else 1
def isReg (n : Int) : Bool := decide (0 ≤ n) && decide (n ≤ 10)
def ordersP (op : Int) : Bool := (op == 212 || op == 220) || op == 215
def variantP (op off : Int) : Bool :=
  if bits .and .i64 op 240 == 48 then off == 1 else if bits .and .i64 op 240 == 144 then off == 1 else
  if bits .and .i64 op 240 == 176 then hasSrc op && ((off == 8 || off == 16) || (off == 32 && op == 191)) else false

end Go.Proofs.Ytlhcjcoimlgciaa
