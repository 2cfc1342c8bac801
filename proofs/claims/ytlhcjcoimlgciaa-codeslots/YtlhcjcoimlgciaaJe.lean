import Derived.Test.YtlhcjcoimlgciaaJd
namespace Go.Proofs.Ytlhcjcoimlgciaa
open Go.RowKit
set_option linter.unusedVariables false
set_option linter.unusedSimpArgs false

def insC (o d s f i : Int) : Array Value := #[.int .i64 o, .int .i64 d, .int .i64 s, .int .i64 f, .int .i64 i]
def usC (fm g : Int) (x y z u : Bool) : Array Value := #[.int .i64 fm, .int .i64 g, .bool x, .bool y, .bool z, .bool u]
def dstP (x : Bool) (d : Int) : Bool := if x then isReg d else d == 0
def srcP (fm : Int) (y : Bool) (s : Int) : Bool := if y then isReg s else if fm == 9 then (s == 0 || s == 1) else if fm == 10 then (s == 0 || s == 1) else s == 0
def offP (o fm : Int) (z : Bool) (f : Int) : Bool := if z then (decide (-32768 ≤ f) && decide (f ≤ 32767)) else if f == 0 then true else if fm == 3 then variantP o f else false
def immP (o fm s : Int) (u : Bool) (i : Int) : Bool := if fm == 10 && s == 0 then true else if u then (decide (-2147483648 ≤ i) && decide (i ≤ 2147483647)) else if fm == 6 then atomP i else if ordersP o then ((i == 16 || i == 32) || i == 64) else i == 0
def fitP (o d s f i fm : Int) (x y z u : Bool) : Bool := dstP x d && (srcP fm y s && (offP o fm z f && immP o fm s u i))
end Go.Proofs.Ytlhcjcoimlgciaa
