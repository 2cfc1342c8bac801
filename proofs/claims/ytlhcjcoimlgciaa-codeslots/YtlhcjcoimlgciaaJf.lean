import Derived.Test.YtlhcjcoimlgciaaJe
namespace Go.Proofs.Ytlhcjcoimlgciaa
open Go.RowKit
set_option linter.unusedVariables false
set_option linter.unusedSimpArgs false

def fitO (o d s f i : Int) : Bool := fitP o d s f i (formP o) (useD o (formP o)) (useS o (formP o)) (useO o (formP o)) (useI o (formP o))
def mayP (o d s f i : Int) : Int := if formP o == 0 then 20 else if fitO o d s f i then 0 else 21
def wholeP (o d s f i : Int) : Int := if formP o == 0 then 0 else if fitO o d s f i then formP o else 0
end Go.Proofs.Ytlhcjcoimlgciaa
