import Derived.Test.YteelicelpkjmhaaGreatDoorRows
import Derived.Test.YteelicelpkjmhaaGreatDoorYb
import Derived.WalkKit
import Derived.WalkLawsBesides
import Derived.Outline
import Derived.Deep.QuietTactic
import Derived.BigQuiet
namespace Go.Proofs.YteelicelpkjmhaaGreatDoor.Wo
open Go.RowKit
set_option linter.unusedVariables false
set_option linter.unusedSimpArgs false
attribute [local go_sem] IntKind.wrap_u16 IntKind.wrap_u32' IntKind.wrap_u64 IntKind.wrap_u8'

end Go.Proofs.YteelicelpkjmhaaGreatDoor.Wo
