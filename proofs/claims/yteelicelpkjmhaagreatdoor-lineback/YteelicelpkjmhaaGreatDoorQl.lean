import Derived.Test.YteelicelpkjmhaaGreatDoorQk
import Derived.Test.YteelicelpkjmhaaGreatDoorQi
namespace Go.Proofs.YteelicelpkjmhaaGreatDoor
open Go.RowKit
set_option linter.unusedVariables false
set_option linter.unusedSimpArgs false
theorem pub16 (t : ByteArray) (hne : t.size ≠ 0) (h16 : t.size ≤ 16) (hall : ∀ b ∈ t.data.toList, hexP (bI b) = true) (w : World) :
    Calls Tryz.prog 189 #[.string t, .int .i64 16, .int .i64 64] w fun e w' => e = .returned (.tuple #[.int .u64 (hexV 0 t.data.toList), .nilIface]) ∧ w' = Lib.bytesWorld w 5 t := by
  have CP := hidOf (parse16 t hne h16 hall w)
  clear hall
  go_enter Tryz.func189, Tryz.ntmps189
  go_wp2_with (go_at_call 196; refine CP.out.mono ?_; rintro e w1 ⟨rfl, rfl⟩)
  go_ret2
  exact ⟨rfl, rfl⟩
end Go.Proofs.YteelicelpkjmhaaGreatDoor
