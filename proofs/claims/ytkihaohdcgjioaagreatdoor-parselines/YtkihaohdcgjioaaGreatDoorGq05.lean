import Derived.Test.YtkihaohdcgjioaaGreatDoorGq04
import Derived.Test.YtkihaohdcgjioaaGreatDoorGp39
namespace Go.Proofs.YtkihaohdcgjioaaGreatDoor
open Go.ChangeShapes Go.WideShapes Go.ChangeAt Go.RowKit
set_option linter.unusedVariables false
set_option linter.unusedSimpArgs false
/-- a nil list has no room -/
theorem Lx.open_nil {H : Type} {enc : TypeId × Value → H} {w : World} {base : Nat} {spare : Nat → Bool} {held : Bool} {fuel : Nat} {a : Option Addr} {len cap : Nat} {x : DataW H × List MemPlace}
    (h : DataW.trod enc Tryz.prog w base spare held fuel 24 [.slice a len cap] = some x) : a = none → cap = 0 := by
  rcases open_ints Tryz.underlying24 Tryz.underlying5 Lx.byte_cells h with ⟨hcs, rfl⟩ | ⟨ad, len', cap', zs, hcs, _, hl, hm, hz, rfl, hcell, hwz⟩
  · simp at hcs
    obtain ⟨rfl, rfl, rfl⟩ := hcs
    exact fun _ => rfl
  · simp at hcs
    obtain ⟨rfl, rfl, rfl⟩ := hcs
    exact fun e => by cases e
theorem parseLines_all (w : World) (hE : Lx.LEnv w) (hP : PEnv w) (a b : Option Addr) (cap capb : Nat) (l m : List UInt8) (hr : Lx.RestAt w.heap.size w a l) (hrb : Lx.RestAt w.heap.size w b m) (hcb : b = none → capb = 0) (hll : l.length ≤ 140737488351232) (hlm : m.length ≤ 140737488351232) :
    Calls Tryz.prog 8 #[.slice a l.length cap, .slice b m.length capb] w fun e w' => e = .returned (.bool true) ∧ Out w w' := by
  by_cases h : l.length + 1 + m.length ≤ 16777216
  · exact parseLines_walk w hE hP a b cap capb l m hr hrb hcb h
  · exact parseLines_long w hE hP a b cap capb l m hll hlm (by omega)
end Go.Proofs.YtkihaohdcgjioaaGreatDoor
