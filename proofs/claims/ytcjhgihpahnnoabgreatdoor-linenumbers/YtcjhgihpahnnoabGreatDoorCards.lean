/-
  DERIVED. GIVEN WITH THE SEED: THE CARDS: each row of YtcjhgihpahnnoabGreatDoorRows.lean that lists a variable, with what it lists TIED to the program's text (the seventh form; the later family's looks); each row that meets fmt, with fmt's text TOLD by the authors' own Lean function (tested against real Go, not proved from fmt's source: count such statements apart). THE CARD IS WHAT COUNTS. Prove the row's statement (the work); the ties are given (YtcjhgihpahnnoabGreatDoorTie.lean); close each card by the builder's one call (the guide's Derived/Test/ToyasCard.lean, 'card_holds'). Laid BY PROGRAM, IN A SANDBOX (cutbox-door.mjs). By AI agents, Wed Nov 11 2026. No macro, syntax, notation, axiom, sorry.
-/
import Derived.Test.YtcjhgihpahnnoabGreatDoorRows
import GoSem.ClaimSeven
namespace Go.Proofs.YtcjhgihpahnnoabGreatDoor
namespace Rows

/-- THE TIED CARD OF 'spindlelaw4.LineNumbers'. -/
def lineNumbersCard : Claim7 := { stood := { row := lineNumbersRow, standIns := [], harness := (true, "b874bd67d57a74a1fa76fb6dec14c109790b9e0233736bff53b1e4f0bb7a6582"), looks := true }, kinds := [], alts := [], laidByText := true, laidKinds := [.data, .data, .data, .data, .sentinel, .sentinel, .data, .widerDeep, .data, .data, .data, .data, .data, .data, .pinned], laidTests := true, laidLooks := .later }
def LineNumbersCardSaid : Prop := Claim7.holds Tryz.pinned (.plain (OpenSpec.ofChange lineNumbersSpec)) lineNumbersCard

/-- THE TIED CARD OF 'spindlelaw4.LineMeant'. -/
def lineMeantCard : Claim7 := { stood := { row := lineMeantRow, standIns := [], harness := (true, "b874bd67d57a74a1fa76fb6dec14c109790b9e0233736bff53b1e4f0bb7a6582"), looks := true }, kinds := [], alts := [], laidByText := true, laidKinds := [.data, .data, .data, .data, .sentinel, .sentinel, .data, .widerDeep, .data, .data, .data, .data, .data, .data, .pinned], laidTests := true, laidLooks := .later }
def LineMeantCardSaid : Prop := Claim7.holds Tryz.pinned (.plain (OpenSpec.ofChange lineMeantSpec)) lineMeantCard

/-- THE SECOND FORM's CARD OF 'spindlelaw4.LineNumbers'. -/
def lineNumbersUptoCard : Claim7 := { stood := { row := lineNumbersUptoRow, standIns := [], harness := (true, "b874bd67d57a74a1fa76fb6dec14c109790b9e0233736bff53b1e4f0bb7a6582"), looks := true }, kinds := [], alts := [], laidByText := true, laidKinds := [.data, .data, .data, .data, .sentinel, .sentinel, .data, .widerDeep, .data, .data, .data, .data, .data, .data, .pinned], laidTests := true, laidLooks := .later }
def LineNumbersUptoCardSaid : Prop := Claim7.holds Tryz.pinned (.plain (OpenSpec.upto lineNumbersSpec)) lineNumbersUptoCard

/-- THE SECOND FORM's CARD OF 'spindlelaw4.LineMeant'. -/
def lineMeantUptoCard : Claim7 := { stood := { row := lineMeantUptoRow, standIns := [], harness := (true, "b874bd67d57a74a1fa76fb6dec14c109790b9e0233736bff53b1e4f0bb7a6582"), looks := true }, kinds := [], alts := [], laidByText := true, laidKinds := [.data, .data, .data, .data, .sentinel, .sentinel, .data, .widerDeep, .data, .data, .data, .data, .data, .data, .pinned], laidTests := true, laidLooks := .later }
def LineMeantUptoCardSaid : Prop := Claim7.holds Tryz.pinned (.plain (OpenSpec.upto lineMeantSpec)) lineMeantUptoCard
end Rows
end Go.Proofs.YtcjhgihpahnnoabGreatDoor
