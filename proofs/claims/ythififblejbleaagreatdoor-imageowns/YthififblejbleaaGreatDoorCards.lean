/-
  DERIVED. GIVEN WITH THE SEED: THE CARDS: each row of YthififblejbleaaGreatDoorRows.lean that lists a variable, with what it lists TIED to the program's text (the seventh form; the later family's looks); each row that meets fmt, with fmt's text TOLD by the authors' own Lean function (tested against real Go, not proved from fmt's source: count such statements apart). THE CARD IS WHAT COUNTS. Prove the row's statement (the work); the ties are given (YthififblejbleaaGreatDoorTie.lean); close each card by the builder's one call (the guide's Derived/Test/ToyasCard.lean, 'card_holds'). Laid BY PROGRAM, IN A SANDBOX (cutbox-door.mjs). By AI agents, Wed Nov 11 2026. No macro, syntax, notation, axiom, sorry.
-/
import Derived.Test.YthififblejbleaaGreatDoorRows
import GoSem.ClaimSeven
namespace Go.Proofs.YthififblejbleaaGreatDoor
namespace Rows

/-- THE TIED CARD OF 'spindlelaw17.ImageOwns'. -/
def imageOwnsCard : Claim7 := { stood := { row := imageOwnsRow, standIns := [], harness := (true, "9001985711f6f8761e5b71737d4830735cae753c5a28743953812f7700f8c45d"), looks := false }, kinds := [], alts := [], laidByText := true, laidKinds := [.data, .data, .data, .pinned], laidTests := true, laidLooks := .later }
def ImageOwnsCardSaid : Prop := Claim7.holds Tryz.pinned (.plain (OpenSpec.ofChange imageOwnsSpec)) imageOwnsCard

/-- THE SECOND FORM's CARD OF 'spindlelaw17.ImageOwns'. -/
def imageOwnsUptoCard : Claim7 := { stood := { row := imageOwnsUptoRow, standIns := [], harness := (true, "9001985711f6f8761e5b71737d4830735cae753c5a28743953812f7700f8c45d"), looks := false }, kinds := [], alts := [], laidByText := true, laidKinds := [.data, .data, .data, .pinned], laidTests := true, laidLooks := .later }
def ImageOwnsUptoCardSaid : Prop := Claim7.holds Tryz.pinned (.plain (OpenSpec.upto imageOwnsSpec)) imageOwnsUptoCard
end Rows
end Go.Proofs.YthififblejbleaaGreatDoor
