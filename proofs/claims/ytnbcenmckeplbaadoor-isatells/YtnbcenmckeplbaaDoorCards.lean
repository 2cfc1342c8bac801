/-
  DERIVED. GIVEN WITH THE SEED: THE CARDS: each row of YtnbcenmckeplbaaDoorRows.lean that lists a variable, with what it lists TIED to the program's text (the seventh form; the later family's looks); each row that meets fmt, with fmt's text TOLD by the authors' own Lean function (tested against real Go, not proved from fmt's source: count such statements apart). THE CARD IS WHAT COUNTS. Prove the row's statement (the work); the ties are given (YtnbcenmckeplbaaDoorTie.lean); close each card by the builder's one call (the guide's Derived/Test/ToyasCard.lean, 'card_holds'). Laid BY PROGRAM, IN A SANDBOX (cutbox-door.mjs). By AI agents, Wed Nov 11 2026. No macro, syntax, notation, axiom, sorry.
-/
import Derived.Test.YtnbcenmckeplbaaDoorRows
import GoSem.ClaimSeven
namespace Go.Proofs.YtnbcenmckeplbaaDoor
namespace Rows

/-- THE TIED CARD OF 'spindlelaw2.IsaMay'. -/
def isaMayCard : Claim7 := { stood := { row := isaMayRow, standIns := [], harness := (true, "08aeb84c16ee8d85ff7a9e499c71cecf7a8b5d0f2fad9ec6a379c30e7b30d0d5"), looks := false }, kinds := [], alts := [], laidByText := true, laidKinds := [.data, .widerDeep], laidTests := true, laidLooks := .later }
def IsaMayCardSaid : Prop := Claim7.holds Tryd.pinned (.plain (OpenSpec.ofChange isaMaySpec)) isaMayCard

/-- THE TIED CARD OF 'spindlelaw2.IsaInfo'. -/
def isaInfoCard : Claim7 := { stood := { row := isaInfoRow, standIns := [], harness := (true, "08aeb84c16ee8d85ff7a9e499c71cecf7a8b5d0f2fad9ec6a379c30e7b30d0d5"), looks := false }, kinds := [], alts := [], laidByText := true, laidKinds := [.widerDeep], laidTests := true, laidLooks := .later }
def IsaInfoCardSaid : Prop := Claim7.holds Tryd.pinned (.plain (OpenSpec.ofChange isaInfoSpec)) isaInfoCard

/-- THE TIED CARD OF 'spindlelaw2.IsaTells'. -/
def isaTellsCard : Claim7 := { stood := { row := isaTellsRow, standIns := [], harness := (true, "08aeb84c16ee8d85ff7a9e499c71cecf7a8b5d0f2fad9ec6a379c30e7b30d0d5"), looks := false }, kinds := [], alts := [], laidByText := true, laidKinds := [.data, .widerDeep], laidTests := true, laidLooks := .later }
def IsaTellsCardSaid : Prop := Claim7.holds Tryd.pinned (.plain (OpenSpec.ofChange isaTellsSpec)) isaTellsCard

/-- THE TIED CARD OF 'spindlelaw2.IsaOwns'. -/
def isaOwnsCard : Claim7 := { stood := { row := isaOwnsRow, standIns := [], harness := (true, "08aeb84c16ee8d85ff7a9e499c71cecf7a8b5d0f2fad9ec6a379c30e7b30d0d5"), looks := false }, kinds := [], alts := [], laidByText := true, laidKinds := [.data, .widerDeep], laidTests := true, laidLooks := .later }
def IsaOwnsCardSaid : Prop := Claim7.holds Tryd.pinned (.plain (OpenSpec.ofChange isaOwnsSpec)) isaOwnsCard

/-- THE TIED CARD OF 'spindlelaw2.IsaRow'. -/
def isaRowCard : Claim7 := { stood := { row := isaRowRow, standIns := [], harness := (true, "08aeb84c16ee8d85ff7a9e499c71cecf7a8b5d0f2fad9ec6a379c30e7b30d0d5"), looks := false }, kinds := [], alts := [], laidByText := true, laidKinds := [.data, .widerDeep], laidTests := true, laidLooks := .later }
def IsaRowCardSaid : Prop := Claim7.holds Tryd.pinned (.plain (OpenSpec.ofChange isaRowSpec)) isaRowCard

/-- THE TIED CARD OF 'spindlelaw2.IsaClass'. -/
def isaClassCard : Claim7 := { stood := { row := isaClassRow, standIns := [], harness := (true, "08aeb84c16ee8d85ff7a9e499c71cecf7a8b5d0f2fad9ec6a379c30e7b30d0d5"), looks := false }, kinds := [], alts := [], laidByText := true, laidKinds := [.data, .widerDeep], laidTests := true, laidLooks := .later }
def IsaClassCardSaid : Prop := Claim7.holds Tryd.pinned (.plain (OpenSpec.ofChange isaClassSpec)) isaClassCard

/-- THE SECOND FORM's CARD OF 'spindlelaw2.IsaMay'. -/
def isaMayUptoCard : Claim7 := { stood := { row := isaMayUptoRow, standIns := [], harness := (true, "08aeb84c16ee8d85ff7a9e499c71cecf7a8b5d0f2fad9ec6a379c30e7b30d0d5"), looks := false }, kinds := [], alts := [], laidByText := true, laidKinds := [.data, .widerDeep], laidTests := true, laidLooks := .later }
def IsaMayUptoCardSaid : Prop := Claim7.holds Tryd.pinned (.plain (OpenSpec.upto isaMaySpec)) isaMayUptoCard

/-- THE SECOND FORM's CARD OF 'spindlelaw2.IsaInfo'. -/
def isaInfoUptoCard : Claim7 := { stood := { row := isaInfoUptoRow, standIns := [], harness := (true, "08aeb84c16ee8d85ff7a9e499c71cecf7a8b5d0f2fad9ec6a379c30e7b30d0d5"), looks := false }, kinds := [], alts := [], laidByText := true, laidKinds := [.widerDeep], laidTests := true, laidLooks := .later }
def IsaInfoUptoCardSaid : Prop := Claim7.holds Tryd.pinned (.plain (OpenSpec.upto isaInfoSpec)) isaInfoUptoCard

/-- THE SECOND FORM's CARD OF 'spindlelaw2.IsaTells'. -/
def isaTellsUptoCard : Claim7 := { stood := { row := isaTellsUptoRow, standIns := [], harness := (true, "08aeb84c16ee8d85ff7a9e499c71cecf7a8b5d0f2fad9ec6a379c30e7b30d0d5"), looks := false }, kinds := [], alts := [], laidByText := true, laidKinds := [.data, .widerDeep], laidTests := true, laidLooks := .later }
def IsaTellsUptoCardSaid : Prop := Claim7.holds Tryd.pinned (.plain (OpenSpec.upto isaTellsSpec)) isaTellsUptoCard

/-- THE SECOND FORM's CARD OF 'spindlelaw2.IsaOwns'. -/
def isaOwnsUptoCard : Claim7 := { stood := { row := isaOwnsUptoRow, standIns := [], harness := (true, "08aeb84c16ee8d85ff7a9e499c71cecf7a8b5d0f2fad9ec6a379c30e7b30d0d5"), looks := false }, kinds := [], alts := [], laidByText := true, laidKinds := [.data, .widerDeep], laidTests := true, laidLooks := .later }
def IsaOwnsUptoCardSaid : Prop := Claim7.holds Tryd.pinned (.plain (OpenSpec.upto isaOwnsSpec)) isaOwnsUptoCard

/-- THE SECOND FORM's CARD OF 'spindlelaw2.IsaRow'. -/
def isaRowUptoCard : Claim7 := { stood := { row := isaRowUptoRow, standIns := [], harness := (true, "08aeb84c16ee8d85ff7a9e499c71cecf7a8b5d0f2fad9ec6a379c30e7b30d0d5"), looks := false }, kinds := [], alts := [], laidByText := true, laidKinds := [.data, .widerDeep], laidTests := true, laidLooks := .later }
def IsaRowUptoCardSaid : Prop := Claim7.holds Tryd.pinned (.plain (OpenSpec.upto isaRowSpec)) isaRowUptoCard

/-- THE SECOND FORM's CARD OF 'spindlelaw2.IsaClass'. -/
def isaClassUptoCard : Claim7 := { stood := { row := isaClassUptoRow, standIns := [], harness := (true, "08aeb84c16ee8d85ff7a9e499c71cecf7a8b5d0f2fad9ec6a379c30e7b30d0d5"), looks := false }, kinds := [], alts := [], laidByText := true, laidKinds := [.data, .widerDeep], laidTests := true, laidLooks := .later }
def IsaClassUptoCardSaid : Prop := Claim7.holds Tryd.pinned (.plain (OpenSpec.upto isaClassSpec)) isaClassUptoCard
end Rows
end Go.Proofs.YtnbcenmckeplbaaDoor
