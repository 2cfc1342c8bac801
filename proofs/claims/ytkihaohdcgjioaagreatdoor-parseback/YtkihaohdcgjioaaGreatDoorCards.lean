/-
  DERIVED. GIVEN WITH THE SEED: THE CARDS: each row of YtkihaohdcgjioaaGreatDoorRows.lean that lists a variable, with what it lists TIED to the program's text (the seventh form; the later family's looks); each row that meets fmt, with fmt's text TOLD by the authors' own Lean function (tested against real Go, not proved from fmt's source: count such statements apart). THE CARD IS WHAT COUNTS. Prove the row's statement (the work); the ties are given (YtkihaohdcgjioaaGreatDoorTie.lean); close each card by the builder's one call (the guide's Derived/Test/ToyasCard.lean, 'card_holds'). Laid BY PROGRAM, IN A SANDBOX (cutbox-door.mjs). By AI agents, Wed Nov 11 2026. No macro, syntax, notation, axiom, sorry.
-/
import Derived.Test.YtkihaohdcgjioaaGreatDoorRows
import GoSem.ClaimSeven
namespace Go.Proofs.YtkihaohdcgjioaaGreatDoor
namespace Rows

/-- THE TIED CARD OF 'spindlelaw6.ParseStatements'. -/
def parseStatementsCard : Claim7 := { stood := { row := parseStatementsRow, standIns := [], harness := (true, "028746799ed19e63cfa1e4e39dd6205a25db3731f1c9d275d1825a06125c4c29"), looks := true }, kinds := [], alts := [], laidByText := true, laidKinds := [.data, .data, .data, .data, .sentinel, .sentinel, .data, .widerDeep, .data, .data, .data, .data, .data, .data, .pinned], laidTests := true, laidLooks := .later }
def ParseStatementsCardSaid : Prop := Claim7.holds Tryz.pinned (.plain (OpenSpec.ofChange parseStatementsSpec)) parseStatementsCard

/-- THE TIED CARD OF 'spindlelaw6.ParsePrints'. -/
def parsePrintsCard : Claim7 := { stood := { row := parsePrintsRow, standIns := [], harness := (true, "028746799ed19e63cfa1e4e39dd6205a25db3731f1c9d275d1825a06125c4c29"), looks := true }, kinds := [], alts := [], laidByText := true, laidKinds := [.data, .data, .data, .data, .sentinel, .sentinel, .data, .widerDeep, .data, .data, .data, .data, .data, .data, .pinned], laidTests := true, laidLooks := .later }
def ParsePrintsCardSaid : Prop := Claim7.holds Tryz.pinned (.plain (OpenSpec.ofChange parsePrintsSpec)) parsePrintsCard

/-- THE TIED CARD OF 'spindlelaw6.ParseBack'. -/
def parseBackCard : Claim7 := { stood := { row := parseBackRow, standIns := [], harness := (true, "028746799ed19e63cfa1e4e39dd6205a25db3731f1c9d275d1825a06125c4c29"), looks := true }, kinds := [], alts := [], laidByText := true, laidKinds := [.data, .data, .data, .data, .sentinel, .sentinel, .data, .widerDeep, .data, .data, .data, .data, .data, .data, .pinned], laidTests := true, laidLooks := .later }
def ParseBackCardSaid : Prop := Claim7.holds Tryz.pinned (.plain (OpenSpec.ofChange parseBackSpec)) parseBackCard

/-- THE TIED CARD OF 'spindlelaw6.ParseForth'. -/
def parseForthCard : Claim7 := { stood := { row := parseForthRow, standIns := [], harness := (true, "028746799ed19e63cfa1e4e39dd6205a25db3731f1c9d275d1825a06125c4c29"), looks := true }, kinds := [], alts := [], laidByText := true, laidKinds := [.data, .data, .data, .data, .sentinel, .sentinel, .data, .widerDeep, .data, .data, .data, .data, .data, .data, .pinned], laidTests := true, laidLooks := .later }
def ParseForthCardSaid : Prop := Claim7.holds Tryz.pinned (.plain (OpenSpec.ofChange parseForthSpec)) parseForthCard

/-- THE TIED CARD OF 'spindlelaw6.ParseLexes'. -/
def parseLexesCard : Claim7 := { stood := { row := parseLexesRow, standIns := [], harness := (true, "028746799ed19e63cfa1e4e39dd6205a25db3731f1c9d275d1825a06125c4c29"), looks := true }, kinds := [], alts := [], laidByText := true, laidKinds := [.data, .data, .data, .data, .sentinel, .sentinel, .data, .widerDeep, .data, .data, .data, .data, .data, .data, .pinned], laidTests := true, laidLooks := .later }
def ParseLexesCardSaid : Prop := Claim7.holds Tryz.pinned (.plain (OpenSpec.ofChange parseLexesSpec)) parseLexesCard

/-- THE TIED CARD OF 'spindlelaw6.ParseLines'. -/
def parseLinesCard : Claim7 := { stood := { row := parseLinesRow, standIns := [], harness := (true, "028746799ed19e63cfa1e4e39dd6205a25db3731f1c9d275d1825a06125c4c29"), looks := true }, kinds := [], alts := [], laidByText := true, laidKinds := [.data, .data, .data, .data, .sentinel, .sentinel, .data, .widerDeep, .data, .data, .data, .data, .data, .data, .pinned], laidTests := true, laidLooks := .later }
def ParseLinesCardSaid : Prop := Claim7.holds Tryz.pinned (.plain (OpenSpec.ofChange parseLinesSpec)) parseLinesCard

/-- THE SECOND FORM's CARD OF 'spindlelaw6.ParseStatements'. -/
def parseStatementsUptoCard : Claim7 := { stood := { row := parseStatementsUptoRow, standIns := [], harness := (true, "028746799ed19e63cfa1e4e39dd6205a25db3731f1c9d275d1825a06125c4c29"), looks := true }, kinds := [], alts := [], laidByText := true, laidKinds := [.data, .data, .data, .data, .sentinel, .sentinel, .data, .widerDeep, .data, .data, .data, .data, .data, .data, .pinned], laidTests := true, laidLooks := .later }
def ParseStatementsUptoCardSaid : Prop := Claim7.holds Tryz.pinned (.plain (OpenSpec.upto parseStatementsSpec)) parseStatementsUptoCard

/-- THE SECOND FORM's CARD OF 'spindlelaw6.ParsePrints'. -/
def parsePrintsUptoCard : Claim7 := { stood := { row := parsePrintsUptoRow, standIns := [], harness := (true, "028746799ed19e63cfa1e4e39dd6205a25db3731f1c9d275d1825a06125c4c29"), looks := true }, kinds := [], alts := [], laidByText := true, laidKinds := [.data, .data, .data, .data, .sentinel, .sentinel, .data, .widerDeep, .data, .data, .data, .data, .data, .data, .pinned], laidTests := true, laidLooks := .later }
def ParsePrintsUptoCardSaid : Prop := Claim7.holds Tryz.pinned (.plain (OpenSpec.upto parsePrintsSpec)) parsePrintsUptoCard

/-- THE SECOND FORM's CARD OF 'spindlelaw6.ParseBack'. -/
def parseBackUptoCard : Claim7 := { stood := { row := parseBackUptoRow, standIns := [], harness := (true, "028746799ed19e63cfa1e4e39dd6205a25db3731f1c9d275d1825a06125c4c29"), looks := true }, kinds := [], alts := [], laidByText := true, laidKinds := [.data, .data, .data, .data, .sentinel, .sentinel, .data, .widerDeep, .data, .data, .data, .data, .data, .data, .pinned], laidTests := true, laidLooks := .later }
def ParseBackUptoCardSaid : Prop := Claim7.holds Tryz.pinned (.plain (OpenSpec.upto parseBackSpec)) parseBackUptoCard

/-- THE SECOND FORM's CARD OF 'spindlelaw6.ParseForth'. -/
def parseForthUptoCard : Claim7 := { stood := { row := parseForthUptoRow, standIns := [], harness := (true, "028746799ed19e63cfa1e4e39dd6205a25db3731f1c9d275d1825a06125c4c29"), looks := true }, kinds := [], alts := [], laidByText := true, laidKinds := [.data, .data, .data, .data, .sentinel, .sentinel, .data, .widerDeep, .data, .data, .data, .data, .data, .data, .pinned], laidTests := true, laidLooks := .later }
def ParseForthUptoCardSaid : Prop := Claim7.holds Tryz.pinned (.plain (OpenSpec.upto parseForthSpec)) parseForthUptoCard

/-- THE SECOND FORM's CARD OF 'spindlelaw6.ParseLexes'. -/
def parseLexesUptoCard : Claim7 := { stood := { row := parseLexesUptoRow, standIns := [], harness := (true, "028746799ed19e63cfa1e4e39dd6205a25db3731f1c9d275d1825a06125c4c29"), looks := true }, kinds := [], alts := [], laidByText := true, laidKinds := [.data, .data, .data, .data, .sentinel, .sentinel, .data, .widerDeep, .data, .data, .data, .data, .data, .data, .pinned], laidTests := true, laidLooks := .later }
def ParseLexesUptoCardSaid : Prop := Claim7.holds Tryz.pinned (.plain (OpenSpec.upto parseLexesSpec)) parseLexesUptoCard

/-- THE SECOND FORM's CARD OF 'spindlelaw6.ParseLines'. -/
def parseLinesUptoCard : Claim7 := { stood := { row := parseLinesUptoRow, standIns := [], harness := (true, "028746799ed19e63cfa1e4e39dd6205a25db3731f1c9d275d1825a06125c4c29"), looks := true }, kinds := [], alts := [], laidByText := true, laidKinds := [.data, .data, .data, .data, .sentinel, .sentinel, .data, .widerDeep, .data, .data, .data, .data, .data, .data, .pinned], laidTests := true, laidLooks := .later }
def ParseLinesUptoCardSaid : Prop := Claim7.holds Tryz.pinned (.plain (OpenSpec.upto parseLinesSpec)) parseLinesUptoCard
end Rows
end Go.Proofs.YtkihaohdcgjioaaGreatDoor
