/-
  DERIVED. GIVEN WITH THE SEED: THE CARDS: each row of YtfhmhdhaibmcfaaDoorRows.lean that lists a variable, with what it lists TIED to the program's text (the seventh form; the later family's looks); each row that meets fmt, with fmt's text TOLD by the authors' own Lean function (tested against real Go, not proved from fmt's source: count such statements apart). THE CARD IS WHAT COUNTS. Prove the row's statement (the work); the ties are given (YtfhmhdhaibmcfaaDoorTie.lean); close each card by the builder's one call (the guide's Derived/Test/ToyasCard.lean, 'card_holds'). Laid BY PROGRAM, IN A SANDBOX (cutbox-door.mjs). By AI agents, Wed Nov 11 2026. No macro, syntax, notation, axiom, sorry.
-/
import Derived.Test.YtfhmhdhaibmcfaaDoorRows
import GoSem.ClaimSeven
namespace Go.Proofs.YtfhmhdhaibmcfaaDoor
namespace Rows

/-- THE TIED CARD OF 'spindlelaw5.LexTokens'. -/
def lexTokensCard : Claim7 := { stood := { row := lexTokensRow, standIns := [], harness := (true, "ed7f27479f62604bef1025698847e12eace2014be18ca90a097a0f4661d2760e"), looks := true }, kinds := [], alts := [], laidByText := true, laidKinds := [.data, .data, .data, .sentinel, .sentinel], laidTests := true, laidLooks := .later }
def LexTokensCardSaid : Prop := Claim7.holds Tryd.pinned (.plain (OpenSpec.ofChange lexTokensSpec)) lexTokensCard

/-- THE TIED CARD OF 'spindlelaw5.LexUntokens'. -/
def lexUntokensCard : Claim7 := { stood := { row := lexUntokensRow, standIns := [], harness := (true, "ed7f27479f62604bef1025698847e12eace2014be18ca90a097a0f4661d2760e"), looks := true }, kinds := [], alts := [], laidByText := true, laidKinds := [.data, .data, .data, .sentinel, .sentinel], laidTests := true, laidLooks := .later }
def LexUntokensCardSaid : Prop := Claim7.holds Tryd.pinned (.plain (OpenSpec.ofChange lexUntokensSpec)) lexUntokensCard

/-- THE TIED CARD OF 'spindlelaw5.LexOwns'. -/
def lexOwnsCard : Claim7 := { stood := { row := lexOwnsRow, standIns := [], harness := (true, "ed7f27479f62604bef1025698847e12eace2014be18ca90a097a0f4661d2760e"), looks := true }, kinds := [], alts := [], laidByText := true, laidKinds := [.data, .data, .data, .sentinel, .sentinel], laidTests := true, laidLooks := .later }
def LexOwnsCardSaid : Prop := Claim7.holds Tryd.pinned (.plain (OpenSpec.ofChange lexOwnsSpec)) lexOwnsCard

/-- THE TIED CARD OF 'spindlelaw5.LexBack'. -/
def lexBackCard : Claim7 := { stood := { row := lexBackRow, standIns := [], harness := (true, "ed7f27479f62604bef1025698847e12eace2014be18ca90a097a0f4661d2760e"), looks := true }, kinds := [], alts := [], laidByText := true, laidKinds := [.data, .data, .data, .sentinel, .sentinel], laidTests := true, laidLooks := .later }
def LexBackCardSaid : Prop := Claim7.holds Tryd.pinned (.plain (OpenSpec.ofChange lexBackSpec)) lexBackCard

/-- THE TIED CARD OF 'spindlelaw5.LexText'. -/
def lexTextCard : Claim7 := { stood := { row := lexTextRow, standIns := [], harness := (true, "ed7f27479f62604bef1025698847e12eace2014be18ca90a097a0f4661d2760e"), looks := true }, kinds := [], alts := [], laidByText := true, laidKinds := [.data, .data, .data, .sentinel, .sentinel], laidTests := true, laidLooks := .later }
def LexTextCardSaid : Prop := Claim7.holds Tryd.pinned (.plain (OpenSpec.ofChange lexTextSpec)) lexTextCard

/-- THE TIED CARD OF 'spindlelaw5.LexLines'. -/
def lexLinesCard : Claim7 := { stood := { row := lexLinesRow, standIns := [], harness := (true, "ed7f27479f62604bef1025698847e12eace2014be18ca90a097a0f4661d2760e"), looks := true }, kinds := [], alts := [], laidByText := true, laidKinds := [.data, .data, .data, .sentinel, .sentinel], laidTests := true, laidLooks := .later }
def LexLinesCardSaid : Prop := Claim7.holds Tryd.pinned (.plain (OpenSpec.ofChange lexLinesSpec)) lexLinesCard

/-- THE SECOND FORM's CARD OF 'spindlelaw5.LexTokens'. -/
def lexTokensUptoCard : Claim7 := { stood := { row := lexTokensUptoRow, standIns := [], harness := (true, "ed7f27479f62604bef1025698847e12eace2014be18ca90a097a0f4661d2760e"), looks := true }, kinds := [], alts := [], laidByText := true, laidKinds := [.data, .data, .data, .sentinel, .sentinel], laidTests := true, laidLooks := .later }
def LexTokensUptoCardSaid : Prop := Claim7.holds Tryd.pinned (.plain (OpenSpec.upto lexTokensSpec)) lexTokensUptoCard

/-- THE SECOND FORM's CARD OF 'spindlelaw5.LexUntokens'. -/
def lexUntokensUptoCard : Claim7 := { stood := { row := lexUntokensUptoRow, standIns := [], harness := (true, "ed7f27479f62604bef1025698847e12eace2014be18ca90a097a0f4661d2760e"), looks := true }, kinds := [], alts := [], laidByText := true, laidKinds := [.data, .data, .data, .sentinel, .sentinel], laidTests := true, laidLooks := .later }
def LexUntokensUptoCardSaid : Prop := Claim7.holds Tryd.pinned (.plain (OpenSpec.upto lexUntokensSpec)) lexUntokensUptoCard

/-- THE SECOND FORM's CARD OF 'spindlelaw5.LexOwns'. -/
def lexOwnsUptoCard : Claim7 := { stood := { row := lexOwnsUptoRow, standIns := [], harness := (true, "ed7f27479f62604bef1025698847e12eace2014be18ca90a097a0f4661d2760e"), looks := true }, kinds := [], alts := [], laidByText := true, laidKinds := [.data, .data, .data, .sentinel, .sentinel], laidTests := true, laidLooks := .later }
def LexOwnsUptoCardSaid : Prop := Claim7.holds Tryd.pinned (.plain (OpenSpec.upto lexOwnsSpec)) lexOwnsUptoCard

/-- THE SECOND FORM's CARD OF 'spindlelaw5.LexBack'. -/
def lexBackUptoCard : Claim7 := { stood := { row := lexBackUptoRow, standIns := [], harness := (true, "ed7f27479f62604bef1025698847e12eace2014be18ca90a097a0f4661d2760e"), looks := true }, kinds := [], alts := [], laidByText := true, laidKinds := [.data, .data, .data, .sentinel, .sentinel], laidTests := true, laidLooks := .later }
def LexBackUptoCardSaid : Prop := Claim7.holds Tryd.pinned (.plain (OpenSpec.upto lexBackSpec)) lexBackUptoCard

/-- THE SECOND FORM's CARD OF 'spindlelaw5.LexText'. -/
def lexTextUptoCard : Claim7 := { stood := { row := lexTextUptoRow, standIns := [], harness := (true, "ed7f27479f62604bef1025698847e12eace2014be18ca90a097a0f4661d2760e"), looks := true }, kinds := [], alts := [], laidByText := true, laidKinds := [.data, .data, .data, .sentinel, .sentinel], laidTests := true, laidLooks := .later }
def LexTextUptoCardSaid : Prop := Claim7.holds Tryd.pinned (.plain (OpenSpec.upto lexTextSpec)) lexTextUptoCard

/-- THE SECOND FORM's CARD OF 'spindlelaw5.LexLines'. -/
def lexLinesUptoCard : Claim7 := { stood := { row := lexLinesUptoRow, standIns := [], harness := (true, "ed7f27479f62604bef1025698847e12eace2014be18ca90a097a0f4661d2760e"), looks := true }, kinds := [], alts := [], laidByText := true, laidKinds := [.data, .data, .data, .sentinel, .sentinel], laidTests := true, laidLooks := .later }
def LexLinesUptoCardSaid : Prop := Claim7.holds Tryd.pinned (.plain (OpenSpec.upto lexLinesSpec)) lexLinesUptoCard
end Rows
end Go.Proofs.YtfhmhdhaibmcfaaDoor
