/-
  No cell of these rows narrows 'for every input' (looked for: loops, veiled, ifaces, maps, wideKeys, modest, calm, conditions, laid).
  DERIVED. THE GIVEN ROWS OF THIS SEAT. 5 by the template 'for every input the law returns true; each argument reads behind the call as it read before'; 0 by the template 'total and deterministic' (their statements: YtbdmbicnlfcclaaTotals.lean).
  GIVEN WITH THE SEED: the statements are not yours to turn. If you find one false, say at which input.
  Laid BY PROGRAM, IN A SANDBOX (cutbox-rows.mjs): the forced cells as the released guide's own fill.sh prints them over the translation bcce7bac09d064af… (all of the seat's roots in one cut). By AI agents, Wed Nov 11 2026. No macro, syntax, notation, axiom, sorry.
-/
import Derived.Test.YtbdmbicnlfcclaaChecked
import GoSem.Claim
import GoSem.ClaimJoined
import GoSem.ClaimMapViews
import Derived.JoinedTies
import Derived.KernelRfl
namespace Go.Proofs.Ytbdmbicnlfcclaa
/- THE CELL 'sum', in the pinned program and in every row, IS THE sha256 OF THE DUMP (.gsa) THAT YtbdmbicnlfcclaaProg.lean LOADS. Nothing in Lean hashes anything: it is a label: what it is worth is what the hold of that sum in a sandbox is worth. -/
noncomputable def Try.pinned : Pinned := { name := "ytbdmbicnlfcclaa", sum := "bcce7bac09d064afa7bb4a8eb6f44d766e9af2e99d3ca310ba5603785b0c59e0", checked := Try.checked }
namespace Rows
def none {H : Type} : Left H := { results := [], args := [] }

/-- 'spindlelaw10.SymtabWrites': WHATEVER THE INPUT: true; the input reads as it did. -/
def symtabWritesSpec : ChangeSpec := { name := "symtabWrites", fn := fun _ => fun
  | [d] => { results := [.lit (.bool true)], args := [d] }
  | _ => none }
def symtabWritesRow : OpenClaim := { program := "ytbdmbicnlfcclaa", sum := "bcce7bac09d064afa7bb4a8eb6f44d766e9af2e99d3ca310ba5603785b0c59e0", func := "spindle/spindlelaw10.SymtabWrites", spec := "symtabWrites", unfollowed := true, recurses := true, apart := false }
def SymtabWritesSaid : Prop := symtabWritesRow.holds Try.pinned (OpenSpec.ofChange symtabWritesSpec)

/-- ITS FALSE NEIGHBOUR: 'it returns false'. Refute it at one input. -/
def symtabWritesWrong : ChangeSpec := { name := "symtabWrites", fn := fun _ => fun
  | [d] => { results := [.lit (.bool false)], args := [d] }
  | _ => none }
def SymtabWritesWrongFalsely : Prop := symtabWritesRow.holds Try.pinned (OpenSpec.ofChange symtabWritesWrong)

/-- 'spindlelaw10.SymtabReads': WHATEVER THE INPUT: true; the input reads as it did. -/
def symtabReadsSpec : ChangeSpec := { name := "symtabReads", fn := fun _ => fun
  | [d] => { results := [.lit (.bool true)], args := [d] }
  | _ => none }
def symtabReadsRow : OpenClaim := { program := "ytbdmbicnlfcclaa", sum := "bcce7bac09d064afa7bb4a8eb6f44d766e9af2e99d3ca310ba5603785b0c59e0", func := "spindle/spindlelaw10.SymtabReads", spec := "symtabReads", unfollowed := true, recurses := true, apart := false }
def SymtabReadsSaid : Prop := symtabReadsRow.holds Try.pinned (OpenSpec.ofChange symtabReadsSpec)

/-- ITS FALSE NEIGHBOUR: 'it returns false'. Refute it at one input. -/
def symtabReadsWrong : ChangeSpec := { name := "symtabReads", fn := fun _ => fun
  | [d] => { results := [.lit (.bool false)], args := [d] }
  | _ => none }
def SymtabReadsWrongFalsely : Prop := symtabReadsRow.holds Try.pinned (OpenSpec.ofChange symtabReadsWrong)

/-- 'spindlelaw10.SymtabBack': WHATEVER THE INPUT: true; the input reads as it did. -/
def symtabBackSpec : ChangeSpec := { name := "symtabBack", fn := fun _ => fun
  | [d] => { results := [.lit (.bool true)], args := [d] }
  | _ => none }
def symtabBackRow : OpenClaim := { program := "ytbdmbicnlfcclaa", sum := "bcce7bac09d064afa7bb4a8eb6f44d766e9af2e99d3ca310ba5603785b0c59e0", func := "spindle/spindlelaw10.SymtabBack", spec := "symtabBack", unfollowed := true, recurses := true, apart := false }
def SymtabBackSaid : Prop := symtabBackRow.holds Try.pinned (OpenSpec.ofChange symtabBackSpec)

/-- ITS FALSE NEIGHBOUR: 'it returns false'. Refute it at one input. -/
def symtabBackWrong : ChangeSpec := { name := "symtabBack", fn := fun _ => fun
  | [d] => { results := [.lit (.bool false)], args := [d] }
  | _ => none }
def SymtabBackWrongFalsely : Prop := symtabBackRow.holds Try.pinned (OpenSpec.ofChange symtabBackWrong)

/-- 'spindlelaw10.SymtabOne': WHATEVER THE INPUT: true; the input reads as it did. -/
def symtabOneSpec : ChangeSpec := { name := "symtabOne", fn := fun _ => fun
  | [d1, d2, d3] => { results := [.lit (.bool true)], args := [d1, d2, d3] }
  | _ => none }
def symtabOneRow : OpenClaim := { program := "ytbdmbicnlfcclaa", sum := "bcce7bac09d064afa7bb4a8eb6f44d766e9af2e99d3ca310ba5603785b0c59e0", func := "spindle/spindlelaw10.SymtabOne", spec := "symtabOne", unfollowed := true, recurses := true, apart := false }
def SymtabOneSaid : Prop := symtabOneRow.holds Try.pinned (OpenSpec.ofChange symtabOneSpec)

/-- ITS FALSE NEIGHBOUR: 'it returns false'. Refute it at one input. -/
def symtabOneWrong : ChangeSpec := { name := "symtabOne", fn := fun _ => fun
  | [d1, d2, d3] => { results := [.lit (.bool false)], args := [d1, d2, d3] }
  | _ => none }
def SymtabOneWrongFalsely : Prop := symtabOneRow.holds Try.pinned (OpenSpec.ofChange symtabOneWrong)

/-- 'spindlelaw10.SymtabBegins': WHATEVER THE INPUT: true; the input reads as it did. -/
def symtabBeginsSpec : ChangeSpec := { name := "symtabBegins", fn := fun _ => fun
  | [d1, d2, d3] => { results := [.lit (.bool true)], args := [d1, d2, d3] }
  | _ => none }
def symtabBeginsRow : OpenClaim := { program := "ytbdmbicnlfcclaa", sum := "bcce7bac09d064afa7bb4a8eb6f44d766e9af2e99d3ca310ba5603785b0c59e0", func := "spindle/spindlelaw10.SymtabBegins", spec := "symtabBegins", unfollowed := true, recurses := true, apart := false }
def SymtabBeginsSaid : Prop := symtabBeginsRow.holds Try.pinned (OpenSpec.ofChange symtabBeginsSpec)

/-- ITS FALSE NEIGHBOUR: 'it returns false'. Refute it at one input. -/
def symtabBeginsWrong : ChangeSpec := { name := "symtabBegins", fn := fun _ => fun
  | [d1, d2, d3] => { results := [.lit (.bool false)], args := [d1, d2, d3] }
  | _ => none }
def SymtabBeginsWrongFalsely : Prop := symtabBeginsRow.holds Try.pinned (OpenSpec.ofChange symtabBeginsWrong)

/- THE SECOND FORM. 'bulk': how many values and letters a reading holds, each counted each time it is reached (what is shared counts as often as it is met; a slice's spare places count too). A statement '..UptoSaid' is the law's where the arguments, and the package variables that the reading takes, are together of bulk at most 1048576: NARROWER than '..Said'. Prove '..Said' where nothing that the law and all that it calls make is longer than what came in: it says more and counts as full. Else prove '..UptoSaid'. A law counts once. -/
mutual
def uptoBulk {H : Type} : DataW H → Nat
  | .lit (.string bytes) => bytes.length + 1
  | .lit _ => 1
  | .nil => 1
  | .ptr d => uptoBulk d + 1
  | .slice elems spare => uptoBulkAll elems + uptoBulkAll spare + 1
  | .agg parts => uptoBulkAll parts + 1
  | .iface _ d => uptoBulk d + 1
  | .map entries => uptoBulkEntries entries + 1
  | .held _ => 1
def uptoBulkAll {H : Type} : List (DataW H) → Nat
  | [] => 0
  | d :: r => uptoBulk d + uptoBulkAll r
def uptoBulkEntries {H : Type} : List (Lit × DataW H) → Nat
  | [] => 0
  | x :: r => uptoBulkEntry x + uptoBulkEntries r
def uptoBulkEntry {H : Type} : Lit × DataW H → Nat
  | (.string bytes, d) => bytes.length + uptoBulk d + 1
  | (_, d) => uptoBulk d + 1
 end
def uptoSmall : (H : Type) → List (DataW H) → Bool := fun _ ds => decide (uptoBulkAll ds ≤ 1048576)
def OpenSpec.upto (s : _root_.Go.ChangeSpec) : _root_.Go.OpenSpec := { _root_.Go.OpenSpec.ofChange s with cond := some uptoSmall }

/-- 'spindlelaw10.SymtabWrites', WHERE WHAT IT READS IS OF BULK AT MOST 1048576: true; the input reads as it did. -/
def symtabWritesUptoRow : OpenClaim := { program := "ytbdmbicnlfcclaa", sum := "bcce7bac09d064afa7bb4a8eb6f44d766e9af2e99d3ca310ba5603785b0c59e0", func := "spindle/spindlelaw10.SymtabWrites", spec := "symtabWrites", unfollowed := true, recurses := true, apart := false, narrowed := true }
def SymtabWritesUptoSaid : Prop := symtabWritesUptoRow.holds Try.pinned (OpenSpec.upto symtabWritesSpec)

/-- 'spindlelaw10.SymtabReads', WHERE WHAT IT READS IS OF BULK AT MOST 1048576: true; the input reads as it did. -/
def symtabReadsUptoRow : OpenClaim := { program := "ytbdmbicnlfcclaa", sum := "bcce7bac09d064afa7bb4a8eb6f44d766e9af2e99d3ca310ba5603785b0c59e0", func := "spindle/spindlelaw10.SymtabReads", spec := "symtabReads", unfollowed := true, recurses := true, apart := false, narrowed := true }
def SymtabReadsUptoSaid : Prop := symtabReadsUptoRow.holds Try.pinned (OpenSpec.upto symtabReadsSpec)

/-- 'spindlelaw10.SymtabBack', WHERE WHAT IT READS IS OF BULK AT MOST 1048576: true; the input reads as it did. -/
def symtabBackUptoRow : OpenClaim := { program := "ytbdmbicnlfcclaa", sum := "bcce7bac09d064afa7bb4a8eb6f44d766e9af2e99d3ca310ba5603785b0c59e0", func := "spindle/spindlelaw10.SymtabBack", spec := "symtabBack", unfollowed := true, recurses := true, apart := false, narrowed := true }
def SymtabBackUptoSaid : Prop := symtabBackUptoRow.holds Try.pinned (OpenSpec.upto symtabBackSpec)

/-- 'spindlelaw10.SymtabOne', WHERE WHAT IT READS IS OF BULK AT MOST 1048576: true; the input reads as it did. -/
def symtabOneUptoRow : OpenClaim := { program := "ytbdmbicnlfcclaa", sum := "bcce7bac09d064afa7bb4a8eb6f44d766e9af2e99d3ca310ba5603785b0c59e0", func := "spindle/spindlelaw10.SymtabOne", spec := "symtabOne", unfollowed := true, recurses := true, apart := false, narrowed := true }
def SymtabOneUptoSaid : Prop := symtabOneUptoRow.holds Try.pinned (OpenSpec.upto symtabOneSpec)

/-- 'spindlelaw10.SymtabBegins', WHERE WHAT IT READS IS OF BULK AT MOST 1048576: true; the input reads as it did. -/
def symtabBeginsUptoRow : OpenClaim := { program := "ytbdmbicnlfcclaa", sum := "bcce7bac09d064afa7bb4a8eb6f44d766e9af2e99d3ca310ba5603785b0c59e0", func := "spindle/spindlelaw10.SymtabBegins", spec := "symtabBegins", unfollowed := true, recurses := true, apart := false, narrowed := true }
def SymtabBeginsUptoSaid : Prop := symtabBeginsUptoRow.holds Try.pinned (OpenSpec.upto symtabBeginsSpec)

end Rows
end Go.Proofs.Ytbdmbicnlfcclaa
