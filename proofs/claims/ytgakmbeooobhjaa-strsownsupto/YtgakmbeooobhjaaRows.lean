/-
  No cell of these rows narrows 'for every input' (looked for: loops, veiled, ifaces, maps, wideKeys, modest, calm, conditions, laid).
  DERIVED. THE GIVEN ROWS OF THIS SEAT. 4 by the template 'for every input the law returns true; each argument reads behind the call as it read before'; 0 by the template 'total and deterministic' (their statements: YtgakmbeooobhjaaTotals.lean).
  GIVEN WITH THE SEED: the statements are not yours to turn. If you find one false, say at which input.
  Laid BY PROGRAM, IN A SANDBOX (cutbox-rows.mjs): the forced cells as the released guide's own fill.sh prints them over the translation a3f9cc40e6dbfa4a… (all of the seat's roots in one cut). By AI agents, Wed Nov 11 2026. No macro, syntax, notation, axiom, sorry.
-/
import Derived.Test.YtgakmbeooobhjaaChecked
import GoSem.Claim
import GoSem.ClaimJoined
import GoSem.ClaimMapViews
import Derived.JoinedTies
import Derived.KernelRfl
namespace Go.Proofs.Ytgakmbeooobhjaa
/- THE CELL 'sum', in the pinned program and in every row, IS THE sha256 OF THE DUMP (.gsa) THAT YtgakmbeooobhjaaProg.lean LOADS. Nothing in Lean hashes anything: it is a label: what it is worth is what the hold of that sum in a sandbox is worth. -/
noncomputable def Try.pinned : Pinned := { name := "ytgakmbeooobhjaa", sum := "a3f9cc40e6dbfa4afa3dc1cb55c93440d43370795fe8db0e4ece29a6c7b42023", checked := Try.checked }
namespace Rows
def none {H : Type} : Left H := { results := [], args := [] }

/-- 'spindlelaw8.StrsAll': WHATEVER THE INPUT: true; the input reads as it did. -/
def strsAllSpec : ChangeSpec := { name := "strsAll", fn := fun _ => fun
  | [d1, d2, d3] => { results := [.lit (.bool true)], args := [d1, d2, d3] }
  | _ => none }
def strsAllRow : OpenClaim := { program := "ytgakmbeooobhjaa", sum := "a3f9cc40e6dbfa4afa3dc1cb55c93440d43370795fe8db0e4ece29a6c7b42023", func := "spindle/spindlelaw8.StrsAll", spec := "strsAll", inPlace := ["internal/bytealg.IndexByte", "internal/bytealg.IndexByteString"], apart := false }
def StrsAllSaid : Prop := strsAllRow.holds Try.pinned (OpenSpec.ofChange strsAllSpec)

/-- ITS FALSE NEIGHBOUR: 'it returns false'. Refute it at one input. -/
def strsAllWrong : ChangeSpec := { name := "strsAll", fn := fun _ => fun
  | [d1, d2, d3] => { results := [.lit (.bool false)], args := [d1, d2, d3] }
  | _ => none }
def StrsAllWrongFalsely : Prop := strsAllRow.holds Try.pinned (OpenSpec.ofChange strsAllWrong)

/-- 'spindlelaw8.StrsReads': WHATEVER THE INPUT: true; the input reads as it did. -/
def strsReadsSpec : ChangeSpec := { name := "strsReads", fn := fun _ => fun
  | [d] => { results := [.lit (.bool true)], args := [d] }
  | _ => none }
def strsReadsRow : OpenClaim := { program := "ytgakmbeooobhjaa", sum := "a3f9cc40e6dbfa4afa3dc1cb55c93440d43370795fe8db0e4ece29a6c7b42023", func := "spindle/spindlelaw8.StrsReads", spec := "strsReads", inPlace := ["internal/bytealg.IndexByte", "internal/bytealg.IndexByteString"], apart := false }
def StrsReadsSaid : Prop := strsReadsRow.holds Try.pinned (OpenSpec.ofChange strsReadsSpec)

/-- ITS FALSE NEIGHBOUR: 'it returns false'. Refute it at one input. -/
def strsReadsWrong : ChangeSpec := { name := "strsReads", fn := fun _ => fun
  | [d] => { results := [.lit (.bool false)], args := [d] }
  | _ => none }
def StrsReadsWrongFalsely : Prop := strsReadsRow.holds Try.pinned (OpenSpec.ofChange strsReadsWrong)

/-- 'spindlelaw8.StrsOwns': WHATEVER THE INPUT: true; the input reads as it did. -/
def strsOwnsSpec : ChangeSpec := { name := "strsOwns", fn := fun _ => fun
  | [d1, d2] => { results := [.lit (.bool true)], args := [d1, d2] }
  | _ => none }
def strsOwnsRow : OpenClaim := { program := "ytgakmbeooobhjaa", sum := "a3f9cc40e6dbfa4afa3dc1cb55c93440d43370795fe8db0e4ece29a6c7b42023", func := "spindle/spindlelaw8.StrsOwns", spec := "strsOwns", inPlace := ["internal/bytealg.IndexByte", "internal/bytealg.IndexByteString"], apart := false }
def StrsOwnsSaid : Prop := strsOwnsRow.holds Try.pinned (OpenSpec.ofChange strsOwnsSpec)

/-- ITS FALSE NEIGHBOUR: 'it returns false'. Refute it at one input. -/
def strsOwnsWrong : ChangeSpec := { name := "strsOwns", fn := fun _ => fun
  | [d1, d2] => { results := [.lit (.bool false)], args := [d1, d2] }
  | _ => none }
def StrsOwnsWrongFalsely : Prop := strsOwnsRow.holds Try.pinned (OpenSpec.ofChange strsOwnsWrong)

/-- 'spindlelaw8.StrsBack': WHATEVER THE INPUT: true; the input reads as it did. -/
def strsBackSpec : ChangeSpec := { name := "strsBack", fn := fun _ => fun
  | [d] => { results := [.lit (.bool true)], args := [d] }
  | _ => none }
def strsBackRow : OpenClaim := { program := "ytgakmbeooobhjaa", sum := "a3f9cc40e6dbfa4afa3dc1cb55c93440d43370795fe8db0e4ece29a6c7b42023", func := "spindle/spindlelaw8.StrsBack", spec := "strsBack", inPlace := ["internal/bytealg.IndexByteString", "internal/bytealg.IndexByte"], apart := false }
def StrsBackSaid : Prop := strsBackRow.holds Try.pinned (OpenSpec.ofChange strsBackSpec)

/-- ITS FALSE NEIGHBOUR: 'it returns false'. Refute it at one input. -/
def strsBackWrong : ChangeSpec := { name := "strsBack", fn := fun _ => fun
  | [d] => { results := [.lit (.bool false)], args := [d] }
  | _ => none }
def StrsBackWrongFalsely : Prop := strsBackRow.holds Try.pinned (OpenSpec.ofChange strsBackWrong)

/- THE SECOND FORM. 'bulk': how many values and letters a reading holds, each counted each time it is reached (what is shared counts as often as it is met; a slice's spare places count too). A statement '..UptoSaid' is the law's where the arguments, and the package variables that the reading takes, are together of bulk at most 1048576: NARROWER than '..Said'. Prove '..Said' where nothing that the law and all that it calls make is longer than what came in: it says more and counts as full. Else prove '..UptoSaid'. A law counts once. -/
mutual
def uptoBulk {H : Type} : DataW H → Nat
  | .lit (.string bytes) => bytes.length + 1
  | .lit _ => 1
  | .nil => 1
  | .ptr d => uptoBulk d + 1
  | .slice elems spare => uptoBulkAll elems + uptoBulkAll spare + 1
  | .agg parts => uptoBulkAll parts + 1
  | .iface _ d => uptoBulk d + 1
  | .map entries => uptoBulkEntries entries + 1
  | .held _ => 1
def uptoBulkAll {H : Type} : List (DataW H) → Nat
  | [] => 0
  | d :: r => uptoBulk d + uptoBulkAll r
def uptoBulkEntries {H : Type} : List (Lit × DataW H) → Nat
  | [] => 0
  | x :: r => uptoBulkEntry x + uptoBulkEntries r
def uptoBulkEntry {H : Type} : Lit × DataW H → Nat
  | (.string bytes, d) => bytes.length + uptoBulk d + 1
  | (_, d) => uptoBulk d + 1
 end
def uptoSmall : (H : Type) → List (DataW H) → Bool := fun _ ds => decide (uptoBulkAll ds ≤ 1048576)
def OpenSpec.upto (s : _root_.Go.ChangeSpec) : _root_.Go.OpenSpec := { _root_.Go.OpenSpec.ofChange s with cond := some uptoSmall }

/-- 'spindlelaw8.StrsAll', WHERE WHAT IT READS IS OF BULK AT MOST 1048576: true; the input reads as it did. -/
def strsAllUptoRow : OpenClaim := { program := "ytgakmbeooobhjaa", sum := "a3f9cc40e6dbfa4afa3dc1cb55c93440d43370795fe8db0e4ece29a6c7b42023", func := "spindle/spindlelaw8.StrsAll", spec := "strsAll", inPlace := ["internal/bytealg.IndexByte", "internal/bytealg.IndexByteString"], apart := false, narrowed := true }
def StrsAllUptoSaid : Prop := strsAllUptoRow.holds Try.pinned (OpenSpec.upto strsAllSpec)

/-- 'spindlelaw8.StrsReads', WHERE WHAT IT READS IS OF BULK AT MOST 1048576: true; the input reads as it did. -/
def strsReadsUptoRow : OpenClaim := { program := "ytgakmbeooobhjaa", sum := "a3f9cc40e6dbfa4afa3dc1cb55c93440d43370795fe8db0e4ece29a6c7b42023", func := "spindle/spindlelaw8.StrsReads", spec := "strsReads", inPlace := ["internal/bytealg.IndexByte", "internal/bytealg.IndexByteString"], apart := false, narrowed := true }
def StrsReadsUptoSaid : Prop := strsReadsUptoRow.holds Try.pinned (OpenSpec.upto strsReadsSpec)

/-- 'spindlelaw8.StrsOwns', WHERE WHAT IT READS IS OF BULK AT MOST 1048576: true; the input reads as it did. -/
def strsOwnsUptoRow : OpenClaim := { program := "ytgakmbeooobhjaa", sum := "a3f9cc40e6dbfa4afa3dc1cb55c93440d43370795fe8db0e4ece29a6c7b42023", func := "spindle/spindlelaw8.StrsOwns", spec := "strsOwns", inPlace := ["internal/bytealg.IndexByte", "internal/bytealg.IndexByteString"], apart := false, narrowed := true }
def StrsOwnsUptoSaid : Prop := strsOwnsUptoRow.holds Try.pinned (OpenSpec.upto strsOwnsSpec)

/-- 'spindlelaw8.StrsBack', WHERE WHAT IT READS IS OF BULK AT MOST 1048576: true; the input reads as it did. -/
def strsBackUptoRow : OpenClaim := { program := "ytgakmbeooobhjaa", sum := "a3f9cc40e6dbfa4afa3dc1cb55c93440d43370795fe8db0e4ece29a6c7b42023", func := "spindle/spindlelaw8.StrsBack", spec := "strsBack", inPlace := ["internal/bytealg.IndexByteString", "internal/bytealg.IndexByte"], apart := false, narrowed := true }
def StrsBackUptoSaid : Prop := strsBackUptoRow.holds Try.pinned (OpenSpec.upto strsBackSpec)

end Rows
end Go.Proofs.Ytgakmbeooobhjaa
