import Derived.Test.YtlhcjcoimlgciaaJc
import Derived.Deep.Light
import Derived.Laws.Rows
import Derived.Laws.ResultCell
namespace Go.Proofs.Ytlhcjcoimlgciaa
open Go.RowKit
set_option linter.unusedVariables false
set_option linter.unusedSimpArgs false

def cls (op : Int) : Int := bits .and .i64 op 7
def useD (op form : Int) : Bool := if cls op == 0 then true else if cls op == 1 || cls op == 3 then true else if cls op == 2 then true else if cls op == 5 || cls op == 6 then (if form != 8 then false else true) else if cls op == 4 || cls op == 7 then true else false
def useS (op form : Int) : Bool := if cls op == 0 then false else if cls op == 1 || cls op == 3 then true else if cls op == 2 then false else if cls op == 5 || cls op == 6 then (if form != 8 then false else hasSrc op) else if cls op == 4 || cls op == 7 then (if form != 2 then hasSrc op else false) else false
def useO (op form : Int) : Bool := if cls op == 0 then false else if cls op == 1 || cls op == 3 then true else if cls op == 2 then true else if cls op == 5 || cls op == 6 then (if form != 8 then op == 5 else true) else false
def useI (op form : Int) : Bool := if cls op == 0 then true else if cls op == 1 || cls op == 3 then false else if cls op == 2 then true else if cls op == 5 || cls op == 6 then (if form != 8 then (op == 6 || op == 133) else !hasSrc op) else if cls op == 4 || cls op == 7 then (if form != 2 then !hasSrc op else false) else false
def useC (op form : Int) : Array Value := #[.int .i64 form, .int .i64 (groupP op form), .bool (useD op form), .bool (useS op form), .bool (useO op form), .bool (useI op form)]
def use0 : Array Value := #[.int .i64 0, .int .i64 0, .bool false, .bool false, .bool false, .bool false]

theorem size_alloc (w : World) (o : Obj) : (w.alloc o).heap.size = w.heap.size + 1 := by
  show (w.heap.push o).size = _
  simp
theorem heap3_old (w : World) (A B C : Obj) : (((w.alloc A).alloc B).alloc C).heap[w.heap.size]? = some A := by
  exact (Below.heap_alloc _ C _ (by rw [size_alloc, size_alloc]; omega)).trans (heap_alloc2_old w A B)
theorem results_row_tmp {P : Program} {fn : Func} {p u : Tmp} {ty : TypeId} (h : fn.results = #[.cell p ty, .tmp u]) (tmps : Array Value) (w : World) (g : Nat) (t : TypeId) (cs : Array Value) (fr : Nat × Nat) (d : TypeDesc)
    (hp : tmps.getD p undef = .pointer (some ⟨g, 0, none⟩)) (hg : w.heap[g]? = some (.cells cs t fr))
    (hu : P.underlying ty = some d) (hd : (match d with | .struct _ | .array _ _ => true | _ => false) = true) (hi : (P.info? ty).map (·.size) = some cs.size) :
    (results fn tmps).run P w = .ok (.tuple #[.agg cs, tmps.getD u undef]) w := by
  rw [results_cell_tmp h, hp]
  simp [asAddr, run_loadVar_row w g t ty cs fr d hg hu hd hi, Result.andThen]
end Go.Proofs.Ytlhcjcoimlgciaa
