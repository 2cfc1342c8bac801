import Derived.Test.YtgephenkbbelcaaDoorJc
import Derived.Deep.Light
import Derived.Laws.Rows
import Derived.Laws.ResultCell
namespace Go.Proofs.YtgephenkbbelcaaDoor
open Go.RowKit
set_option linter.unusedVariables false
set_option linter.unusedSimpArgs false

def cls (op : Int) : Int := bits .and .i64 op 7
def useD (op form : Int) : Bool := if cls op == 0 then true else if cls op == 1 || cls op == 3 then true else if cls op == 2 then true else if cls op == 5 || cls op == 6 then (if form != 8 then false else true) else if cls op == 4 || cls op == 7 then true else false
def useS (op form : Int) : Bool := if cls op == 0 then false else if cls op == 1 || cls op == 3 then true else if cls op == 2 then false else if cls op == 5 || cls op == 6 then (if form != 8 then false else hasSrc op) else if cls op == 4 || cls op == 7 then (if form != 2 then hasSrc op else false) else false
def useO (op form : Int) : Bool := if cls op == 0 then false else if cls op == 1 || cls op == 3 then true else if cls op == 2 then true else if cls op == 5 || cls op == 6 then (if form != 8 then op == 5 else true) else false
def useI (op form : Int) : Bool := if cls op == 0 then true else if cls op == 1 || cls op == 3 then false else if cls op == 2 then true else if cls op == 5 || cls op == 6 then (if form != 8 then (op == 6 || op == 133) else !hasSrc op) else if cls op == 4 || cls op == 7 then (if form != 2 then !hasSrc op else false) else false
def useC (op form : Int) : Array Value := #[.int .i64 form, .int .i64 (groupP op form), .bool (useD op form), .bool (useS op form), .bool (useO op form), .bool (useI op form)]
def use0 : Array Value := #[.int .i64 0, .int .i64 0, .bool false, .bool false, .bool false, .bool false]

theorem size_alloc (w : World) (o : Obj) : (w.alloc o).heap.size = w.heap.size + 1 := by
  show (w.heap.push o).size = _
  simp
theorem size33 : (Tryd.prog.info? 77).map (·.size) = some 6 := by kernel_rfl
theorem heap3_old (w : World) (A B C : Obj) : (((w.alloc A).alloc B).alloc C).heap[w.heap.size]? = some A := by
  exact (Below.heap_alloc _ C _ (by rw [size_alloc, size_alloc]; omega)).trans (heap_alloc2_old w A B)
theorem results_row_tmp {P : Program} {fn : Func} {p u : Tmp} {ty : TypeId} (h : fn.results = #[.cell p ty, .tmp u]) (tmps : Array Value) (w : World) (g : Nat) (t : TypeId) (cs : Array Value) (fr : Nat × Nat) (d : TypeDesc)
    (hp : tmps.getD p undef = .pointer (some ⟨g, 0, none⟩)) (hg : w.heap[g]? = some (.cells cs t fr))
    (hu : P.underlying ty = some d) (hd : (match d with | .struct _ | .array _ _ => true | _ => false) = true) (hi : (P.info? ty).map (·.size) = some cs.size) :
    (results fn tmps).run P w = .ok (.tuple #[.agg cs, tmps.getD u undef]) w := by
  rw [results_cell_tmp h, hp]
  simp [asAddr, run_loadVar_row w g t ty cs fr d hg hu hd hi, Result.andThen]
theorem useOf_any (op form : Int) (w : World) : Calls Tryd.prog 46 #[.int .i64 op, .int .i64 form] w fun e w' => e = .returned (.agg (useC op form)) ∧ (w.alloc (.cells (useC op form) 77)).alloc (.cells (useC op form) 77) = w' := by
  go_enter Tryd.func46, Tryd.ntmps46
  go_wp2_with (first | (go_at_call 52; refine (hasSource_any _ _).mono ?_; rintro e w' ⟨rfl, rfl⟩) | (go_at_call 51; refine (groupOf_any _ _ _).mono ?_; rintro e w' ⟨rfl, rfl⟩))
  all_goals refine bodyPost_ret (results_cell_row rfl _ _ w.heap.size 77 _ (0, 0) _ rfl (heap_alloc2_old _ _ _) Tryd.underlying77 rfl size33) rfl ?_
  all_goals go_light
  all_goals first | (simp_all [useC, useD, useS, useO, useI, cls]; done) | (simp [useC, useD, useS, useO, useI, cls, *]; done) | skip
  all_goals (obtain rfl : op = 6 := by assumption)
  all_goals (have b6 : bits BinOp.and IntKind.i64 6 7 = 6 := by decide)
  all_goals (simp_all [useC, useD, useS, useO, useI, cls])
theorem useOf_lit (op form : Int) (w : World) : Calls Tryd.prog 46 #[.int .i64 op, .int .i64 form] w fun e w' => e = .returned (.agg #[.int .i64 form, .int .i64 (groupP op form), .bool (useD op form), .bool (useS op form), .bool (useO op form), .bool (useI op form)]) ∧ (w.alloc (.cells #[.int .i64 form, .int .i64 (groupP op form), .bool (useD op form), .bool (useS op form), .bool (useO op form), .bool (useI op form)] 77)).alloc (.cells #[.int .i64 form, .int .i64 (groupP op form), .bool (useD op form), .bool (useS op form), .bool (useO op form), .bool (useI op form)] 77) = w' := useOf_any op form w
theorem info_ok (op : Int) (w : World) (h : TabO w) (hf : (formP op == 0) = false) : Calls Tryd.prog 38 #[.int .i64 op] w fun e w' => e = .returned (.tuple #[.agg (useC op (formP op)), .int .i64 0]) ∧
    ((w.alloc (.cells (useC op (formP op)) 77)).alloc (.cells (useC op (formP op)) 77)).alloc (.cells (useC op (formP op)) 77) = w' := by
  go_enter Tryd.func38, Tryd.ntmps38
  go_wp2_with (first | (go_at_call 45; refine (formOf_any _ _ (h.alloc _)).mono ?_; rintro e w' ⟨rfl, rfl⟩) | (go_at_call 46; refine (useOf_lit _ _ _).mono ?_; rintro e w' ⟨rfl, rfl⟩))
  refine bodyPost_ret (results_row_tmp rfl _ _ w.heap.size 77 (useC op (formP op)) (0, 0) _ rfl (heap3_old _ _ _ _) Tryd.underlying77 rfl size33) rfl ?_
  exact ⟨rfl, rfl⟩
theorem info_no (op : Int) (w : World) (h : TabO w) (hf : (formP op == 0) = true) : Calls Tryd.prog 38 #[.int .i64 op] w fun e w' => e = .returned (.tuple #[.agg use0, .int .i64 20]) ∧ w.alloc (.cells use0 77) = w' := by
  go_enter Tryd.func38, Tryd.ntmps38
  go_wp2_with (first | (go_at_call 45; refine (formOf_any _ _ (h.alloc _)).mono ?_; rintro e w' ⟨rfl, rfl⟩) | (go_at_call 46; refine (useOf_lit _ _ _).mono ?_; rintro e w' ⟨rfl, rfl⟩))
  refine bodyPost_ret (results_row_tmp rfl _ _ w.heap.size 77 use0 (0, 0) _ rfl (heap_alloc_new _ _) Tryd.underlying77 rfl size33) rfl ?_
  exact ⟨rfl, rfl⟩
end Go.Proofs.YtgephenkbbelcaaDoor
