import Derived.Test.YtcomhlimgocoaaaGreatDoorGc02
import Derived.Deep.Light
import Derived.Laws.Rows
import Derived.Laws.ResultCell
namespace Go.Proofs.YtcomhlimgocoaaaGreatDoor
open Go.RowKit
set_option linter.unusedVariables false
set_option linter.unusedSimpArgs false

def hasSrc (op : Int) : Bool := bits .and .i64 op 8 != 0
def movesP (op : Int) : Bool := bits .and .i64 op 240 == 176
def groupP (op form : Int) : Int := if form == 6 then 3 else if form == 3 then (if bits .and .i64 op 240 == 32 then 2 else if bits .and .i64 op 240 == 48 then 2 else if bits .and .i64 op 240 == 144 then 2 else 1) else 1
def isReg (n : Int) : Bool := decide (0 ≤ n) && decide (n ≤ 10)
def ordersP (op : Int) : Bool := (op == 212 || op == 220) || op == 215
def variantP (op off : Int) : Bool :=
  if bits .and .i64 op 240 == 48 then off == 1 else if bits .and .i64 op 240 == 144 then off == 1 else
  if bits .and .i64 op 240 == 176 then hasSrc op && ((off == 8 || off == 16) || (off == 32 && op == 191)) else false

theorem hasSource_any (op : Int) (w : World) : Calls Tryz.prog 124 #[.int .i64 op] w fun e w' => e = .returned (.bool (hasSrc op)) ∧ w = w' := by
  go_enter Tryz.func124, Tryz.ntmps124
  go_wp2
  go_ret
  exact ⟨rfl, rfl⟩
theorem groupOf_any (op form : Int) (w : World) : Calls Tryz.prog 123 #[.int .i64 op, .int .i64 form] w fun e w' => e = .returned (.int .i64 (groupP op form)) ∧ w = w' := by
  go_enter Tryz.func123, Tryz.ntmps123
  go_wp2
  all_goals go_ret
  all_goals exact ⟨by simp_all [groupP], rfl⟩
theorem isRegister_any (n : Int) (w : World) : Calls Tryz.prog 125 #[.int .i64 n] w fun e w' => e = .returned (.bool (isReg n)) ∧ w = w' := by
  go_enter Tryz.func125, Tryz.ntmps125
  go_wp2
  all_goals go_ret
  all_goals exact ⟨by simp_all [isReg] <;> omega, rfl⟩
theorem orders_any (op : Int) (w : World) : Calls Tryz.prog 128 #[.int .i64 op] w fun e w' => e = .returned (.bool (ordersP op)) ∧ w = w' := by
  go_enter Tryz.func128, Tryz.ntmps128
  go_wp2
  all_goals go_ret
  all_goals exact ⟨by first | (simp_all [ordersP]; done) | (simp_all [ordersP]; grind), rfl⟩
theorem variant_any (op off : Int) (w : World) : Calls Tryz.prog 126 #[.int .i64 op, .int .i64 off] w fun e w' => e = .returned (.bool (variantP op off)) ∧ w = w' := by
  go_enter Tryz.func126, Tryz.ntmps126
  go_wp2_with (go_at_call 124; refine (hasSource_any _ _).mono ?_; rintro e w' ⟨rfl, rfl⟩)
  all_goals go_ret
  all_goals exact ⟨by first | (simp_all [variantP]; done) | (simp_all [variantP]; grind), rfl⟩
end Go.Proofs.YtcomhlimgocoaaaGreatDoor
namespace Go.Proofs.YtcomhlimgocoaaaGreatDoor
open Go.RowKit
set_option linter.unusedVariables false
set_option linter.unusedSimpArgs false

def cls (op : Int) : Int := bits .and .i64 op 7
def useD (op form : Int) : Bool := if cls op == 0 then true else if cls op == 1 || cls op == 3 then true else if cls op == 2 then true else if cls op == 5 || cls op == 6 then (if form != 8 then false else true) else if cls op == 4 || cls op == 7 then true else false
def useS (op form : Int) : Bool := if cls op == 0 then false else if cls op == 1 || cls op == 3 then true else if cls op == 2 then false else if cls op == 5 || cls op == 6 then (if form != 8 then false else hasSrc op) else if cls op == 4 || cls op == 7 then (if form != 2 then hasSrc op else false) else false
def useO (op form : Int) : Bool := if cls op == 0 then false else if cls op == 1 || cls op == 3 then true else if cls op == 2 then true else if cls op == 5 || cls op == 6 then (if form != 8 then op == 5 else true) else false
def useI (op form : Int) : Bool := if cls op == 0 then true else if cls op == 1 || cls op == 3 then false else if cls op == 2 then true else if cls op == 5 || cls op == 6 then (if form != 8 then (op == 6 || op == 133) else !hasSrc op) else if cls op == 4 || cls op == 7 then (if form != 2 then !hasSrc op else false) else false
def useC (op form : Int) : Array Value := #[.int .i64 form, .int .i64 (groupP op form), .bool (useD op form), .bool (useS op form), .bool (useO op form), .bool (useI op form)]
def use0 : Array Value := #[.int .i64 0, .int .i64 0, .bool false, .bool false, .bool false, .bool false]

theorem size_alloc (w : World) (o : Obj) : (w.alloc o).heap.size = w.heap.size + 1 := by
  show (w.heap.push o).size = _
  simp
theorem size33 : (Tryz.prog.info? 101).map (·.size) = some 6 := by kernel_rfl
theorem heap3_old (w : World) (A B C : Obj) : (((w.alloc A).alloc B).alloc C).heap[w.heap.size]? = some A := by
  exact (Below.heap_alloc _ C _ (by rw [size_alloc, size_alloc]; omega)).trans (heap_alloc2_old w A B)
theorem results_row_tmp {P : Program} {fn : Func} {p u : Tmp} {ty : TypeId} (h : fn.results = #[.cell p ty, .tmp u]) (tmps : Array Value) (w : World) (g : Nat) (t : TypeId) (cs : Array Value) (fr : Nat × Nat) (d : TypeDesc)
    (hp : tmps.getD p undef = .pointer (some ⟨g, 0, none⟩)) (hg : w.heap[g]? = some (.cells cs t fr))
    (hu : P.underlying ty = some d) (hd : (match d with | .struct _ | .array _ _ => true | _ => false) = true) (hi : (P.info? ty).map (·.size) = some cs.size) :
    (results fn tmps).run P w = .ok (.tuple #[.agg cs, tmps.getD u undef]) w := by
  rw [results_cell_tmp h, hp]
  simp [asAddr, run_loadVar_row w g t ty cs fr d hg hu hd hi, Result.andThen]
theorem useOf_any (op form : Int) (w : World) : Calls Tryz.prog 89 #[.int .i64 op, .int .i64 form] w fun e w' => e = .returned (.agg (useC op form)) ∧ (w.alloc (.cells (useC op form) 101)).alloc (.cells (useC op form) 101) = w' := by
  go_enter Tryz.func89, Tryz.ntmps89
  go_wp2_with (first | (go_at_call 124; refine (hasSource_any _ _).mono ?_; rintro e w' ⟨rfl, rfl⟩) | (go_at_call 123; refine (groupOf_any _ _ _).mono ?_; rintro e w' ⟨rfl, rfl⟩))
  all_goals refine bodyPost_ret (results_cell_row rfl _ _ w.heap.size 101 _ (0, 0) _ rfl (heap_alloc2_old _ _ _) Tryz.underlying101 rfl size33) rfl ?_
  all_goals go_light
  all_goals first | (simp_all [useC, useD, useS, useO, useI, cls]; done) | (simp [useC, useD, useS, useO, useI, cls, *]; done) | skip
  all_goals (obtain rfl : op = 6 := by assumption)
  all_goals (have b6 : bits BinOp.and IntKind.i64 6 7 = 6 := by decide)
  all_goals (simp_all [useC, useD, useS, useO, useI, cls])
theorem useOf_lit (op form : Int) (w : World) : Calls Tryz.prog 89 #[.int .i64 op, .int .i64 form] w fun e w' => e = .returned (.agg #[.int .i64 form, .int .i64 (groupP op form), .bool (useD op form), .bool (useS op form), .bool (useO op form), .bool (useI op form)]) ∧ (w.alloc (.cells #[.int .i64 form, .int .i64 (groupP op form), .bool (useD op form), .bool (useS op form), .bool (useO op form), .bool (useI op form)] 101)).alloc (.cells #[.int .i64 form, .int .i64 (groupP op form), .bool (useD op form), .bool (useS op form), .bool (useO op form), .bool (useI op form)] 101) = w' := useOf_any op form w
theorem info_ok (op : Int) (w : World) (h : TabO w) (hf : (formP op == 0) = false) : Calls Tryz.prog 50 #[.int .i64 op] w fun e w' => e = .returned (.tuple #[.agg (useC op (formP op)), .int .i64 0]) ∧
    ((w.alloc (.cells (useC op (formP op)) 101)).alloc (.cells (useC op (formP op)) 101)).alloc (.cells (useC op (formP op)) 101) = w' := by
  go_enter Tryz.func50, Tryz.ntmps50
  go_wp2_with (first | (go_at_call 88; refine (formOf_any _ _ (h.alloc _)).mono ?_; rintro e w' ⟨rfl, rfl⟩) | (go_at_call 89; refine (useOf_lit _ _ _).mono ?_; rintro e w' ⟨rfl, rfl⟩))
  refine bodyPost_ret (results_row_tmp rfl _ _ w.heap.size 101 (useC op (formP op)) (0, 0) _ rfl (heap3_old _ _ _ _) Tryz.underlying101 rfl size33) rfl ?_
  exact ⟨rfl, rfl⟩
theorem info_no (op : Int) (w : World) (h : TabO w) (hf : (formP op == 0) = true) : Calls Tryz.prog 50 #[.int .i64 op] w fun e w' => e = .returned (.tuple #[.agg use0, .int .i64 20]) ∧ w.alloc (.cells use0 101) = w' := by
  go_enter Tryz.func50, Tryz.ntmps50
  go_wp2_with (first | (go_at_call 88; refine (formOf_any _ _ (h.alloc _)).mono ?_; rintro e w' ⟨rfl, rfl⟩) | (go_at_call 89; refine (useOf_lit _ _ _).mono ?_; rintro e w' ⟨rfl, rfl⟩))
  refine bodyPost_ret (results_row_tmp rfl _ _ w.heap.size 101 use0 (0, 0) _ rfl (heap_alloc_new _ _) Tryz.underlying101 rfl size33) rfl ?_
  exact ⟨rfl, rfl⟩
end Go.Proofs.YtcomhlimgocoaaaGreatDoor
namespace Go.Proofs.YtcomhlimgocoaaaGreatDoor
open Go.RowKit
set_option linter.unusedVariables false
set_option linter.unusedSimpArgs false

def insC (o d s f i : Int) : Array Value := #[.int .i64 o, .int .i64 d, .int .i64 s, .int .i64 f, .int .i64 i]
def usC (fm g : Int) (x y z u : Bool) : Array Value := #[.int .i64 fm, .int .i64 g, .bool x, .bool y, .bool z, .bool u]
def dstP (x : Bool) (d : Int) : Bool := if x then isReg d else d == 0
def srcP (fm : Int) (y : Bool) (s : Int) : Bool := if y then isReg s else if fm == 9 then (s == 0 || s == 1) else if fm == 10 then (s == 0 || s == 1) else s == 0
def offP (o fm : Int) (z : Bool) (f : Int) : Bool := if z then (decide (-32768 ≤ f) && decide (f ≤ 32767)) else if f == 0 then true else if fm == 3 then variantP o f else false
def immP (o fm s : Int) (u : Bool) (i : Int) : Bool := if fm == 10 && s == 0 then true else if u then (decide (-2147483648 ≤ i) && decide (i ≤ 2147483647)) else if fm == 6 then atomP i else if ordersP o then ((i == 16 || i == 32) || i == 64) else i == 0
def boxed (w : World) (o d s f i : Int) (fm g : Int) (x y z u : Bool) : World := (w.alloc (.cells (insC o d s f i) 25)).alloc (.cells (usC fm g x y z u) 101)

theorem dst_any (w : World) (o d s f i : Int) (fm g : Int) (x y z u : Bool) : Calls Tryz.prog 90 #[.agg (insC o d s f i), .agg (usC fm g x y z u)] w fun e w' => e = .returned (.bool (dstP x d)) ∧ boxed w o d s f i fm g x y z u = w' := by
  unfold boxed insC usC
  go_enter Tryz.func90, Tryz.ntmps90
  go_wp2_with (go_at_call 125; refine (isRegister_any _ _).mono ?_; rintro e w' ⟨rfl, rfl⟩)
  all_goals go_ret
  all_goals go_light
  all_goals (subst_vars; exact ⟨by simp [dstP], rfl⟩)
theorem src_any (w : World) (o d s f i : Int) (fm g : Int) (x y z u : Bool) : Calls Tryz.prog 91 #[.agg (insC o d s f i), .agg (usC fm g x y z u)] w fun e w' => e = .returned (.bool (srcP fm y s)) ∧ boxed w o d s f i fm g x y z u = w' := by
  unfold boxed insC usC
  go_enter Tryz.func91, Tryz.ntmps91
  go_wp2_with (go_at_call 125; refine (isRegister_any _ _).mono ?_; rintro e w' ⟨rfl, rfl⟩)
  all_goals go_ret
  all_goals go_light
  all_goals first | (refine ⟨?_, by simp [*]⟩; simp_all [srcP]; done)
theorem off_any (w : World) (o d s f i : Int) (fm g : Int) (x y z u : Bool) : Calls Tryz.prog 92 #[.agg (insC o d s f i), .agg (usC fm g x y z u)] w fun e w' => e = .returned (.bool (offP o fm z f)) ∧ boxed w o d s f i fm g x y z u = w' := by
  unfold boxed insC usC
  go_enter Tryz.func92, Tryz.ntmps92
  go_wp2_with (go_at_call 126; refine (variant_any _ _ _).mono ?_; rintro e w' ⟨rfl, rfl⟩)
  all_goals go_ret
  all_goals go_light
  all_goals first | (refine ⟨?_, by simp [*]⟩; simp_all [offP]; done) | (refine ⟨?_, by simp [*]⟩; simp_all [offP]; omega)
theorem imm_any (w : World) (hA : TabA w) (o d s f i : Int) (fm g : Int) (x y z u : Bool) : Calls Tryz.prog 93 #[.agg (insC o d s f i), .agg (usC fm g x y z u)] w fun e w' => e = .returned (.bool (immP o fm s u i)) ∧ boxed w o d s f i fm g x y z u = w' := by
  unfold boxed insC usC
  go_enter Tryz.func93, Tryz.ntmps93
  go_wp2_with (first | (go_at_call 127; refine (atomic_any _ _ ((hA.alloc _).alloc _)).mono ?_; rintro e w' ⟨rfl, rfl⟩) | (go_at_call 128; refine (orders_any _ _).mono ?_; rintro e w' ⟨rfl, rfl⟩))
  all_goals go_ret
  all_goals go_light
  all_goals first | (refine ⟨?_, by simp [*]⟩; simp_all [immP]; done) | (refine ⟨?_, by simp [*]⟩; simp_all [immP]; omega)
theorem dst_lit (w : World) (o d s f i : Int) (fm g : Int) (x y z u : Bool) : Calls Tryz.prog 90 #[.agg #[.int .i64 o, .int .i64 d, .int .i64 s, .int .i64 f, .int .i64 i], .agg #[.int .i64 fm, .int .i64 g, .bool x, .bool y, .bool z, .bool u]] w fun e w' => e = .returned (.bool (dstP x d)) ∧ (w.alloc (.cells #[.int .i64 o, .int .i64 d, .int .i64 s, .int .i64 f, .int .i64 i] 25)).alloc (.cells #[.int .i64 fm, .int .i64 g, .bool x, .bool y, .bool z, .bool u] 101) = w' := dst_any w o d s f i fm g x y z u
theorem src_lit (w : World) (o d s f i : Int) (fm g : Int) (x y z u : Bool) : Calls Tryz.prog 91 #[.agg #[.int .i64 o, .int .i64 d, .int .i64 s, .int .i64 f, .int .i64 i], .agg #[.int .i64 fm, .int .i64 g, .bool x, .bool y, .bool z, .bool u]] w fun e w' => e = .returned (.bool (srcP fm y s)) ∧ (w.alloc (.cells #[.int .i64 o, .int .i64 d, .int .i64 s, .int .i64 f, .int .i64 i] 25)).alloc (.cells #[.int .i64 fm, .int .i64 g, .bool x, .bool y, .bool z, .bool u] 101) = w' := src_any w o d s f i fm g x y z u
theorem off_lit (w : World) (o d s f i : Int) (fm g : Int) (x y z u : Bool) : Calls Tryz.prog 92 #[.agg #[.int .i64 o, .int .i64 d, .int .i64 s, .int .i64 f, .int .i64 i], .agg #[.int .i64 fm, .int .i64 g, .bool x, .bool y, .bool z, .bool u]] w fun e w' => e = .returned (.bool (offP o fm z f)) ∧ (w.alloc (.cells #[.int .i64 o, .int .i64 d, .int .i64 s, .int .i64 f, .int .i64 i] 25)).alloc (.cells #[.int .i64 fm, .int .i64 g, .bool x, .bool y, .bool z, .bool u] 101) = w' := off_any w o d s f i fm g x y z u
theorem imm_lit (w : World) (hA : TabA w) (o d s f i : Int) (fm g : Int) (x y z u : Bool) : Calls Tryz.prog 93 #[.agg #[.int .i64 o, .int .i64 d, .int .i64 s, .int .i64 f, .int .i64 i], .agg #[.int .i64 fm, .int .i64 g, .bool x, .bool y, .bool z, .bool u]] w fun e w' => e = .returned (.bool (immP o fm s u i)) ∧ (w.alloc (.cells #[.int .i64 o, .int .i64 d, .int .i64 s, .int .i64 f, .int .i64 i] 25)).alloc (.cells #[.int .i64 fm, .int .i64 g, .bool x, .bool y, .bool z, .bool u] 101) = w' := imm_any w hA o d s f i fm g x y z u
def fitP (o d s f i fm : Int) (x y z u : Bool) : Bool := dstP x d && (srcP fm y s && (offP o fm z f && immP o fm s u i))
theorem fits_any (w : World) (hA : TabA w) (o d s f i : Int) (fm g : Int) (x y z u : Bool) : Calls Tryz.prog 51 #[.agg (insC o d s f i), .agg (usC fm g x y z u)] w fun e w' => e = .returned (.bool (fitP o d s f i fm x y z u)) ∧ Out w w' := by
  unfold insC usC
  go_enter Tryz.func51, Tryz.ntmps51
  go_wp2_with (first | (go_at_call 90; refine (dst_lit _ _ _ _ _ _ _ _ _ _ _ _).mono ?_; rintro e w' ⟨rfl, rfl⟩) | (go_at_call 91; refine (src_lit _ _ _ _ _ _ _ _ _ _ _ _).mono ?_; rintro e w' ⟨rfl, rfl⟩) | (go_at_call 92; refine (off_lit _ _ _ _ _ _ _ _ _ _ _ _).mono ?_; rintro e w' ⟨rfl, rfl⟩) | (go_at_call 93; refine (imm_lit _ (by repeat (first | exact hA | apply TabA.alloc)) _ _ _ _ _ _ _ _ _ _ _).mono ?_; rintro e w' ⟨rfl, rfl⟩))
  all_goals go_ret
  all_goals go_light
  all_goals first | (refine ⟨by simp_all [fitP], ?_⟩; repeat (first | exact Out.refl _ | apply Out.alloc))
end Go.Proofs.YtcomhlimgocoaaaGreatDoor
namespace Go.Proofs.YtcomhlimgocoaaaGreatDoor
open Go.RowKit
set_option linter.unusedVariables false
set_option linter.unusedSimpArgs false

def fitO (o d s f i : Int) : Bool := fitP o d s f i (formP o) (useD o (formP o)) (useS o (formP o)) (useO o (formP o)) (useI o (formP o))
def mayP (o d s f i : Int) : Int := if formP o == 0 then 20 else if fitO o d s f i then 0 else 21
def wholeP (o d s f i : Int) : Int := if formP o == 0 then 0 else if fitO o d s f i then formP o else 0
theorem info_ok_lit (op : Int) (w : World) (h : TabO w) (hf : (formP op == 0) = false) : Calls Tryz.prog 50 #[.int .i64 op] w fun e w' => e = .returned (.tuple #[.agg #[.int .i64 (formP op), .int .i64 (groupP op (formP op)), .bool (useD op (formP op)), .bool (useS op (formP op)), .bool (useO op (formP op)), .bool (useI op (formP op))], .int .i64 0]) ∧
    ((w.alloc (.cells #[.int .i64 (formP op), .int .i64 (groupP op (formP op)), .bool (useD op (formP op)), .bool (useS op (formP op)), .bool (useO op (formP op)), .bool (useI op (formP op))] 101)).alloc (.cells #[.int .i64 (formP op), .int .i64 (groupP op (formP op)), .bool (useD op (formP op)), .bool (useS op (formP op)), .bool (useO op (formP op)), .bool (useI op (formP op))] 101)).alloc (.cells #[.int .i64 (formP op), .int .i64 (groupP op (formP op)), .bool (useD op (formP op)), .bool (useS op (formP op)), .bool (useO op (formP op)), .bool (useI op (formP op))] 101) = w' := info_ok op w h hf
theorem info_no_lit (op : Int) (w : World) (h : TabO w) (hf : (formP op == 0) = true) : Calls Tryz.prog 50 #[.int .i64 op] w fun e w' => e = .returned (.tuple #[.agg #[.int .i64 0, .int .i64 0, .bool false, .bool false, .bool false, .bool false], .int .i64 20]) ∧ w.alloc (.cells #[.int .i64 0, .int .i64 0, .bool false, .bool false, .bool false, .bool false] 101) = w' := info_no op w h hf
theorem fitO_lit (w : World) (hA : TabA w) (op d s f i : Int) : Calls Tryz.prog 51 #[.agg #[.int .i64 op, .int .i64 d, .int .i64 s, .int .i64 f, .int .i64 i], .agg #[.int .i64 (formP op), .int .i64 (groupP op (formP op)), .bool (useD op (formP op)), .bool (useS op (formP op)), .bool (useO op (formP op)), .bool (useI op (formP op))]] w fun e w' => e = .returned (.bool (fitO op d s f i)) ∧ Out w w' := fits_any w hA op d s f i _ _ _ _ _ _

theorem may_any (w : World) (hA : TabA w) (hO : TabO w) (o d s f i : Int) : Calls Tryz.prog 19 #[.agg (insC o d s f i)] w fun e w' => e = .returned (.int .i64 (mayP o d s f i)) ∧ Out w w' := by
  unfold insC
  cases hf : (formP o == 0)
  · cases hfit : fitO o d s f i
    · have HR : Hid (mayP o d s f i = 21) := by simp [mayP, hf, hfit, Hid]
      go_enter Tryz.func19, Tryz.ntmps19
      go_wp2_with (first | (go_at_call 50; refine (info_ok_lit _ _ (hO.alloc _) hf).mono ?_; rintro e w' ⟨rfl, rfl⟩) | (go_at_call 51; refine (fitO_lit _ (by repeat (first | exact hA | apply TabA.alloc)) _ _ _ _ _).mono ?_; rintro e w' ⟨rfl, hout⟩))
      go_ret
      exact ⟨by simp [HR.out], Out.trans (by repeat (first | exact Out.refl _ | apply Out.alloc)) hout⟩
    · have HR : Hid (mayP o d s f i = 0) := by simp [mayP, hf, hfit, Hid]
      go_enter Tryz.func19, Tryz.ntmps19
      go_wp2_with (first | (go_at_call 50; refine (info_ok_lit _ _ (hO.alloc _) hf).mono ?_; rintro e w' ⟨rfl, rfl⟩) | (go_at_call 51; refine (fitO_lit _ (by repeat (first | exact hA | apply TabA.alloc)) _ _ _ _ _).mono ?_; rintro e w' ⟨rfl, hout⟩))
      go_ret
      exact ⟨by simp [HR.out], Out.trans (by repeat (first | exact Out.refl _ | apply Out.alloc)) hout⟩
  · have HR : Hid (mayP o d s f i = 20) := by simp [mayP, hf, Hid]
    go_enter Tryz.func19, Tryz.ntmps19
    go_wp2_with (first | (go_at_call 50; refine (info_no_lit _ _ (hO.alloc _) hf).mono ?_; rintro e w' ⟨rfl, rfl⟩))
    go_ret
    exact ⟨by simp [HR.out], by repeat (first | exact Out.refl _ | apply Out.alloc)⟩
theorem may_lit (w : World) (hA : TabA w) (hO : TabO w) (o d s f i : Int) : Calls Tryz.prog 19 #[.agg #[.int .i64 o, .int .i64 d, .int .i64 s, .int .i64 f, .int .i64 i]] w fun e w' => e = .returned (.int .i64 (mayP o d s f i)) ∧ Out w w' := may_any w hA hO o d s f i
end Go.Proofs.YtcomhlimgocoaaaGreatDoor
