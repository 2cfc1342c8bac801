import Derived.Test.YtcjhgihpahnnoabGreatDoorGa
import Derived.Deep.Light
import Derived.Laws.Rows
import Derived.Laws.ResultCell
import Derived.Deep.OwnRows
namespace Go.Proofs.YtcjhgihpahnnoabGreatDoor
open Go.RowKit
set_option linter.unusedVariables false
set_option linter.unusedSimpArgs false

def cls (op : Int) : Int := bits .and .i64 op 7
def useD (op form : Int) : Bool := if cls op == 0 then true else if cls op == 1 || cls op == 3 then true else if cls op == 2 then true else if cls op == 5 || cls op == 6 then (if form != 8 then false else true) else if cls op == 4 || cls op == 7 then true else false
def useS (op form : Int) : Bool := if cls op == 0 then false else if cls op == 1 || cls op == 3 then true else if cls op == 2 then false else if cls op == 5 || cls op == 6 then (if form != 8 then false else hasSrc op) else if cls op == 4 || cls op == 7 then (if form != 2 then hasSrc op else false) else false
def useO (op form : Int) : Bool := if cls op == 0 then false else if cls op == 1 || cls op == 3 then true else if cls op == 2 then true else if cls op == 5 || cls op == 6 then (if form != 8 then op == 5 else true) else false
def useI (op form : Int) : Bool := if cls op == 0 then true else if cls op == 1 || cls op == 3 then false else if cls op == 2 then true else if cls op == 5 || cls op == 6 then (if form != 8 then (op == 6 || op == 133) else !hasSrc op) else if cls op == 4 || cls op == 7 then (if form != 2 then !hasSrc op else false) else false
def useC (op form : Int) : Array Value := #[.int .i64 form, .int .i64 (groupP op form), .bool (useD op form), .bool (useS op form), .bool (useO op form), .bool (useI op form)]
def use0 : Array Value := #[.int .i64 0, .int .i64 0, .bool false, .bool false, .bool false, .bool false]

theorem size_alloc (w : World) (o : Obj) : (w.alloc o).heap.size = w.heap.size + 1 := by
  show (w.heap.push o).size = _
  simp
theorem size33 : (Tryz.prog.info? 76).map (·.size) = some 6 := by kernel_rfl
theorem heap3_old (w : World) (A B C : Obj) : (((w.alloc A).alloc B).alloc C).heap[w.heap.size]? = some A := by
  exact (Below.heap_alloc _ C _ (by rw [size_alloc, size_alloc]; omega)).trans (heap_alloc2_old w A B)
theorem results_row_tmp {P : Program} {fn : Func} {p u : Tmp} {ty : TypeId} (h : fn.results = #[.cell p ty, .tmp u]) (tmps : Array Value) (w : World) (g : Nat) (t : TypeId) (cs : Array Value) (fr : Nat × Nat) (d : TypeDesc)
    (hp : tmps.getD p undef = .pointer (some ⟨g, 0, none⟩)) (hg : w.heap[g]? = some (.cells cs t fr))
    (hu : P.underlying ty = some d) (hd : (match d with | .struct _ | .array _ _ => true | _ => false) = true) (hi : (P.info? ty).map (·.size) = some cs.size) :
    (results fn tmps).run P w = .ok (.tuple #[.agg cs, tmps.getD u undef]) w := by
  rw [results_cell_tmp h, hp]
  simp [asAddr, run_loadVar_row w g t ty cs fr d hg hu hd hi, Result.andThen]
theorem useOf_any (op form : Int) (w : World) : Calls Tryz.prog 64 #[.int .i64 op, .int .i64 form] w fun e w' => e = .returned (.agg (useC op form)) ∧ (w.alloc (.cells (useC op form) 76)).alloc (.cells (useC op form) 76) = w' := by
  go_enter Tryz.func64, Tryz.ntmps64
  go_wp2_with (first | (go_at_call 83; refine (hasSource_any _ _).mono ?_; rintro e w' ⟨rfl, rfl⟩) | (go_at_call 82; refine (groupOf_any _ _ _).mono ?_; rintro e w' ⟨rfl, rfl⟩))
  all_goals refine bodyPost_ret (results_cell_row rfl _ _ w.heap.size 76 _ (0, 0) _ rfl (heap_alloc2_old _ _ _) Tryz.underlying76 rfl size33) rfl ?_
  all_goals go_light
  all_goals first | (simp_all [useC, useD, useS, useO, useI, cls]; done) | (simp [useC, useD, useS, useO, useI, cls, *]; done) | skip
  all_goals (obtain rfl : op = 6 := by assumption)
  all_goals (have b6 : bits BinOp.and IntKind.i64 6 7 = 6 := by decide)
  all_goals (simp_all [useC, useD, useS, useO, useI, cls])
theorem useOf_lit (op form : Int) (w : World) : Calls Tryz.prog 64 #[.int .i64 op, .int .i64 form] w fun e w' => e = .returned (.agg #[.int .i64 form, .int .i64 (groupP op form), .bool (useD op form), .bool (useS op form), .bool (useO op form), .bool (useI op form)]) ∧ (w.alloc (.cells #[.int .i64 form, .int .i64 (groupP op form), .bool (useD op form), .bool (useS op form), .bool (useO op form), .bool (useI op form)] 76)).alloc (.cells #[.int .i64 form, .int .i64 (groupP op form), .bool (useD op form), .bool (useS op form), .bool (useO op form), .bool (useI op form)] 76) = w' := useOf_any op form w
theorem info_ok (op : Int) (w : World) (h : TabO w) (hf : (formP op == 0) = false) : Calls Tryz.prog 34 #[.int .i64 op] w fun e w' => e = .returned (.tuple #[.agg (useC op (formP op)), .int .i64 0]) ∧
    ((w.alloc (.cells (useC op (formP op)) 76)).alloc (.cells (useC op (formP op)) 76)).alloc (.cells (useC op (formP op)) 76) = w' := by
  go_enter Tryz.func34, Tryz.ntmps34
  go_wp2_with (first | (go_at_call 63; refine (formOf_any _ _ (h.alloc _)).mono ?_; rintro e w' ⟨rfl, rfl⟩) | (go_at_call 64; refine (useOf_lit _ _ _).mono ?_; rintro e w' ⟨rfl, rfl⟩))
  refine bodyPost_ret (results_row_tmp rfl _ _ w.heap.size 76 (useC op (formP op)) (0, 0) _ rfl (heap3_old _ _ _ _) Tryz.underlying76 rfl size33) rfl ?_
  exact ⟨rfl, rfl⟩
theorem info_no (op : Int) (w : World) (h : TabO w) (hf : (formP op == 0) = true) : Calls Tryz.prog 34 #[.int .i64 op] w fun e w' => e = .returned (.tuple #[.agg use0, .int .i64 20]) ∧ w.alloc (.cells use0 76) = w' := by
  go_enter Tryz.func34, Tryz.ntmps34
  go_wp2_with (first | (go_at_call 63; refine (formOf_any _ _ (h.alloc _)).mono ?_; rintro e w' ⟨rfl, rfl⟩) | (go_at_call 64; refine (useOf_lit _ _ _).mono ?_; rintro e w' ⟨rfl, rfl⟩))
  refine bodyPost_ret (results_row_tmp rfl _ _ w.heap.size 76 use0 (0, 0) _ rfl (heap_alloc_new _ _) Tryz.underlying76 rfl size33) rfl ?_
  exact ⟨rfl, rfl⟩
end Go.Proofs.YtcjhgihpahnnoabGreatDoor
namespace Go.Proofs.YtcjhgihpahnnoabGreatDoor
open Go.RowKit
set_option linter.unusedVariables false
set_option linter.unusedSimpArgs false

def insC (o d s f i : Int) : Array Value := #[.int .i64 o, .int .i64 d, .int .i64 s, .int .i64 f, .int .i64 i]
def usC (fm g : Int) (x y z u : Bool) : Array Value := #[.int .i64 fm, .int .i64 g, .bool x, .bool y, .bool z, .bool u]
def dstP (x : Bool) (d : Int) : Bool := if x then isReg d else d == 0
def srcP (fm : Int) (y : Bool) (s : Int) : Bool := if y then isReg s else if fm == 9 then (s == 0 || s == 1) else if fm == 10 then (s == 0 || s == 1) else s == 0
def offP (o fm : Int) (z : Bool) (f : Int) : Bool := if z then (decide (-32768 ≤ f) && decide (f ≤ 32767)) else if f == 0 then true else if fm == 3 then variantP o f else false
def immP (o fm s : Int) (u : Bool) (i : Int) : Bool := if fm == 10 && s == 0 then true else if u then (decide (-2147483648 ≤ i) && decide (i ≤ 2147483647)) else if fm == 6 then atomP i else if ordersP o then ((i == 16 || i == 32) || i == 64) else i == 0
def boxed (w : World) (o d s f i : Int) (fm g : Int) (x y z u : Bool) : World := (w.alloc (.cells (insC o d s f i) 26)).alloc (.cells (usC fm g x y z u) 76)

theorem dst_any (w : World) (o d s f i : Int) (fm g : Int) (x y z u : Bool) : Calls Tryz.prog 65 #[.agg (insC o d s f i), .agg (usC fm g x y z u)] w fun e w' => e = .returned (.bool (dstP x d)) ∧ boxed w o d s f i fm g x y z u = w' := by
  unfold boxed insC usC
  go_enter Tryz.func65, Tryz.ntmps65
  go_wp2_with (go_at_call 84; refine (isRegister_any _ _).mono ?_; rintro e w' ⟨rfl, rfl⟩)
  all_goals go_ret
  all_goals go_light
  all_goals (subst_vars; exact ⟨by simp [dstP], rfl⟩)
theorem src_any (w : World) (o d s f i : Int) (fm g : Int) (x y z u : Bool) : Calls Tryz.prog 66 #[.agg (insC o d s f i), .agg (usC fm g x y z u)] w fun e w' => e = .returned (.bool (srcP fm y s)) ∧ boxed w o d s f i fm g x y z u = w' := by
  unfold boxed insC usC
  go_enter Tryz.func66, Tryz.ntmps66
  go_wp2_with (go_at_call 84; refine (isRegister_any _ _).mono ?_; rintro e w' ⟨rfl, rfl⟩)
  all_goals go_ret
  all_goals go_light
  all_goals first | (refine ⟨?_, by simp [*]⟩; simp_all [srcP]; done)
theorem off_any (w : World) (o d s f i : Int) (fm g : Int) (x y z u : Bool) : Calls Tryz.prog 67 #[.agg (insC o d s f i), .agg (usC fm g x y z u)] w fun e w' => e = .returned (.bool (offP o fm z f)) ∧ boxed w o d s f i fm g x y z u = w' := by
  unfold boxed insC usC
  go_enter Tryz.func67, Tryz.ntmps67
  go_wp2_with (go_at_call 85; refine (variant_any _ _ _).mono ?_; rintro e w' ⟨rfl, rfl⟩)
  all_goals go_ret
  all_goals go_light
  all_goals first | (refine ⟨?_, by simp [*]⟩; simp_all [offP]; done) | (refine ⟨?_, by simp [*]⟩; simp_all [offP]; omega)
theorem imm_any (w : World) (hA : TabA w) (o d s f i : Int) (fm g : Int) (x y z u : Bool) : Calls Tryz.prog 68 #[.agg (insC o d s f i), .agg (usC fm g x y z u)] w fun e w' => e = .returned (.bool (immP o fm s u i)) ∧ boxed w o d s f i fm g x y z u = w' := by
  unfold boxed insC usC
  go_enter Tryz.func68, Tryz.ntmps68
  go_wp2_with (first | (go_at_call 86; refine (atomic_any _ _ ((hA.alloc _).alloc _)).mono ?_; rintro e w' ⟨rfl, rfl⟩) | (go_at_call 87; refine (orders_any _ _).mono ?_; rintro e w' ⟨rfl, rfl⟩))
  all_goals go_ret
  all_goals go_light
  all_goals first | (refine ⟨?_, by simp [*]⟩; simp_all [immP]; done) | (refine ⟨?_, by simp [*]⟩; simp_all [immP]; omega)
theorem dst_lit (w : World) (o d s f i : Int) (fm g : Int) (x y z u : Bool) : Calls Tryz.prog 65 #[.agg #[.int .i64 o, .int .i64 d, .int .i64 s, .int .i64 f, .int .i64 i], .agg #[.int .i64 fm, .int .i64 g, .bool x, .bool y, .bool z, .bool u]] w fun e w' => e = .returned (.bool (dstP x d)) ∧ (w.alloc (.cells #[.int .i64 o, .int .i64 d, .int .i64 s, .int .i64 f, .int .i64 i] 26)).alloc (.cells #[.int .i64 fm, .int .i64 g, .bool x, .bool y, .bool z, .bool u] 76) = w' := dst_any w o d s f i fm g x y z u
theorem src_lit (w : World) (o d s f i : Int) (fm g : Int) (x y z u : Bool) : Calls Tryz.prog 66 #[.agg #[.int .i64 o, .int .i64 d, .int .i64 s, .int .i64 f, .int .i64 i], .agg #[.int .i64 fm, .int .i64 g, .bool x, .bool y, .bool z, .bool u]] w fun e w' => e = .returned (.bool (srcP fm y s)) ∧ (w.alloc (.cells #[.int .i64 o, .int .i64 d, .int .i64 s, .int .i64 f, .int .i64 i] 26)).alloc (.cells #[.int .i64 fm, .int .i64 g, .bool x, .bool y, .bool z, .bool u] 76) = w' := src_any w o d s f i fm g x y z u
theorem off_lit (w : World) (o d s f i : Int) (fm g : Int) (x y z u : Bool) : Calls Tryz.prog 67 #[.agg #[.int .i64 o, .int .i64 d, .int .i64 s, .int .i64 f, .int .i64 i], .agg #[.int .i64 fm, .int .i64 g, .bool x, .bool y, .bool z, .bool u]] w fun e w' => e = .returned (.bool (offP o fm z f)) ∧ (w.alloc (.cells #[.int .i64 o, .int .i64 d, .int .i64 s, .int .i64 f, .int .i64 i] 26)).alloc (.cells #[.int .i64 fm, .int .i64 g, .bool x, .bool y, .bool z, .bool u] 76) = w' := off_any w o d s f i fm g x y z u
theorem imm_lit (w : World) (hA : TabA w) (o d s f i : Int) (fm g : Int) (x y z u : Bool) : Calls Tryz.prog 68 #[.agg #[.int .i64 o, .int .i64 d, .int .i64 s, .int .i64 f, .int .i64 i], .agg #[.int .i64 fm, .int .i64 g, .bool x, .bool y, .bool z, .bool u]] w fun e w' => e = .returned (.bool (immP o fm s u i)) ∧ (w.alloc (.cells #[.int .i64 o, .int .i64 d, .int .i64 s, .int .i64 f, .int .i64 i] 26)).alloc (.cells #[.int .i64 fm, .int .i64 g, .bool x, .bool y, .bool z, .bool u] 76) = w' := imm_any w hA o d s f i fm g x y z u
def fitP (o d s f i fm : Int) (x y z u : Bool) : Bool := dstP x d && (srcP fm y s && (offP o fm z f && immP o fm s u i))
theorem fits_any (w : World) (hA : TabA w) (o d s f i : Int) (fm g : Int) (x y z u : Bool) : Calls Tryz.prog 35 #[.agg (insC o d s f i), .agg (usC fm g x y z u)] w fun e w' => e = .returned (.bool (fitP o d s f i fm x y z u)) ∧ Out w w' := by
  unfold insC usC
  go_enter Tryz.func35, Tryz.ntmps35
  go_wp2_with (first | (go_at_call 65; refine (dst_lit _ _ _ _ _ _ _ _ _ _ _ _).mono ?_; rintro e w' ⟨rfl, rfl⟩) | (go_at_call 66; refine (src_lit _ _ _ _ _ _ _ _ _ _ _ _).mono ?_; rintro e w' ⟨rfl, rfl⟩) | (go_at_call 67; refine (off_lit _ _ _ _ _ _ _ _ _ _ _ _).mono ?_; rintro e w' ⟨rfl, rfl⟩) | (go_at_call 68; refine (imm_lit _ (by repeat (first | exact hA | apply TabA.alloc)) _ _ _ _ _ _ _ _ _ _ _).mono ?_; rintro e w' ⟨rfl, rfl⟩))
  all_goals go_ret
  all_goals go_light
  all_goals first | (refine ⟨by simp_all [fitP], ?_⟩; repeat (first | exact Out.refl _ | apply Out.alloc))
end Go.Proofs.YtcjhgihpahnnoabGreatDoor
namespace Go.Proofs.YtcjhgihpahnnoabGreatDoor
open Go.RowKit
set_option linter.unusedVariables false
set_option linter.unusedSimpArgs false

def fitO (o d s f i : Int) : Bool := fitP o d s f i (formP o) (useD o (formP o)) (useS o (formP o)) (useO o (formP o)) (useI o (formP o))
def mayP (o d s f i : Int) : Int := if formP o == 0 then 20 else if fitO o d s f i then 0 else 21
def wholeP (o d s f i : Int) : Int := if formP o == 0 then 0 else if fitO o d s f i then formP o else 0
theorem info_ok_lit (op : Int) (w : World) (h : TabO w) (hf : (formP op == 0) = false) : Calls Tryz.prog 34 #[.int .i64 op] w fun e w' => e = .returned (.tuple #[.agg #[.int .i64 (formP op), .int .i64 (groupP op (formP op)), .bool (useD op (formP op)), .bool (useS op (formP op)), .bool (useO op (formP op)), .bool (useI op (formP op))], .int .i64 0]) ∧
    ((w.alloc (.cells #[.int .i64 (formP op), .int .i64 (groupP op (formP op)), .bool (useD op (formP op)), .bool (useS op (formP op)), .bool (useO op (formP op)), .bool (useI op (formP op))] 76)).alloc (.cells #[.int .i64 (formP op), .int .i64 (groupP op (formP op)), .bool (useD op (formP op)), .bool (useS op (formP op)), .bool (useO op (formP op)), .bool (useI op (formP op))] 76)).alloc (.cells #[.int .i64 (formP op), .int .i64 (groupP op (formP op)), .bool (useD op (formP op)), .bool (useS op (formP op)), .bool (useO op (formP op)), .bool (useI op (formP op))] 76) = w' := info_ok op w h hf
theorem info_no_lit (op : Int) (w : World) (h : TabO w) (hf : (formP op == 0) = true) : Calls Tryz.prog 34 #[.int .i64 op] w fun e w' => e = .returned (.tuple #[.agg #[.int .i64 0, .int .i64 0, .bool false, .bool false, .bool false, .bool false], .int .i64 20]) ∧ w.alloc (.cells #[.int .i64 0, .int .i64 0, .bool false, .bool false, .bool false, .bool false] 76) = w' := info_no op w h hf
theorem fitO_lit (w : World) (hA : TabA w) (op d s f i : Int) : Calls Tryz.prog 35 #[.agg #[.int .i64 op, .int .i64 d, .int .i64 s, .int .i64 f, .int .i64 i], .agg #[.int .i64 (formP op), .int .i64 (groupP op (formP op)), .bool (useD op (formP op)), .bool (useS op (formP op)), .bool (useO op (formP op)), .bool (useI op (formP op))]] w fun e w' => e = .returned (.bool (fitO op d s f i)) ∧ Out w w' := fits_any w hA op d s f i _ _ _ _ _ _

theorem may_any (w : World) (hA : TabA w) (hO : TabO w) (o d s f i : Int) : Calls Tryz.prog 17 #[.agg (insC o d s f i)] w fun e w' => e = .returned (.int .i64 (mayP o d s f i)) ∧ Out w w' := by
  unfold insC
  cases hf : (formP o == 0)
  · cases hfit : fitO o d s f i
    · have HR : Hid (mayP o d s f i = 21) := by simp [mayP, hf, hfit, Hid]
      go_enter Tryz.func17, Tryz.ntmps17
      go_wp2_with (first | (go_at_call 34; refine (info_ok_lit _ _ (hO.alloc _) hf).mono ?_; rintro e w' ⟨rfl, rfl⟩) | (go_at_call 35; refine (fitO_lit _ (by repeat (first | exact hA | apply TabA.alloc)) _ _ _ _ _).mono ?_; rintro e w' ⟨rfl, hout⟩))
      go_ret
      exact ⟨by simp [HR.out], Out.trans (by repeat (first | exact Out.refl _ | apply Out.alloc)) hout⟩
    · have HR : Hid (mayP o d s f i = 0) := by simp [mayP, hf, hfit, Hid]
      go_enter Tryz.func17, Tryz.ntmps17
      go_wp2_with (first | (go_at_call 34; refine (info_ok_lit _ _ (hO.alloc _) hf).mono ?_; rintro e w' ⟨rfl, rfl⟩) | (go_at_call 35; refine (fitO_lit _ (by repeat (first | exact hA | apply TabA.alloc)) _ _ _ _ _).mono ?_; rintro e w' ⟨rfl, hout⟩))
      go_ret
      exact ⟨by simp [HR.out], Out.trans (by repeat (first | exact Out.refl _ | apply Out.alloc)) hout⟩
  · have HR : Hid (mayP o d s f i = 20) := by simp [mayP, hf, Hid]
    go_enter Tryz.func17, Tryz.ntmps17
    go_wp2_with (first | (go_at_call 34; refine (info_no_lit _ _ (hO.alloc _) hf).mono ?_; rintro e w' ⟨rfl, rfl⟩))
    go_ret
    exact ⟨by simp [HR.out], by repeat (first | exact Out.refl _ | apply Out.alloc)⟩
theorem may_lit (w : World) (hA : TabA w) (hO : TabO w) (o d s f i : Int) : Calls Tryz.prog 17 #[.agg #[.int .i64 o, .int .i64 d, .int .i64 s, .int .i64 f, .int .i64 i]] w fun e w' => e = .returned (.int .i64 (mayP o d s f i)) ∧ Out w w' := may_any w hA hO o d s f i
end Go.Proofs.YtcjhgihpahnnoabGreatDoor
namespace Go.Proofs.YtcjhgihpahnnoabGreatDoor
set_option linter.unusedVariables false
set_option linter.unusedSimpArgs false

/-- an instruction in plain words -/
structure Ins where
  o : Int
  d : Int
  s : Int
  f : Int
  i : Int
theorem Ins.same {x y : Ins} (h0 : x.o = y.o) (h1 : x.d = y.d) (h2 : x.s = y.s) (h3 : x.f = y.f) (h4 : x.i = y.i) : x = y := by
  cases x; cases y; simp_all
def gB (B : List Int) (k : Nat) : Int := B.getD k 0
def u16 (B : List Int) (k : Nat) : Int := gB B k + 256 * gB B (k + 1)
def u32 (B : List Int) (k : Nat) : Int := gB B k + 256 * gB B (k + 1) + 65536 * gB B (k + 2) + 16777216 * gB B (k + 3)
def sx (m v : Int) : Int := if v < m then v else v - 2 * m
def slotI (B : List Int) : Ins := ⟨gB B 0, gB B 1 % 16, gB B 1 / 16, sx 32768 (u16 B 2), sx 2147483648 (u32 B 4)⟩
def wideI (B : List Int) : Ins := ⟨gB B 0, gB B 1 % 16, gB B 1 / 16, sx 32768 (u16 B 2), u32 B 4 + 4294967296 * sx 2147483648 (u32 B 12)⟩
def isW (o : Int) : Bool := o == 24
def by4 (v : Int) : List Int := [v % 256, v / 256 % 256, v / 65536 % 256, v / 16777216 % 256]
def encT (x : Ins) : List Int := if isW x.o then 0 :: 0 :: 0 :: 0 :: by4 (x.i / 4294967296) else []
def enc1 (x : Ins) : List Int := x.o % 256 :: (x.d + 16 * x.s) % 256 :: x.f % 256 :: x.f / 256 % 256 :: (by4 x.i ++ encT x)
def encL (l : List Ins) : List Int := l.flatMap enc1
def sizeI (o : Int) : Nat := if isW o then 16 else 8
def slotsP (l : List Ins) : Nat := l.length + (l.filter (fun x => isW x.o)).length
def Byts (B : List Int) : Prop := ∀ k, 0 ≤ gB B k ∧ gB B k < 256
/-- the bounds of an instruction that may be -/
structure Fit (x : Ins) : Prop where
  o0 : 0 ≤ x.o
  o1 : x.o < 256
  d0 : 0 ≤ x.d
  d1 : x.d < 16
  s0 : 0 ≤ x.s
  s1 : x.s < 16
  f0 : -32768 ≤ x.f
  f1 : x.f ≤ 32767
  i0 : isW x.o = false → -2147483648 ≤ x.i
  i1 : isW x.o = false → x.i ≤ 2147483647
  i2 : -9223372036854775808 ≤ x.i
  i3 : x.i ≤ 9223372036854775807
def errD (may : Ins → Int) (B : List Int) : Int :=
  if B.length < 8 then 30 else if isW (gB B 0) then (if B.length < 16 then 30 else if u32 B 8 == 0 then (if may (wideI B) == 0 then 0 else 32) else 31) else if may (slotI B) == 0 then 0 else 32
def insD (B : List Int) : Ins := if isW (gB B 0) then wideI B else slotI B
def sizeD (B : List Int) : Nat := sizeI (gB B 0)

theorem encT_len (x : Ins) : (encT x).length = if isW x.o then 8 else 0 := by unfold encT by4; split <;> rfl
theorem enc1_len (x : Ins) : (enc1 x).length = sizeI x.o := by
  simp only [enc1, List.length_cons, List.length_append, encT_len, sizeI, by4]; split <;> rfl
theorem slotsP_cons (x : Ins) (l : List Ins) : 8 * slotsP (x :: l) = sizeI x.o + 8 * slotsP l := by
  simp only [slotsP, List.filter_cons, sizeI]; split <;> simp <;> omega
theorem encL_len (l : List Ins) : (encL l).length = 8 * slotsP l := by
  induction l with
  | nil => rfl
  | cons x r ih =>
    have : encL (x :: r) = enc1 x ++ encL r := rfl
    rw [this, List.length_append, ih, enc1_len, slotsP_cons]
theorem encL_append (a c : List Ins) : encL (a ++ c) = encL a ++ encL c := by simp [encL, List.flatMap_append]
theorem slotsP_append (a c : List Ins) : slotsP (a ++ c) = slotsP a + slotsP c := by simp [slotsP, List.filter_append]; omega
theorem gB_cons0 (a : Int) (l : List Int) : gB (a :: l) 0 = a := rfl
theorem gB_cons (a : Int) (l : List Int) (k : Nat) : gB (a :: l) (k + 1) = gB l k := rfl
theorem gB_app (a l : List Int) (k : Nat) (h : k < a.length) : gB (a ++ l) k = gB a k := by
  simp [gB, List.getD, List.getElem?_append_left h]
theorem gB_take (B : List Int) (m k : Nat) (h : k < m) : gB (B.take m) k = gB B k := by
  simp [gB, List.getD, List.getElem?_take, h]
theorem gB_drop (B : List Int) (m k : Nat) : gB (B.drop m) k = gB B (m + k) := by
  simp [gB, List.getD]
theorem gB_out (B : List Int) (k : Nat) (h : B.length ≤ k) : gB B k = 0 := by
  simp [gB, List.getD, List.getElem?_eq_none h]
theorem Byts.drop {B : List Int} (h : Byts B) (m : Nat) : Byts (B.drop m) := fun k => by rw [gB_drop]; exact h _
theorem Byts.take {B : List Int} (h : Byts B) (m : Nat) : Byts (B.take m) := fun k => by
  by_cases g : k < m
  · rw [gB_take _ _ _ g]; exact h k
  · rw [gB_out _ _ (by simp; omega)]; omega
theorem Byts.append {B C : List Int} (h : Byts B) (k : Byts C) : Byts (B ++ C) := fun j => by
  by_cases g : j < B.length
  · rw [gB_app _ _ _ g]; exact h j
  · have : gB (B ++ C) j = gB C (j - B.length) := by simp [gB, List.getD, List.getElem?_append_right (show B.length ≤ j by omega)]
    rw [this]; exact k _
theorem Byts.nil : Byts [] := fun k => by simp [gB]
theorem Byts.cons {a : Int} {B : List Int} (h0 : 0 ≤ a) (h1 : a < 256) (h : Byts B) : Byts (a :: B) := fun k => by
  cases k with
  | zero => exact ⟨h0, h1⟩
  | succ k => exact h k
theorem Byts.by4 (v : Int) : Byts (by4 v) := Byts.cons (by omega) (by omega) (Byts.cons (by omega) (by omega) (Byts.cons (by omega) (by omega) (Byts.cons (by omega) (by omega) Byts.nil)))
theorem enc1_byts (x : Ins) : Byts (enc1 x) := by
  refine Byts.cons (by omega) (by omega) (Byts.cons (by omega) (by omega) (Byts.cons (by omega) (by omega) (Byts.cons (by omega) (by omega) ((Byts.by4 _).append ?_))))
  unfold encT
  split
  · exact Byts.cons (by omega) (by omega) (Byts.cons (by omega) (by omega) (Byts.cons (by omega) (by omega) (Byts.cons (by omega) (by omega) (Byts.by4 _))))
  · exact Byts.nil
theorem encL_byts : ∀ l : List Ins, Byts (encL l)
  | [] => Byts.nil
  | x :: r => (enc1_byts x).append (encL_byts r)
theorem by4_val (v : Int) (l : List Int) : gB (by4 v ++ l) 0 + 256 * gB (by4 v ++ l) 1 + 65536 * gB (by4 v ++ l) 2 + 16777216 * gB (by4 v ++ l) 3 = v % 4294967296 := by
  show v % 256 + 256 * (v / 256 % 256) + 65536 * (v / 65536 % 256) + 16777216 * (v / 16777216 % 256) = _
  omega
theorem sx32 (v : Int) (h0 : -2147483648 ≤ v) (h1 : v ≤ 2147483647) : sx 2147483648 (v % 4294967296) = v := by unfold sx; split <;> omega
theorem sx16 (v : Int) (h0 : -32768 ≤ v) (h1 : v ≤ 32767) : sx 32768 (v % 256 + 256 * (v / 256 % 256)) = v := by unfold sx; split <;> omega
theorem dec_enc (may : Ins → Int) (x : Ins) (h : Fit x) (hm : may x = 0) (R : List Int) : errD may (enc1 x ++ R) = 0 ∧ insD (enc1 x ++ R) = x ∧ sizeD (enc1 x ++ R) = (enc1 x).length := by
  have g0 : gB (enc1 x ++ R) 0 = x.o := by show x.o % 256 = x.o; have := h.o0; have := h.o1; omega
  have g1 : gB (enc1 x ++ R) 1 % 16 = x.d := by show (x.d + 16 * x.s) % 256 % 16 = _; have := h.d0; have := h.d1; have := h.s0; have := h.s1; omega
  have g1' : gB (enc1 x ++ R) 1 / 16 = x.s := by show (x.d + 16 * x.s) % 256 / 16 = _; have := h.d0; have := h.d1; have := h.s0; have := h.s1; omega
  have g2 : sx 32768 (u16 (enc1 x ++ R) 2) = x.f := sx16 x.f h.f0 h.f1
  have g4 : u32 (enc1 x ++ R) 4 = x.i % 4294967296 := by4_val x.i []
  have hlen : (enc1 x ++ R).length = sizeI x.o + R.length := by rw [List.length_append, enc1_len]
  refine ⟨?_, ?_, ?_⟩
  · unfold errD
    rw [g0, hlen]
    cases hw : isW x.o
    · rw [if_neg (by simp only [sizeI, hw]; simp), if_neg (by simp)]
      have : slotI (enc1 x ++ R) = x := by
        refine Ins.same g0 g1 g1' g2 ?_
        show sx _ (u32 _ 4) = _
        rw [g4]; exact sx32 _ (h.i0 hw) (h.i1 hw)
      rw [this, hm]; rfl
    · have e12 : u32 (enc1 x ++ R) 12 = x.i / 4294967296 % 4294967296 := by
        have : u32 (enc1 x ++ R) 12 = u32 (by4 (x.i / 4294967296)) 0 := by
          simp only [enc1, encT, hw, if_true, by4]; rfl
        rw [this]; exact by4_val (x.i / 4294967296) []
      have e8 : u32 (enc1 x ++ R) 8 = 0 := by simp only [enc1, encT, hw, if_true, by4]; rfl
      have : wideI (enc1 x ++ R) = x := by
        refine Ins.same g0 g1 g1' g2 ?_
        show u32 _ 4 + 4294967296 * sx _ (u32 _ 12) = _
        rw [g4, e12, sx32 _ (by have := h.i2; omega) (by have := h.i3; omega)]
        omega
      rw [if_neg (by simp only [sizeI, hw, if_true]; omega), if_pos rfl, if_neg (by simp only [sizeI, hw, if_true]; omega), e8, this, hm]; rfl
  · unfold insD
    rw [g0]
    cases hw : isW x.o
    · simp only [Bool.false_eq_true, if_false]
      refine Ins.same g0 g1 g1' g2 ?_
      show sx _ (u32 _ 4) = _
      rw [g4]; exact sx32 _ (h.i0 hw) (h.i1 hw)
    · simp only [if_true]
      have e12 : u32 (enc1 x ++ R) 12 = x.i / 4294967296 % 4294967296 := by
        have : u32 (enc1 x ++ R) 12 = u32 (by4 (x.i / 4294967296)) 0 := by
          simp only [enc1, encT, hw, if_true, by4]; rfl
        rw [this]; exact by4_val (x.i / 4294967296) []
      refine Ins.same g0 g1 g1' g2 ?_
      show u32 _ 4 + 4294967296 * sx _ (u32 _ 12) = _
      rw [g4, e12, sx32 _ (by have := h.i2; omega) (by have := h.i3; omega)]
      omega
  · unfold sizeD; rw [g0, enc1_len]
theorem val_by4 (a b c d h : Int) (ha : 0 ≤ a ∧ a < 256) (hb : 0 ≤ b ∧ b < 256) (hc : 0 ≤ c ∧ c < 256) (hd : 0 ≤ d ∧ d < 256) : by4 (a + 256 * b + 65536 * c + 16777216 * d + 4294967296 * h) = [a, b, c, d] := by
  simp only [by4, List.cons.injEq, and_true]
  omega
theorem sx_form (v : Int) : ∃ h : Int, sx 2147483648 v = v + 4294967296 * h := by
  unfold sx; split
  · exact ⟨0, by omega⟩
  · exact ⟨-1, by omega⟩
theorem take_eight (B : List Int) (h : 8 ≤ B.length) : B.take 8 = [gB B 0, gB B 1, gB B 2, gB B 3, gB B 4, gB B 5, gB B 6, gB B 7] := by
  match B, h with
  | a :: b :: c :: d :: e :: f :: g :: i :: r, _ => rfl
theorem take_sixteen (B : List Int) (h : 16 ≤ B.length) : B.take 16 = [gB B 0, gB B 1, gB B 2, gB B 3, gB B 4, gB B 5, gB B 6, gB B 7, gB B 8, gB B 9, gB B 10, gB B 11, gB B 12, gB B 13, gB B 14, gB B 15] := by
  match B, h with
  | a :: b :: c :: d :: e :: f :: g :: i :: a' :: b' :: c' :: d' :: e' :: f' :: g' :: i' :: r, _ => rfl
theorem enc_dec (may : Ins → Int) (B : List Int) (hB : Byts B) (h : errD may B = 0) : enc1 (insD B) = B.take (sizeD B) ∧ sizeD B ≤ B.length ∧ may (insD B) = 0 := by
  unfold errD at h
  by_cases h8 : B.length < 8
  · rw [if_pos h8] at h; cases h
  rw [if_neg h8] at h
  have b0 := hB 0
  have b1 := hB 1
  have b2 := hB 2
  have b3 := hB 3
  have hh : gB B 0 % 256 = gB B 0 := by omega
  have hr : (gB B 1 % 16 + 16 * (gB B 1 / 16)) % 256 = gB B 1 := by omega
  have eu : u16 B 2 = gB B 2 + 256 * gB B 3 := rfl
  have hf1 : sx 32768 (u16 B 2) % 256 = gB B 2 := by rw [eu]; unfold sx; split <;> omega
  have hf2 : sx 32768 (u16 B 2) / 256 % 256 = gB B 3 := by rw [eu]; unfold sx; split <;> omega
  cases hw : isW (gB B 0)
  · rw [hw] at h
    simp only [Bool.false_eq_true, if_false] at h
    have hm : may (slotI B) = 0 := by
      by_cases hm : may (slotI B) = 0
      · exact hm
      · have : (may (slotI B) == 0) = false := by simpa using hm
        rw [this] at h; cases h
    have e : insD B = slotI B := by simp [insD, hw]
    have es : sizeD B = 8 := by simp [sizeD, sizeI, hw]
    refine ⟨?_, by omega, by rw [e]; exact hm⟩
    rw [e, es, take_eight B (by omega)]
    obtain ⟨q, hq⟩ := sx_form (u32 B 4)
    have e4 : by4 (sx 2147483648 (u32 B 4)) = [gB B 4, gB B 5, gB B 6, gB B 7] := by
      rw [hq]; exact val_by4 _ _ _ _ q (hB 4) (hB 5) (hB 6) (hB 7)
    have eT : encT (slotI B) = [] := by unfold encT; rw [show isW (slotI B).o = false from hw]; rfl
    show gB B 0 % 256 :: (gB B 1 % 16 + 16 * (gB B 1 / 16)) % 256 :: sx 32768 (u16 B 2) % 256 :: sx 32768 (u16 B 2) / 256 % 256 :: (by4 (sx 2147483648 (u32 B 4)) ++ encT (slotI B)) = _
    rw [hh, hr, hf1, hf2, e4, eT]; rfl
  · rw [hw] at h
    simp only [if_true] at h
    by_cases h16 : B.length < 16
    · rw [if_pos h16] at h; cases h
    rw [if_neg h16] at h
    have h80 : u32 B 8 = 0 := by
      by_cases g : u32 B 8 = 0
      · exact g
      · have : (u32 B 8 == 0) = false := by simpa using g
        rw [this] at h; cases h
    rw [h80] at h
    have hm : may (wideI B) = 0 := by
      by_cases hm : may (wideI B) = 0
      · exact hm
      · have : (may (wideI B) == 0) = false := by simpa using hm
        rw [this] at h; cases h
    have e : insD B = wideI B := by simp [insD, hw]
    have es : sizeD B = 16 := by simp [sizeD, sizeI, hw]
    refine ⟨?_, by omega, by rw [e]; exact hm⟩
    rw [e, es, take_sixteen B (by omega)]
    have k8 := hB 8
    have k9 := hB 9
    have k10 := hB 10
    have k11 := hB 11
    have h80' : gB B 8 + 256 * gB B 9 + 65536 * gB B 10 + 16777216 * gB B 11 = 0 := h80
    have z8 : gB B 8 = 0 := by omega
    have z9 : gB B 9 = 0 := by omega
    have z10 : gB B 10 = 0 := by omega
    have z11 : gB B 11 = 0 := by omega
    have bd : 0 ≤ u32 B 4 ∧ u32 B 4 < 4294967296 := by
      have := hB 4; have := hB 5; have := hB 6; have := hB 7
      have e : u32 B 4 = gB B 4 + 256 * gB B 5 + 65536 * gB B 6 + 16777216 * gB B 7 := rfl
      omega
    have e4 : by4 (u32 B 4 + 4294967296 * sx 2147483648 (u32 B 12)) = [gB B 4, gB B 5, gB B 6, gB B 7] := val_by4 _ _ _ _ _ (hB 4) (hB 5) (hB 6) (hB 7)
    have ed : (u32 B 4 + 4294967296 * sx 2147483648 (u32 B 12)) / 4294967296 = sx 2147483648 (u32 B 12) := by omega
    obtain ⟨q, hq⟩ := sx_form (u32 B 12)
    have e12 : by4 (sx 2147483648 (u32 B 12)) = [gB B 12, gB B 13, gB B 14, gB B 15] := by
      rw [hq]; exact val_by4 _ _ _ _ q (hB 12) (hB 13) (hB 14) (hB 15)
    have eT : encT (wideI B) = [0, 0, 0, 0, gB B 12, gB B 13, gB B 14, gB B 15] := by
      unfold encT
      rw [show isW (wideI B).o = true from hw]
      show 0 :: 0 :: 0 :: 0 :: by4 ((u32 B 4 + 4294967296 * sx 2147483648 (u32 B 12)) / 4294967296) = _
      rw [ed, e12]
    show gB B 0 % 256 :: (gB B 1 % 16 + 16 * (gB B 1 / 16)) % 256 :: sx 32768 (u16 B 2) % 256 :: sx 32768 (u16 B 2) / 256 % 256 :: (by4 (u32 B 4 + 4294967296 * sx 2147483648 (u32 B 12)) ++ encT (wideI B)) = _
    rw [hh, hr, hf1, hf2, e4, eT, z8, z9, z10, z11]; rfl

/-- the state behind n instructions: what was taken, and where -/
def decN (may : Ins → Int) (B : List Int) : Nat → List Ins × Nat
  | 0 => ([], 0)
  | n + 1 => if (decN may B n).2 < B.length ∧ errD may (B.drop (decN may B n).2) = 0 then ((decN may B n).1 ++ [insD (B.drop (decN may B n).2)], (decN may B n).2 + sizeD (B.drop (decN may B n).2)) else decN may B n
def Stuck (may : Ins → Int) (B : List Int) (n : Nat) : Prop := ¬ ((decN may B n).2 < B.length ∧ errD may (B.drop (decN may B n).2) = 0)
theorem stuck_later {may : Ins → Int} {B : List Int} {n : Nat} (h : Stuck may B n) : ∀ k, decN may B (n + k) = decN may B n
  | 0 => rfl
  | k + 1 => by
    have ih := stuck_later h k
    have e : decN may B (n + k + 1) = decN may B (n + k) := if_neg (by rw [ih]; exact h)
    exact e.trans ih
theorem stuck_one {may : Ins → Int} {B : List Int} {n m : Nat} (h : Stuck may B n) (k : Stuck may B m) : decN may B n = decN may B m := by
  rcases Nat.le_total n m with l | l
  · obtain ⟨q, rfl⟩ := Nat.exists_eq_add_of_le l
    exact (stuck_later h q).symm
  · obtain ⟨q, rfl⟩ := Nat.exists_eq_add_of_le l
    exact stuck_later k q
theorem decN_step {may : Ins → Int} {B : List Int} {n : Nat} {is : List Ins} {at' : Nat} (h : decN may B n = (is, at')) (hl : at' < B.length) (he : errD may (B.drop at') = 0) : decN may B (n + 1) = (is ++ [insD (B.drop at')], at' + sizeD (B.drop at')) := by
  show (if _ then _ else _) = _
  rw [h]; exact if_pos ⟨hl, he⟩
/-- Decode's answer -/
def DecIs (may : Ins → Int) (B : List Int) (is : List Ins) (k : Int) (e : Int) : Prop :=
  ∃ n, Stuck may B n ∧ ((is = (decN may B n).1 ∧ (decN may B n).2 = B.length ∧ k = 0 ∧ e = 0) ∨ (is = [] ∧ (decN may B n).2 < B.length ∧ k = (decN may B n).2 / 8 ∧ e = errD may (B.drop (decN may B n).2) ∧ e ≠ 0))
theorem DecIs.one {may : Ins → Int} {B : List Int} {is is' : List Ins} {k k' e e' : Int} (h : DecIs may B is k e) (g : DecIs may B is' k' e') : is = is' ∧ k = k' ∧ e = e' := by
  obtain ⟨n, hn, h⟩ := h
  obtain ⟨m, hm, g⟩ := g
  rw [stuck_one hn hm] at h
  rcases h with ⟨rfl, h1, rfl, rfl⟩ | ⟨rfl, h1, rfl, rfl, h2⟩ <;> rcases g with ⟨rfl, g1, rfl, rfl⟩ | ⟨rfl, g1, rfl, rfl, g2⟩
  · exact ⟨rfl, rfl, rfl⟩
  · omega
  · omega
  · exact ⟨rfl, rfl, rfl⟩
/-- what holds of every state -/
theorem decN_inv (may : Ins → Int) (B : List Int) (hB : Byts B) : ∀ n, (decN may B n).2 ≤ B.length ∧ encL (decN may B n).1 = B.take (decN may B n).2 ∧ (∀ x ∈ (decN may B n).1, may x = 0) ∧ (decN may B n).2 % 8 = 0 ∧ 8 * (decN may B n).1.length ≤ (decN may B n).2
  | 0 => ⟨Nat.zero_le _, by simp [decN, encL], by simp [decN], rfl, Nat.le_refl _⟩
  | n + 1 => by
    have ih := decN_inv may B hB n
    by_cases h : (decN may B n).2 < B.length ∧ errD may (B.drop (decN may B n).2) = 0
    · obtain ⟨p, q⟩ : ∃ p q, decN may B n = (p, q) := ⟨_, _, rfl⟩
      obtain ⟨q, hq⟩ := q
      rw [hq] at h ih
      rw [decN_step hq h.1 h.2]
      obtain ⟨e1, e2, e3⟩ := enc_dec may (B.drop q) (hB.drop q) h.2
      obtain ⟨i1, i2, i3, i4, i5⟩ := ih
      simp only [List.length_drop] at e2
      simp only at i1 i2 i3 i4 i5
      refine ⟨by simp only; omega, ?_, ?_, ?_, ?_⟩
      · simp only [encL_append, i2]
        rw [show encL [insD (B.drop q)] = enc1 (insD (B.drop q)) from by simp [encL], e1, List.take_add]
      · intro x hx
        simp only [List.mem_append, List.mem_singleton] at hx
        rcases hx with hx | rfl
        · exact i3 x hx
        · exact e3
      · simp only [sizeD, sizeI]; split <;> omega
      · simp only [List.length_append, List.length_singleton, sizeD, sizeI]; split <;> omega
    · have : decN may B (n + 1) = decN may B n := if_neg h
      rw [this]; exact ih
theorem take_drop_len {B : List Int} {a : Nat} : (B.drop a).length = B.length - a := by simp
theorem flat_drop (l : List Ins) : ∀ n, n ≤ l.length → (encL l).drop (encL (l.take n)).length = encL (l.drop n) := by
  intro n hn
  have : encL l = encL (l.take n) ++ encL (l.drop n) := by rw [← encL_append, List.take_append_drop]
  rw [this, List.drop_left]
/-- the instructions' bytes, with others behind them, are read as the instructions -/
theorem decN_enc (may : Ins → Int) (l : List Ins) (R : List Int) (h : ∀ x ∈ l, Fit x ∧ may x = 0) : ∀ n, n ≤ l.length → decN may (encL l ++ R) n = (l.take n, (encL (l.take n)).length)
  | 0, _ => by simp [decN, encL]
  | n + 1, hn => by
    have ih := decN_enc may l R h n (by omega)
    have hs : l.drop n = l[n] :: l.drop (n + 1) := List.drop_eq_getElem_cons (by omega)
    have hsplit : encL l ++ R = encL (l.take n) ++ (enc1 l[n] ++ (encL (l.drop (n + 1)) ++ R)) := by
      have e1 : encL l = encL (l.take n) ++ encL (l.drop n) := by rw [← encL_append, List.take_append_drop]
      rw [e1, hs]
      show (encL _ ++ (enc1 l[n] ++ encL _)) ++ R = _
      simp only [List.append_assoc]
    obtain ⟨k1, k2, k3⟩ := dec_enc may l[n] (h _ (List.getElem_mem _)).1 (h _ (List.getElem_mem _)).2 (encL (l.drop (n + 1)) ++ R)
    have hd : (encL l ++ R).drop (encL (l.take n)).length = enc1 l[n] ++ (encL (l.drop (n + 1)) ++ R) := by rw [hsplit, List.drop_left]
    have hlt : (encL (l.take n)).length < (encL l ++ R).length := by
      rw [hsplit]; simp only [List.length_append, enc1_len, sizeI]; split <;> omega
    rw [decN_step ih hlt (by rw [hd]; exact k1), hd, k2, k3]
    have e2 : l.take (n + 1) = l.take n ++ [l[n]] := by rw [List.take_succ_eq_append_getElem]
    rw [e2, encL_append, List.length_append]
    congr 2
    simp [encL]
theorem dec_back (may : Ins → Int) (l : List Ins) (h : ∀ x ∈ l, Fit x ∧ may x = 0) : DecIs may (encL l) l 0 0 := by
  have h1 := decN_enc may l [] h l.length (Nat.le_refl _)
  simp only [List.append_nil, List.take_length] at h1
  refine ⟨l.length, ?_, .inl ?_⟩
  · unfold Stuck; rw [h1]; simp
  · rw [h1]; simp
theorem dec_cut (may : Ins → Int) (l : List Ins) (R : List Int) (h : ∀ x ∈ l, Fit x ∧ may x = 0) (h0 : 0 < R.length) (h8 : R.length < 8) : DecIs may (encL l ++ R) [] ((encL l).length / 8 : Nat) 30 := by
  have h1 := decN_enc may l R h l.length (Nat.le_refl _)
  simp only [List.take_length] at h1
  have he : errD may ((encL l ++ R).drop (encL l).length) = 30 := by
    rw [List.drop_left]; unfold errD; rw [if_pos h8]
  refine ⟨l.length, ?_, .inr ?_⟩
  · unfold Stuck; rw [h1]
    simp only
    rw [he]; simp
  · rw [h1]
    simp only
    rw [he]
    refine ⟨trivial, ?_, by simp, rfl, by decide⟩
    simp only [List.length_append]; omega
/-- an instruction that is taken off a beginning is taken off the whole -/
theorem err_take (may : Ins → Int) (B : List Int) (m : Nat) (h : errD may (B.take m) = 0) : errD may B = 0 ∧ insD (B.take m) = insD B ∧ sizeD (B.take m) = sizeD B ∧ sizeD B ≤ m := by
  unfold errD at h
  have hl : (B.take m).length = min m B.length := List.length_take
  by_cases h8 : (B.take m).length < 8
  · rw [if_pos h8] at h; cases h
  rw [if_neg h8] at h
  have g0 : gB (B.take m) 0 = gB B 0 := gB_take _ _ _ (by omega)
  have es : slotI (B.take m) = slotI B := by
    simp only [slotI, u16, u32, gB_take B m 0 (by omega), gB_take B m 1 (by omega), gB_take B m 2 (by omega), gB_take B m (2 + 1) (by omega), gB_take B m 4 (by omega), gB_take B m (4 + 1) (by omega), gB_take B m (4 + 2) (by omega), gB_take B m (4 + 3) (by omega)]
  cases hw : isW (gB B 0)
  · have e1 : insD (B.take m) = insD B := by simp only [insD, g0, hw, es]; rfl
    have e2 : sizeD B = 8 := by simp [sizeD, sizeI, hw]
    refine ⟨?_, e1, by simp only [sizeD, g0], by omega⟩
    rw [g0, hw, es] at h
    unfold errD
    rw [if_neg (by omega), hw]; exact h
  · rw [g0, hw] at h
    simp only [if_true] at h
    by_cases h16 : (B.take m).length < 16
    · rw [if_pos h16] at h; cases h
    rw [if_neg h16] at h
    have ew : wideI (B.take m) = wideI B := by
      simp only [wideI, u16, u32, gB_take B m 0 (by omega), gB_take B m 1 (by omega), gB_take B m 2 (by omega), gB_take B m (2 + 1) (by omega), gB_take B m 4 (by omega), gB_take B m (4 + 1) (by omega), gB_take B m (4 + 2) (by omega), gB_take B m (4 + 3) (by omega), gB_take B m 12 (by omega), gB_take B m (12 + 1) (by omega), gB_take B m (12 + 2) (by omega), gB_take B m (12 + 3) (by omega)]
    have e8 : u32 (B.take m) 8 = u32 B 8 := by
      simp only [u32, gB_take B m 8 (by omega), gB_take B m (8 + 1) (by omega), gB_take B m (8 + 2) (by omega), gB_take B m (8 + 3) (by omega)]
    have e2 : sizeD B = 16 := by simp [sizeD, sizeI, hw]
    refine ⟨?_, by simp only [insD, g0, hw, ew, es], by simp only [sizeD, g0], by omega⟩
    rw [ew, e8] at h
    unfold errD
    rw [if_neg (by omega), hw]
    simp only [if_true]
    rw [if_neg (by omega)]; exact h
theorem err_take_back (may : Ins → Int) (B : List Int) (m : Nat) (h : errD may B = 0) (hm : sizeD B ≤ m) : errD may (B.take m) = 0 := by
  have hl : (B.take m).length = min m B.length := List.length_take
  unfold errD at h
  by_cases h8 : B.length < 8
  · rw [if_pos h8] at h; cases h
  rw [if_neg h8] at h
  have hs8 : 8 ≤ sizeD B := by simp only [sizeD, sizeI]; split <;> omega
  have g0 : gB (B.take m) 0 = gB B 0 := gB_take _ _ _ (by omega)
  have es : slotI (B.take m) = slotI B := by
    simp only [slotI, u16, u32, gB_take B m 0 (by omega), gB_take B m 1 (by omega), gB_take B m 2 (by omega), gB_take B m (2 + 1) (by omega), gB_take B m 4 (by omega), gB_take B m (4 + 1) (by omega), gB_take B m (4 + 2) (by omega), gB_take B m (4 + 3) (by omega)]
  unfold errD
  rw [if_neg (by omega), g0]
  cases hw : isW (gB B 0)
  · rw [hw] at h; rw [es]; exact h
  · rw [hw] at h
    simp only [if_true] at h ⊢
    by_cases h16 : B.length < 16
    · rw [if_pos h16] at h; cases h
    rw [if_neg h16] at h
    have e2 : sizeD B = 16 := by simp [sizeD, sizeI, hw]
    have ew : wideI (B.take m) = wideI B := by
      simp only [wideI, u16, u32, gB_take B m 0 (by omega), gB_take B m 1 (by omega), gB_take B m 2 (by omega), gB_take B m (2 + 1) (by omega), gB_take B m 4 (by omega), gB_take B m (4 + 1) (by omega), gB_take B m (4 + 2) (by omega), gB_take B m (4 + 3) (by omega), gB_take B m 12 (by omega), gB_take B m (12 + 1) (by omega), gB_take B m (12 + 2) (by omega), gB_take B m (12 + 3) (by omega)]
    have e8 : u32 (B.take m) 8 = u32 B 8 := by
      simp only [u32, gB_take B m 8 (by omega), gB_take B m (8 + 1) (by omega), gB_take B m (8 + 2) (by omega), gB_take B m (8 + 3) (by omega)]
    rw [if_neg (by omega), ew, e8]; exact h
theorem sizeD_pos (B : List Int) : 8 ≤ sizeD B := by simp only [sizeD, sizeI]; split <;> omega
/-- of a beginning that holds all that was taken the states are the same -/
theorem decN_take (may : Ins → Int) (B : List Int) (m : Nat) : ∀ n, (decN may B n).2 ≤ m → decN may (B.take m) n = decN may B n
  | 0, _ => rfl
  | n + 1, hm => by
    by_cases h : (decN may B n).2 < B.length ∧ errD may (B.drop (decN may B n).2) = 0
    · have e : decN may B (n + 1) = ((decN may B n).1 ++ [insD (B.drop (decN may B n).2)], (decN may B n).2 + sizeD (B.drop (decN may B n).2)) := if_pos h
      rw [e] at hm ⊢
      simp only at hm
      have ih := decN_take may B m n (by omega)
      have hp := sizeD_pos (B.drop (decN may B n).2)
      have hd : (B.take m).drop (decN may B n).2 = (B.drop (decN may B n).2).take (m - (decN may B n).2) := List.drop_take ..
      have k := err_take_back may (B.drop (decN may B n).2) (m - (decN may B n).2) h.2 (by omega)
      obtain ⟨k1, k2, k3, k4⟩ := err_take may (B.drop (decN may B n).2) (m - (decN may B n).2) k
      have hlt : (decN may B n).2 < (B.take m).length := by simp only [List.length_take]; omega
      rw [decN_step (is := (decN may B n).1) (at' := (decN may B n).2) ih hlt (by rw [hd]; exact k), hd, k2, k3]
    · have e : decN may B (n + 1) = decN may B n := if_neg h
      rw [e] at hm ⊢
      have ih := decN_take may B m n hm
      have e' : decN may (B.take m) (n + 1) = decN may (B.take m) n := by
        refine if_neg ?_
        rw [ih]
        rintro ⟨h1, h2⟩
        simp only [List.length_take] at h1
        have hd : (B.take m).drop (decN may B n).2 = (B.drop (decN may B n).2).take (m - (decN may B n).2) := List.drop_take ..
        rw [hd] at h2
        exact h ⟨by omega, (err_take may _ _ h2).1⟩
      rw [e', ih]
/-- where bytes are refused: the slots ahead are taken, and no beginning that ends behind it is -/
theorem dec_refused (may : Ins → Int) (B : List Int) (hB : Byts B) (is : List Ins) (k e : Int) (h : DecIs may B is k e) (he : e ≠ 0) :
    is = [] ∧ ∃ q : Nat, k = q ∧ 8 * q < B.length ∧ (30 ≤ e ∧ e ≤ 32) ∧ (∃ is', DecIs may (B.take (8 * q)) is' 0 0) ∧ ∀ m, 8 * q < m → m ≤ B.length → ∃ e', e' ≠ 0 ∧ DecIs may (B.take m) [] k e' := by
  obtain ⟨n, hn, ⟨_, _, _, h0⟩ | ⟨rfl, h1, rfl, rfl, h2⟩⟩ := h
  · exact absurd h0 he
  obtain ⟨i1, i2, i3, i4, i5⟩ := decN_inv may B hB n
  refine ⟨rfl, (decN may B n).2 / 8, by simp, by omega, ?_, ?_, ?_⟩
  · clear he
    revert h2; unfold errD
    repeat' split
    all_goals simp
  · rw [show 8 * ((decN may B n).2 / 8) = (decN may B n).2 by omega]
    have e := decN_take may B (decN may B n).2 n (Nat.le_refl _)
    refine ⟨(decN may B n).1, n, ?_, .inl ⟨by rw [e], by rw [e]; simp; omega, rfl, rfl⟩⟩
    unfold Stuck
    rw [e]; simp; omega
  · intro m hm hm2
    rw [show 8 * ((decN may B n).2 / 8) = (decN may B n).2 by omega] at hm
    have e := decN_take may B m n (by omega)
    have hd : (B.take m).drop (decN may B n).2 = (B.drop (decN may B n).2).take (m - (decN may B n).2) := List.drop_take ..
    have hne : errD may ((B.take m).drop (decN may B n).2) ≠ 0 := by
      rw [hd]; intro h0; exact h2 (err_take may _ _ h0).1
    refine ⟨errD may ((B.take m).drop (decN may B n).2), hne, n, ?_, .inr ⟨rfl, ?_, ?_, ?_, hne⟩⟩
    · unfold Stuck; rw [e]; exact fun h => hne h.2
    · rw [e]; simp only [List.length_take]; omega
    · rw [e]
    · rw [e]
theorem dec_forth (may : Ins → Int) (B : List Int) (hB : Byts B) (is : List Ins) (k : Int) (h : DecIs may B is k 0) : k = 0 ∧ encL is = B ∧ ∀ x ∈ is, may x = 0 := by
  obtain ⟨n, hn, ⟨rfl, h1, rfl, _⟩ | ⟨_, _, _, _, h0⟩⟩ := h
  · obtain ⟨i1, i2, i3, i4, i5⟩ := decN_inv may B hB n
    exact ⟨rfl, by rw [i2, h1, List.take_length], i3⟩
  · exact absurd rfl h0
end Go.Proofs.YtcjhgihpahnnoabGreatDoor
namespace Go.Proofs.YtcjhgihpahnnoabGreatDoor
open Go.RowKit
set_option linter.unusedVariables false
set_option linter.unusedSimpArgs false

/-- only blocks of S, or new ones, are changed -/
structure Chg (S : Nat → Prop) (w w' : World) : Prop where
  os : w'.os = w.os
  tape : w'.tape = w.tape
  output : w'.output = w.output
  size : w.heap.size ≤ w'.heap.size
  block : ∀ k, k < w.heap.size → ¬ S k → w'.heap[k]? = w.heap[k]?
theorem Chg.refl (S : Nat → Prop) (w : World) : Chg S w w := ⟨rfl, rfl, rfl, Nat.le_refl _, fun _ _ _ => rfl⟩
theorem Chg.trans {S T : Nat → Prop} {a b c : World} (h : Chg S a b) (k : Chg T b c) (hST : ∀ x, T x → x < a.heap.size → S x) : Chg S a c :=
  ⟨k.os.trans h.os, k.tape.trans h.tape, k.output.trans h.output, Nat.le_trans h.size k.size, fun i hi hs => (k.block i (Nat.lt_of_lt_of_le hi h.size) (fun ht => hs (hST i ht hi))).trans (h.block i hi hs)⟩
theorem Chg.of_out {S : Nat → Prop} {w w' : World} (h : Out w w') : Chg S w w' := ⟨h.os, h.tape, h.output, h.size, fun k hk _ => h.block k hk⟩
theorem Chg.of_grown {S : Nat → Prop} {w w' : World} {row : Option Nat} (h : w.grownBy w' row) (hr : ∀ k, row = some k → S k) : Chg S w w' :=
  ⟨h.os, h.tape, h.output, h.size, fun k hk hs => h.block k hk (fun e => hs (hr k e.symm))⟩
theorem Chg.alloc {S : Nat → Prop} {a w : World} (h : Chg S a w) (o : Obj) : Chg S a (w.alloc o) :=
  h.trans (T := fun _ => False) ⟨rfl, rfl, rfl, by simp, fun k hk _ => Below.heap_alloc _ _ _ hk⟩ (fun _ hx _ => hx.elim)
theorem Chg.drew {S : Nat → Prop} {a w : World} (h : Chg S a w) : Chg S a w.drew := ⟨h.os, h.tape, h.output, h.size, h.block⟩
theorem Chg.setCell {S : Nat → Prop} {a w : World} (h : Chg S a w) {p : Addr} (hp : S p.block) (u : Value) : Chg S a (w.setCell p u) :=
  h.trans (T := fun k => k = p.block) ⟨rfl, rfl, rfl, by simp [World.setCell], fun k hk hs => Below.heap_setCell _ _ _ _ hs⟩ (fun x hx _ => hx ▸ hp)
theorem Chg.mono {S T : Nat → Prop} {w w' : World} (h : Chg S w w') (hST : ∀ x, S x → x < w.heap.size → T x) : Chg T w w' :=
  ⟨h.os, h.tape, h.output, h.size, fun k hk ht => h.block k hk (fun hs => ht (hST k hs hk))⟩
theorem Chg.below {S : Nat → Prop} {B : Nat} {w w' : World} (h : Chg S w w') (hB : B ≤ w.heap.size) (hS : ∀ k, S k → B ≤ k) : Below B w w' :=
  ⟨h.os, h.tape, h.output, h.size, fun k hk => h.block k (by omega) (fun hs => by have := hS k hs; omega)⟩
theorem Chg.out {S : Nat → Prop} {w0 w w' : World} (h : Chg S w w') (ho : Out w0 w) (hS : ∀ k, S k → w0.heap.size ≤ k) : Out w0 w' :=
  Below.trans ho (h.below ho.size hS)
theorem Chg.cell {S : Nat → Prop} {w w' : World} (h : Chg S w w') {a : Addr} {v : Value} (hc : w.cell? a = some v) (hs : ¬ S a.block) : w'.cell? a = some v := by
  rw [← hc]; exact World.cell?_of_block (h.block _ (World.block_lt_of_cell? w a hc) hs)
/-- the tables -/
def Tabs (w : World) : Prop := TabA w ∧ TabO w
theorem Tabs.out {w w' : World} (h : Tabs w) (o : Out w w') : Tabs w' := ⟨h.1.out o, h.2.out o⟩

/-- a slice of instructions at an address, that reads l -/
def InsA (w : World) (a : Option Addr) (l : List Ins) : Prop :=
  l = [] ∨ ∃ b off, a = some ⟨b, off, none⟩ ∧ ∀ k x, l[k]? = some x → w.cell? ⟨b, off + k * 5, none⟩ = some (.int .i64 x.o) ∧ w.cell? ⟨b, off + k * 5 + 1, none⟩ = some (.int .i64 x.d) ∧
    w.cell? ⟨b, off + k * 5 + 2, none⟩ = some (.int .i64 x.s) ∧ w.cell? ⟨b, off + k * 5 + 3, none⟩ = some (.int .i64 x.f) ∧ w.cell? ⟨b, off + k * 5 + 4, none⟩ = some (.int .i64 x.i)
theorem InsA.out {w w' : World} {a : Option Addr} {l : List Ins} (h : InsA w a l) (o : Out w w') : InsA w' a l := by
  rcases h with h | ⟨b, off, rfl, h⟩
  · exact .inl h
  · exact .inr ⟨b, off, rfl, fun k x hx => by
      obtain ⟨h0, h1, h2, h3, h4⟩ := h k x hx
      exact ⟨cell_later o h0, cell_later o h1, cell_later o h2, cell_later o h3, cell_later o h4⟩⟩
/-- bytes at an address, that read B -/
def BytA (w : World) (a : Option Addr) (B : List Int) : Prop :=
  B = [] ∨ ∃ b off, a = some ⟨b, off, none⟩ ∧ ∀ k, k < B.length → w.cell? ⟨b, off + k, none⟩ = some (.int .u8 (gB B k))
theorem BytA.out {w w' : World} {a : Option Addr} {B : List Int} (h : BytA w a B) (o : Out w w') : BytA w' a B := by
  rcases h with h | ⟨b, off, rfl, h⟩
  · exact .inl h
  · exact .inr ⟨b, off, rfl, fun k hk => cell_later o (h k hk)⟩
def may (x : Ins) : Int := mayP x.o x.d x.s x.f x.i

theorem take_filter (l : List Ins) (k : Nat) (x : Ins) (h : l[k]? = some x) : ((l.take (k + 1)).filter (fun x => isW x.o)).length = ((l.take k).filter (fun x => isW x.o)).length + (if isW x.o then 1 else 0) := by
  rw [List.take_add_one, h]
  simp only [Option.toList_some, List.filter_append, List.length_append, List.filter_cons, List.filter_nil]
  split <;> simp
end Go.Proofs.YtcjhgihpahnnoabGreatDoor
