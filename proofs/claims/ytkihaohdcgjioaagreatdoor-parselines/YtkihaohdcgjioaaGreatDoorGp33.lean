import Derived.Test.YtkihaohdcgjioaaGreatDoorGp26
import Derived.Test.YtkihaohdcgjioaaGreatDoorGp23
import Derived.LoopN
import Derived.Test.YtkihaohdcgjioaaGreatDoorGp31
import Derived.Deep.AppendLies
import Derived.Deep.DeepCutAuto
namespace Go.Proofs.YtkihaohdcgjioaaGreatDoor
open Go.RowKit Go.Shelf
set_option linter.unusedVariables false
set_option linter.unusedSimpArgs false
attribute [local go_sem] Oper.semAt_some
theorem KC.put (W : World) (l : Nat) (o o' : Obj) (h : W.heap[l]? = some o) (hc : o.isCells = false) : KC W (W.putObj l o') := by
  refine ⟨by simp [World.putObj], fun b cs t fr hb => ?_⟩
  by_cases e : b = l
  · subst e; rw [h] at hb; cases hb; simp [Obj.isCells] at hc
  · simp only [World.putObj, Array.set!_eq_setIfInBounds]
    rw [Array.getElem?_setIfInBounds_ne (fun h => e h.symm)]; exact hb
theorem blk_kept {W W' : World} {row : Option Nat} {b : Nat} {cs : Array Value} {t : TypeId} {fr : Nat × Nat} (h : W.heap[b]? = some (.cells cs t fr)) (hg : W.grownBy W' row) (hr : ∀ r, row = some r → ∃ o : Obj, W.heap[r]? = some o ∧ o.isCells = false) : W'.heap[b]? = some (.cells cs t fr) :=
  (hg.block b (Array.getElem?_eq_some_iff.1 h).1 (fun e => by obtain ⟨o, ho, hc⟩ := hr b e.symm; rw [h] at ho; cases ho; simp [Obj.isCells] at hc)).trans h
theorem blk_alloc {W : World} {b : Nat} {cs : Array Value} {t : TypeId} {fr : Nat × Nat} (h : W.heap[b]? = some (.cells cs t fr)) (o : Obj) : (W.alloc o).heap[b]? = some (.cells cs t fr) := (Below.heap_alloc W o b (Array.getElem?_eq_some_iff.1 h).1).trans h
theorem blk_at {w : World} {b : Nat} {cs : Array Value} {t : TypeId} (h : w.heap[b]? = some (.cells cs t (0, 0))) (j : Nat) : w.cell? ⟨b, j, none⟩ = cs[j]? ∧ w.frozen? ⟨b, j, none⟩ = false := by
  constructor
  · simp [World.cell?, h]
  · simp [World.frozen?, h]
def mnC (m : Mn) : Array Value := #[.int .u8 m.1, .int .u8 m.2.1, .int .u8 m.2.2.1, .int .u8 m.2.2.2]
def MBox (w : World) (W : World) (t : List UInt8) (m : Mn) (q : Bool) : Prop := (W.heap[w.heap.size]? = some (.cells #[.string ⟨t.toArray⟩] 9 (0, 0)) ∧ W.heap[w.heap.size + 1]? = some (.cells (mnC m) 216 (0, 0)) ∧ W.heap[w.heap.size + 2]? = some (.cells #[.bool q] 4 (0, 0))) ∧ Below w.heap.size w W
theorem MBox.set5 {w W : World} {t : List UInt8} {m : Mn} {q : Bool} (h : MBox w W t m q) (o s f i : Int) (q' : Bool) : MBox w (((((W.setCell ⟨w.heap.size + 1, 0, none⟩ (.int .u8 o)).setCell ⟨w.heap.size + 1, 1, none⟩ (.int .u8 s)).setCell ⟨w.heap.size + 1, 2, none⟩ (.int .u8 f)).setCell ⟨w.heap.size + 1, 3, none⟩ (.int .u8 i)).setCell ⟨w.heap.size + 1 + 1, 0, none⟩ (.bool q')) t (o, s, f, i) q' := by
  obtain ⟨⟨h0, h1, h2⟩, hB⟩ := h
  refine ⟨⟨?_, ?_, ?_⟩, ?_⟩
  · simp [World.setCell, Array.getElem?_modify, h0]; try omega
  · simp [World.setCell, Array.getElem?_modify, h1, mnC]
  · simp [World.setCell, Array.getElem?_modify, h2]
  · exact ((((hB.setCell (p := ⟨w.heap.size + 1, 0, none⟩) (by simp) _).setCell (p := ⟨w.heap.size + 1, 1, none⟩) (by simp) _).setCell (p := ⟨w.heap.size + 1, 2, none⟩) (by simp) _).setCell (p := ⟨w.heap.size + 1, 3, none⟩) (by simp) _).setCell (p := ⟨w.heap.size + 1 + 1, 0, none⟩) (by simp; omega) _
theorem keeps5 (W : World) (a b c d e : Addr) (u v x y z : Value) : KeepsOthers W (((((W.setCell a u).setCell b v).setCell c x).setCell d y).setCell e z) :=
  ((((KeepsOthers.setCell W a u).trans (KeepsOthers.setCell _ b v)).trans (KeepsOthers.setCell _ c x)).trans (KeepsOthers.setCell _ d y)).trans (KeepsOthers.setCell _ e z)
theorem size79 : (Tryz.prog.info? 216).map (·.size) = some 4 := by kernel_rfl
def MI (w : World) (t : List UInt8) (pre : List (List UInt8 × Mn)) (W : World) : Prop := (∀ x ∈ pre, x.1 ≠ t) ∧ MBox w W t (0, 0, 0, 0) false
def MX (w : World) (t : List UInt8) (c : Code) (pre : List (List UInt8 × Mn)) (W : World) : Prop := ∃ x, (c = .ret ∧ x ∈ pre ∧ x.1 = t) ∧ MBox w W t x.2 true
theorem MBox.own {β : Type} (w : World) (t : List UInt8) (m : Mn) (q : Bool) (B : Nat) (hB : w.heap.size ≤ B) : OwnFrom B (fun (_ : β) W => MBox w W t m q) := fun s X Y row hs hg hr =>
  ⟨⟨blk_kept hs.1.1 hg (fun r e => (hr r e).2), blk_kept hs.1.2.1 hg (fun r e => (hr r e).2), blk_kept hs.1.2.2 hg (fun r e => (hr r e).2)⟩, ownFrom_below (β := β) (Nat.le_refl _) hB s X Y row hs.2 hg hr⟩
theorem MBox.put {w W : World} {t : List UInt8} {m : Mn} {q : Bool} (h : MBox w W t m q) {D : Nat} (hD : w.heap.size ≤ D) (hK : W.heap[D]? = some (.deferred (some []))) : MBox w (W.putObj D (.deferred none)) t m q :=
  MBox.own (β := Unit) w t m q w.heap.size (Nat.le_refl _) () W _ (some D) h (grownBy_putObj' _ D _) (fun r e => by cases e; exact ⟨hD, _, hK, rfl⟩)
theorem MBox.res {w W : World} {t : List UInt8} {m : Mn} {q : Bool} (h : MBox w W t m q) (tmps : Array Value) (h2 : tmps[2]?.getD undef = .pointer (some ⟨w.heap.size + 1, 0, none⟩)) (h3 : tmps[3]?.getD undef = .pointer (some ⟨w.heap.size + 1 + 1, 0, none⟩)) :
    (results Tryz.f176 tmps).run Tryz.prog W = .ok (.tuple #[mnV m, .bool q]) W := by
  have c5 : W.cell? ⟨w.heap.size + 1 + 1, 0, none⟩ = some (.bool q) := (blk_at h.1.2.2 0).1
  have k0 : W.cell? ⟨w.heap.size + 1, 0, none⟩ = some (.int .u8 m.1) := (blk_at h.1.2.1 0).1
  have k1 : W.cell? ⟨w.heap.size + 1, 1, none⟩ = some (.int .u8 m.2.1) := (blk_at h.1.2.1 1).1
  have k2 : W.cell? ⟨w.heap.size + 1, 2, none⟩ = some (.int .u8 m.2.2.1) := (blk_at h.1.2.1 2).1
  have k3 : W.cell? ⟨w.heap.size + 1, 3, none⟩ = some (.int .u8 m.2.2.2) := (blk_at h.1.2.1 3).1
  simp [results, Tryz.f176, asAddr, h2, h3, go_sem, k0, k1, k2, k3, c5, Sem.run_bind, Result.andThen, mnV]
set_option maxRecDepth 40000 in
set_option maxHeartbeats 4000000 in
theorem meaning_in (F : Fence) (hd : F.depth = none) (hro : F.round = none) (h66 : F.fn 221) (h105 : F.fn 240) (hm : F.fn 176) (n N : Nat) (hn : 3 ≤ n) (w : World) (t : List UInt8)
    (hseq : ∀ w0 : World, Below w.heap.size w w0 → SeqStopsK F (n - 1) Tryz.prog 221 #[] encM KC (fun ys => ys = live mnAll) (fun pre => pre <+: live mnAll) N w0) :
    CallsIn F n Tryz.prog 176 #[.string ⟨t.toArray⟩] w fun e W' => ((∃ x, x ∈ live mnAll ∧ x.1 = t ∧ e = .returned (.tuple #[mnV x.2, .bool true])) ∨ ((∀ x ∈ live mnAll, x.1 ≠ t) ∧ e = .returned (.tuple #[mnV (0, 0, 0, 0), .bool false]))) ∧ Below w.heap.size w W' := by
  have h1 : 1 ≤ n := by omega
  refine callsIn_of_wp_marks Tryz.func176 rfl hm ?_ hro
  simp only [Tryz.ntmps176, List.size_toArray, List.length_cons, List.length_nil, Nat.reduceAdd, Nat.reduceSub, Array.replicate_succ, Array.replicate_zero, List.push_toArray, List.append_toArray, List.nil_append, List.cons_append]
  gi_wp2
  obtain ⟨W0, hW0⟩ : ∃ W0, ((w.alloc (.cells #[.string ⟨t.toArray⟩] 9)).alloc (.cells #[.int .u8 0, .int .u8 0, .int .u8 0, .int .u8 0] 216)).alloc (.cells #[.bool false] 4) = W0 := ⟨_, rfl⟩
  have hB0 : Below w.heap.size w W0 := by rw [← hW0]; exact (((Below.refl _ w).alloc (Nat.le_refl _) _).alloc (by simp) _).alloc (by simp; omega) _
  have hsz : W0.heap.size = w.heap.size + 3 := by rw [← hW0]; simp
  have hM0 : MBox w W0 t (0, 0, 0, 0) false := by
    refine ⟨⟨?_, ?_, ?_⟩, hB0⟩
    · rw [← hW0]; exact blk_alloc (blk_alloc (heap_alloc_new w _) _) _
    · rw [← hW0]; have := heap_alloc_new (w.alloc (.cells #[.string ⟨t.toArray⟩] 9)) (.cells #[.int .u8 0, .int .u8 0, .int .u8 0, .int .u8 0] 216); rw [World.size_alloc] at this; exact blk_alloc this _
    · rw [← hW0]; have := heap_alloc_new ((w.alloc (.cells #[.string ⟨t.toArray⟩] 9)).alloc (.cells #[.int .u8 0, .int .u8 0, .int .u8 0, .int .u8 0] 216)) (.cells #[.bool false] 4); rw [World.size_alloc, World.size_alloc] at this; exact this
  rw [hW0]
  clear hW0
  refine wpIn_rangeFunc_ownH hro h1 (gf := 221) (lb := #[]) rfl h66 (enters_of Tryz.func221 (by kernel_rfl) rfl)
    (hseq W0 hB0) KC.trans (fun W l o o' _ h hc _ => KC.put W l o o' h hc) (Below.refl _ _) (fun _ => rfl)
    (MI w t) (MX w t)
    (OwnFrom.and (ownFrom_pure _ _) (MBox.own w t _ _ _ (by omega)))
    (fun c s X Y row hs hg hr => by obtain ⟨x, hx, hm⟩ := hs; exact ⟨x, hx, MBox.own w t x.2 true _ (by omega) s X Y row hm hg hr⟩)
    ⟨by simp, hM0⟩
    (fun x a' W => ∃ Bx, w.heap.size + 2 < Bx ∧ W.heap[Bx]? = some (.cells (mnC x.2) 216 (0, 0)) ∧ a' = { tmps := #[.string ⟨t.toArray⟩, .pointer (some ⟨w.heap.size, 0, none⟩), .pointer (some ⟨w.heap.size + 1, 0, none⟩), .pointer (some ⟨w.heap.size + 1 + 1, 0, none⟩), .string ⟨x.1.toArray⟩, .pointer (some ⟨Bx, 0, none⟩), .string ⟨x.1.toArray⟩, mnV x.2, undef, undef, undef, undef, undef], defers := [] })
    (fun x a' _ X Y row hs hg hr => by obtain ⟨Bx, e1, e2, e3⟩ := hs; exact ⟨Bx, e1, blk_kept e2 hg (fun r e => (hr r e).2), e3⟩)
    ?assign ?body ?done ?stop
  case assign =>
    rintro l pre ⟨k, o, s, f, i⟩ W K ⟨hp, hM⟩ hK
    simp only [encM, mnV]
    gi_wp2
    exact hK _ _ ((KeepsOthers.alloc _ _).from _) (KC.alloc _ _) ⟨hp, ⟨blk_alloc hM.1.1 _, blk_alloc hM.1.2.1 _, blk_alloc hM.1.2.2 _⟩, hM.2.alloc hM.2.size _⟩ ⟨W.heap.size, (Array.getElem?_eq_some_iff.1 hM.1.2.2).1, heap_alloc_new W _, rfl⟩
  case body =>
    rintro l pre ⟨k, o, s, f, i⟩ a' W hl ⟨r, hr⟩ ⟨hp, hM⟩ ⟨Bx, hBx, bX, rfl⟩ hlt
    have cw : W.cell? ⟨w.heap.size, 0, none⟩ = some (.string ⟨t.toArray⟩) := (blk_at hM.1.1 0).1
    have x0 : W.cell? ⟨Bx, 0, none⟩ = some (.int .u8 o) := (blk_at bX 0).1
    have x1 : W.cell? ⟨Bx, 1, none⟩ = some (.int .u8 s) := (blk_at bX 1).1
    have x2 : W.cell? ⟨Bx, 2, none⟩ = some (.int .u8 f) := (blk_at bX 2).1
    have x3 : W.cell? ⟨Bx, 3, none⟩ = some (.int .u8 i) := (blk_at bX 3).1
    have c0 : W.cell? ⟨w.heap.size + 1, 0, none⟩ = some (.int .u8 0) := (blk_at hM.1.2.1 0).1
    have c1 : W.cell? ⟨w.heap.size + 1, 1, none⟩ = some (.int .u8 0) := (blk_at hM.1.2.1 1).1
    have c2 : W.cell? ⟨w.heap.size + 1, 2, none⟩ = some (.int .u8 0) := (blk_at hM.1.2.1 2).1
    have c3 : W.cell? ⟨w.heap.size + 1, 3, none⟩ = some (.int .u8 0) := (blk_at hM.1.2.1 3).1
    have f0 := (blk_at hM.1.2.1 0).2
    have f1 := (blk_at hM.1.2.1 1).2
    have f2 := (blk_at hM.1.2.1 2).2
    have f3 := (blk_at hM.1.2.1 3).2
    have cb : W.cell? ⟨w.heap.size + 1 + 1, 0, none⟩ = some (.bool false) := (blk_at hM.1.2.2 0).1
    have fb : W.frozen? ⟨w.heap.size + 1 + 1, 0, none⟩ = false := (blk_at hM.1.2.2 0).2
    gi_wp2
    · rename_i hkt
      exact ⟨(keeps5 _ _ _ _ _ _ _ _ _ _ _).from _, (k, o, s, f, i), ⟨rfl, List.mem_append.2 (.inr (by simp)), eq_of_beq hkt⟩, hM.set5 o s f i true⟩
    · rename_i hkt
      exact ⟨KeepsFrom.refl _ _, KC.refl _, fun y hy => (List.mem_append.1 hy).elim (hp y) (fun e e' => by simp at e; subst e; simp at hkt; exact hkt e'), hM⟩
  case done =>
    rintro D zs W hD rfl ⟨hp, hM⟩ hK
    have c0 : W.cell? ⟨w.heap.size + 1, 0, none⟩ = some (.int .u8 0) := (blk_at hM.1.2.1 0).1
    have c1 : W.cell? ⟨w.heap.size + 1, 1, none⟩ = some (.int .u8 0) := (blk_at hM.1.2.1 1).1
    have c2 : W.cell? ⟨w.heap.size + 1, 2, none⟩ = some (.int .u8 0) := (blk_at hM.1.2.1 2).1
    have c3 : W.cell? ⟨w.heap.size + 1, 3, none⟩ = some (.int .u8 0) := (blk_at hM.1.2.1 3).1
    have f0 := (blk_at hM.1.2.1 0).2
    have f1 := (blk_at hM.1.2.1 1).2
    have f2 := (blk_at hM.1.2.1 2).2
    have f3 := (blk_at hM.1.2.1 3).2
    have cb : W.cell? ⟨w.heap.size + 1 + 1, 0, none⟩ = some (.bool false) := (blk_at hM.1.2.2 0).1
    have fb : W.frozen? ⟨w.heap.size + 1 + 1, 0, none⟩ = false := (blk_at hM.1.2.2 0).2
    gi_wp2
    have hM' := hM.set5 0 0 0 0 false
    have hK' := (keeps5 W ⟨w.heap.size + 1, 0, none⟩ ⟨w.heap.size + 1, 1, none⟩ ⟨w.heap.size + 1, 2, none⟩ ⟨w.heap.size + 1, 3, none⟩ ⟨w.heap.size + 1 + 1, 0, none⟩ (.int .u8 0) (.int .u8 0) (.int .u8 0) (.int .u8 0) (.bool false)).same D _ hK rfl
    have hP := hM'.put (D := D) (by omega) hK'
    refine ⟨by simp, .inl ⟨_, _, rfl, run_takeDeferred hK', ?_⟩⟩
    exact ⟨_, hP.res _ rfl rfl, .inr ⟨hp, rfl⟩, hP.2⟩
  case stop =>
    rintro D c pre W hD hpre ⟨x, ⟨rfl, hx, hxt⟩, hM⟩ hK
    gi_wp2
    have hP := hM.put (D := D) (by omega) hK
    refine ⟨by simp, .inl ⟨_, _, rfl, run_takeDeferred hK, ?_⟩⟩
    exact ⟨_, hP.res _ rfl rfl, .inl ⟨x, hpre.subset hx, hxt, rfl⟩, hP.2⟩
end Go.Proofs.YtkihaohdcgjioaaGreatDoor
namespace Go.Proofs.YtkihaohdcgjioaaGreatDoor
open Go.RowKit
set_option linter.unusedVariables false
set_option linter.unusedSimpArgs false
theorem opds_rng (c s f : Int) (u : Bool) : (1 ≤ (opdsP c s f u).1 ∧ (opdsP c s f u).1 ≤ 8 ∨ (opdsP c s f u).1 = 0) ∧ (1 ≤ (opdsP c s f u).2.1 ∧ (opdsP c s f u).2.1 ≤ 8 ∨ (opdsP c s f u).2.1 = 0) ∧ (1 ≤ (opdsP c s f u).2.2 ∧ (opdsP c s f u).2.2 ≤ 8 ∨ (opdsP c s f u).2.2 = 0) := by
  unfold opdsP
  repeat' split
  all_goals decide
theorem idx3_0 (a b c : Int) (w : World) : (Instr.index 133 (.agg #[.int .u8 a, .int .u8 b, .int .u8 c]) (.int .i64 0)).run Tryz.prog w = .ok (.int .u8 a) w := by kernel_rfl
theorem idx3_1 (a b c : Int) (w : World) : (Instr.index 133 (.agg #[.int .u8 a, .int .u8 b, .int .u8 c]) (.int .i64 1)).run Tryz.prog w = .ok (.int .u8 b) w := by kernel_rfl
theorem idx3_2 (a b c : Int) (w : World) : (Instr.index 133 (.agg #[.int .u8 a, .int .u8 b, .int .u8 c]) (.int .i64 2)).run Tryz.prog w = .ok (.int .u8 c) w := by kernel_rfl
theorem tok_empty (l : List UInt8) : (⟨l.toArray⟩ : ByteArray).toList.isEmpty = l.isEmpty := by rw [mk_list]
theorem opds_at (w : World) (r : RS) (hO : TabO w) (hf : (formP r.o == 0) = false) : Calls Tryz.prog 85 #[.agg #[.int .i64 r.o, .int .i64 r.d, .int .i64 r.s, .int .i64 r.f, .int .i64 r.i]] w fun e w' => e = .returned (.agg #[.int .u8 (tOf r.o r.s r.f).1, .int .u8 (tOf r.o r.s r.f).2.1, .int .u8 (tOf r.o r.s r.f).2.2]) ∧ Out w w' :=
  opds_all r.o r.d r.s r.f r.i _ _ _ _ _ _ w (hidOf fun wx ho => info_ok_out r.o wx (hO.out ho) hf)
set_option maxRecDepth 20000 in
set_option maxHeartbeats 1600000 in
theorem operands_0 (w0 w : World) (p : Nat) (HR : Hid (Rdr w0 p w)) (r : RS) (h : RdAt w p r.cells) (hs : Sm r) (a b c : Int) (ha : a = 0) (CO : Hid (Calls Tryz.prog 85 #[.agg #[.int .i64 r.o, .int .i64 r.d, .int .i64 r.s, .int .i64 r.f, .int .i64 r.i]] w fun e w' => e = .returned (.agg #[.int .u8 a, .int .u8 b, .int .u8 c]) ∧ Out w w')) : Calls Tryz.prog 179 #[.pointer (some ⟨p, 0, none⟩)] w fun e w' => (∃ v, e = .returned v) ∧ MEnd p { r with wrong := r.wrong || !r.tok.isEmpty } w w' := by
  have d2 := (MEnd.refl h).co.1
  have d3 := (MEnd.refl h).cd.1
  have d4 := (MEnd.refl h).cs.1
  have d5 := (MEnd.refl h).cf.1
  have d6 := (MEnd.refl h).ci.1
  have H0 : Hid (∀ w1, Out w w1 → MEnd p r w w1) := fun w1 ho => ⟨h.below ho, Chg.of_out ho⟩
  subst ha
  clear h hs HR 
  have hx0 : ∀ w : World, (Instr.index 133 (.agg #[.int .u8 0, .int .u8 b, .int .u8 c]) (.int .i64 0)).run Tryz.prog w = .ok (.int .u8 0) w := fun w => idx3_0 _ _ _ w
  have hx1 : ∀ w : World, (Instr.index 133 (.agg #[.int .u8 0, .int .u8 b, .int .u8 c]) (.int .i64 1)).run Tryz.prog w = .ok (.int .u8 b) w := fun w => idx3_1 _ _ _ w
  have hx2 : ∀ w : World, (Instr.index 133 (.agg #[.int .u8 0, .int .u8 b, .int .u8 c]) (.int .i64 2)).run Tryz.prog w = .ok (.int .u8 c) w := fun w => idx3_2 _ _ _ w
  go_enter Tryz.func179, Tryz.ntmps179
  go_wp2_with (go_at_call 85; refine CO.out.mono ?_; rintro e w1 ⟨rfl, ho1⟩; have hm := H0.out _ ho1; have d8w1 := hm.cw.1; have f8w1 := hm.cw.2; have d1w1 := hm.ct; have M0 := hidOf hm; clear hm ho1)
  refine wp_loop_rounds 4 ?_
  rw [rounds_succ]
  go_wp2
  all_goals (go_end0; first | exact ⟨⟨_, rfl⟩, M0.out.set 8 _ (by rw [show r.wrong = true from ‹_›]; rfl)⟩ | exact ⟨⟨_, rfl⟩, M0.out.set 8 _ (by rw [show r.wrong = false from by simpa using ‹¬ r.wrong = true›]; rfl)⟩)
set_option maxRecDepth 20000 in
set_option maxHeartbeats 1600000 in
theorem operands_1 (w0 w : World) (p : Nat) (HR : Hid (Rdr w0 p w)) (r : RS) (h : RdAt w p r.cells) (hs : Sm r) (a b c : Int) (ha : 1 ≤ a ∧ a ≤ 8) (hb : b = 0) (CO : Hid (Calls Tryz.prog 85 #[.agg #[.int .i64 r.o, .int .i64 r.d, .int .i64 r.s, .int .i64 r.f, .int .i64 r.i]] w fun e w' => e = .returned (.agg #[.int .u8 a, .int .u8 b, .int .u8 c]) ∧ Out w w')) : Calls Tryz.prog 179 #[.pointer (some ⟨p, 0, none⟩)] w fun e w' => (∃ v, e = .returned v) ∧ MEnd p { (opS a r) with wrong := (opS a r).wrong || !(opS a r).tok.isEmpty } w w' := by
  have d2 := (MEnd.refl h).co.1
  have d3 := (MEnd.refl h).cd.1
  have d4 := (MEnd.refl h).cs.1
  have d5 := (MEnd.refl h).cf.1
  have d6 := (MEnd.refl h).ci.1
  have H0 : Hid (∀ w1, Out w w1 → MEnd p r w w1) := fun w1 ho => ⟨h.below ho, Chg.of_out ho⟩
  have CP0 : Hid (∀ wx, MEnd p r w wx → Calls Tryz.prog 224 #[.pointer (some ⟨p, 0, none⟩), .int .u8 a] wx fun e w' => (∃ v, e = .returned v) ∧ MEnd p (opS a r) w w') := operandM w0 w p HR.out r hs a ha
  have hso0 := hs.opS a
  generalize opS a r = ro0 at *
  have za : (a == 0) = false := by simp only [beq_eq_false_iff_ne]; omega
  subst hb
  clear h hs HR hso0 ha
  have hx0 : ∀ w : World, (Instr.index 133 (.agg #[.int .u8 a, .int .u8 0, .int .u8 c]) (.int .i64 0)).run Tryz.prog w = .ok (.int .u8 a) w := fun w => idx3_0 _ _ _ w
  have hx1 : ∀ w : World, (Instr.index 133 (.agg #[.int .u8 a, .int .u8 0, .int .u8 c]) (.int .i64 1)).run Tryz.prog w = .ok (.int .u8 0) w := fun w => idx3_1 _ _ _ w
  have hx2 : ∀ w : World, (Instr.index 133 (.agg #[.int .u8 a, .int .u8 0, .int .u8 c]) (.int .i64 2)).run Tryz.prog w = .ok (.int .u8 c) w := fun w => idx3_2 _ _ _ w
  go_enter Tryz.func179, Tryz.ntmps179
  go_wp2_with (go_at_call 85; refine CO.out.mono ?_; rintro e w1 ⟨rfl, ho1⟩; have hm := H0.out _ ho1; have d8w1 := hm.cw.1; have f8w1 := hm.cw.2; have d1w1 := hm.ct; have M0 := hidOf hm; clear hm ho1)
  refine wp_loop_rounds 4 ?_
  rw [rounds_succ]
  go_wp2_with (first | (go_at_call 224; refine (CP0.out _ M0.out).mono ?_; rintro e wo0 ⟨⟨vwo0, rfl⟩, hm⟩; have d8wo0 := hm.cw.1; have f8wo0 := hm.cw.2; have d1wo0 := hm.ct; have MO0 := hidOf hm; clear hm))
  rw [rounds_succ]
  go_wp2
  all_goals (go_end0; first | exact ⟨⟨_, rfl⟩, MO0.out.set 8 _ (by rw [show ro0.wrong = true from ‹_›]; rfl)⟩ | exact ⟨⟨_, rfl⟩, MO0.out.set 8 _ (by rw [show ro0.wrong = false from by simpa using ‹¬ ro0.wrong = true›]; rfl)⟩)
set_option maxRecDepth 20000 in
set_option maxHeartbeats 1600000 in
theorem operands_2 (w0 w : World) (p : Nat) (HR : Hid (Rdr w0 p w)) (r : RS) (h : RdAt w p r.cells) (hs : Sm r) (a b c : Int) (ha : 1 ≤ a ∧ a ≤ 8) (hb : 1 ≤ b ∧ b ≤ 8) (hc : c = 0) (CO : Hid (Calls Tryz.prog 85 #[.agg #[.int .i64 r.o, .int .i64 r.d, .int .i64 r.s, .int .i64 r.f, .int .i64 r.i]] w fun e w' => e = .returned (.agg #[.int .u8 a, .int .u8 b, .int .u8 c]) ∧ Out w w')) : Calls Tryz.prog 179 #[.pointer (some ⟨p, 0, none⟩)] w fun e w' => (∃ v, e = .returned v) ∧ MEnd p { (opS b (markS [44] (opS a r))) with wrong := (opS b (markS [44] (opS a r))).wrong || !(opS b (markS [44] (opS a r))).tok.isEmpty } w w' := by
  have d2 := (MEnd.refl h).co.1
  have d3 := (MEnd.refl h).cd.1
  have d4 := (MEnd.refl h).cs.1
  have d5 := (MEnd.refl h).cf.1
  have d6 := (MEnd.refl h).ci.1
  have H0 : Hid (∀ w1, Out w w1 → MEnd p r w w1) := fun w1 ho => ⟨h.below ho, Chg.of_out ho⟩
  have CP0 : Hid (∀ wx, MEnd p r w wx → Calls Tryz.prog 224 #[.pointer (some ⟨p, 0, none⟩), .int .u8 a] wx fun e w' => (∃ v, e = .returned v) ∧ MEnd p (opS a r) w w') := operandM w0 w p HR.out r hs a ha
  have hso0 := hs.opS a
  generalize opS a r = ro0 at *
  have za : (a == 0) = false := by simp only [beq_eq_false_iff_ne]; omega
  have CM1 : Hid (∀ wx, MEnd p ro0 w wx → Calls Tryz.prog 223 #[.pointer (some ⟨p, 0, none⟩), .string ⟨#[44]⟩] wx fun e w' => (∃ v, e = .returned v) ∧ MEnd p (markS [44] ro0) w w') := markM w p ro0 [44] hso0
  have hsm1 := hso0.mark [44]
  generalize markS [44] ro0 = rm1 at *
  have CP1 : Hid (∀ wx, MEnd p rm1 w wx → Calls Tryz.prog 224 #[.pointer (some ⟨p, 0, none⟩), .int .u8 b] wx fun e w' => (∃ v, e = .returned v) ∧ MEnd p (opS b rm1) w w') := operandM w0 w p HR.out rm1 hsm1 b hb
  have hso1 := hsm1.opS b
  generalize opS b rm1 = ro1 at *
  have zb : (b == 0) = false := by simp only [beq_eq_false_iff_ne]; omega
  subst hc
  clear h hs HR hsm1 hso0 hso1 ha hb
  have hx0 : ∀ w : World, (Instr.index 133 (.agg #[.int .u8 a, .int .u8 b, .int .u8 0]) (.int .i64 0)).run Tryz.prog w = .ok (.int .u8 a) w := fun w => idx3_0 _ _ _ w
  have hx1 : ∀ w : World, (Instr.index 133 (.agg #[.int .u8 a, .int .u8 b, .int .u8 0]) (.int .i64 1)).run Tryz.prog w = .ok (.int .u8 b) w := fun w => idx3_1 _ _ _ w
  have hx2 : ∀ w : World, (Instr.index 133 (.agg #[.int .u8 a, .int .u8 b, .int .u8 0]) (.int .i64 2)).run Tryz.prog w = .ok (.int .u8 0) w := fun w => idx3_2 _ _ _ w
  go_enter Tryz.func179, Tryz.ntmps179
  go_wp2_with (go_at_call 85; refine CO.out.mono ?_; rintro e w1 ⟨rfl, ho1⟩; have hm := H0.out _ ho1; have d8w1 := hm.cw.1; have f8w1 := hm.cw.2; have d1w1 := hm.ct; have M0 := hidOf hm; clear hm ho1)
  refine wp_loop_rounds 4 ?_
  rw [rounds_succ]
  go_wp2_with (first | (go_at_call 224; refine (CP0.out _ M0.out).mono ?_; rintro e wo0 ⟨⟨vwo0, rfl⟩, hm⟩; have d8wo0 := hm.cw.1; have f8wo0 := hm.cw.2; have d1wo0 := hm.ct; have MO0 := hidOf hm; clear hm))
  rw [rounds_succ]
  go_wp2_with (first | (go_at_call 224; refine (CP1.out _ MM1.out).mono ?_; rintro e wo1 ⟨⟨vwo1, rfl⟩, hm⟩; have d8wo1 := hm.cw.1; have f8wo1 := hm.cw.2; have d1wo1 := hm.ct; have MO1 := hidOf hm; clear hm) | (go_at_call 223; refine (CM1.out _ MO0.out).mono ?_; rintro e wm1 ⟨⟨vwm1, rfl⟩, hm⟩; have MM1 := hidOf hm; clear hm))
  rw [rounds_succ]
  go_wp2
  all_goals (go_end0; first | exact ⟨⟨_, rfl⟩, MO1.out.set 8 _ (by rw [show ro1.wrong = true from ‹_›]; rfl)⟩ | exact ⟨⟨_, rfl⟩, MO1.out.set 8 _ (by rw [show ro1.wrong = false from by simpa using ‹¬ ro1.wrong = true›]; rfl)⟩)
set_option maxRecDepth 20000 in
set_option maxHeartbeats 1600000 in
theorem operands_3 (w0 w : World) (p : Nat) (HR : Hid (Rdr w0 p w)) (r : RS) (h : RdAt w p r.cells) (hs : Sm r) (a b c : Int) (ha : 1 ≤ a ∧ a ≤ 8) (hb : 1 ≤ b ∧ b ≤ 8) (hc : 1 ≤ c ∧ c ≤ 8) (CO : Hid (Calls Tryz.prog 85 #[.agg #[.int .i64 r.o, .int .i64 r.d, .int .i64 r.s, .int .i64 r.f, .int .i64 r.i]] w fun e w' => e = .returned (.agg #[.int .u8 a, .int .u8 b, .int .u8 c]) ∧ Out w w')) : Calls Tryz.prog 179 #[.pointer (some ⟨p, 0, none⟩)] w fun e w' => (∃ v, e = .returned v) ∧ MEnd p { (opS c (markS [44] (opS b (markS [44] (opS a r))))) with wrong := (opS c (markS [44] (opS b (markS [44] (opS a r))))).wrong || !(opS c (markS [44] (opS b (markS [44] (opS a r))))).tok.isEmpty } w w' := by
  have d2 := (MEnd.refl h).co.1
  have d3 := (MEnd.refl h).cd.1
  have d4 := (MEnd.refl h).cs.1
  have d5 := (MEnd.refl h).cf.1
  have d6 := (MEnd.refl h).ci.1
  have H0 : Hid (∀ w1, Out w w1 → MEnd p r w w1) := fun w1 ho => ⟨h.below ho, Chg.of_out ho⟩
  have CP0 : Hid (∀ wx, MEnd p r w wx → Calls Tryz.prog 224 #[.pointer (some ⟨p, 0, none⟩), .int .u8 a] wx fun e w' => (∃ v, e = .returned v) ∧ MEnd p (opS a r) w w') := operandM w0 w p HR.out r hs a ha
  have hso0 := hs.opS a
  generalize opS a r = ro0 at *
  have za : (a == 0) = false := by simp only [beq_eq_false_iff_ne]; omega
  have CM1 : Hid (∀ wx, MEnd p ro0 w wx → Calls Tryz.prog 223 #[.pointer (some ⟨p, 0, none⟩), .string ⟨#[44]⟩] wx fun e w' => (∃ v, e = .returned v) ∧ MEnd p (markS [44] ro0) w w') := markM w p ro0 [44] hso0
  have hsm1 := hso0.mark [44]
  generalize markS [44] ro0 = rm1 at *
  have CP1 : Hid (∀ wx, MEnd p rm1 w wx → Calls Tryz.prog 224 #[.pointer (some ⟨p, 0, none⟩), .int .u8 b] wx fun e w' => (∃ v, e = .returned v) ∧ MEnd p (opS b rm1) w w') := operandM w0 w p HR.out rm1 hsm1 b hb
  have hso1 := hsm1.opS b
  generalize opS b rm1 = ro1 at *
  have zb : (b == 0) = false := by simp only [beq_eq_false_iff_ne]; omega
  have CM2 : Hid (∀ wx, MEnd p ro1 w wx → Calls Tryz.prog 223 #[.pointer (some ⟨p, 0, none⟩), .string ⟨#[44]⟩] wx fun e w' => (∃ v, e = .returned v) ∧ MEnd p (markS [44] ro1) w w') := markM w p ro1 [44] hso1
  have hsm2 := hso1.mark [44]
  generalize markS [44] ro1 = rm2 at *
  have CP2 : Hid (∀ wx, MEnd p rm2 w wx → Calls Tryz.prog 224 #[.pointer (some ⟨p, 0, none⟩), .int .u8 c] wx fun e w' => (∃ v, e = .returned v) ∧ MEnd p (opS c rm2) w w') := operandM w0 w p HR.out rm2 hsm2 c hc
  have hso2 := hsm2.opS c
  generalize opS c rm2 = ro2 at *
  have zc : (c == 0) = false := by simp only [beq_eq_false_iff_ne]; omega
  clear h hs HR hsm1 hsm2 hso0 hso1 hso2 ha hb hc
  have hx0 : ∀ w : World, (Instr.index 133 (.agg #[.int .u8 a, .int .u8 b, .int .u8 c]) (.int .i64 0)).run Tryz.prog w = .ok (.int .u8 a) w := fun w => idx3_0 _ _ _ w
  have hx1 : ∀ w : World, (Instr.index 133 (.agg #[.int .u8 a, .int .u8 b, .int .u8 c]) (.int .i64 1)).run Tryz.prog w = .ok (.int .u8 b) w := fun w => idx3_1 _ _ _ w
  have hx2 : ∀ w : World, (Instr.index 133 (.agg #[.int .u8 a, .int .u8 b, .int .u8 c]) (.int .i64 2)).run Tryz.prog w = .ok (.int .u8 c) w := fun w => idx3_2 _ _ _ w
  go_enter Tryz.func179, Tryz.ntmps179
  go_wp2_with (go_at_call 85; refine CO.out.mono ?_; rintro e w1 ⟨rfl, ho1⟩; have hm := H0.out _ ho1; have d8w1 := hm.cw.1; have f8w1 := hm.cw.2; have d1w1 := hm.ct; have M0 := hidOf hm; clear hm ho1)
  refine wp_loop_rounds 4 ?_
  rw [rounds_succ]
  go_wp2_with (first | (go_at_call 224; refine (CP0.out _ M0.out).mono ?_; rintro e wo0 ⟨⟨vwo0, rfl⟩, hm⟩; have d8wo0 := hm.cw.1; have f8wo0 := hm.cw.2; have d1wo0 := hm.ct; have MO0 := hidOf hm; clear hm))
  rw [rounds_succ]
  go_wp2_with (first | (go_at_call 224; refine (CP1.out _ MM1.out).mono ?_; rintro e wo1 ⟨⟨vwo1, rfl⟩, hm⟩; have d8wo1 := hm.cw.1; have f8wo1 := hm.cw.2; have d1wo1 := hm.ct; have MO1 := hidOf hm; clear hm) | (go_at_call 223; refine (CM1.out _ MO0.out).mono ?_; rintro e wm1 ⟨⟨vwm1, rfl⟩, hm⟩; have MM1 := hidOf hm; clear hm))
  rw [rounds_succ]
  go_wp2_with (first | (go_at_call 224; refine (CP2.out _ MM2.out).mono ?_; rintro e wo2 ⟨⟨vwo2, rfl⟩, hm⟩; have d8wo2 := hm.cw.1; have f8wo2 := hm.cw.2; have d1wo2 := hm.ct; have MO2 := hidOf hm; clear hm) | (go_at_call 223; refine (CM2.out _ MO1.out).mono ?_; rintro e wm2 ⟨⟨vwm2, rfl⟩, hm⟩; have MM2 := hidOf hm; clear hm))
  rw [rounds_succ]
  go_wp2
  all_goals (go_end0; first | exact ⟨⟨_, rfl⟩, MO2.out.set 8 _ (by rw [show ro2.wrong = true from ‹_›]; rfl)⟩ | exact ⟨⟨_, rfl⟩, MO2.out.set 8 _ (by rw [show ro2.wrong = false from by simpa using ‹¬ ro2.wrong = true›]; rfl)⟩)
theorem operands_any (w0 w : World) (p : Nat) (HR : Hid (Rdr w0 p w)) (r : RS) (h : RdAt w p r.cells) (hs : Sm r) (hf : (formP r.o == 0) = false) : Calls Tryz.prog 179 #[.pointer (some ⟨p, 0, none⟩)] w fun e w' => (∃ v, e = .returned v) ∧ MEnd p (opsS (tOf r.o r.s r.f) r) w w' := by
  have CO := hidOf (opds_at w r ((HR.out.1.out HR.out.2.1).2.2.2) hf)
  have hrng : (1 ≤ (tOf r.o r.s r.f).1 ∧ (tOf r.o r.s r.f).1 ≤ 8 ∨ (tOf r.o r.s r.f).1 = 0) ∧ (1 ≤ (tOf r.o r.s r.f).2.1 ∧ (tOf r.o r.s r.f).2.1 ≤ 8 ∨ (tOf r.o r.s r.f).2.1 = 0) ∧ (1 ≤ (tOf r.o r.s r.f).2.2 ∧ (tOf r.o r.s r.f).2.2 ≤ 8 ∨ (tOf r.o r.s r.f).2.2 = 0) := opds_rng _ _ _ _
  generalize tOf r.o r.s r.f = t at *
  obtain ⟨a, b, c⟩ := t
  obtain ⟨ha, hb, hc⟩ := hrng
  simp only at ha hb hc CO
  unfold opsS opdL
  simp only
  rcases ha with ha | ha
  · rw [if_neg (show ¬ a = 0 by omega)]
    rcases hb with hb | hb
    · rw [if_neg (show ¬ b = 0 by omega)]
      rcases hc with hc | hc
      · rw [if_neg (show ¬ c = 0 by omega)]
        exact operands_3 w0 w p HR r h hs a b c ha hb hc CO
      · rw [if_pos hc]
        exact operands_2 w0 w p HR r h hs a b c ha hb hc CO
    · rw [if_pos hb]
      exact operands_1 w0 w p HR r h hs a b c ha hb CO
  · rw [if_pos ha]
    exact operands_0 w0 w p HR r h hs a b c ha CO
end Go.Proofs.YtkihaohdcgjioaaGreatDoor
namespace Go.Proofs.YtkihaohdcgjioaaGreatDoor
open Go.RowKit
set_option linter.unusedVariables false
set_option linter.unusedSimpArgs false
/-- the cells of a statement -/
def stL (x : Stm) (wv nv : Value) : List Value := [.int .i64 x.k, .string ⟨x.nm.toArray⟩, wv, nv, .int .i64 x.o, .int .i64 x.d, .int .i64 x.s, .int .i64 x.f, .int .i64 x.i, .string ⟨x.tg.toArray⟩, .int .i64 x.l]
def stC (Y : List (Stm × Value × Value)) : List Value := Y.flatMap fun y => stL y.1 y.2.1 y.2.2
theorem stC_snoc (Y : List (Stm × Value × Value)) (y : Stm × Value × Value) : stC (Y ++ [y]) = stC Y ++ stL y.1 y.2.1 y.2.2 := by simp [stC]
/-- statements in a list of their own, with their lists -/
structure OwQ (B : Nat) (sv : Value) (L : List Stm) (w : World) : Prop where
  ex : ∃ Y : List (Stm × Value × Value), Y.map (fun y => y.1) = L ∧ w.ownsRow B 60 11 sv L.length (stC Y) ∧ ∀ y ∈ Y, LsOk B w y.1 y.2.1 y.2.2
theorem OwQ.out {B : Nat} {sv : Value} {L : List Stm} {w w' : World} (h : OwQ B sv L w) (o : Out w w') : OwQ B sv L w' := by
  obtain ⟨Y, h1, h2, h3⟩ := h.ex
  exact ⟨Y, h1, owns_chg (S := fun _ => False) h2 (fun _ _ h => h) (Chg.of_out o), fun y hy => (h3 y hy).out o⟩
theorem OwQ.atp {B p : Nat} {sv tv mv sv' : Value} {L : List Stm} {w w' : World} (h : OwQ B sv L w) (hR : RB w p tv mv sv') (c : Chg (fun b => b = p) w w') : OwQ B sv L w' := by
  obtain ⟨Y, h1, h2, h3⟩ := h.ex
  exact ⟨Y, h1, owns_chg h2 (fun k hk e => own_kind h2 hR (by decide) (by rw [← e]; exact hk)) c, fun y hy => (h3 y hy).atp hR c⟩
theorem OwQ.nil (B : Nat) (w : World) : OwQ B (.slice none 0 0) [] w := ⟨[], rfl, World.ownsRow_nil _ _ _ _, fun y hy => by cases hy⟩
theorem infoSt : (Tryz.prog.info? 60).map (fun i => (i.zero, i.size, i.bytes)) = some (some (.agg #[.int .i64 0, .string ⟨#[]⟩, .slice none 0 0, .slice none 0 0, .int .i64 0, .int .i64 0, .int .i64 0, .int .i64 0, .int .i64 0, .string ⟨#[]⟩, .int .i64 0]), 11, 136) := by kernel_rfl
theorem PS.rb {B : Nat} {w : World} {p g mb : Nat} {sv : Value} {ts : List Lx.Tk} (h : PS B w p g mb sv ts) : ∃ tv, RB w p tv (.map (some mb)) sv := by
  obtain ⟨off, cap, hr, _⟩ := h.st
  exact ⟨_, hr⟩
/-- a statement more -/
theorem PS.push {B : Nat} {w wA w8 : World} {p g mb n cap gs : Nat} {sv : Value} {ts : List Lx.Tk} {L : List Stm} {x : Stm} {wv nv : Value} (h : PS B w p g mb sv ts) (ho : OwQ B sv L w) (hx : LsOk B w x wv nv) (k_ : Out w wA) (hg : wA.grownBy w8 sv.ownBlock) (hn : L.length = n) (Y : List (Stm × Value × Value)) (hY : Y.map (fun y => y.1) = L ∧ w.ownsRow B 60 11 sv L.length (stC Y) ∧ ∀ y ∈ Y, LsOk B w y.1 y.2.1 y.2.2) (hown : w8.ownsRow B 60 11 (.slice (some ⟨gs, 0, none⟩) (n + 1) cap) (n + 1) (stC Y ++ stL x wv nv)) :
    PS B (w8.setCell ⟨p, 2, none⟩ (.slice (some ⟨gs, 0, none⟩) (n + 1) cap)) p g mb (.slice (some ⟨gs, 0, none⟩) (n + 1) cap) ts ∧ OwQ B (.slice (some ⟨gs, 0, none⟩) (n + 1) cap) (L ++ [x]) (w8.setCell ⟨p, 2, none⟩ (.slice (some ⟨gs, 0, none⟩) (n + 1) cap)) ∧ Chg (KQ B w) w (w8.setCell ⟨p, 2, none⟩ (.slice (some ⟨gs, 0, none⟩) (n + 1) cap)) := by
  obtain ⟨hY1, hY2, hY3⟩ := hY
  have hA := h.out k_
  obtain ⟨off, cp, hr, ht, hc⟩ := hA.st
  obtain ⟨cs, fr, h4⟩ := hA.gk
  have hYA := owns_chg (S := fun _ => False) hY2 (fun _ _ h => h) (Chg.of_out k_)
  have c8 : Chg (fun b => sv.ownBlock = some b) wA w8 := Chg.of_grown hg (fun k h => h)
  have hp8 : RB w8 p (.slice (some ⟨g, off, none⟩) ts.length cp) (.map (some mb)) sv := (c8.block p (Array.getElem?_eq_some_iff.1 hr).1 (fun e => own_kind hYA hr (by decide) e)).trans hr
  have hgs : ¬ sv.ownBlock = some g := own_kind hYA h4 (by decide)
  have hg8 : w8.heap[g]? = some (.cells cs 117 fr) := (c8.block g (Array.getElem?_eq_some_iff.1 h4).1 hgs).trans h4
  have ht8 := ht.chg c8 hgs
  have hls : ∀ y wv nv, LsOk B wA y wv nv → LsOk B w8 y wv nv := fun y wv nv hl => by
    refine ⟨owns_chg hl.1 (fun k hk e => ?_) c8, owns_chg hl.2 (fun k hk e => ?_) c8⟩
    · obtain ⟨_, _, _⟩ := hl
      rcases hYA.2 with ⟨hv, _⟩ | ⟨g3, cap3, cur3, hv, _, hg3, _⟩
      · rw [hv] at e; cases e
      · rw [hv] at e; simp [Value.ownBlock] at e; subst e; exact own_kind (by assumption) hg3 (by decide) hk
    · obtain ⟨_, hl2⟩ := hl
      rcases hYA.2 with ⟨hv, _⟩ | ⟨g3, cap3, cur3, hv, _, hg3, _⟩
      · rw [hv] at e; cases e
      · rw [hv] at e; simp [Value.ownBlock] at e; subst e; exact own_kind hl2 hg3 (by decide) hk
  have cS : Chg (fun b => b = p) w8 (w8.setCell ⟨p, 2, none⟩ (.slice (some ⟨gs, 0, none⟩) (n + 1) cap)) := Chg.setCell (S := fun b => b = p) (Chg.refl _ w8) (p := ⟨p, 2, none⟩) rfl _
  have hgp : ¬ g = p := hA.gp
  refine ⟨⟨⟨off, cp, ?_, ht8.chg cS hgp, hc⟩, ⟨cs, fr, (cS.block g (Array.getElem?_eq_some_iff.1 hg8).1 hgp).trans hg8⟩, h.pB⟩, ⟨Y ++ [(x, wv, nv)], by simp [hY1], ?_, fun y hy => ?_⟩, ?_⟩
  · unfold RB
    rw [set_atL hp8]
    rfl
  · rw [stC_snoc, List.length_append, List.length_singleton, hn]
    exact owns_chg hown (fun k hk e => own_kind hown hp8 (by decide) (by rw [← e]; exact hk)) cS
  · have key : LsOk B w8 y.1 y.2.1 y.2.2 := by
      rcases List.mem_append.1 hy with hy | hy
      · exact hls _ _ _ ((hY3 y hy).out k_)
      · rw [List.mem_singleton.1 hy]
        exact hls _ _ _ (hx.out k_)
    exact key.atp hp8 cS
  · refine ((Chg.of_out k_).trans c8 (fun b hb hlt => ?_)).trans cS (fun b hb hlt => ?_)
    · rcases hY2.2 with ⟨hv, _⟩ | ⟨g3, cap3, cur3, hv, hB3, hg3, _⟩
      · rw [hv] at hb; cases hb
      · rw [hv] at hb; simp [Value.ownBlock] at hb; subst hb; exact ⟨hB3, _, _, _, hg3, .inr rfl⟩
    · rw [hb]; exact h.kq
set_option maxRecDepth 20000 in
set_option maxHeartbeats 4000000 in
theorem add6_any (B : Nat) (w : World) (p g mb : Nat) (sv : Value) (t : Lx.Tk) (r : List Lx.Tk) (L : List Stm) (x : Stm) (wv nv : Value) (h : PS B w p g mb sv (t :: r)) (ho : OwQ B sv L w) (hx : LsOk B w x wv nv) (hL : L.length ≤ 100000000000) (hB : B ≤ w.heap.size) :
    Calls Tryz.prog 95 #[.pointer (some ⟨p, 0, none⟩), stE x wv nv] w fun e w' => (∃ q, e = .returned q) ∧ ∃ sv', PS B w' p g mb sv' (t :: r) ∧ OwQ B sv' (L ++ [{ x with l := t.l }]) w' ∧ Chg (KQ B w) w w' := by
  obtain ⟨aw, cw, rfl⟩ := own_form hx.1
  obtain ⟨an, cn, rfl⟩ := own_form hx.2
  obtain ⟨nw, hnw⟩ : ∃ nw, nw = x.ws.length := ⟨_, rfl⟩
  obtain ⟨nn, hnn⟩ : ∃ nn, nn = x.ns.length := ⟨_, rfl⟩
  obtain ⟨Y, hY⟩ := ho.ex
  have hY2 := hY.2.1
  obtain ⟨as_, cs_, rfl⟩ := own_form hY2
  obtain ⟨n, hn⟩ : ∃ n, L.length = n := ⟨_, rfl⟩
  obtain ⟨off, cap, hR, hT, hc⟩ := h.st
  obtain ⟨q0, q1, q2, q3⟩ := hT 0 t rfl
  simp only [Nat.zero_mul, Nat.add_zero] at q0 q1 q2 q3
  obtain ⟨m, hm⟩ : ∃ m, m = (t :: r).length := ⟨_, rfl⟩
  have hm1 : (1 : Int) ≤ m := by rw [hm]; simp; omega
  rw [← hm] at hR
  rw [hn] at hR
  have hpl := h.gl.1
  unfold stE
  rw [← hnw, ← hnn]
  obtain ⟨q, hq⟩ : ∃ q, q = w.heap.size := ⟨_, rfl⟩
  obtain ⟨w1, hw1⟩ : ∃ w1, w1 = w.alloc (.cells #[.int .i64 x.k, .string ⟨x.nm.toArray⟩, .slice aw nw cw, .slice an nn cn, .int .i64 x.o, .int .i64 x.d, .int .i64 x.s, .int .i64 x.f, .int .i64 x.i, .string ⟨x.tg.toArray⟩, .int .i64 x.l] 60) := ⟨_, rfl⟩
  have o1 : Out w w1 := by rw [hw1]; exact (Out.refl w).alloc _
  have b1 : w1.heap[q]? = some (.cells #[.int .i64 x.k, .string ⟨x.nm.toArray⟩, .slice aw nw cw, .slice an nn cn, .int .i64 x.o, .int .i64 x.d, .int .i64 x.s, .int .i64 x.f, .int .i64 x.i, .string ⟨x.tg.toArray⟩, .int .i64 x.l] 60 (0, 0)) := by rw [hw1, hq]; exact heap_alloc_new w _
  have e0 : w1.cell? ⟨p, 0, none⟩ = some (.slice (some ⟨g, off, none⟩) m cap) := cell_later o1 (by rw [cell_atL hR]; rfl)
  have e3 := cell_later o1 q3
  have e10 : w1.cell? ⟨q, 10, none⟩ = some (.int .i64 x.l) := by rw [cell_atL b1]; rfl
  have f10 := frozen_atL b1 10
  have HP := hidOf h
  have HO := hidOf ho
  have HX : Hid (LsOk B w { x with l := t.l } (.slice aw nw cw) (.slice an nn cn)) := hidOf (by rw [hnw, hnn]; exact hx)
  have HY : Hid (Y.map (fun y => y.1) = L ∧ w.ownsRow B 60 11 (.slice as_ n cs_) L.length (stC Y) ∧ ∀ y ∈ Y, LsOk B w y.1 y.2.1 y.2.2) := hidOf (by rw [← hn]; exact hY)
  have Hn := hidOf hn
  have B1 := hidOf b1
  have O1 := hidOf o1
  have Hq := hidOf hq
  have Hw1 := hidOf hw1
  have HR := hidOf hR
  rw [hn] at HP HO
  clear h ho hx hY hY2 hnw hnn hR hT hc q0 q1 q2 q3 b1 o1 hq hw1 hm
  go_enter Tryz.func95, Tryz.ntmps95
  go_upto_region 1 with fail
  rw [← Hw1.out, ← Hq.out]
  go_upto_region 2 with fail
  obtain ⟨wC, hwC⟩ : ∃ wC, wC = w1.setCell ⟨q, 10, none⟩ (.int .i64 t.l) := ⟨_, rfl⟩
  rw [← hwC]
  have hC : wC.heap[q]? = some (.cells #[.int .i64 x.k, .string ⟨x.nm.toArray⟩, .slice aw nw cw, .slice an nn cn, .int .i64 x.o, .int .i64 x.d, .int .i64 x.s, .int .i64 x.f, .int .i64 x.i, .string ⟨x.tg.toArray⟩, .int .i64 t.l] 60 (0, 0)) := by rw [hwC, set_atL B1.out]; rfl
  have oC : Out w wC := by rw [hwC]; exact Out.setCell O1.out (by rw [Hq.out]; exact Nat.le_refl _) _
  have HC := hidOf hC
  have OC := hidOf oC
  have hpb : wC.heap[p]? = _ := (oC.block p hpl).trans HR.out
  have hown : wC.ownsRow B 60 11 (.slice as_ n cs_) n (stC Y) := owns_chg (S := fun _ => False) (by have := HY.out.2.1; rw [Hn.out] at this; exact this) (fun _ _ h => h) (Chg.of_out oC)
  obtain ⟨i0, hi, hz0, hz1, hz2⟩ := info_parts infoSt
  have pD : wC.drew.cell? ⟨p, 2, none⟩ = some (.slice as_ n cs_) := by rw [cell_atL (show wC.drew.heap[p]? = _ from hpb)]; rfl
  have d0 : wC.drew.cell? ⟨q, 0, none⟩ = some (.int .i64 x.k) := by rw [cell_atL (show wC.drew.heap[q]? = _ from hC)]; rfl
  have d1 : wC.drew.cell? ⟨q, 1, none⟩ = some (.string ⟨x.nm.toArray⟩) := by rw [cell_atL (show wC.drew.heap[q]? = _ from hC)]; rfl
  have d2 : wC.drew.cell? ⟨q, 2, none⟩ = some (.slice aw nw cw) := by rw [cell_atL (show wC.drew.heap[q]? = _ from hC)]; rfl
  have d3 : wC.drew.cell? ⟨q, 3, none⟩ = some (.slice an nn cn) := by rw [cell_atL (show wC.drew.heap[q]? = _ from hC)]; rfl
  have d4 : wC.drew.cell? ⟨q, 4, none⟩ = some (.int .i64 x.o) := by rw [cell_atL (show wC.drew.heap[q]? = _ from hC)]; rfl
  have d5 : wC.drew.cell? ⟨q, 5, none⟩ = some (.int .i64 x.d) := by rw [cell_atL (show wC.drew.heap[q]? = _ from hC)]; rfl
  have d6 : wC.drew.cell? ⟨q, 6, none⟩ = some (.int .i64 x.s) := by rw [cell_atL (show wC.drew.heap[q]? = _ from hC)]; rfl
  have d7 : wC.drew.cell? ⟨q, 7, none⟩ = some (.int .i64 x.f) := by rw [cell_atL (show wC.drew.heap[q]? = _ from hC)]; rfl
  have d8 : wC.drew.cell? ⟨q, 8, none⟩ = some (.int .i64 x.i) := by rw [cell_atL (show wC.drew.heap[q]? = _ from hC)]; rfl
  have d9 : wC.drew.cell? ⟨q, 9, none⟩ = some (.string ⟨x.tg.toArray⟩) := by rw [cell_atL (show wC.drew.heap[q]? = _ from hC)]; rfl
  have d10 : wC.drew.cell? ⟨q, 10, none⟩ = some (.int .i64 t.l) := by rw [cell_atL (show wC.drew.heap[q]? = _ from hC)]; rfl
  have pDa : (wC.alloc (.cells #[.int .i64 x.k, .string ⟨x.nm.toArray⟩, .slice aw nw cw, .slice an nn cn, .int .i64 x.o, .int .i64 x.d, .int .i64 x.s, .int .i64 x.f, .int .i64 x.i, .string ⟨x.tg.toArray⟩, .int .i64 t.l] 60)).cell? ⟨p, 2, none⟩ = some (.slice as_ n cs_) := cell_later (((Out.refl wC)).alloc _) (show wC.cell? ⟨p, 2, none⟩ = _ from pD)
  have RX : Hid (∀ O, (wC.alloc O).drew.ownsRow B 60 11 (.slice as_ n cs_) n (stC Y)) := hidOf (fun O => owns_chg (S := fun _ => False) hown (fun _ _ h => h) (Chg.of_out (((Out.refl wC).alloc O).drew)))
  have HPw : Hid (∀ O w8, (wC.alloc O).drew.grownBy w8 (Value.slice as_ n cs_).ownBlock → w8.cell? ⟨p, 2, none⟩ = some (.slice as_ n cs_) ∧ w8.frozen? ⟨p, 2, none⟩ = false) := hidOf (fun O w8 hg => by
    have hA : (wC.alloc O).drew.heap[p]? = _ := ((((Out.refl wC).alloc O).drew).block p (Array.getElem?_eq_some_iff.1 hpb).1).trans hpb
    have hs : w8.heap[p]? = _ := (hg.block p (Array.getElem?_eq_some_iff.1 hA).1 (fun e => own_kind (RX.out O) hA (by decide) e.symm)).trans hA
    exact ⟨by rw [cell_atL hs]; rfl, frozen_atL hs 2⟩)
  have hbase : Hid (∀ O, B ≤ (wC.alloc O).drew.heap.size) := hidOf (fun O => Nat.le_trans hB ((oC.alloc O).drew.size))
  have hnn3 : n ≤ 100000000000 := by have := Hn.out; omega
  clear hwC hC oC hpb hown e0 e3 e10 f10
  go_region_law (first | (refine step_append_lies _ rfl (.tmp 16) (.tmp 18) 43 rfl B 60 i0 _ 11 136 Tryz.underlying43 hi hz0 hz1 hz2 rfl (by decide) (.slice as_ n cs_) n (stC Y) rfl (RX.out _) ⟨wC.heap.size, 0, none⟩ 1 1 (#[.int .i64 x.k, .string ⟨x.nm.toArray⟩, .slice aw nw cw, .slice an nn cn, .int .i64 x.o, .int .i64 x.d, .int .i64 x.s, .int .i64 x.f, .int .i64 x.i, .string ⟨x.tg.toArray⟩, .int .i64 t.l]).toList rfl rfl (fun j u hu => cell_later ((Out.refl _).drew) (news_new wC _ _ _ rfl j u hu)) (by intro u hu; simp at hu; rcases hu with h | h | h | h | h | h | h | h | h | h | h <;> subst h <;> rfl) (by decide) (by unfold maxLen; omega) (by omega) (hbase.out _) _ rfl ?_; intro g9 cap9 w9 hown9 hgrow9 hg9 hlt9; obtain ⟨q9, f9⟩ := HPw.out _ w9 hgrow9; have W9 := hidOf hown9; have G9 := hidOf hgrow9; clear hown9 hgrow9 hg9 hlt9))
  all_goals
    go_end0
    have hP := PS.push (x := { x with l := t.l }) HP.out HO.out HX.out (OC.out.trans (((Out.refl wC).alloc _).drew)) G9.out Hn.out Y HY.out W9.out
    exact ⟨⟨_, rfl⟩, _, hP.1, hP.2.1, hP.2.2⟩
end Go.Proofs.YtkihaohdcgjioaaGreatDoor
