import Derived.Test.YtcomhlimgocoaaaGreatDoorGc22
import Derived.Test.YtcomhlimgocoaaaGreatDoorGc05
import Derived.Test.YtcomhlimgocoaaaGreatDoorGc07
import Derived.Test.YtcomhlimgocoaaaGreatDoorGc20
import Derived.Deep.MidRow
namespace Go.Proofs.YtcomhlimgocoaaaGreatDoor
open Go.RowKit Go.Shelf
set_option linter.unusedVariables false
set_option linter.unusedSimpArgs false
attribute [local go_sem] Oper.semAt_some
theorem KC.put (W : World) (l : Nat) (o o' : Obj) (h : W.heap[l]? = some o) (hc : o.isCells = false) : KC W (W.putObj l o') := by
  refine ⟨by simp [World.putObj], fun b cs t fr hb => ?_⟩
  by_cases e : b = l
  · subst e; rw [h] at hb; cases hb; simp [Obj.isCells] at hc
  · simp only [World.putObj, Array.set!_eq_setIfInBounds]
    rw [Array.getElem?_setIfInBounds_ne (fun h => e h.symm)]; exact hb
theorem blk_kept {W W' : World} {row : Option Nat} {b : Nat} {cs : Array Value} {t : TypeId} {fr : Nat × Nat} (h : W.heap[b]? = some (.cells cs t fr)) (hg : W.grownBy W' row) (hr : ∀ r, row = some r → ∃ o : Obj, W.heap[r]? = some o ∧ o.isCells = false) : W'.heap[b]? = some (.cells cs t fr) :=
  (hg.block b (Array.getElem?_eq_some_iff.1 h).1 (fun e => by obtain ⟨o, ho, hc⟩ := hr b e.symm; rw [h] at ho; cases ho; simp [Obj.isCells] at hc)).trans h
theorem blk_alloc {W : World} {b : Nat} {cs : Array Value} {t : TypeId} {fr : Nat × Nat} (h : W.heap[b]? = some (.cells cs t fr)) (o : Obj) : (W.alloc o).heap[b]? = some (.cells cs t fr) := (Below.heap_alloc W o b (Array.getElem?_eq_some_iff.1 h).1).trans h
theorem blk_at {w : World} {b : Nat} {cs : Array Value} {t : TypeId} (h : w.heap[b]? = some (.cells cs t (0, 0))) (j : Nat) : w.cell? ⟨b, j, none⟩ = cs[j]? ∧ w.frozen? ⟨b, j, none⟩ = false := by
  constructor
  · simp [World.cell?, h]
  · simp [World.frozen?, h]
def mnC (m : Mn) : Array Value := #[.int .u8 m.1, .int .u8 m.2.1, .int .u8 m.2.2.1, .int .u8 m.2.2.2]
def MBox (w : World) (W : World) (t : List UInt8) (m : Mn) (q : Bool) : Prop := (W.heap[w.heap.size]? = some (.cells #[.string ⟨t.toArray⟩] 9 (0, 0)) ∧ W.heap[w.heap.size + 1]? = some (.cells (mnC m) 77 (0, 0)) ∧ W.heap[w.heap.size + 2]? = some (.cells #[.bool q] 4 (0, 0))) ∧ Below w.heap.size w W
theorem MBox.set5 {w W : World} {t : List UInt8} {m : Mn} {q : Bool} (h : MBox w W t m q) (o s f i : Int) (q' : Bool) : MBox w (((((W.setCell ⟨w.heap.size + 1, 0, none⟩ (.int .u8 o)).setCell ⟨w.heap.size + 1, 1, none⟩ (.int .u8 s)).setCell ⟨w.heap.size + 1, 2, none⟩ (.int .u8 f)).setCell ⟨w.heap.size + 1, 3, none⟩ (.int .u8 i)).setCell ⟨w.heap.size + 1 + 1, 0, none⟩ (.bool q')) t (o, s, f, i) q' := by
  obtain ⟨⟨h0, h1, h2⟩, hB⟩ := h
  refine ⟨⟨?_, ?_, ?_⟩, ?_⟩
  · simp [World.setCell, Array.getElem?_modify, h0]; try omega
  · simp [World.setCell, Array.getElem?_modify, h1, mnC]
  · simp [World.setCell, Array.getElem?_modify, h2]
  · exact ((((hB.setCell (p := ⟨w.heap.size + 1, 0, none⟩) (by simp) _).setCell (p := ⟨w.heap.size + 1, 1, none⟩) (by simp) _).setCell (p := ⟨w.heap.size + 1, 2, none⟩) (by simp) _).setCell (p := ⟨w.heap.size + 1, 3, none⟩) (by simp) _).setCell (p := ⟨w.heap.size + 1 + 1, 0, none⟩) (by simp; omega) _
theorem keeps5 (W : World) (a b c d e : Addr) (u v x y z : Value) : KeepsOthers W (((((W.setCell a u).setCell b v).setCell c x).setCell d y).setCell e z) :=
  ((((KeepsOthers.setCell W a u).trans (KeepsOthers.setCell _ b v)).trans (KeepsOthers.setCell _ c x)).trans (KeepsOthers.setCell _ d y)).trans (KeepsOthers.setCell _ e z)
theorem size79 : (Tryz.prog.info? 77).map (·.size) = some 4 := by kernel_rfl
def MI (w : World) (t : List UInt8) (pre : List (List UInt8 × Mn)) (W : World) : Prop := (∀ x ∈ pre, x.1 ≠ t) ∧ MBox w W t (0, 0, 0, 0) false
def MX (w : World) (t : List UInt8) (c : Code) (pre : List (List UInt8 × Mn)) (W : World) : Prop := ∃ x, (c = .ret ∧ x ∈ pre ∧ x.1 = t) ∧ MBox w W t x.2 true
theorem MBox.own {β : Type} (w : World) (t : List UInt8) (m : Mn) (q : Bool) (B : Nat) (hB : w.heap.size ≤ B) : OwnFrom B (fun (_ : β) W => MBox w W t m q) := fun s X Y row hs hg hr =>
  ⟨⟨blk_kept hs.1.1 hg (fun r e => (hr r e).2), blk_kept hs.1.2.1 hg (fun r e => (hr r e).2), blk_kept hs.1.2.2 hg (fun r e => (hr r e).2)⟩, ownFrom_below (β := β) (Nat.le_refl _) hB s X Y row hs.2 hg hr⟩
theorem MBox.put {w W : World} {t : List UInt8} {m : Mn} {q : Bool} (h : MBox w W t m q) {D : Nat} (hD : w.heap.size ≤ D) (hK : W.heap[D]? = some (.deferred (some []))) : MBox w (W.putObj D (.deferred none)) t m q :=
  MBox.own (β := Unit) w t m q w.heap.size (Nat.le_refl _) () W _ (some D) h (grownBy_putObj' _ D _) (fun r e => by cases e; exact ⟨hD, _, hK, rfl⟩)
theorem MBox.res {w W : World} {t : List UInt8} {m : Mn} {q : Bool} (h : MBox w W t m q) (tmps : Array Value) (h2 : tmps[2]?.getD undef = .pointer (some ⟨w.heap.size + 1, 0, none⟩)) (h3 : tmps[3]?.getD undef = .pointer (some ⟨w.heap.size + 1 + 1, 0, none⟩)) :
    (results Tryz.f33 tmps).run Tryz.prog W = .ok (.tuple #[mnV m, .bool q]) W := by
  have c5 : W.cell? ⟨w.heap.size + 1 + 1, 0, none⟩ = some (.bool q) := (blk_at h.1.2.2 0).1
  have k0 : W.cell? ⟨w.heap.size + 1, 0, none⟩ = some (.int .u8 m.1) := (blk_at h.1.2.1 0).1
  have k1 : W.cell? ⟨w.heap.size + 1, 1, none⟩ = some (.int .u8 m.2.1) := (blk_at h.1.2.1 1).1
  have k2 : W.cell? ⟨w.heap.size + 1, 2, none⟩ = some (.int .u8 m.2.2.1) := (blk_at h.1.2.1 2).1
  have k3 : W.cell? ⟨w.heap.size + 1, 3, none⟩ = some (.int .u8 m.2.2.2) := (blk_at h.1.2.1 3).1
  simp [results, Tryz.f33, asAddr, h2, h3, go_sem, k0, k1, k2, k3, c5, Sem.run_bind, Result.andThen, mnV]
set_option maxRecDepth 40000 in
set_option maxHeartbeats 4000000 in
theorem meaning_in (F : Fence) (hd : F.depth = none) (hro : F.round = none) (h66 : F.fn 63) (h105 : F.fn 102) (hm : F.fn 33) (n N : Nat) (hn : 3 ≤ n) (w : World) (t : List UInt8)
    (hseq : ∀ w0 : World, Below w.heap.size w w0 → SeqStopsK F (n - 1) Tryz.prog 63 #[] encM KC (fun ys => ys = live mnAll) (fun pre => pre <+: live mnAll) N w0) :
    CallsIn F n Tryz.prog 33 #[.string ⟨t.toArray⟩] w fun e W' => ((∃ x, x ∈ live mnAll ∧ x.1 = t ∧ e = .returned (.tuple #[mnV x.2, .bool true])) ∨ ((∀ x ∈ live mnAll, x.1 ≠ t) ∧ e = .returned (.tuple #[mnV (0, 0, 0, 0), .bool false]))) ∧ Below w.heap.size w W' := by
  have h1 : 1 ≤ n := by omega
  refine callsIn_of_wp_marks Tryz.func33 rfl hm ?_ hro
  simp only [Tryz.ntmps33, List.size_toArray, List.length_cons, List.length_nil, Nat.reduceAdd, Nat.reduceSub, Array.replicate_succ, Array.replicate_zero, List.push_toArray, List.append_toArray, List.nil_append, List.cons_append]
  gi_wp2
  obtain ⟨W0, hW0⟩ : ∃ W0, ((w.alloc (.cells #[.string ⟨t.toArray⟩] 9)).alloc (.cells #[.int .u8 0, .int .u8 0, .int .u8 0, .int .u8 0] 77)).alloc (.cells #[.bool false] 4) = W0 := ⟨_, rfl⟩
  have hB0 : Below w.heap.size w W0 := by rw [← hW0]; exact (((Below.refl _ w).alloc (Nat.le_refl _) _).alloc (by simp) _).alloc (by simp; omega) _
  have hsz : W0.heap.size = w.heap.size + 3 := by rw [← hW0]; simp
  have hM0 : MBox w W0 t (0, 0, 0, 0) false := by
    refine ⟨⟨?_, ?_, ?_⟩, hB0⟩
    · rw [← hW0]; exact blk_alloc (blk_alloc (heap_alloc_new w _) _) _
    · rw [← hW0]; have := heap_alloc_new (w.alloc (.cells #[.string ⟨t.toArray⟩] 9)) (.cells #[.int .u8 0, .int .u8 0, .int .u8 0, .int .u8 0] 77); rw [World.size_alloc] at this; exact blk_alloc this _
    · rw [← hW0]; have := heap_alloc_new ((w.alloc (.cells #[.string ⟨t.toArray⟩] 9)).alloc (.cells #[.int .u8 0, .int .u8 0, .int .u8 0, .int .u8 0] 77)) (.cells #[.bool false] 4); rw [World.size_alloc, World.size_alloc] at this; exact this
  rw [hW0]
  clear hW0
  refine wpIn_rangeFunc_ownH hro h1 (gf := 63) (lb := #[]) rfl h66 (enters_of Tryz.func63 (by kernel_rfl) rfl)
    (hseq W0 hB0) KC.trans (fun W l o o' _ h hc _ => KC.put W l o o' h hc) (Below.refl _ _) (fun _ => rfl)
    (MI w t) (MX w t)
    (OwnFrom.and (ownFrom_pure _ _) (MBox.own w t _ _ _ (by omega)))
    (fun c s X Y row hs hg hr => by obtain ⟨x, hx, hm⟩ := hs; exact ⟨x, hx, MBox.own w t x.2 true _ (by omega) s X Y row hm hg hr⟩)
    ⟨by simp, hM0⟩
    (fun x a' W => ∃ Bx, w.heap.size + 2 < Bx ∧ W.heap[Bx]? = some (.cells (mnC x.2) 77 (0, 0)) ∧ a' = { tmps := #[.string ⟨t.toArray⟩, .pointer (some ⟨w.heap.size, 0, none⟩), .pointer (some ⟨w.heap.size + 1, 0, none⟩), .pointer (some ⟨w.heap.size + 1 + 1, 0, none⟩), .string ⟨x.1.toArray⟩, .pointer (some ⟨Bx, 0, none⟩), .string ⟨x.1.toArray⟩, mnV x.2, undef, undef, undef, undef, undef], defers := [] })
    (fun x a' _ X Y row hs hg hr => by obtain ⟨Bx, e1, e2, e3⟩ := hs; exact ⟨Bx, e1, blk_kept e2 hg (fun r e => (hr r e).2), e3⟩)
    ?assign ?body ?done ?stop
  case assign =>
    rintro l pre ⟨k, o, s, f, i⟩ W K ⟨hp, hM⟩ hK
    simp only [encM, mnV]
    gi_wp2
    exact hK _ _ ((KeepsOthers.alloc _ _).from _) (KC.alloc _ _) ⟨hp, ⟨blk_alloc hM.1.1 _, blk_alloc hM.1.2.1 _, blk_alloc hM.1.2.2 _⟩, hM.2.alloc hM.2.size _⟩ ⟨W.heap.size, (Array.getElem?_eq_some_iff.1 hM.1.2.2).1, heap_alloc_new W _, rfl⟩
  case body =>
    rintro l pre ⟨k, o, s, f, i⟩ a' W hl ⟨r, hr⟩ ⟨hp, hM⟩ ⟨Bx, hBx, bX, rfl⟩ hlt
    have cw : W.cell? ⟨w.heap.size, 0, none⟩ = some (.string ⟨t.toArray⟩) := (blk_at hM.1.1 0).1
    have x0 : W.cell? ⟨Bx, 0, none⟩ = some (.int .u8 o) := (blk_at bX 0).1
    have x1 : W.cell? ⟨Bx, 1, none⟩ = some (.int .u8 s) := (blk_at bX 1).1
    have x2 : W.cell? ⟨Bx, 2, none⟩ = some (.int .u8 f) := (blk_at bX 2).1
    have x3 : W.cell? ⟨Bx, 3, none⟩ = some (.int .u8 i) := (blk_at bX 3).1
    have c0 : W.cell? ⟨w.heap.size + 1, 0, none⟩ = some (.int .u8 0) := (blk_at hM.1.2.1 0).1
    have c1 : W.cell? ⟨w.heap.size + 1, 1, none⟩ = some (.int .u8 0) := (blk_at hM.1.2.1 1).1
    have c2 : W.cell? ⟨w.heap.size + 1, 2, none⟩ = some (.int .u8 0) := (blk_at hM.1.2.1 2).1
    have c3 : W.cell? ⟨w.heap.size + 1, 3, none⟩ = some (.int .u8 0) := (blk_at hM.1.2.1 3).1
    have f0 := (blk_at hM.1.2.1 0).2
    have f1 := (blk_at hM.1.2.1 1).2
    have f2 := (blk_at hM.1.2.1 2).2
    have f3 := (blk_at hM.1.2.1 3).2
    have cb : W.cell? ⟨w.heap.size + 1 + 1, 0, none⟩ = some (.bool false) := (blk_at hM.1.2.2 0).1
    have fb : W.frozen? ⟨w.heap.size + 1 + 1, 0, none⟩ = false := (blk_at hM.1.2.2 0).2
    gi_wp2
    · rename_i hkt
      exact ⟨(keeps5 _ _ _ _ _ _ _ _ _ _ _).from _, (k, o, s, f, i), ⟨rfl, List.mem_append.2 (.inr (by simp)), eq_of_beq hkt⟩, hM.set5 o s f i true⟩
    · rename_i hkt
      exact ⟨KeepsFrom.refl _ _, KC.refl _, fun y hy => (List.mem_append.1 hy).elim (hp y) (fun e e' => by simp at e; subst e; simp at hkt; exact hkt e'), hM⟩
  case done =>
    rintro D zs W hD rfl ⟨hp, hM⟩ hK
    have c0 : W.cell? ⟨w.heap.size + 1, 0, none⟩ = some (.int .u8 0) := (blk_at hM.1.2.1 0).1
    have c1 : W.cell? ⟨w.heap.size + 1, 1, none⟩ = some (.int .u8 0) := (blk_at hM.1.2.1 1).1
    have c2 : W.cell? ⟨w.heap.size + 1, 2, none⟩ = some (.int .u8 0) := (blk_at hM.1.2.1 2).1
    have c3 : W.cell? ⟨w.heap.size + 1, 3, none⟩ = some (.int .u8 0) := (blk_at hM.1.2.1 3).1
    have f0 := (blk_at hM.1.2.1 0).2
    have f1 := (blk_at hM.1.2.1 1).2
    have f2 := (blk_at hM.1.2.1 2).2
    have f3 := (blk_at hM.1.2.1 3).2
    have cb : W.cell? ⟨w.heap.size + 1 + 1, 0, none⟩ = some (.bool false) := (blk_at hM.1.2.2 0).1
    have fb : W.frozen? ⟨w.heap.size + 1 + 1, 0, none⟩ = false := (blk_at hM.1.2.2 0).2
    gi_wp2
    have hM' := hM.set5 0 0 0 0 false
    have hK' := (keeps5 W ⟨w.heap.size + 1, 0, none⟩ ⟨w.heap.size + 1, 1, none⟩ ⟨w.heap.size + 1, 2, none⟩ ⟨w.heap.size + 1, 3, none⟩ ⟨w.heap.size + 1 + 1, 0, none⟩ (.int .u8 0) (.int .u8 0) (.int .u8 0) (.int .u8 0) (.bool false)).same D _ hK rfl
    have hP := hM'.put (D := D) (by omega) hK'
    refine ⟨by simp, .inl ⟨_, _, rfl, run_takeDeferred hK', ?_⟩⟩
    exact ⟨_, hP.res _ rfl rfl, .inr ⟨hp, rfl⟩, hP.2⟩
  case stop =>
    rintro D c pre W hD hpre ⟨x, ⟨rfl, hx, hxt⟩, hM⟩ hK
    gi_wp2
    have hP := hM.put (D := D) (by omega) hK
    refine ⟨by simp, .inl ⟨_, _, rfl, run_takeDeferred hK, ?_⟩⟩
    exact ⟨_, hP.res _ rfl rfl, .inl ⟨x, hpre.subset hx, hxt, rfl⟩, hP.2⟩
end Go.Proofs.YtcomhlimgocoaaaGreatDoor
namespace Go.Proofs.YtcomhlimgocoaaaGreatDoor
open Go.RowKit
set_option linter.unusedVariables false
set_option linter.unusedSimpArgs false
theorem find_at {α : Type} (p : α → Bool) : ∀ (l : List α) (k : Nat) (x : α), l[k]? = some x → p x = true → (∀ j y, j < k → l[j]? = some y → p y = false) → l.find? p = some x
  | [], k, x, h, _, _ => by simp at h
  | y :: l, 0, x, h, hp, _ => by
    simp at h
    subst h
    simp [hp]
  | y :: l, k + 1, x, h, hp, hno => by
    have h0 : p y = false := hno 0 y (by omega) (by simp)
    rw [List.find?_cons, h0]
    exact find_at p l k x (by simpa using h) hp (fun j z hj hz => hno (j + 1) z (by omega) (by simpa using hz))
theorem find_no {α : Type} (p : α → Bool) (l : List α) (h : ∀ j y, j < l.length → l[j]? = some y → p y = false) : l.find? p = none := by
  rw [List.find?_eq_none]
  intro y hy
  obtain ⟨j, hj, e⟩ := List.getElem_of_mem hy
  have := h j y hj (by rw [List.getElem?_eq_getElem hj, e])
  simp [this]
/-- the tables' cells, one behind the other -/
theorem rangeAt_out {w w' : World} {b o : Nat} {cs : List Value} (h : w.rangeAt b o cs) (u : Out w w') : w'.rangeAt b o cs := fun j v hv => cell_later u (h j v hv)
def immCs : List Value := immT.flatMap (fun r => [.int .u8 r.1, .int .u8 r.2.1, .string ⟨r.2.2.toArray⟩])
def ImmTb (w : World) : Prop := w.rangeAt 5 0 immCs
theorem immT_len : immT.length = 29 := rfl
def immA (k : Nat) : Int := match immT[k]? with | some r => r.1 | none => 0
def immB (k : Nat) : Int := match immT[k]? with | some r => r.2.1 | none => 0
def immS3 (k : Nat) : List UInt8 := match immT[k]? with | some r => r.2.2 | none => []
theorem immT_bd : ∀ r ∈ immT, 0 ≤ r.1 ∧ r.1 < 256 ∧ 0 ≤ r.2.1 ∧ r.2.1 < 256 := by decide
theorem imm_row (k : Nat) (hk : k < 29) : immT[k]? = some (immA k, immB k, immS3 k) ∧ 0 ≤ immA k ∧ immA k < 256 ∧ 0 ≤ immB k ∧ immB k < 256 := by
  obtain ⟨r, hr⟩ : ∃ r, immT[k]? = some r := ⟨_, List.getElem?_eq_getElem (by rw [immT_len]; exact hk)⟩
  have hb := immT_bd r (List.mem_of_getElem? hr)
  unfold immA immB immS3
  rw [hr]
  exact ⟨rfl, hb⟩
set_option maxRecDepth 20000 in
theorem imm_idx (k : Nat) (hk : k < 29) (w : World) : (Instr.index 144 (.agg immCs.toArray) (.int .i64 k)).run Tryz.prog w = .ok (.agg #[.int .u8 (immA k), .int .u8 (immB k), .string ⟨(immS3 k).toArray⟩]) w := by
  rcases (show k = 0 ∨ k = 1 ∨ k = 2 ∨ k = 3 ∨ k = 4 ∨ k = 5 ∨ k = 6 ∨ k = 7 ∨ k = 8 ∨ k = 9 ∨ k = 10 ∨ k = 11 ∨ k = 12 ∨ k = 13 ∨ k = 14 ∨ k = 15 ∨ k = 16 ∨ k = 17 ∨ k = 18 ∨ k = 19 ∨ k = 20 ∨ k = 21 ∨ k = 22 ∨ k = 23 ∨ k = 24 ∨ k = 25 ∨ k = 26 ∨ k = 27 ∨ k = 28 from by omega) with rfl | rfl | rfl | rfl | rfl | rfl | rfl | rfl | rfl | rfl | rfl | rfl | rfl | rfl | rfl | rfl | rfl | rfl | rfl | rfl | rfl | rfl | rfl | rfl | rfl | rfl | rfl | rfl | rfl <;> kernel_rfl
theorem imm_hit (o x : Int) (k : Nat) (hk : k < 29) (h : (o == (immA k) && x == immB k) = true) (hno : ∀ j, j < k → (o == (immA j) && x == immB j) = false) : wImm o x = immS3 k := by
  unfold wImm
  rw [find_at (fun r : Int × Int × List UInt8 => o == r.1 && x == r.2.1) immT k _ (imm_row k hk).1 h (fun j y hj hy => by
    rw [(imm_row j (by omega)).1] at hy
    simp only [Option.some.injEq] at hy
    subst hy
    exact hno j hj)]
theorem imm_miss (o x : Int) (hno : ∀ j, j < 29 → (o == (immA j) && x == immB j) = false) : wImm o x = [] := by
  unfold wImm
  rw [find_no (fun r : Int × Int × List UInt8 => o == r.1 && x == r.2.1) immT (fun j y hj hy => by
    rw [immT_len] at hj
    rw [(imm_row j hj).1] at hy
    simp only [Option.some.injEq] at hy
    subst hy
    exact hno j hj)]
set_option maxRecDepth 20000 in
set_option maxHeartbeats 1600000 in
theorem immWord_any (o d s f i : Int) (w : World) (hT : ImmTb w) : Calls Tryz.prog 97 #[.agg #[.int .i64 o, .int .i64 d, .int .i64 s, .int .i64 f, .int .i64 i]] w fun e w' => e = .returned (.string ⟨(wImm o i).toArray⟩) ∧ Out w w' := by
  have HH := hidOf (imm_hit o i)
  have HM := hidOf (imm_miss o i)
  obtain ⟨A, HA⟩ : ∃ A : Nat → Int, Hid (A = immA) := ⟨_, hidOf rfl⟩
  obtain ⟨B, HB⟩ : ∃ B : Nat → Int, Hid (B = immB) := ⟨_, hidOf rfl⟩
  obtain ⟨T, HT⟩ : ∃ T : Nat → List UInt8, Hid (T = immS3) := ⟨_, hidOf rfl⟩
  obtain ⟨cs, hcs⟩ : ∃ cs, cs = immCs := ⟨_, rfl⟩
  rw [← HA.out, ← HB.out] at HH HM
  rw [← HT.out] at HH
  generalize wImm o i = R at *
  have HAB : Hid (∀ k : Nat, k < 29 → 0 ≤ A k ∧ A k < 256 ∧ 0 ≤ B k ∧ B k < 256) := by rw [HA.out, HB.out]; exact fun k hk => (imm_row k hk).2
  have hix : ∀ (k : Nat), (k : Int) < 29 → ∀ w : World, (Instr.index 144 (.agg cs.toArray) (.int .i64 k)).run Tryz.prog w = .ok (.agg #[.int .u8 (A k), .int .u8 (B k), .string ⟨(T k).toArray⟩]) w := fun k hk w => by
    rw [hcs, imm_idx k (by omega) w, HA.out, HB.out, HT.out]
  have HRg : Hid ((w.alloc (.cells #[.int .i64 o, .int .i64 d, .int .i64 s, .int .i64 f, .int .i64 i] 25)).rangeAt 5 0 cs) := by rw [hcs]; exact rangeAt_out hT ((Out.refl w).alloc _)
  have HSz : Hid ((Tryz.prog.info? 144).map (·.size) = some cs.length) := by
    rw [hcs]
    exact (show (Tryz.prog.info? 144).map (·.size) = some immCs.length by kernel_rfl)
  clear hT hcs
  go_enter Tryz.func97, Tryz.ntmps97
  go_wp2
  refine wp_load_mid 144 (.global 5) rfl 5 0 rfl cs _ HRg.out Tryz.underlying144 rfl HSz.out ?_
  go_wp2
  go_loopw [6] (fun iv wr => ∃ k : Nat, k ≤ 29 ∧ iv = .int .i64 k ∧ Hid (∀ j, j < k → (o == (A j) && i == B j) = false) ∧ Out (w.alloc (.cells #[.int .i64 o, .int .i64 d, .int .i64 s, .int .i64 f, .int .i64 i] 25)) wr) (fun iv _ => 29 - (intOf iv).toNat)
  case atStart => exact ⟨0, by omega, rfl, fun j hj => by omega, Out.refl _⟩
  case round =>
    obtain ⟨k, hk, rfl, Hno, ho⟩ := hrel
    have q0 : ∀ O, (wr.alloc O).cell? ⟨w.heap.size, 0, none⟩ = some (.int .i64 o) := fun O => cell_later (ho.alloc O) (new_cell w _ _ 0)
    have q4 : ∀ O, (wr.alloc O).cell? ⟨w.heap.size, 4, none⟩ = some (.int .i64 i) := fun O => cell_later (ho.alloc O) (new_cell w _ _ 4)
    have Ho := hidOf ho
    clear ho
    by_cases hkN : k < 29
    · have hlt : (k : Int) < 29 := by omega
      obtain ⟨b1, b2, b3, b4⟩ := HAB.out k hkN
      cases h1 : (o == (A k))
      · have Hno' : Hid (∀ j, j < k + 1 → (o == (A j) && i == B j) = false) := fun j hj => by
          by_cases z : j = k
          · subst z; rw [h1]; rfl
          · exact Hno.out j (by omega)
        go_wp2
        go_roundw
        case rel => exact ⟨k + 1, by omega, by simp, Hno', Ho.out.alloc _⟩
        case measure => simp [intOf]; omega
      · cases h2 : (i == B k)
        · have Hno' : Hid (∀ j, j < k + 1 → (o == (A j) && i == B j) = false) := fun j hj => by
            by_cases z : j = k
            · subst z; rw [h2]; simp
            · exact Hno.out j (by omega)
          go_wp2
          go_roundw
          case rel => exact ⟨k + 1, by omega, by simp, Hno', Ho.out.alloc _⟩
          case measure => simp [intOf]; omega
        · have HRes : Hid (R = T k) := HH.out k hkN (by rw [h1, h2]; rfl) Hno.out
          go_wp2
          go_ret
          exact ⟨by rw [HRes.out]; rfl, Out.trans ((Out.refl w).alloc _) (Ho.out.alloc _)⟩
    · have hlt : ¬ (k : Int) < 29 := by omega
      obtain rfl : k = 29 := by omega
      have HRes : Hid (R = []) := HM.out Hno.out
      go_wp2
      go_ret
      exact ⟨by rw [HRes.out]; rfl, Out.trans ((Out.refl w).alloc _) Ho.out⟩
end Go.Proofs.YtcomhlimgocoaaaGreatDoor
