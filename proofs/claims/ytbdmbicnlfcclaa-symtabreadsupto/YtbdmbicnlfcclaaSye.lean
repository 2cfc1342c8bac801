import Derived.Test.YtbdmbicnlfcclaaSyb2
namespace Go.Proofs.Ytbdmbicnlfcclaa
open Go.RowKit
set_option linter.unusedVariables false
set_option linter.unusedSimpArgs false
/-- what stands ahead, once a symbol has come up to it -/
def upS (q : Rn) (k : Nat) : Rn := if q.r < k then ⟨k, 0, 0⟩ else q
def tkS (q : Rn) (k : Nat) (v : Int) : Option Rn := if (k : Int) < (upS q k).r then none else if foP k (upS q k) v = false then none else some ⟨(upS q k).r, (upS q k).c + 1, v⟩
def RB (w : World) (p : Nat) (q : Rn) : Prop := w.heap[p]? = some (.cells #[.int .i64 q.r, .int .i64 q.c, .int .i64 q.v] 66 (0, 0))
theorem RB.lt {w : World} {p : Nat} {q : Rn} (h : RB w p q) : p < w.heap.size := (Array.getElem?_eq_some_iff.1 h).1
theorem RB.out {w w' : World} {p : Nat} {q : Rn} (h : RB w p q) (o : Out w w') : RB w' p q := (o.block p h.lt).trans h
theorem RB.cells {w : World} {p : Nat} {q : Rn} (h : RB w p q) : w.cell? ⟨p, 0, none⟩ = some (.int .i64 q.r) ∧ w.cell? ⟨p, 1, none⟩ = some (.int .i64 q.c) ∧ w.cell? ⟨p, 2, none⟩ = some (.int .i64 q.v) := ⟨box_cell h 0, box_cell h 1, box_cell h 2⟩
theorem RB.frozen {w : World} {p : Nat} {q : Rn} (h : RB w p q) (j : Nat) : w.frozen? ⟨p, j, none⟩ = false := by simp [World.frozen?, show w.heap[p]? = _ from h]
theorem RB.set3 {w : World} {p : Nat} {q : Rn} (h : RB w p q) (a b c : Int) : RB (((w.setCell ⟨p, 0, none⟩ (.int .i64 a)).setCell ⟨p, 1, none⟩ (.int .i64 b)).setCell ⟨p, 2, none⟩ (.int .i64 c)) p ⟨a, b, c⟩ := by
  unfold RB at *
  simp [World.setCell, Array.getElem?_modify, h]
theorem RB.set12 {w : World} {p : Nat} {q : Rn} (h : RB w p q) (b c : Int) : RB ((w.setCell ⟨p, 1, none⟩ (.int .i64 b)).setCell ⟨p, 2, none⟩ (.int .i64 c)) p ⟨q.r, b, c⟩ := by
  unfold RB at *
  simp [World.setCell, Array.getElem?_modify, h]
theorem chg_set {w w' : World} {p : Nat} (h : Chg (fun k => k = p) w w') (j : Nat) (u : Value) : Chg (fun k => k = p) w (w'.setCell ⟨p, j, none⟩ u) := Chg.setCell (S := fun k => k = p) h (p := ⟨p, j, none⟩) rfl u
theorem tkS_new {q : Rn} {k : Nat} {v : Int} (h : q.r < k) : tkS q k v = if foP k ⟨k, 0, 0⟩ v = false then none else some ⟨k, 1, v⟩ := by
  have e : upS q k = ⟨k, 0, 0⟩ := if_pos h
  unfold tkS
  rw [e, if_neg (by simp only; omega)]
  simp
theorem tkS_low {q : Rn} {k : Nat} {v : Int} (h : (k : Int) < q.r) : tkS q k v = none := by
  have e : upS q k = q := if_neg (by omega)
  unfold tkS
  rw [e, if_pos h]
theorem tkS_eq {q : Rn} {k : Nat} {v : Int} (h : q.r = k) : tkS q k v = if foP k q v = false then none else some ⟨q.r, q.c + 1, v⟩ := by
  have e : upS q k = q := if_neg (by omega)
  unfold tkS
  rw [e, if_neg (by omega)]
theorem chg_out {S : Nat → Prop} {w X w' : World} (h : Chg S w X) (o : Out X w') : Chg S w w' := h.trans (Chg.of_out (S := fun _ => False) o) (fun x h _ => h.elim)
theorem wpAnyH_skip {P : Program} {md : Region.Mode} {ops : Array Oper} {Q : Exit → Act → World → Prop} {S : World → Prop} {i : Nat} {oi : Oper} {fuel : Nat} {listed : Array Bool} {a : Act} {w : World} (d : Option Tmp) (hi : ops[i]? = some oi) (hd : oi.dst = d)
    (hs : Region.noSelect ops = true) (hf : Region.free md ops listed i = true) (hr : (Region.ready md ops listed).contains i = true)
    (hQ : ∀ c a w, Q (.panic c) (a.put d undef) w → Q (.panic c) a w) (hw : Region.wanted oi (yielded ops a.tmps) = false) (hS : S w)
    (h : wpAnyH P md ops Q S fuel (listed.setIfInBounds i true) (a.put d undef) w) : wpAnyH P md ops Q S (fuel + 1) listed a w := by
  subst hd
  exact wpAnyH_take hi hs hf hr hQ (Or.inr ⟨hw, rfl⟩) hS h
theorem wpAnyH_do {P : Program} {md : Region.Mode} {ops : Array Oper} {Q : Exit → Act → World → Prop} {S : World → Prop} {i : Nat} {oi : Oper} {v : Value} {fuel : Nat} {listed : Array Bool} {a : Act} {w : World} (d : Option Tmp) (hi : ops[i]? = some oi) (hd : oi.dst = d)
    (hs : Region.noSelect ops = true) (hf : Region.free md ops listed i = true) (hr : (Region.ready md ops listed).contains i = true)
    (hQ : ∀ c a w, Q (.panic c) (a.put d v) w → Q (.panic c) a w) (hw : Region.wanted oi (yielded ops a.tmps) = true) (hy : ∀ w, S w → (execOp a.eval oi).run P w = .ok (.value v) w) (hS : S w)
    (h : wpAnyH P md ops Q S fuel (listed.setIfInBounds i true) (a.put d v) w) : wpAnyH P md ops Q S (fuel + 1) listed a w := by
  subst hd
  exact wpAnyH_take hi hs hf hr hQ (Or.inl ⟨hw, hy⟩) hS h
/-- behind take -/
def TkEnd (w : World) (p : Nat) (o : Option Rn) (e : Ending) (w' : World) : Prop := e = .returned (.bool o.isSome) ∧ Chg (fun k => k = p) w w' ∧ ∃ q', RB w' p q' ∧ ∀ q2, o = some q2 → q' = q2
end Go.Proofs.Ytbdmbicnlfcclaa
