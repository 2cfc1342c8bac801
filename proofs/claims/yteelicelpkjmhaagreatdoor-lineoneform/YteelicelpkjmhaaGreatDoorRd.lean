import Derived.Test.YteelicelpkjmhaaGreatDoorRc
namespace Go.Proofs.YteelicelpkjmhaaGreatDoor
open Go.RowKit
set_option linter.unusedVariables false
set_option linter.unusedSimpArgs false
/-- what stands in the world that the program's calls look into -/
def Env (w : World) : Prop := ErrR w ∧ RegT w ∧ Tabs w
theorem ErrR.out {w w' : World} (h : ErrR w) (o : Out w w') : ErrR w' := by
  obtain ⟨ev, h1, h2⟩ := h
  exact ⟨ev, cell_later o h1, h2⟩
theorem RegT.out {w w' : World} (h : RegT w) (o : Out w w') : RegT w' := fun k hk => cell_later o (h k hk)
theorem Env.out {w w' : World} (h : Env w) (o : Out w w') : Env w' := ⟨h.1.out o, h.2.1.out o, h.2.2.out o⟩
/-- a reader that is younger than a world in which all this stands -/
def Rdr (w0 : World) (p : Nat) (w : World) : Prop := Env w0 ∧ Out w0 w ∧ w0.heap.size ≤ p
theorem MEnd.out {w0 w w' : World} {p : Nat} {r : RS} (h : Rdr w0 p w) (m : MEnd p r w w') : Out w0 w' := Chg.out m.2 h.2.1 (fun k hk => by rw [hk]; exact h.2.2)
theorem MEnd.env {w0 w w' : World} {p : Nat} {r : RS} (h : Rdr w0 p w) (m : MEnd p r w w') : Env w' := h.1.out (m.out h)
theorem MEnd.trans {w w1 w2 : World} {p : Nat} {r1 r2 : RS} (a : MEnd p r1 w w1) (b : MEnd p r2 w1 w2) : MEnd p r2 w w2 := ⟨b.1, a.2.trans b.2 (fun _ hk _ => hk)⟩
theorem MEnd.set {w w1 : World} {p : Nat} {r1 r2 : RS} (a : MEnd p r1 w w1) (j : Nat) (u : Value) (h : r1.cells.setIfInBounds j u = r2.cells) : MEnd p r2 w (w1.setCell ⟨p, j, none⟩ u) :=
  ⟨by rw [← h]; exact a.1.set j u, Chg.setCell a.2 (p := ⟨p, j, none⟩) (show p = p from rfl) _⟩
theorem MEnd.refl {w : World} {p : Nat} {r : RS} (h : RdAt w p r.cells) : MEnd p r w w := ⟨h, Chg.refl _ _⟩
theorem MEnd.co {w w1 : World} {p : Nat} {r : RS} (a : MEnd p r w w1) : w1.cell? ⟨p, 2, none⟩ = some (.int .i64 r.o) ∧ w1.frozen? ⟨p, 2, none⟩ = false := ⟨a.1.cell 2, a.1.frozen 2⟩
theorem MEnd.cd {w w1 : World} {p : Nat} {r : RS} (a : MEnd p r w w1) : w1.cell? ⟨p, 3, none⟩ = some (.int .i64 r.d) ∧ w1.frozen? ⟨p, 3, none⟩ = false := ⟨a.1.cell 3, a.1.frozen 3⟩
theorem MEnd.cs {w w1 : World} {p : Nat} {r : RS} (a : MEnd p r w w1) : w1.cell? ⟨p, 4, none⟩ = some (.int .i64 r.s) ∧ w1.frozen? ⟨p, 4, none⟩ = false := ⟨a.1.cell 4, a.1.frozen 4⟩
theorem MEnd.cf {w w1 : World} {p : Nat} {r : RS} (a : MEnd p r w w1) : w1.cell? ⟨p, 5, none⟩ = some (.int .i64 r.f) ∧ w1.frozen? ⟨p, 5, none⟩ = false := ⟨a.1.cell 5, a.1.frozen 5⟩
theorem MEnd.ci {w w1 : World} {p : Nat} {r : RS} (a : MEnd p r w w1) : w1.cell? ⟨p, 6, none⟩ = some (.int .i64 r.i) ∧ w1.frozen? ⟨p, 6, none⟩ = false := ⟨a.1.cell 6, a.1.frozen 6⟩
theorem MEnd.ct {w w1 : World} {p : Nat} {r : RS} (a : MEnd p r w w1) : w1.cell? ⟨p, 1, none⟩ = some (.string ⟨r.tok.toArray⟩) := a.1.cell 1
theorem MEnd.cw {w w1 : World} {p : Nat} {r : RS} (a : MEnd p r w w1) : w1.cell? ⟨p, 8, none⟩ = some (.bool r.wrong) ∧ w1.frozen? ⟨p, 8, none⟩ = false := ⟨a.1.cell 8, a.1.frozen 8⟩
/-- the methods, behind others -/
theorem nextM (w : World) (p : Nat) (r : RS) (hs : Sm r) (wx : World) (m : MEnd p r w wx) : Calls Tryz.prog 38 #[.pointer (some ⟨p, 0, none⟩)] wx fun e w' => (∃ v, e = .returned v) ∧ MEnd p r.next w w' :=
  (nextR wx p r m.1 hs).mono fun e w' ⟨a, b⟩ => ⟨a, m.trans b⟩
theorem skipM (w : World) (p : Nat) (r : RS) (t : List UInt8) (hs : Sm r) (wx : World) (m : MEnd p r w wx) : Calls Tryz.prog 113 #[.pointer (some ⟨p, 0, none⟩), .string ⟨t.toArray⟩] wx fun e w' => e = .returned (.bool (skipP t r).2) ∧ MEnd p (skipP t r).1 w w' :=
  (skip_any wx p r t m.1 hs).mono fun e w' ⟨a, b⟩ => ⟨a, m.trans b⟩
theorem markM (w : World) (p : Nat) (r : RS) (t : List UInt8) (hs : Sm r) (wx : World) (m : MEnd p r w wx) : Calls Tryz.prog 69 #[.pointer (some ⟨p, 0, none⟩), .string ⟨t.toArray⟩] wx fun e w' => (∃ v, e = .returned v) ∧ MEnd p (markS t r) w w' :=
  (mark_any wx p r t m.1 hs).mono fun e w' ⟨a, b⟩ => ⟨a, m.trans b⟩
theorem nameM (w : World) (p : Nat) (r : RS) (hs : Sm r) (wx : World) (m : MEnd p r w wx) : Calls Tryz.prog 118 #[.pointer (some ⟨p, 0, none⟩)] wx fun e w' => (∃ v, e = .returned v) ∧ MEnd p (nameS r) w w' :=
  (name_any wx p r m.1 hs).mono fun e w' ⟨a, b⟩ => ⟨a, m.trans b⟩
theorem regM (w0 w : World) (p : Nat) (R : Rdr w0 p w) (r : RS) (hs : Sm r) (wx : World) (m : MEnd p r w wx) : Calls Tryz.prog 114 #[.pointer (some ⟨p, 0, none⟩)] wx fun e w' => e = .returned (.int .i64 (regS r).2) ∧ MEnd p (regS r).1 w w' :=
  (regF wx p r m.1 hs (m.env R).2.1).mono fun e w' ⟨a, b⟩ => ⟨a, m.trans b⟩
theorem num16M (w0 w : World) (p : Nat) (R : Rdr w0 p w) (r : RS) (hs : Sm r) (b : Bool) (high : Int) (wx : World) (m : MEnd p r w wx) : Calls Tryz.prog 136 #[.pointer (some ⟨p, 0, none⟩), .bool b, .int .i64 16, .int .u64 high] wx fun e w' => e = .returned (.int .i64 (numV b 16 r)) ∧ MEnd p (numS b 32768 high r) w w' :=
  (number16 wx p r m.1 hs (hidOf (m.env R).1) b high).mono fun e w' ⟨a, b⟩ => ⟨a, m.trans b⟩
theorem num32M (w0 w : World) (p : Nat) (R : Rdr w0 p w) (r : RS) (hs : Sm r) (b : Bool) (high : Int) (wx : World) (m : MEnd p r w wx) : Calls Tryz.prog 136 #[.pointer (some ⟨p, 0, none⟩), .bool b, .int .i64 32, .int .u64 high] wx fun e w' => e = .returned (.int .i64 (numV b 32 r)) ∧ MEnd p (numS b 2147483648 high r) w w' :=
  (number32 wx p r m.1 hs (hidOf (m.env R).1) b high).mono fun e w' ⟨a, b⟩ => ⟨a, m.trans b⟩
theorem num64M (w0 w : World) (p : Nat) (R : Rdr w0 p w) (r : RS) (hs : Sm r) (b : Bool) (high : Int) (wx : World) (m : MEnd p r w wx) : Calls Tryz.prog 136 #[.pointer (some ⟨p, 0, none⟩), .bool b, .int .i64 64, .int .u64 high] wx fun e w' => e = .returned (.int .i64 (numV b 64 r)) ∧ MEnd p (numS b 9223372036854775808 high r) w w' :=
  (number64 wx p r m.1 hs (hidOf (m.env R).1) b high).mono fun e w' ⟨a, b⟩ => ⟨a, m.trans b⟩
theorem skip_o (t : List UInt8) (r : RS) : (skipP t r).1.o = r.o := by
  unfold skipP
  split <;> rfl
end Go.Proofs.YteelicelpkjmhaaGreatDoor
