import Derived.Test.YtcomhlimgocoaaaGreatDoorGc15
namespace Go.Proofs.YtcomhlimgocoaaaGreatDoor
open Go.RowKit
set_option linter.unusedVariables false
set_option linter.unusedSimpArgs false
/-- the number of a register's word -/
def regN (l : List UInt8) : Option Nat := (List.range 11).find? (fun k => l == regL k)
def regS (r : RS) : RS × Int := match regN r.tok with
  | some k => (r.next, (k : Int))
  | none => ({ r with wrong := true }, 0)
theorem regL_inj : ∀ j : Fin 11, ∀ k : Fin 11, regL j.val = regL k.val → j = k := by decide
theorem regN_some (l : List UInt8) (k : Nat) (h : regIs l k) : regN l = some k := by
  obtain ⟨hk, rfl⟩ := h
  exact (show ∀ k : Fin 11, regN (regL k.val) = some k.val by decide) ⟨k, hk⟩
theorem regN_none (l : List UInt8) (h : ∀ k, ¬ regIs l k) : regN l = none := by
  unfold regN
  rw [List.find?_eq_none]
  intro k hk
  have := h k
  simp only [List.mem_range] at hk
  simpa [regIs, hk] using this
theorem regS_of {r r' : RS} {n : Int} (h : registerS r r' n) : r' = (regS r).1 ∧ n = (regS r).2 := by
  rcases h with ⟨k, hk, rfl, rfl⟩ | ⟨hn, rfl, rfl⟩
  · unfold regS
    rw [regN_some _ _ hk]
    exact ⟨rfl, rfl⟩
  · unfold regS
    rw [regN_none _ hn]
    exact ⟨rfl, rfl⟩
theorem Sm.reg {r : RS} (h : Sm r) : Sm (regS r).1 := by
  unfold regS
  split
  · exact h.next
  · exact h
/-- a register must stand here, as a function -/
theorem regF (w : World) (p : Nat) (r : RS) (h : RdAt w p r.cells) (hs : Sm r) (ht : RegT w) : Calls Tryz.prog 111 #[.pointer (some ⟨p, 0, none⟩)] w fun e w' => e = .returned (.int .i64 (regS r).2) ∧ MEnd p (regS r).1 w w' :=
  (register_any w p r h hs ht).mono fun e w' ⟨n, r', he, hr, hm⟩ => by
    obtain ⟨h1, h2⟩ := regS_of hr
    rw [← h1, ← h2]
    exact ⟨he, hm⟩
/-- a signed number of Imm's width -/
def sgnS (r : RS) : RS × Bool := if (skipP [45] r).2 then ((skipP [45] r).1, true) else ((skipP [43] (skipP [45] r).1).1, false)
def immS (r : RS) : RS :=
  if r.o = 24 then { numS (sgnS r).2 9223372036854775808 18446744073709551615 (sgnS r).1 with i := numV (sgnS r).2 64 (sgnS r).1 }
  else { numS (sgnS r).2 2147483648 4294967295 (sgnS r).1 with i := numV (sgnS r).2 32 (sgnS r).1 }
/-- a place -/
def pgnS (r : RS) : RS × Bool := if (skipP [45] r).2 then ((skipP [45] r).1, true) else (markS [43] (skipP [45] r).1, false)
def placeS (r : RS) : RS × Int × Int :=
  (markS [93] (numS (pgnS (regS (markS [91] r)).1).2 32768 32767 (pgnS (regS (markS [91] r)).1).1), (regS (markS [91] r)).2, numV (pgnS (regS (markS [91] r)).1).2 16 (pgnS (regS (markS [91] r)).1).1)
theorem Sm.sgn {r : RS} (h : Sm r) : Sm (sgnS r).1 := by
  unfold sgnS
  split
  · exact h.skip _
  · exact (h.skip _).skip _
theorem Sm.pgn {r : RS} (h : Sm r) : Sm (pgnS r).1 := by
  unfold pgnS
  split
  · exact h.skip _
  · exact (h.skip _).mark _
theorem Sm.imm {r : RS} (h : Sm r) : Sm (immS r) := by
  unfold immS
  split
  · exact h.sgn.num (sgnS r).2 9223372036854775808 18446744073709551615
  · exact h.sgn.num (sgnS r).2 2147483648 4294967295
theorem Sm.place {r : RS} (h : Sm r) : Sm (placeS r).1 := ((((h.mark [91]).reg).pgn).num (pgnS (regS (markS [91] r)).1).2 32768 32767).mark [93]
end Go.Proofs.YtcomhlimgocoaaaGreatDoor
namespace Go.Proofs.YtcomhlimgocoaaaGreatDoor
open Go.RowKit
set_option linter.unusedVariables false
set_option linter.unusedSimpArgs false
/-- what stands in the world that the program's calls look into -/
def Env (w : World) : Prop := ErrR w ∧ RegT w ∧ Tabs w
theorem ErrR.out {w w' : World} (h : ErrR w) (o : Out w w') : ErrR w' := by
  obtain ⟨ev, h1, h2⟩ := h
  exact ⟨ev, cell_later o h1, h2⟩
theorem RegT.out {w w' : World} (h : RegT w) (o : Out w w') : RegT w' := fun k hk => cell_later o (h k hk)
theorem Env.out {w w' : World} (h : Env w) (o : Out w w') : Env w' := ⟨h.1.out o, h.2.1.out o, h.2.2.out o⟩
/-- a reader that is younger than a world in which all this stands -/
def Rdr (w0 : World) (p : Nat) (w : World) : Prop := Env w0 ∧ Out w0 w ∧ w0.heap.size ≤ p
theorem MEnd.out {w0 w w' : World} {p : Nat} {r : RS} (h : Rdr w0 p w) (m : MEnd p r w w') : Out w0 w' := Chg.out m.2 h.2.1 (fun k hk => by rw [hk]; exact h.2.2)
theorem MEnd.env {w0 w w' : World} {p : Nat} {r : RS} (h : Rdr w0 p w) (m : MEnd p r w w') : Env w' := h.1.out (m.out h)
theorem MEnd.trans {w w1 w2 : World} {p : Nat} {r1 r2 : RS} (a : MEnd p r1 w w1) (b : MEnd p r2 w1 w2) : MEnd p r2 w w2 := ⟨b.1, a.2.trans b.2 (fun _ hk _ => hk)⟩
theorem MEnd.set {w w1 : World} {p : Nat} {r1 r2 : RS} (a : MEnd p r1 w w1) (j : Nat) (u : Value) (h : r1.cells.setIfInBounds j u = r2.cells) : MEnd p r2 w (w1.setCell ⟨p, j, none⟩ u) :=
  ⟨by rw [← h]; exact a.1.set j u, Chg.setCell a.2 (p := ⟨p, j, none⟩) (show p = p from rfl) _⟩
theorem MEnd.refl {w : World} {p : Nat} {r : RS} (h : RdAt w p r.cells) : MEnd p r w w := ⟨h, Chg.refl _ _⟩
theorem MEnd.co {w w1 : World} {p : Nat} {r : RS} (a : MEnd p r w w1) : w1.cell? ⟨p, 2, none⟩ = some (.int .i64 r.o) ∧ w1.frozen? ⟨p, 2, none⟩ = false := ⟨a.1.cell 2, a.1.frozen 2⟩
theorem MEnd.cd {w w1 : World} {p : Nat} {r : RS} (a : MEnd p r w w1) : w1.cell? ⟨p, 3, none⟩ = some (.int .i64 r.d) ∧ w1.frozen? ⟨p, 3, none⟩ = false := ⟨a.1.cell 3, a.1.frozen 3⟩
theorem MEnd.cs {w w1 : World} {p : Nat} {r : RS} (a : MEnd p r w w1) : w1.cell? ⟨p, 4, none⟩ = some (.int .i64 r.s) ∧ w1.frozen? ⟨p, 4, none⟩ = false := ⟨a.1.cell 4, a.1.frozen 4⟩
theorem MEnd.cf {w w1 : World} {p : Nat} {r : RS} (a : MEnd p r w w1) : w1.cell? ⟨p, 5, none⟩ = some (.int .i64 r.f) ∧ w1.frozen? ⟨p, 5, none⟩ = false := ⟨a.1.cell 5, a.1.frozen 5⟩
theorem MEnd.ci {w w1 : World} {p : Nat} {r : RS} (a : MEnd p r w w1) : w1.cell? ⟨p, 6, none⟩ = some (.int .i64 r.i) ∧ w1.frozen? ⟨p, 6, none⟩ = false := ⟨a.1.cell 6, a.1.frozen 6⟩
theorem MEnd.ct {w w1 : World} {p : Nat} {r : RS} (a : MEnd p r w w1) : w1.cell? ⟨p, 1, none⟩ = some (.string ⟨r.tok.toArray⟩) := a.1.cell 1
theorem MEnd.cw {w w1 : World} {p : Nat} {r : RS} (a : MEnd p r w w1) : w1.cell? ⟨p, 8, none⟩ = some (.bool r.wrong) ∧ w1.frozen? ⟨p, 8, none⟩ = false := ⟨a.1.cell 8, a.1.frozen 8⟩
/-- the methods, behind others -/
theorem nextM (w : World) (p : Nat) (r : RS) (hs : Sm r) (wx : World) (m : MEnd p r w wx) : Calls Tryz.prog 35 #[.pointer (some ⟨p, 0, none⟩)] wx fun e w' => (∃ v, e = .returned v) ∧ MEnd p r.next w w' :=
  (nextR wx p r m.1 hs).mono fun e w' ⟨a, b⟩ => ⟨a, m.trans b⟩
theorem skipM (w : World) (p : Nat) (r : RS) (t : List UInt8) (hs : Sm r) (wx : World) (m : MEnd p r w wx) : Calls Tryz.prog 110 #[.pointer (some ⟨p, 0, none⟩), .string ⟨t.toArray⟩] wx fun e w' => e = .returned (.bool (skipP t r).2) ∧ MEnd p (skipP t r).1 w w' :=
  (skip_any wx p r t m.1 hs).mono fun e w' ⟨a, b⟩ => ⟨a, m.trans b⟩
theorem markM (w : World) (p : Nat) (r : RS) (t : List UInt8) (hs : Sm r) (wx : World) (m : MEnd p r w wx) : Calls Tryz.prog 66 #[.pointer (some ⟨p, 0, none⟩), .string ⟨t.toArray⟩] wx fun e w' => (∃ v, e = .returned v) ∧ MEnd p (markS t r) w w' :=
  (mark_any wx p r t m.1 hs).mono fun e w' ⟨a, b⟩ => ⟨a, m.trans b⟩
theorem nameM (w : World) (p : Nat) (r : RS) (hs : Sm r) (wx : World) (m : MEnd p r w wx) : Calls Tryz.prog 115 #[.pointer (some ⟨p, 0, none⟩)] wx fun e w' => (∃ v, e = .returned v) ∧ MEnd p (nameS r) w w' :=
  (name_any wx p r m.1 hs).mono fun e w' ⟨a, b⟩ => ⟨a, m.trans b⟩
theorem regM (w0 w : World) (p : Nat) (R : Rdr w0 p w) (r : RS) (hs : Sm r) (wx : World) (m : MEnd p r w wx) : Calls Tryz.prog 111 #[.pointer (some ⟨p, 0, none⟩)] wx fun e w' => e = .returned (.int .i64 (regS r).2) ∧ MEnd p (regS r).1 w w' :=
  (regF wx p r m.1 hs (m.env R).2.1).mono fun e w' ⟨a, b⟩ => ⟨a, m.trans b⟩
theorem num16M (w0 w : World) (p : Nat) (R : Rdr w0 p w) (r : RS) (hs : Sm r) (b : Bool) (high : Int) (wx : World) (m : MEnd p r w wx) : Calls Tryz.prog 133 #[.pointer (some ⟨p, 0, none⟩), .bool b, .int .i64 16, .int .u64 high] wx fun e w' => e = .returned (.int .i64 (numV b 16 r)) ∧ MEnd p (numS b 32768 high r) w w' :=
  (number16 wx p r m.1 hs (hidOf (m.env R).1) b high).mono fun e w' ⟨a, b⟩ => ⟨a, m.trans b⟩
theorem num32M (w0 w : World) (p : Nat) (R : Rdr w0 p w) (r : RS) (hs : Sm r) (b : Bool) (high : Int) (wx : World) (m : MEnd p r w wx) : Calls Tryz.prog 133 #[.pointer (some ⟨p, 0, none⟩), .bool b, .int .i64 32, .int .u64 high] wx fun e w' => e = .returned (.int .i64 (numV b 32 r)) ∧ MEnd p (numS b 2147483648 high r) w w' :=
  (number32 wx p r m.1 hs (hidOf (m.env R).1) b high).mono fun e w' ⟨a, b⟩ => ⟨a, m.trans b⟩
theorem num64M (w0 w : World) (p : Nat) (R : Rdr w0 p w) (r : RS) (hs : Sm r) (b : Bool) (high : Int) (wx : World) (m : MEnd p r w wx) : Calls Tryz.prog 133 #[.pointer (some ⟨p, 0, none⟩), .bool b, .int .i64 64, .int .u64 high] wx fun e w' => e = .returned (.int .i64 (numV b 64 r)) ∧ MEnd p (numS b 9223372036854775808 high r) w w' :=
  (number64 wx p r m.1 hs (hidOf (m.env R).1) b high).mono fun e w' ⟨a, b⟩ => ⟨a, m.trans b⟩
theorem skip_o (t : List UInt8) (r : RS) : (skipP t r).1.o = r.o := by
  unfold skipP
  split <;> rfl
end Go.Proofs.YtcomhlimgocoaaaGreatDoor
