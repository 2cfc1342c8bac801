import Derived.Test.YteelicelpkjmhaaGreatDoorQd
namespace Go.Proofs.YteelicelpkjmhaaGreatDoor
open Go.RowKit
set_option linter.unusedVariables false
set_option linter.unusedSimpArgs false
/-- the reader in plain words -/
structure RS where
  rest : List UInt8
  tok : List UInt8
  o : Int
  d : Int
  s : Int
  f : Int
  i : Int
  tgt : List UInt8
  wrong : Bool
  outside : Bool
def RS.cells (r : RS) : Array Value := #[tx r.rest, tx r.tok, .int .i64 r.o, .int .i64 r.d, .int .i64 r.s, .int .i64 r.f, .int .i64 r.i, tx r.tgt, .bool r.wrong, .bool r.outside]
def RS.next (r : RS) : RS := { r with rest := restP r.rest, tok := tokP r.rest }
/-- a small text -/
def Sm (r : RS) : Prop := r.rest.length ≤ 140737488355328 ∧ r.tok.length ≤ 140737488355328
theorem restP_le (l : List UInt8) : (restP l).length ≤ l.length := by
  have := blank_le l
  unfold restP
  rw [List.length_drop]; omega
theorem tokP_le (l : List UInt8) : (tokP l).length ≤ l.length := by
  have := blank_le l
  unfold tokP
  rw [List.length_take]; omega
theorem Sm.next {r : RS} (h : Sm r) : Sm r.next := ⟨Nat.le_trans (restP_le r.rest) h.1, Nat.le_trans (tokP_le r.rest) h.1⟩
/-- a method's end: the reader's block reads r', nothing else has changed -/
def MEnd (p : Nat) (r' : RS) (w w' : World) : Prop := RdAt w' p r'.cells ∧ Chg (fun k => k = p) w w'
theorem nextR (w : World) (p : Nat) (r : RS) (h : RdAt w p r.cells) (hs : Sm r) : Calls Tryz.prog 38 #[.pointer (some ⟨p, 0, none⟩)] w fun e w' => (∃ v, e = .returned v) ∧ MEnd p r.next w w' :=
  next_any w p r.rest _ _ _ _ _ _ _ _ _ h (by have := hs.1; omega)
def skipP (m : List UInt8) (r : RS) : RS × Bool := if r.tok = m then (r.next, true) else (r, false)
theorem skip_any (w : World) (p : Nat) (r : RS) (m : List UInt8) (h : RdAt w p r.cells) (hs : Sm r) : Calls Tryz.prog 113 #[.pointer (some ⟨p, 0, none⟩), .string ⟨m.toArray⟩] w fun e w' => e = .returned (.bool (skipP m r).2) ∧ MEnd p (skipP m r).1 w w' := by
  have c1 : w.cell? ⟨p, 1, none⟩ = some (.string ⟨r.tok.toArray⟩) := h.cell 1
  by_cases hm : r.tok = m
  · have e1 : skipP m r = (r.next, true) := by simp [skipP, hm]
    rw [e1]
    have CN := hidOf (nextR w p r h hs)
    clear h hs e1
    go_enter Tryz.func113, Tryz.ntmps113
    go_wp2_with (go_at_call 38; refine CN.out.mono ?_; rintro e w1 ⟨⟨v, rfl⟩, hend⟩)
    go_ret
    exact ⟨rfl, hend⟩
  · have e1 : skipP m r = (r, false) := by simp [skipP, hm]
    rw [e1]
    have hR := hidOf h
    have hm1 : (r.tok == m) = false := by simpa using hm
    have hm2 : (r.tok != m) = true := by simpa using hm
    clear h hs e1
    go_enter Tryz.func113, Tryz.ntmps113
    go_wp2
    go_ret
    exact ⟨rfl, hR.out, Chg.refl _ _⟩
theorem Sm.skip {r : RS} (h : Sm r) (m : List UInt8) : Sm (skipP m r).1 := by
  unfold skipP
  split
  · exact h.next
  · exact h
/-- a mark must stand here -/
def markS (m : List UInt8) (r : RS) : RS := if (skipP m r).2 then (skipP m r).1 else { (skipP m r).1 with wrong := true }
theorem Sm.mark {r : RS} (h : Sm r) (m : List UInt8) : Sm (markS m r) := by
  unfold markS
  split
  · exact h.skip m
  · exact h.skip m
theorem mark_any (w : World) (p : Nat) (r : RS) (m : List UInt8) (h : RdAt w p r.cells) (hs : Sm r) : Calls Tryz.prog 69 #[.pointer (some ⟨p, 0, none⟩), .string ⟨m.toArray⟩] w fun e w' => (∃ v, e = .returned v) ∧ MEnd p (markS m r) w w' := by
  have CS := hidOf (skip_any w p r m h hs)
  clear h hs
  unfold markS
  generalize hq : skipP m r = q at *
  obtain ⟨r1, b⟩ := q
  cases b
  · go_enter Tryz.func69, Tryz.ntmps69
    go_wp2_with (go_at_call 113; refine CS.out.mono ?_; rintro e w1 ⟨rfl, hend⟩; have d8 : w1.cell? ⟨p, 8, none⟩ = some (.bool r1.wrong) := hend.1.cell 8; have f8 := hend.1.frozen 8; have He := hidOf hend; clear hend)
    go_end0
    exact ⟨⟨_, rfl⟩, He.out.1.set 8 _, Chg.setCell He.out.2 (p := ⟨p, 8, none⟩) (show p = p from rfl) _⟩
  · go_enter Tryz.func69, Tryz.ntmps69
    go_wp2_with (go_at_call 113; refine CS.out.mono ?_; rintro e w1 ⟨rfl, hend⟩; have He := hidOf hend; clear hend)
    go_end0
    exact ⟨⟨_, rfl⟩, He.out⟩
theorem clone_any (s : ByteArray) (w : World) (hl : s.size ≤ 281474976710656) : Calls Tryz.prog 137 #[.string s] w fun e w' => e = .returned (.string s) ∧ Below w.heap.size w w' := by
  go_enter Tryz.func137, Tryz.ntmps137
  go_wp2_with (go_at_call 159; refine (Tryz.stringslite_Clone s _ hl).mono ?_; rintro e w1 ⟨rfl, hb⟩)
  go_ret
  exact ⟨rfl, hb⟩
/-- a name must stand here -/
def nameS (r : RS) : RS := RS.next { r with wrong := r.wrong || !nameP r.tok, tgt := r.tok }
theorem Sm.name {r : RS} (h : Sm r) : Sm (nameS r) := Sm.next (r := { r with wrong := r.wrong || !nameP r.tok, tgt := r.tok }) h
end Go.Proofs.YteelicelpkjmhaaGreatDoor
