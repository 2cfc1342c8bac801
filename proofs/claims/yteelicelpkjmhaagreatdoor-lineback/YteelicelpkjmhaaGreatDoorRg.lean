import Derived.Test.YteelicelpkjmhaaGreatDoorRf
namespace Go.Proofs.YteelicelpkjmhaaGreatDoor
open Go.RowKit
set_option linter.unusedVariables false
set_option linter.unusedSimpArgs false
/-- the source bit put in -/
def orB (o : Int) : Int := bits .or .i64 o 8
/-- a register or a number -/
def srcS (r : RS) : RS := if startP r.tok then { (regS { r with o := orB r.o }).1 with s := (regS { r with o := orB r.o }).2 } else immS r
/-- a helper's number or a function's name -/
def helpS (r : RS) : RS := if startP r.tok then nameS { r with s := 1, i := -1 } else immS r
theorem Sm.srcS {r : RS} (h : Sm r) : Sm (srcS r) := by
  unfold YteelicelpkjmhaaGreatDoor.srcS
  split
  · exact (show Sm { r with o := orB r.o } from h).reg
  · exact h.imm
theorem Sm.helpS {r : RS} (h : Sm r) : Sm (helpS r) := by
  unfold YteelicelpkjmhaaGreatDoor.helpS
  split
  · exact (show Sm { r with s := 1, i := -1 } from h).name
  · exact h.imm
theorem startM (w : World) (r : RS) (wx : World) (b : Bool) (hb : startP r.tok = b) : Calls Tryz.prog 97 #[.string ⟨r.tok.toArray⟩] wx fun e w' => e = .returned (.bool b) ∧ wx = w' := by
  have h := startsWord_any ⟨r.tok.toArray⟩ wx
  rw [mk_list, hb] at h
  exact h
set_option maxRecDepth 20000 in
set_option maxHeartbeats 800000 in
theorem source_rd (w0 w : World) (p : Nat) (HR : Hid (Rdr w0 p w)) (r : RS) (h : RdAt w p r.cells) (hs : Sm r) : Calls Tryz.prog 116 #[.pointer (some ⟨p, 0, none⟩)] w fun e w' => (∃ v, e = .returned v) ∧ MEnd p (srcS r) w w' := by
  have M0 := hidOf (MEnd.refl h)
  have d1 := M0.out.ct
  obtain ⟨d2, f2⟩ := M0.out.co
  cases hb : startP r.tok
  · have e1 : srcS r = immS r := by unfold srcS; rw [hb]; rfl
    rw [e1]
    have CS : Hid (∀ wx, Calls Tryz.prog 97 #[.string ⟨r.tok.toArray⟩] wx fun e w' => e = .returned (.bool false) ∧ wx = w') := fun wx => startM w r wx false hb
    have CI : Hid (∀ wx, MEnd p r w wx → Calls Tryz.prog 115 #[.pointer (some ⟨p, 0, none⟩)] wx fun e w' => (∃ v, e = .returned v) ∧ MEnd p (immS r) w w') := immM w0 w p HR.out r hs
    generalize immS r = rn at *
    clear h hs HR e1 hb
    go_enter Tryz.func116, Tryz.ntmps116
    go_wp2_with (first | (go_at_call 97; refine (CS.out _).mono ?_; rintro e w1 ⟨rfl, rfl⟩) | (go_at_call 115; refine (CI.out _ M0.out).mono ?_; rintro e w2 ⟨⟨v2, rfl⟩, hm⟩; have M2 := hidOf hm; clear hm))
    (try simp only [Exit.inBlock, Exit.then])
    refine bodyPost_ret (results_none rfl _ _ _) rfl ?_
    exact ⟨⟨_, rfl⟩, M2.out⟩
  · have e1 : srcS r = { (regS { r with o := orB r.o }).1 with s := (regS { r with o := orB r.o }).2 } := by unfold srcS; rw [hb]; rfl
    rw [e1]
    have CS : Hid (∀ wx, Calls Tryz.prog 97 #[.string ⟨r.tok.toArray⟩] wx fun e w' => e = .returned (.bool true) ∧ wx = w') := fun wx => startM w r wx true hb
    have CR : Hid (∀ wx, MEnd p { r with o := orB r.o } w wx → Calls Tryz.prog 114 #[.pointer (some ⟨p, 0, none⟩)] wx fun e w' => e = .returned (.int .i64 (regS { r with o := orB r.o }).2) ∧ MEnd p (regS { r with o := orB r.o }).1 w w') := regM w0 w p HR.out { r with o := orB r.o } hs
    have M1 : Hid (MEnd p { r with o := orB r.o } w (w.setCell ⟨p, 2, none⟩ (.int .i64 (orB r.o)))) := M0.out.set 2 _ rfl
    generalize regS { r with o := orB r.o } = q at *
    obtain ⟨rn, k⟩ := q
    simp only at CR
    clear h hs HR e1 hb M0
    go_enter Tryz.func116, Tryz.ntmps116
    go_wp2_with (first | (go_at_call 97; refine (CS.out _).mono ?_; rintro e w1 ⟨rfl, rfl⟩) | (go_at_call 114; refine (CR.out _ M1.out).mono ?_; rintro e w2 ⟨rfl, hm⟩; have d4 := hm.cs.1; have f4 := hm.cs.2; have M2 := hidOf hm; clear hm))
    go_end0
    exact ⟨⟨_, rfl⟩, M2.out.set 4 _ rfl⟩
set_option maxRecDepth 20000 in
set_option maxHeartbeats 800000 in
theorem helper_rd (w0 w : World) (p : Nat) (HR : Hid (Rdr w0 p w)) (r : RS) (h : RdAt w p r.cells) (hs : Sm r) : Calls Tryz.prog 119 #[.pointer (some ⟨p, 0, none⟩)] w fun e w' => (∃ v, e = .returned v) ∧ MEnd p (helpS r) w w' := by
  have M0 := hidOf (MEnd.refl h)
  have d1 := M0.out.ct
  cases hb : startP r.tok
  · have e1 : helpS r = immS r := by unfold helpS; rw [hb]; rfl
    rw [e1]
    have CS : Hid (∀ wx, Calls Tryz.prog 97 #[.string ⟨r.tok.toArray⟩] wx fun e w' => e = .returned (.bool false) ∧ wx = w') := fun wx => startM w r wx false hb
    have CI : Hid (∀ wx, MEnd p r w wx → Calls Tryz.prog 115 #[.pointer (some ⟨p, 0, none⟩)] wx fun e w' => (∃ v, e = .returned v) ∧ MEnd p (immS r) w w') := immM w0 w p HR.out r hs
    generalize immS r = rn at *
    clear h hs HR e1 hb
    go_enter Tryz.func119, Tryz.ntmps119
    go_wp2_with (first | (go_at_call 97; refine (CS.out _).mono ?_; rintro e w1 ⟨rfl, rfl⟩) | (go_at_call 115; refine (CI.out _ M0.out).mono ?_; rintro e w2 ⟨⟨v2, rfl⟩, hm⟩; have M2 := hidOf hm; clear hm))
    (try simp only [Exit.inBlock, Exit.then])
    refine bodyPost_ret (results_none rfl _ _ _) rfl ?_
    exact ⟨⟨_, rfl⟩, M2.out⟩
  · have e1 : helpS r = nameS { r with s := 1, i := -1 } := by unfold helpS; rw [hb]; rfl
    rw [e1]
    have CS : Hid (∀ wx, Calls Tryz.prog 97 #[.string ⟨r.tok.toArray⟩] wx fun e w' => e = .returned (.bool true) ∧ wx = w') := fun wx => startM w r wx true hb
    have CR : Hid (∀ wx, MEnd p { r with s := 1, i := -1 } w wx → Calls Tryz.prog 118 #[.pointer (some ⟨p, 0, none⟩)] wx fun e w' => (∃ v, e = .returned v) ∧ MEnd p (nameS { r with s := 1, i := -1 }) w w') := nameM w p { r with s := 1, i := -1 } hs
    have M1 : Hid (MEnd p { r with s := 1, i := -1 } w ((w.setCell ⟨p, 4, none⟩ (.int .i64 1)).setCell ⟨p, 6, none⟩ (.int .i64 (-1)))) := (M0.out.set (r2 := { r with s := 1 }) 4 _ rfl).set 6 _ rfl
    obtain ⟨d4, f4⟩ := M0.out.cs
    obtain ⟨d6, f6⟩ := M0.out.ci
    generalize nameS { r with s := 1, i := -1 } = rn at *
    clear h hs HR e1 hb M0
    go_enter Tryz.func119, Tryz.ntmps119
    go_wp2_with (first | (go_at_call 97; refine (CS.out _).mono ?_; rintro e w1 ⟨rfl, rfl⟩) | (go_at_call 118; refine (CR.out _ M1.out).mono ?_; rintro e w2 ⟨⟨v2, rfl⟩, hm⟩; have M2 := hidOf hm; clear hm))
    go_end0
    exact ⟨⟨_, rfl⟩, M2.out⟩
theorem sourceM (w0 w : World) (p : Nat) (R : Rdr w0 p w) (r : RS) (hs : Sm r) (wx : World) (m : MEnd p r w wx) : Calls Tryz.prog 116 #[.pointer (some ⟨p, 0, none⟩)] wx fun e w' => (∃ v, e = .returned v) ∧ MEnd p (srcS r) w w' :=
  (source_rd w0 wx p (hidOf (R.next m)) r m.1 hs).mono fun e w' ⟨a, b⟩ => ⟨a, m.trans b⟩
theorem helperM (w0 w : World) (p : Nat) (R : Rdr w0 p w) (r : RS) (hs : Sm r) (wx : World) (m : MEnd p r w wx) : Calls Tryz.prog 119 #[.pointer (some ⟨p, 0, none⟩)] wx fun e w' => (∃ v, e = .returned v) ∧ MEnd p (helpS r) w w' :=
  (helper_rd w0 wx p (hidOf (R.next m)) r m.1 hs).mono fun e w' ⟨a, b⟩ => ⟨a, m.trans b⟩
end Go.Proofs.YteelicelpkjmhaaGreatDoor
