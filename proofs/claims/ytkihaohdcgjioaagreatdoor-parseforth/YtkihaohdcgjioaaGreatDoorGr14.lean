import Derived.Test.YtkihaohdcgjioaaGreatDoorGr13
namespace Go.Proofs.YtkihaohdcgjioaaGreatDoor
open Go.RowKit
set_option linter.unusedVariables false
set_option linter.unusedSimpArgs false
theorem Rdr.next {w0 w wx : World} {p : Nat} {r : RS} (h : Rdr w0 p w) (m : MEnd p r w wx) : Rdr w0 p wx := ⟨h.1, m.out h, h.2.2⟩
theorem immM (w0 w : World) (p : Nat) (R : Rdr w0 p w) (r : RS) (hs : Sm r) (wx : World) (m : MEnd p r w wx) : Calls Tryz.prog 247 #[.pointer (some ⟨p, 0, none⟩)] wx fun e w' => (∃ v, e = .returned v) ∧ MEnd p (immS r) w w' :=
  (imm_rd w0 wx p (hidOf (R.next m)) r m.1 hs).mono fun e w' ⟨a, b⟩ => ⟨a, m.trans b⟩
set_option maxRecDepth 20000 in
set_option maxHeartbeats 800000 in
theorem place_rd (w0 w : World) (p : Nat) (HR : Hid (Rdr w0 p w)) (r : RS) (h : RdAt w p r.cells) (hs : Sm r) : Calls Tryz.prog 249 #[.pointer (some ⟨p, 0, none⟩)] w fun e w' => e = .returned (.tuple #[.int .i64 (placeS r).2.1, .int .i64 (placeS r).2.2]) ∧ MEnd p (placeS r).1 w w' := by
  have CA : Hid (∀ wx, MEnd p r w wx → Calls Tryz.prog 223 #[.pointer (some ⟨p, 0, none⟩), .string ⟨#[91]⟩] wx fun e w' => (∃ v, e = .returned v) ∧ MEnd p (markS [91] r) w w') := markM w p r [91] hs
  have M0 := hidOf (MEnd.refl h)
  have hs1 := hs.mark [91]
  have HP : placeS r = (markS [93] (numS (pgnS (regS (markS [91] r)).1).2 32768 32767 (pgnS (regS (markS [91] r)).1).1), (regS (markS [91] r)).2, numV (pgnS (regS (markS [91] r)).1).2 16 (pgnS (regS (markS [91] r)).1).1) := rfl
  unfold pgnS at HP
  generalize placeS r = q at *
  obtain ⟨rz, kz, vz⟩ := q
  show Calls Tryz.prog 249 #[.pointer (some ⟨p, 0, none⟩)] w fun e w' => e = .returned (.tuple #[.int .i64 kz, .int .i64 vz]) ∧ MEnd p rz w w'
  clear h hs
  generalize markS [91] r = r1 at *
  have CR : Hid (∀ wx, MEnd p r1 w wx → Calls Tryz.prog 246 #[.pointer (some ⟨p, 0, none⟩)] wx fun e w' => e = .returned (.int .i64 (regS r1).2) ∧ MEnd p (regS r1).1 w w') := regM w0 w p HR.out r1 hs1
  have hs2 := hs1.reg
  generalize regS r1 = q at *
  obtain ⟨r2, k⟩ := q
  simp only at CR hs2 HP
  clear hs1
  have CS : Hid (∀ wx, MEnd p r2 w wx → Calls Tryz.prog 245 #[.pointer (some ⟨p, 0, none⟩), .string ⟨#[45]⟩] wx fun e w' => e = .returned (.bool (skipP [45] r2).2) ∧ MEnd p (skipP [45] r2).1 w w') := skipM w p r2 [45] hs2
  have hs3 := hs2.skip [45]
  generalize skipP [45] r2 = q at *
  obtain ⟨r3, b⟩ := q
  simp only at CS hs3 HP
  clear hs2
  cases b
  · simp only [Bool.false_eq_true, if_false] at HP
    have CP : Hid (∀ wx, MEnd p r3 w wx → Calls Tryz.prog 223 #[.pointer (some ⟨p, 0, none⟩), .string ⟨#[43]⟩] wx fun e w' => (∃ v, e = .returned v) ∧ MEnd p (markS [43] r3) w w') := markM w p r3 [43] hs3
    have hs4 := hs3.mark [43]
    generalize markS [43] r3 = r4 at *
    clear hs3
    have CN : Hid (∀ wx, MEnd p r4 w wx → Calls Tryz.prog 260 #[.pointer (some ⟨p, 0, none⟩), .bool false, .int .i64 16, .int .u64 32767] wx fun e w' => e = .returned (.int .i64 (numV false 16 r4)) ∧ MEnd p (numS false 32768 32767 r4) w w') := num16M w0 w p HR.out r4 hs4 false _
    have hs5 := hs4.num false 32768 32767
    generalize numV false 16 r4 = vn at *
    generalize numS false 32768 32767 r4 = r5 at *
    have CZ : Hid (∀ wx, MEnd p r5 w wx → Calls Tryz.prog 223 #[.pointer (some ⟨p, 0, none⟩), .string ⟨#[93]⟩] wx fun e w' => (∃ v, e = .returned v) ∧ MEnd p (markS [93] r5) w w') := markM w p r5 [93] hs5
    generalize markS [93] r5 = r6 at *
    simp only [Prod.mk.injEq] at HP
    obtain ⟨rfl, rfl, rfl⟩ := HP
    clear hs5 hs4 HR
    go_enter Tryz.func249, Tryz.ntmps249
    go_wp2_with (first | (go_at_call 223; refine (CZ.out _ M5.out).mono ?_; rintro e w6 ⟨⟨v6, rfl⟩, hm⟩; have M6 := hidOf hm; clear hm) | (go_at_call 260; refine (CN.out _ M4.out).mono ?_; rintro e w5 ⟨rfl, hm⟩; have M5 := hidOf hm; clear hm) | (go_at_call 223; refine (CP.out _ M3.out).mono ?_; rintro e w4 ⟨⟨v4, rfl⟩, hm⟩; have M4 := hidOf hm; clear hm) | (go_at_call 245; refine (CS.out _ M2.out).mono ?_; rintro e w3 ⟨rfl, hm⟩; have M3 := hidOf hm; clear hm) | (go_at_call 246; refine (CR.out _ M1.out).mono ?_; rintro e w2 ⟨rfl, hm⟩; have M2 := hidOf hm; clear hm) | (go_at_call 223; refine (CA.out _ M0.out).mono ?_; rintro e w1 ⟨⟨v1, rfl⟩, hm⟩; have M1 := hidOf hm; clear hm))
    go_ret2
    exact ⟨rfl, M6.out⟩
  · simp only [if_true] at HP
    have CN : Hid (∀ wx, MEnd p r3 w wx → Calls Tryz.prog 260 #[.pointer (some ⟨p, 0, none⟩), .bool true, .int .i64 16, .int .u64 32767] wx fun e w' => e = .returned (.int .i64 (numV true 16 r3)) ∧ MEnd p (numS true 32768 32767 r3) w w') := num16M w0 w p HR.out r3 hs3 true _
    have hs5 := hs3.num true 32768 32767
    generalize numV true 16 r3 = vn at *
    generalize numS true 32768 32767 r3 = r5 at *
    have CZ : Hid (∀ wx, MEnd p r5 w wx → Calls Tryz.prog 223 #[.pointer (some ⟨p, 0, none⟩), .string ⟨#[93]⟩] wx fun e w' => (∃ v, e = .returned v) ∧ MEnd p (markS [93] r5) w w') := markM w p r5 [93] hs5
    generalize markS [93] r5 = r6 at *
    simp only [Prod.mk.injEq] at HP
    obtain ⟨rfl, rfl, rfl⟩ := HP
    clear hs5 hs3 HR
    go_enter Tryz.func249, Tryz.ntmps249
    go_wp2_with (first | (go_at_call 223; refine (CZ.out _ M5.out).mono ?_; rintro e w6 ⟨⟨v6, rfl⟩, hm⟩; have M6 := hidOf hm; clear hm) | (go_at_call 260; refine (CN.out _ M3.out).mono ?_; rintro e w5 ⟨rfl, hm⟩; have M5 := hidOf hm; clear hm) | (go_at_call 245; refine (CS.out _ M2.out).mono ?_; rintro e w3 ⟨rfl, hm⟩; have M3 := hidOf hm; clear hm) | (go_at_call 246; refine (CR.out _ M1.out).mono ?_; rintro e w2 ⟨rfl, hm⟩; have M2 := hidOf hm; clear hm) | (go_at_call 223; refine (CA.out _ M0.out).mono ?_; rintro e w1 ⟨⟨v1, rfl⟩, hm⟩; have M1 := hidOf hm; clear hm))
    go_ret2
    exact ⟨rfl, M6.out⟩
theorem placeM (w0 w : World) (p : Nat) (R : Rdr w0 p w) (r : RS) (hs : Sm r) (wx : World) (m : MEnd p r w wx) : Calls Tryz.prog 249 #[.pointer (some ⟨p, 0, none⟩)] wx fun e w' => e = .returned (.tuple #[.int .i64 (placeS r).2.1, .int .i64 (placeS r).2.2]) ∧ MEnd p (placeS r).1 w w' :=
  (place_rd w0 wx p (hidOf (R.next m)) r m.1 hs).mono fun e w' ⟨a, b⟩ => ⟨a, m.trans b⟩
def orB (o : Int) : Int := bits .or .i64 o 8
def srcS (r : RS) : RS := if startP r.tok then { (regS { r with o := orB r.o }).1 with s := (regS { r with o := orB r.o }).2 } else immS r
def helpS (r : RS) : RS := if startP r.tok then nameS { r with s := 1, i := -1 } else immS r
theorem Sm.srcS {r : RS} (h : Sm r) : Sm (srcS r) := by
  unfold YtkihaohdcgjioaaGreatDoor.srcS
  split
  · exact (show Sm { r with o := orB r.o } from h).reg
  · exact h.imm
theorem Sm.helpS {r : RS} (h : Sm r) : Sm (helpS r) := by
  unfold YtkihaohdcgjioaaGreatDoor.helpS
  split
  · exact (show Sm { r with s := 1, i := -1 } from h).name
  · exact h.imm
theorem startM (w : World) (r : RS) (wx : World) (b : Bool) (hb : startP r.tok = b) : Calls Tryz.prog 166 #[.string ⟨r.tok.toArray⟩] wx fun e w' => e = .returned (.bool b) ∧ wx = w' := by
  have h := startsWord_any ⟨r.tok.toArray⟩ wx
  rw [mk_list, hb] at h
  exact h
set_option maxRecDepth 20000 in
set_option maxHeartbeats 800000 in
theorem source_rd (w0 w : World) (p : Nat) (HR : Hid (Rdr w0 p w)) (r : RS) (h : RdAt w p r.cells) (hs : Sm r) : Calls Tryz.prog 248 #[.pointer (some ⟨p, 0, none⟩)] w fun e w' => (∃ v, e = .returned v) ∧ MEnd p (srcS r) w w' := by
  have M0 := hidOf (MEnd.refl h)
  have d1 := M0.out.ct
  obtain ⟨d2, f2⟩ := M0.out.co
  cases hb : startP r.tok
  · have e1 : srcS r = immS r := by unfold srcS; rw [hb]; rfl
    rw [e1]
    have CS : Hid (∀ wx, Calls Tryz.prog 166 #[.string ⟨r.tok.toArray⟩] wx fun e w' => e = .returned (.bool false) ∧ wx = w') := fun wx => startM w r wx false hb
    have CI : Hid (∀ wx, MEnd p r w wx → Calls Tryz.prog 247 #[.pointer (some ⟨p, 0, none⟩)] wx fun e w' => (∃ v, e = .returned v) ∧ MEnd p (immS r) w w') := immM w0 w p HR.out r hs
    generalize immS r = rn at *
    clear h hs HR e1 hb
    go_enter Tryz.func248, Tryz.ntmps248
    go_wp2_with (first | (go_at_call 166; refine (CS.out _).mono ?_; rintro e w1 ⟨rfl, rfl⟩) | (go_at_call 247; refine (CI.out _ M0.out).mono ?_; rintro e w2 ⟨⟨v2, rfl⟩, hm⟩; have M2 := hidOf hm; clear hm))
    (try simp only [Exit.inBlock, Exit.then])
    refine bodyPost_ret (results_none rfl _ _ _) rfl ?_
    exact ⟨⟨_, rfl⟩, M2.out⟩
  · have e1 : srcS r = { (regS { r with o := orB r.o }).1 with s := (regS { r with o := orB r.o }).2 } := by unfold srcS; rw [hb]; rfl
    rw [e1]
    have CS : Hid (∀ wx, Calls Tryz.prog 166 #[.string ⟨r.tok.toArray⟩] wx fun e w' => e = .returned (.bool true) ∧ wx = w') := fun wx => startM w r wx true hb
    have CR : Hid (∀ wx, MEnd p { r with o := orB r.o } w wx → Calls Tryz.prog 246 #[.pointer (some ⟨p, 0, none⟩)] wx fun e w' => e = .returned (.int .i64 (regS { r with o := orB r.o }).2) ∧ MEnd p (regS { r with o := orB r.o }).1 w w') := regM w0 w p HR.out { r with o := orB r.o } hs
    have M1 : Hid (MEnd p { r with o := orB r.o } w (w.setCell ⟨p, 2, none⟩ (.int .i64 (orB r.o)))) := M0.out.set 2 _ rfl
    generalize regS { r with o := orB r.o } = q at *
    obtain ⟨rn, k⟩ := q
    simp only at CR
    clear h hs HR e1 hb M0
    go_enter Tryz.func248, Tryz.ntmps248
    go_wp2_with (first | (go_at_call 166; refine (CS.out _).mono ?_; rintro e w1 ⟨rfl, rfl⟩) | (go_at_call 246; refine (CR.out _ M1.out).mono ?_; rintro e w2 ⟨rfl, hm⟩; have d4 := hm.cs.1; have f4 := hm.cs.2; have M2 := hidOf hm; clear hm))
    go_end0
    exact ⟨⟨_, rfl⟩, M2.out.set 4 _ rfl⟩
set_option maxRecDepth 20000 in
set_option maxHeartbeats 800000 in
theorem helper_rd (w0 w : World) (p : Nat) (HR : Hid (Rdr w0 p w)) (r : RS) (h : RdAt w p r.cells) (hs : Sm r) : Calls Tryz.prog 251 #[.pointer (some ⟨p, 0, none⟩)] w fun e w' => (∃ v, e = .returned v) ∧ MEnd p (helpS r) w w' := by
  have M0 := hidOf (MEnd.refl h)
  have d1 := M0.out.ct
  cases hb : startP r.tok
  · have e1 : helpS r = immS r := by unfold helpS; rw [hb]; rfl
    rw [e1]
    have CS : Hid (∀ wx, Calls Tryz.prog 166 #[.string ⟨r.tok.toArray⟩] wx fun e w' => e = .returned (.bool false) ∧ wx = w') := fun wx => startM w r wx false hb
    have CI : Hid (∀ wx, MEnd p r w wx → Calls Tryz.prog 247 #[.pointer (some ⟨p, 0, none⟩)] wx fun e w' => (∃ v, e = .returned v) ∧ MEnd p (immS r) w w') := immM w0 w p HR.out r hs
    generalize immS r = rn at *
    clear h hs HR e1 hb
    go_enter Tryz.func251, Tryz.ntmps251
    go_wp2_with (first | (go_at_call 166; refine (CS.out _).mono ?_; rintro e w1 ⟨rfl, rfl⟩) | (go_at_call 247; refine (CI.out _ M0.out).mono ?_; rintro e w2 ⟨⟨v2, rfl⟩, hm⟩; have M2 := hidOf hm; clear hm))
    (try simp only [Exit.inBlock, Exit.then])
    refine bodyPost_ret (results_none rfl _ _ _) rfl ?_
    exact ⟨⟨_, rfl⟩, M2.out⟩
  · have e1 : helpS r = nameS { r with s := 1, i := -1 } := by unfold helpS; rw [hb]; rfl
    rw [e1]
    have CS : Hid (∀ wx, Calls Tryz.prog 166 #[.string ⟨r.tok.toArray⟩] wx fun e w' => e = .returned (.bool true) ∧ wx = w') := fun wx => startM w r wx true hb
    have CR : Hid (∀ wx, MEnd p { r with s := 1, i := -1 } w wx → Calls Tryz.prog 250 #[.pointer (some ⟨p, 0, none⟩)] wx fun e w' => (∃ v, e = .returned v) ∧ MEnd p (nameS { r with s := 1, i := -1 }) w w') := nameM w p { r with s := 1, i := -1 } hs
    have M1 : Hid (MEnd p { r with s := 1, i := -1 } w ((w.setCell ⟨p, 4, none⟩ (.int .i64 1)).setCell ⟨p, 6, none⟩ (.int .i64 (-1)))) := (M0.out.set (r2 := { r with s := 1 }) 4 _ rfl).set 6 _ rfl
    obtain ⟨d4, f4⟩ := M0.out.cs
    obtain ⟨d6, f6⟩ := M0.out.ci
    generalize nameS { r with s := 1, i := -1 } = rn at *
    clear h hs HR e1 hb M0
    go_enter Tryz.func251, Tryz.ntmps251
    go_wp2_with (first | (go_at_call 166; refine (CS.out _).mono ?_; rintro e w1 ⟨rfl, rfl⟩) | (go_at_call 250; refine (CR.out _ M1.out).mono ?_; rintro e w2 ⟨⟨v2, rfl⟩, hm⟩; have M2 := hidOf hm; clear hm))
    go_end0
    exact ⟨⟨_, rfl⟩, M2.out⟩
theorem sourceM (w0 w : World) (p : Nat) (R : Rdr w0 p w) (r : RS) (hs : Sm r) (wx : World) (m : MEnd p r w wx) : Calls Tryz.prog 248 #[.pointer (some ⟨p, 0, none⟩)] wx fun e w' => (∃ v, e = .returned v) ∧ MEnd p (srcS r) w w' :=
  (source_rd w0 wx p (hidOf (R.next m)) r m.1 hs).mono fun e w' ⟨a, b⟩ => ⟨a, m.trans b⟩
theorem helperM (w0 w : World) (p : Nat) (R : Rdr w0 p w) (r : RS) (hs : Sm r) (wx : World) (m : MEnd p r w wx) : Calls Tryz.prog 251 #[.pointer (some ⟨p, 0, none⟩)] wx fun e w' => (∃ v, e = .returned v) ∧ MEnd p (helpS r) w w' :=
  (helper_rd w0 wx p (hidOf (R.next m)) r m.1 hs).mono fun e w' ⟨a, b⟩ => ⟨a, m.trans b⟩
def opS (c : Int) (r : RS) : RS :=
  if c = 1 then { (regS r).1 with d := (regS r).2 } else if c = 2 then { (regS r).1 with s := (regS r).2 } else if c = 3 then immS r else if c = 4 then srcS r
  else if c = 5 then { (placeS r).1 with s := (placeS r).2.1, f := (placeS r).2.2 } else if c = 6 then { (placeS r).1 with d := (placeS r).2.1, f := (placeS r).2.2 }
  else if c = 7 then nameS r else if c = 8 then helpS r else r
theorem Sm.opS {r : RS} (h : Sm r) (c : Int) : Sm (opS c r) := by
  unfold YtkihaohdcgjioaaGreatDoor.opS
  split
  · exact h.reg
  split
  · exact h.reg
  split
  · exact h.imm
  split
  · exact h.srcS
  split
  · exact h.place
  split
  · exact h.place
  split
  · exact h.name
  split
  · exact h.helpS
  · exact h
set_option maxRecDepth 20000 in
set_option maxHeartbeats 800000 in
theorem operand_1 (w0 w : World) (p : Nat) (HR : Hid (Rdr w0 p w)) (r : RS) (h : RdAt w p r.cells) (hs : Sm r) : Calls Tryz.prog 224 #[.pointer (some ⟨p, 0, none⟩), .int .u8 1] w fun e w' => (∃ v, e = .returned v) ∧ MEnd p (opS 1 r) w w' := by
  have M0 := hidOf (MEnd.refl h)
  have CR : Hid (∀ wx, MEnd p r w wx → Calls Tryz.prog 246 #[.pointer (some ⟨p, 0, none⟩)] wx fun e w' => e = .returned (.int .i64 (regS r).2) ∧ MEnd p (regS r).1 w w') := regM w0 w p HR.out r hs
  show Calls _ _ _ _ fun e w' => (∃ v, e = .returned v) ∧ MEnd p { (regS r).1 with d := (regS r).2 } w w'
  generalize regS r = q at *
  obtain ⟨rn, k⟩ := q
  simp only at CR
  clear h hs HR
  go_enter Tryz.func224, Tryz.ntmps224
  go_wp2_with (go_at_call 246; refine (CR.out _ M0.out).mono ?_; rintro e w2 ⟨rfl, hm⟩; have d4 := hm.cd.1; have f4 := hm.cd.2; have M2 := hidOf hm; clear hm)
  go_end0
  exact ⟨⟨_, rfl⟩, M2.out.set 3 _ rfl⟩
set_option maxRecDepth 20000 in
set_option maxHeartbeats 800000 in
theorem operand_2 (w0 w : World) (p : Nat) (HR : Hid (Rdr w0 p w)) (r : RS) (h : RdAt w p r.cells) (hs : Sm r) : Calls Tryz.prog 224 #[.pointer (some ⟨p, 0, none⟩), .int .u8 2] w fun e w' => (∃ v, e = .returned v) ∧ MEnd p (opS 2 r) w w' := by
  have M0 := hidOf (MEnd.refl h)
  have CR : Hid (∀ wx, MEnd p r w wx → Calls Tryz.prog 246 #[.pointer (some ⟨p, 0, none⟩)] wx fun e w' => e = .returned (.int .i64 (regS r).2) ∧ MEnd p (regS r).1 w w') := regM w0 w p HR.out r hs
  show Calls _ _ _ _ fun e w' => (∃ v, e = .returned v) ∧ MEnd p { (regS r).1 with s := (regS r).2 } w w'
  generalize regS r = q at *
  obtain ⟨rn, k⟩ := q
  simp only at CR
  clear h hs HR
  go_enter Tryz.func224, Tryz.ntmps224
  go_wp2_with (go_at_call 246; refine (CR.out _ M0.out).mono ?_; rintro e w2 ⟨rfl, hm⟩; have d4 := hm.cs.1; have f4 := hm.cs.2; have M2 := hidOf hm; clear hm)
  go_end0
  exact ⟨⟨_, rfl⟩, M2.out.set 4 _ rfl⟩
set_option maxRecDepth 20000 in
set_option maxHeartbeats 800000 in
theorem operand_3 (w0 w : World) (p : Nat) (HR : Hid (Rdr w0 p w)) (r : RS) (h : RdAt w p r.cells) (hs : Sm r) : Calls Tryz.prog 224 #[.pointer (some ⟨p, 0, none⟩), .int .u8 3] w fun e w' => (∃ v, e = .returned v) ∧ MEnd p (opS 3 r) w w' := by
  have M0 := hidOf (MEnd.refl h)
  have CR : Hid (∀ wx, MEnd p r w wx → Calls Tryz.prog 247 #[.pointer (some ⟨p, 0, none⟩)] wx fun e w' => (∃ v, e = .returned v) ∧ MEnd p (immS r) w w') := immM w0 w p HR.out r hs
  show Calls _ _ _ _ fun e w' => (∃ v, e = .returned v) ∧ MEnd p (immS r) w w'
  generalize immS r = rn at *
  clear h hs HR
  go_enter Tryz.func224, Tryz.ntmps224
  go_wp2_with (go_at_call 247; refine (CR.out _ M0.out).mono ?_; rintro e w2 ⟨⟨v2, rfl⟩, hm⟩; have M2 := hidOf hm; clear hm)
  go_end0
  exact ⟨⟨_, rfl⟩, M2.out⟩
set_option maxRecDepth 20000 in
set_option maxHeartbeats 800000 in
theorem operand_4 (w0 w : World) (p : Nat) (HR : Hid (Rdr w0 p w)) (r : RS) (h : RdAt w p r.cells) (hs : Sm r) : Calls Tryz.prog 224 #[.pointer (some ⟨p, 0, none⟩), .int .u8 4] w fun e w' => (∃ v, e = .returned v) ∧ MEnd p (opS 4 r) w w' := by
  have M0 := hidOf (MEnd.refl h)
  have CR : Hid (∀ wx, MEnd p r w wx → Calls Tryz.prog 248 #[.pointer (some ⟨p, 0, none⟩)] wx fun e w' => (∃ v, e = .returned v) ∧ MEnd p (srcS r) w w') := sourceM w0 w p HR.out r hs
  show Calls _ _ _ _ fun e w' => (∃ v, e = .returned v) ∧ MEnd p (srcS r) w w'
  generalize srcS r = rn at *
  clear h hs HR
  go_enter Tryz.func224, Tryz.ntmps224
  go_wp2_with (go_at_call 248; refine (CR.out _ M0.out).mono ?_; rintro e w2 ⟨⟨v2, rfl⟩, hm⟩; have M2 := hidOf hm; clear hm)
  go_end0
  exact ⟨⟨_, rfl⟩, M2.out⟩
set_option maxRecDepth 20000 in
set_option maxHeartbeats 800000 in
theorem operand_7 (w0 w : World) (p : Nat) (HR : Hid (Rdr w0 p w)) (r : RS) (h : RdAt w p r.cells) (hs : Sm r) : Calls Tryz.prog 224 #[.pointer (some ⟨p, 0, none⟩), .int .u8 7] w fun e w' => (∃ v, e = .returned v) ∧ MEnd p (opS 7 r) w w' := by
  have M0 := hidOf (MEnd.refl h)
  have CR : Hid (∀ wx, MEnd p r w wx → Calls Tryz.prog 250 #[.pointer (some ⟨p, 0, none⟩)] wx fun e w' => (∃ v, e = .returned v) ∧ MEnd p (nameS r) w w') := nameM w p r hs
  show Calls _ _ _ _ fun e w' => (∃ v, e = .returned v) ∧ MEnd p (nameS r) w w'
  generalize nameS r = rn at *
  clear h hs HR
  go_enter Tryz.func224, Tryz.ntmps224
  go_wp2_with (go_at_call 250; refine (CR.out _ M0.out).mono ?_; rintro e w2 ⟨⟨v2, rfl⟩, hm⟩; have M2 := hidOf hm; clear hm)
  go_end0
  exact ⟨⟨_, rfl⟩, M2.out⟩
set_option maxRecDepth 20000 in
set_option maxHeartbeats 800000 in
theorem operand_8 (w0 w : World) (p : Nat) (HR : Hid (Rdr w0 p w)) (r : RS) (h : RdAt w p r.cells) (hs : Sm r) : Calls Tryz.prog 224 #[.pointer (some ⟨p, 0, none⟩), .int .u8 8] w fun e w' => (∃ v, e = .returned v) ∧ MEnd p (opS 8 r) w w' := by
  have M0 := hidOf (MEnd.refl h)
  have CR : Hid (∀ wx, MEnd p r w wx → Calls Tryz.prog 251 #[.pointer (some ⟨p, 0, none⟩)] wx fun e w' => (∃ v, e = .returned v) ∧ MEnd p (helpS r) w w') := helperM w0 w p HR.out r hs
  show Calls _ _ _ _ fun e w' => (∃ v, e = .returned v) ∧ MEnd p (helpS r) w w'
  generalize helpS r = rn at *
  clear h hs HR
  go_enter Tryz.func224, Tryz.ntmps224
  go_wp2_with (go_at_call 251; refine (CR.out _ M0.out).mono ?_; rintro e w2 ⟨⟨v2, rfl⟩, hm⟩; have M2 := hidOf hm; clear hm)
  go_end0
  exact ⟨⟨_, rfl⟩, M2.out⟩
set_option maxRecDepth 20000 in
set_option maxHeartbeats 800000 in
theorem operand_5 (w0 w : World) (p : Nat) (HR : Hid (Rdr w0 p w)) (r : RS) (h : RdAt w p r.cells) (hs : Sm r) : Calls Tryz.prog 224 #[.pointer (some ⟨p, 0, none⟩), .int .u8 5] w fun e w' => (∃ v, e = .returned v) ∧ MEnd p (opS 5 r) w w' := by
  have M0 := hidOf (MEnd.refl h)
  have CR : Hid (∀ wx, MEnd p r w wx → Calls Tryz.prog 249 #[.pointer (some ⟨p, 0, none⟩)] wx fun e w' => e = .returned (.tuple #[.int .i64 (placeS r).2.1, .int .i64 (placeS r).2.2]) ∧ MEnd p (placeS r).1 w w') := placeM w0 w p HR.out r hs
  show Calls _ _ _ _ fun e w' => (∃ v, e = .returned v) ∧ MEnd p { (placeS r).1 with s := (placeS r).2.1, f := (placeS r).2.2 } w w'
  generalize placeS r = q at *
  obtain ⟨rn, k, v⟩ := q
  simp only at CR
  clear h hs HR
  go_enter Tryz.func224, Tryz.ntmps224
  go_wp2_with (go_at_call 249; refine (CR.out _ M0.out).mono ?_; rintro e w2 ⟨rfl, hm⟩; have d4 := hm.cs.1; have f4 := hm.cs.2; have d5 := hm.cf.1; have f5 := hm.cf.2; have M2 := hidOf hm; clear hm)
  go_end0
  exact ⟨⟨_, rfl⟩, (M2.out.set (r2 := { rn with s := k }) 4 _ rfl).set 5 _ rfl⟩
set_option maxRecDepth 20000 in
set_option maxHeartbeats 800000 in
theorem operand_6 (w0 w : World) (p : Nat) (HR : Hid (Rdr w0 p w)) (r : RS) (h : RdAt w p r.cells) (hs : Sm r) : Calls Tryz.prog 224 #[.pointer (some ⟨p, 0, none⟩), .int .u8 6] w fun e w' => (∃ v, e = .returned v) ∧ MEnd p (opS 6 r) w w' := by
  have M0 := hidOf (MEnd.refl h)
  have CR : Hid (∀ wx, MEnd p r w wx → Calls Tryz.prog 249 #[.pointer (some ⟨p, 0, none⟩)] wx fun e w' => e = .returned (.tuple #[.int .i64 (placeS r).2.1, .int .i64 (placeS r).2.2]) ∧ MEnd p (placeS r).1 w w') := placeM w0 w p HR.out r hs
  show Calls _ _ _ _ fun e w' => (∃ v, e = .returned v) ∧ MEnd p { (placeS r).1 with d := (placeS r).2.1, f := (placeS r).2.2 } w w'
  generalize placeS r = q at *
  obtain ⟨rn, k, v⟩ := q
  simp only at CR
  clear h hs HR
  go_enter Tryz.func224, Tryz.ntmps224
  go_wp2_with (go_at_call 249; refine (CR.out _ M0.out).mono ?_; rintro e w2 ⟨rfl, hm⟩; have d4 := hm.cd.1; have f4 := hm.cd.2; have d5 := hm.cf.1; have f5 := hm.cf.2; have M2 := hidOf hm; clear hm)
  go_end0
  exact ⟨⟨_, rfl⟩, (M2.out.set (r2 := { rn with d := k }) 3 _ rfl).set 5 _ rfl⟩
theorem operandM (w0 w : World) (p : Nat) (R : Rdr w0 p w) (r : RS) (hs : Sm r) (c : Int) (hc : 1 ≤ c ∧ c ≤ 8) (wx : World) (m : MEnd p r w wx) : Calls Tryz.prog 224 #[.pointer (some ⟨p, 0, none⟩), .int .u8 c] wx fun e w' => (∃ v, e = .returned v) ∧ MEnd p (opS c r) w w' := by
  have hR := hidOf (R.next m)
  have key : Calls Tryz.prog 224 #[.pointer (some ⟨p, 0, none⟩), .int .u8 c] wx fun e w' => (∃ v, e = .returned v) ∧ MEnd p (opS c r) wx w' := by
    rcases (show c = 1 ∨ c = 2 ∨ c = 3 ∨ c = 4 ∨ c = 5 ∨ c = 6 ∨ c = 7 ∨ c = 8 from by omega) with rfl | rfl | rfl | rfl | rfl | rfl | rfl | rfl
    · exact operand_1 w0 wx p hR r m.1 hs
    · exact operand_2 w0 wx p hR r m.1 hs
    · exact operand_3 w0 wx p hR r m.1 hs
    · exact operand_4 w0 wx p hR r m.1 hs
    · exact operand_5 w0 wx p hR r m.1 hs
    · exact operand_6 w0 wx p hR r m.1 hs
    · exact operand_7 w0 wx p hR r m.1 hs
    · exact operand_8 w0 wx p hR r m.1 hs
  exact key.mono fun e w' ⟨a, b⟩ => ⟨a, m.trans b⟩
def RS.at (r : RS) (l : List UInt8) : RS := { r with rest := restP l, tok := tokP l }
theorem at_blank (r : RS) (c : UInt8) (l : List UInt8) (h : c = 32 ∨ c = 9) : r.at (c :: l) = r.at l := by
  unfold RS.at
  rw [(tok_blank c l h).1, (tok_blank c l h).2]
theorem at_run (r : RS) (t u : List UInt8) (ht : headOk t = true) (ha : t.all runU = true) (hu : stopP u = true) : r.at (t ++ u) = { r with rest := u, tok := t } := by
  unfold RS.at
  rw [(tok_run t u ht ha hu).1, (tok_run t u ht ha hu).2]
theorem at_mark (r : RS) (c : UInt8) (u : List UInt8) (h : headOk [c] = false) (h1 : ¬ c = 32) (h2 : ¬ c = 9) : r.at (c :: u) = { r with rest := u, tok := [c] } := by
  unfold RS.at
  rw [(tok_mark c u h h1 h2).1, (tok_mark c u h h1 h2).2]
theorem regL_ok : ∀ k : Fin 11, headOk (regL k.val) = true ∧ (regL k.val).all runU = true ∧ startP (regL k.val) = true ∧ regN (regL k.val) = some k.val := by decide
theorem reg_at (r : RS) (k : Nat) (hk : k < 11) (u : List UInt8) (hu : stopP u = true) : regS (r.at (regL k ++ u)) = (r.at u, (k : Int)) := by
  obtain ⟨h1, h2, _, h4⟩ := regL_ok ⟨k, hk⟩
  rw [at_run r _ _ h1 h2 hu]
  unfold regS
  simp only
  rw [h4]
  rfl
theorem mark_at (r : RS) (c : UInt8) (u : List UInt8) (h : headOk [c] = false) (h1 : ¬ c = 32) (h2 : ¬ c = 9) : markS [c] (r.at (c :: u)) = r.at u := by
  rw [at_mark r c u h h1 h2]
  unfold markS skipP
  simp only [if_true]
  rfl
theorem skip_at (r : RS) (c : UInt8) (u : List UInt8) (h : headOk [c] = false) (h1 : ¬ c = 32) (h2 : ¬ c = 9) : skipP [c] (r.at (c :: u)) = (r.at u, true) := by
  rw [at_mark r c u h h1 h2]
  unfold skipP
  simp only [if_true]
  rfl
theorem skip_no (r : RS) (m l : List UInt8) (h : ¬ tokP l = m) : skipP m (r.at l) = (r.at l, false) := by
  unfold skipP
  rw [if_neg (show ¬ (r.at l).tok = m from h)]
theorem dd_ne (u : Nat) (l : List UInt8) (c : UInt8) (hl : stopP l = true) (hc : digU c = false) : ¬ tokP (Lib.decDigits u ++ l) = [c] := by
  rw [(dd_tok u l hl).1]
  intro e
  have := (dd_all u).1
  rw [e] at this
  simp [hc] at this
theorem num_at (r : RS) (u : Nat) (l : List UInt8) (hl : stopP l = true) (b : Bool) (half high : Int) (hu : u ≤ 18446744073709551615) (hh : (u : Int) ≤ if b then half else high) : numS b half high (r.at (Lib.decDigits u ++ l)) = r.at l ∧ ∀ width, numV b width (r.at (Lib.decDigits u ++ l)) = wrap64 (Wo.sgnW width (if b then Wo.negW u else u)) := by
  have e1 : (r.at (Lib.decDigits u ++ l)).tok = Lib.decDigits u := (dd_tok u l hl).1
  have e2 : (r.at (Lib.decDigits u ++ l)).rest = l := (dd_tok u l hl).2
  have ev := val_dd u hu
  constructor
  · unfold numS
    rw [e1, ev]
    have hd : decide ((if b then half else high) < (u : Int)) = false := decide_eq_false (by omega)
    simp only [hd, Bool.or_false, Bool.not_true]
    unfold RS.next
    simp only
    rw [e2]
    rfl
  · intro width
    unfold numV
    rw [e1, ev]
theorem wrap_neg (u : Nat) (h : 1 ≤ u) (h' : u ≤ 9223372036854775808) : Wo.negW (u : Int) = 18446744073709551616 - u := by
  unfold Wo.negW
  simp only [IntKind.wrap_u64]
  omega
theorem sgn_at (u : Nat) (width H M : Int) (eM : Wo.mW width = M) (eH : Wo.hW width = H) (h : (H = 32768 ∧ M = 65536) ∨ (H = 2147483648 ∧ M = 4294967296) ∨ (H = 9223372036854775808 ∧ M = 18446744073709551616)) :
    ((u : Int) < H → wrap64 (Wo.sgnW width (u : Int)) = u) ∧ ((u : Int) ≤ H → 1 ≤ u → wrap64 (Wo.sgnW width (Wo.negW (u : Int))) = -u) := by
  constructor
  · intro h1
    unfold Wo.sgnW Wo.sgnM wrap64
    rw [eM, eH]
    rcases h with ⟨rfl, rfl⟩ | ⟨rfl, rfl⟩ | ⟨rfl, rfl⟩ <;> (split <;> omega)
  · intro h1 h2
    rw [wrap_neg u h2 (by omega)]
    unfold Wo.sgnW Wo.sgnM wrap64
    rw [eM, eH]
    rcases h with ⟨rfl, rfl⟩ | ⟨rfl, rfl⟩ | ⟨rfl, rfl⟩ <;> (split <;> omega)
theorem itoa_neg (i : Int) (h : i < 0) : Lib.itoa i = 45 :: Lib.decDigits i.natAbs := by unfold Lib.itoa; rw [if_pos h]
theorem itoa_pos (i : Int) (h : ¬ i < 0) : Lib.itoa i = Lib.decDigits i.toNat := by unfold Lib.itoa; rw [if_neg h]
theorem sgn_neg (r : RS) (i : Int) (h : i < 0) (l : List UInt8) : sgnS (r.at (Lib.itoa i ++ l)) = (r.at (Lib.decDigits i.natAbs ++ l), true) := by
  rw [itoa_neg i h]
  unfold sgnS
  rw [List.cons_append, skip_at r 45 _ (by decide) (by decide) (by decide)]
  rfl
theorem sgn_pos (r : RS) (i : Int) (h : ¬ i < 0) (l : List UInt8) (hl : stopP l = true) : sgnS (r.at (Lib.itoa i ++ l)) = (r.at (Lib.decDigits i.toNat ++ l), false) := by
  rw [itoa_pos i h]
  unfold sgnS
  rw [skip_no r [45] _ (dd_ne _ l 45 hl (by decide))]
  simp only [Bool.false_eq_true, if_false]
  rw [skip_no r [43] _ (dd_ne _ l 43 hl (by decide))]
theorem imm_at (r : RS) (i : Int) (l : List UInt8) (hl : stopP l = true) (hi : if r.o = 24 then -9223372036854775808 ≤ i ∧ i < 9223372036854775808 else -2147483648 ≤ i ∧ i < 2147483648) : immS (r.at (Lib.itoa i ++ l)) = { r.at l with i := i } := by
  unfold immS
  show (if r.o = 24 then _ else _) = _
  by_cases ho : r.o = 24
  · rw [if_pos ho] at hi ⊢
    by_cases h0 : i < 0
    · rw [sgn_neg r i h0]
      obtain ⟨e1, e2⟩ := num_at r i.natAbs l hl true 9223372036854775808 18446744073709551615 (by omega) (by show _ ≤ (9223372036854775808 : Int); omega)
      simp only [e1, e2 64]
      have e3 := (sgn_at i.natAbs 64 _ _ rfl rfl (.inr (.inr ⟨rfl, rfl⟩))).2 (by show _ ≤ (9223372036854775808 : Int); omega) (by omega)
      simp only [if_true]
      rw [e3, show -(i.natAbs : Int) = i by omega]
    · rw [sgn_pos r i h0 l hl]
      obtain ⟨e1, e2⟩ := num_at r i.toNat l hl false 9223372036854775808 18446744073709551615 (by omega) (by show _ ≤ (18446744073709551615 : Int); omega)
      simp only [e1, e2 64]
      have e3 := (sgn_at i.toNat 64 _ _ rfl rfl (.inr (.inr ⟨rfl, rfl⟩))).1 (by show _ < (9223372036854775808 : Int); omega)
      simp only [Bool.false_eq_true, if_false]
      rw [e3, show ((i.toNat : Nat) : Int) = i by omega]
  · rw [if_neg ho] at hi ⊢
    by_cases h0 : i < 0
    · rw [sgn_neg r i h0]
      obtain ⟨e1, e2⟩ := num_at r i.natAbs l hl true 2147483648 4294967295 (by omega) (by show _ ≤ (2147483648 : Int); omega)
      simp only [e1, e2 32]
      have e3 := (sgn_at i.natAbs 32 _ _ rfl rfl (.inr (.inl ⟨rfl, rfl⟩))).2 (by show _ ≤ (2147483648 : Int); omega) (by omega)
      simp only [if_true]
      rw [e3, show -(i.natAbs : Int) = i by omega]
    · rw [sgn_pos r i h0 l hl]
      obtain ⟨e1, e2⟩ := num_at r i.toNat l hl false 2147483648 4294967295 (by omega) (by show _ ≤ (4294967295 : Int); omega)
      simp only [e1, e2 32]
      have e3 := (sgn_at i.toNat 32 _ _ rfl rfl (.inr (.inl ⟨rfl, rfl⟩))).1 (by show _ < (2147483648 : Int); omega)
      simp only [Bool.false_eq_true, if_false]
      rw [e3, show ((i.toNat : Nat) : Int) = i by omega]
def placeTx (k : Nat) (f : Int) : List UInt8 := 91 :: (regL k ++ ((if 0 ≤ f then [43] else []) ++ (Lib.itoa f ++ [93])))
theorem place_at (r : RS) (k : Nat) (hk : k < 11) (f : Int) (hf : -32768 ≤ f ∧ f < 32768) (l : List UInt8) : placeS (r.at (placeTx k f ++ l)) = (r.at l, (k : Int), f) := by
  have e0 : placeTx k f ++ l = 91 :: (regL k ++ ((if 0 ≤ f then [43] else []) ++ (Lib.itoa f ++ (93 :: l)))) := by simp [placeTx, List.append_assoc]
  have hst : stopP ((if 0 ≤ f then [43] else []) ++ (Lib.itoa f ++ (93 :: l))) = true := by
    split
    · rfl
    · rename_i h
      rw [itoa_neg f (by omega)]
      rfl
  have em : markS [91] (r.at (placeTx k f ++ l)) = r.at (regL k ++ ((if 0 ≤ f then [43] else []) ++ (Lib.itoa f ++ (93 :: l)))) := by
    rw [e0, mark_at r 91 _ (by decide) (by decide) (by decide)]
  unfold placeS
  rw [em, reg_at r k hk _ hst]
  simp only
  by_cases h0 : f < 0
  · have ep : pgnS (r.at ((if 0 ≤ f then [43] else []) ++ (Lib.itoa f ++ (93 :: l)))) = (r.at (Lib.decDigits f.natAbs ++ (93 :: l)), true) := by
      rw [if_neg (by omega), List.nil_append, itoa_neg f h0, List.cons_append]
      unfold pgnS
      rw [skip_at r 45 _ (by decide) (by decide) (by decide)]
      rfl
    rw [ep]
    obtain ⟨e1, e2⟩ := num_at r f.natAbs (93 :: l) rfl true 32768 32767 (by omega) (by show _ ≤ (32768 : Int); omega)
    simp only
    rw [e1, e2 16, mark_at r 93 _ (by decide) (by decide) (by decide)]
    have e3 := (sgn_at f.natAbs 16 _ _ rfl rfl (.inl ⟨rfl, rfl⟩)).2 (by show _ ≤ (32768 : Int); omega) (by omega)
    simp only [if_true]
    rw [e3, show -(f.natAbs : Int) = f by omega]
  · have ep : pgnS (r.at ((if 0 ≤ f then [43] else []) ++ (Lib.itoa f ++ (93 :: l)))) = (r.at (Lib.decDigits f.toNat ++ (93 :: l)), false) := by
      rw [if_pos (by omega), itoa_pos f h0]
      unfold pgnS
      have en : ¬ tokP ([43] ++ (Lib.decDigits f.toNat ++ (93 :: l))) = [45] := by
        rw [show ([43] : List UInt8) ++ (Lib.decDigits f.toNat ++ (93 :: l)) = 43 :: (Lib.decDigits f.toNat ++ (93 :: l)) from rfl, (tok_mark 43 _ (by decide) (by decide) (by decide)).1]
        decide
      rw [skip_no r [45] _ en]
      simp only [Bool.false_eq_true, if_false]
      rw [show ([43] : List UInt8) ++ (Lib.decDigits f.toNat ++ (93 :: l)) = 43 :: (Lib.decDigits f.toNat ++ (93 :: l)) from rfl, mark_at r 43 _ (by decide) (by decide) (by decide)]
    rw [ep]
    obtain ⟨e1, e2⟩ := num_at r f.toNat (93 :: l) rfl false 32768 32767 (by omega) (by show _ ≤ (32767 : Int); omega)
    simp only
    rw [e1, e2 16, mark_at r 93 _ (by decide) (by decide) (by decide)]
    have e3 := (sgn_at f.toNat 16 _ _ rfl rfl (.inl ⟨rfl, rfl⟩)).1 (by show _ < (32768 : Int); omega)
    simp only [Bool.false_eq_true, if_false]
    rw [e3, show ((f.toNat : Nat) : Int) = f by omega]
theorem name_at (r : RS) (t l : List UInt8) (ht : nameP t = true) (hl : stopP l = true) : nameS (r.at (t ++ l)) = { r.at l with tgt := t } := by
  have h1 : headOk t = true ∧ t.all runU = true := by
    unfold nameP at ht
    simp only [Bool.and_eq_true] at ht
    refine ⟨?_, ht.2⟩
    cases t with
    | nil => simp [startP] at ht
    | cons c t =>
      have : letP (bI c) = true := ht.1.2
      simp [headOk, this]
  rw [at_run r t l h1.1 h1.2 hl]
  unfold nameS
  simp only [ht, Bool.not_true, Bool.or_false]
  rfl
def opdL (t : Int × Int × Int) (r : RS) : RS :=
  if t.1 = 0 then r else if t.2.1 = 0 then opS t.1 r else if t.2.2 = 0 then opS t.2.1 (markS [44] (opS t.1 r)) else opS t.2.2 (markS [44] (opS t.2.1 (markS [44] (opS t.1 r))))
def opsS (t : Int × Int × Int) (r : RS) : RS := { opdL t r with wrong := (opdL t r).wrong || !(opdL t r).tok.isEmpty }
def tOf (o s f : Int) : Int × Int × Int := opdsP (formP o) s f (useS o (formP o))
structure PR where
  o : Int
  d : Int
  s : Int
  f : Int
  i : Int
  tgt : List UInt8
  e : Int
def behindS (m : Mn) (r : RS) : RS := opsS (tOf m.1 m.2.1 m.2.2.1) (RS.next { r with o := m.1, d := 0, s := m.2.1, f := m.2.2.1, i := m.2.2.2 })
def parseP (l : List UInt8) : PR :=
  match meanOf (newR l).tok with
  | none => ⟨0, 0, 0, 0, 0, [], 40⟩
  | some m => if (behindS m (newR l)).wrong then ⟨0, 0, 0, 0, 0, [], 41⟩ else if (behindS m (newR l)).outside then ⟨0, 0, 0, 0, 0, [], 42⟩ else ⟨(behindS m (newR l)).o, (behindS m (newR l)).d, (behindS m (newR l)).s, (behindS m (newR l)).f, (behindS m (newR l)).i, (behindS m (newR l)).tgt, 0⟩
def shrO (o : Int) : Nat := (o / 16).toNat
def pick2 (T : List (List UInt8 × List UInt8)) (k : Nat) (b : Bool) : List UInt8 := match T[k]? with | some r => (if b then r.2 else r.1) | none => []
def wOff (o f : Int) : List UInt8 := match offT.find? (fun r => bits .or .i64 o 8 == bits .or .i64 r.1 8 && f == r.2.1) with | some r => r.2.2 | none => []
def wImm (o i : Int) : List UInt8 := match immT.find? (fun r => o == r.1 && i == r.2.1) with | some r => r.2.2 | none => []
def wMem (o i : Int) : List UInt8 := match memT.find? (fun r => bits .andNot .i64 o 24 == r.1) with | some r => r.2.getD (bits .and .i64 o 24 / 8).toNat [] | none => wImm o i
def wReck (o f i : Int) : List UInt8 := if f = 0 then (if shrO o = 13 then wImm o i else pick2 reckT (shrO o) (!(cls o == 7))) else wOff o f
def wordP (o s f i : Int) : List UInt8 :=
  if cls o = 0 then (if s = 1 then [108, 100, 109, 97, 112] else [108, 100, 100, 119]) else if cls o = 7 then wReck o f i else if cls o = 4 then wReck o f i else if cls o = 5 then pick2 jumpT (shrO o) false else if cls o = 6 then pick2 jumpT (shrO o) true else wMem o i
def opdTx (o d s f i : Int) (t : List UInt8) (c : Int) : List UInt8 :=
  if c = 1 then regL d.toNat else if c = 2 then regL s.toNat else if c = 3 then Lib.itoa i else if c = 4 then (if hasSrc o then regL s.toNat else Lib.itoa i)
  else if c = 5 then placeTx s.toNat f else if c = 6 then placeTx d.toNat f else if c = 8 then (if s = 1 then t else Lib.itoa i) else t
def tailP (t : Int × Int × Int) (x : Int → List UInt8) : List UInt8 :=
  if t.1 = 0 then [] else 32 :: (x t.1 ++ (if t.2.1 = 0 then [] else 44 :: 32 :: (x t.2.1 ++ (if t.2.2 = 0 then [] else 44 :: 32 :: (x t.2.2 ++ [])))))
def lineP (o d s f i : Int) (t : List UInt8) : List UInt8 := wordP o s f i ++ tailP (tOf o s f) (opdTx o d s f i t)
def tfitP (o s f i : Int) (t : List UInt8) : Bool :=
  if formP o = 7 then nameP t && f == 0 && i == 0 else if formP o = 8 then nameP t && f == 0 else if formP o = 9 ∧ s = 1 then nameP t && i == -1 else if formP o = 10 ∧ s = 1 then nameP t && i == 0 else t.isEmpty
def opE (o d s f i : Int) (t : List UInt8) (c : Int) (r : RS) : RS :=
  if c = 1 then { r with d := d } else if c = 2 then { r with s := s } else if c = 3 then { r with i := i } else if c = 4 then (if hasSrc o then { r with o := orB r.o, s := s } else { r with i := i })
  else if c = 5 then { r with s := s, f := f } else if c = 6 then { r with d := d, f := f } else if c = 8 then (if s = 1 then { r with s := 1, i := -1, tgt := t } else { r with i := i }) else { r with tgt := t }
def immOk (i : Int) (r : RS) : Prop := if r.o = 24 then -9223372036854775808 ≤ i ∧ i < 9223372036854775808 else -2147483648 ≤ i ∧ i < 2147483648
def opOk (o d s f i : Int) (t : List UInt8) (c : Int) (r : RS) : Prop :=
  (c = 1 ∧ isReg d = true) ∨ (c = 2 ∧ isReg s = true) ∨ (c = 3 ∧ immOk i r) ∨ (c = 4 ∧ hasSrc o = true ∧ isReg s = true) ∨ (c = 4 ∧ hasSrc o = false ∧ immOk i r) ∨
  (c = 5 ∧ isReg s = true ∧ -32768 ≤ f ∧ f < 32768) ∨ (c = 6 ∧ isReg d = true ∧ -32768 ≤ f ∧ f < 32768) ∨ (c = 7 ∧ nameP t = true) ∨ (c = 8 ∧ s = 1 ∧ nameP t = true) ∨ (c = 8 ∧ ¬ s = 1 ∧ immOk i r)
theorem isReg_nat {d : Int} (h : isReg d = true) : d.toNat < 11 ∧ ((d.toNat : Nat) : Int) = d := by
  simp only [isReg, Bool.and_eq_true, decide_eq_true_eq] at h
  omega
theorem dig_let (c : Int) (h : digP c = true) : letP c = false := by
  rw [Bool.eq_false_iff]
  intro hl
  simp only [digP, Bool.and_eq_true, decide_eq_true_eq] at h
  simp [letP] at hl
  omega
theorem itoa_start (i : Int) (l : List UInt8) (hl : stopP l = true) : startP (tokP (Lib.itoa i ++ l)) = false := by
  by_cases h : i < 0
  · rw [itoa_neg i h, List.cons_append, (tok_mark 45 _ (by decide) (by decide) (by decide)).1]
    rfl
  · rw [itoa_pos i h, (dd_tok _ l hl).1]
    obtain ⟨h1, _, c, m, h3, _⟩ := dd_all i.toNat
    rw [h3] at h1 ⊢
    simp only [List.all_cons, Bool.and_eq_true] at h1
    exact dig_let _ h1.1
theorem name_start {t : List UInt8} (h : nameP t = true) : startP t = true ∧ headOk t = true ∧ t.all runU = true := by
  unfold nameP at h
  simp only [Bool.and_eq_true] at h
  refine ⟨h.1.2, ?_, h.2⟩
  cases t with
  | nil => simp [startP] at h
  | cons c t =>
    have : letP (bI c) = true := h.1.2
    simp [headOk, this]
theorem op_at (o d s f i : Int) (t : List UInt8) (c : Int) (r : RS) (h : opOk o d s f i t c r) (l : List UInt8) (hl : stopP l = true) : opS c (r.at (opdTx o d s f i t c ++ l)) = (opE o d s f i t c r).at l := by
  rcases h with ⟨rfl, h⟩ | ⟨rfl, h⟩ | ⟨rfl, h⟩ | ⟨rfl, hx, h⟩ | ⟨rfl, hx, h⟩ | ⟨rfl, h, hf⟩ | ⟨rfl, h, hf⟩ | ⟨rfl, h⟩ | ⟨rfl, rfl, h⟩ | ⟨rfl, hs, h⟩
  · obtain ⟨h1, h2⟩ := isReg_nat h
    show { (regS (r.at (regL d.toNat ++ l))).1 with d := (regS (r.at (regL d.toNat ++ l))).2 } = { r with d := d }.at l
    rw [reg_at r _ h1 l hl]
    simp only [h2]
    rfl
  · obtain ⟨h1, h2⟩ := isReg_nat h
    show { (regS (r.at (regL s.toNat ++ l))).1 with s := (regS (r.at (regL s.toNat ++ l))).2 } = { r with s := s }.at l
    rw [reg_at r _ h1 l hl]
    simp only [h2]
    rfl
  · show immS (r.at (Lib.itoa i ++ l)) = { r with i := i }.at l
    rw [imm_at r i l hl h]
    rfl
  · obtain ⟨h1, h2⟩ := isReg_nat h
    have e1 : opdTx o d s f i t 4 = regL s.toNat := by show (if hasSrc o then _ else _) = _; rw [hx]; rfl
    have e2 : opE o d s f i t 4 r = { r with o := orB r.o, s := s } := by show (if hasSrc o then _ else _) = _; rw [hx]; rfl
    obtain ⟨k1, k2, k3, _⟩ := regL_ok ⟨s.toNat, h1⟩
    rw [e1, e2]
    show srcS (r.at (regL s.toNat ++ l)) = _
    have e3 : startP (r.at (regL s.toNat ++ l)).tok = true := by
      rw [at_run r _ _ k1 k2 hl]
      exact k3
    unfold srcS
    rw [e3]
    simp only [if_true]
    have e4 : ({ r.at (regL s.toNat ++ l) with o := orB (r.at (regL s.toNat ++ l)).o } : RS) = { r with o := orB r.o }.at (regL s.toNat ++ l) := rfl
    rw [e4, reg_at _ _ h1 l hl]
    simp only [h2]
    rfl
  · have e1 : opdTx o d s f i t 4 = Lib.itoa i := by show (if hasSrc o then _ else _) = _; rw [hx]; rfl
    have e2 : opE o d s f i t 4 r = { r with i := i } := by show (if hasSrc o then _ else _) = _; rw [hx]; rfl
    rw [e1, e2]
    show srcS (r.at (Lib.itoa i ++ l)) = _
    have e3 : startP (r.at (Lib.itoa i ++ l)).tok = false := itoa_start i l hl
    unfold srcS
    rw [e3]
    simp only [Bool.false_eq_true, if_false]
    rw [imm_at r i l hl h]
    rfl
  · obtain ⟨h1, h2⟩ := isReg_nat h
    show { (placeS (r.at (placeTx s.toNat f ++ l))).1 with s := (placeS (r.at (placeTx s.toNat f ++ l))).2.1, f := (placeS (r.at (placeTx s.toNat f ++ l))).2.2 } = { r with s := s, f := f }.at l
    rw [place_at r _ h1 f hf l]
    simp only [h2]
    rfl
  · obtain ⟨h1, h2⟩ := isReg_nat h
    show { (placeS (r.at (placeTx d.toNat f ++ l))).1 with d := (placeS (r.at (placeTx d.toNat f ++ l))).2.1, f := (placeS (r.at (placeTx d.toNat f ++ l))).2.2 } = { r with d := d, f := f }.at l
    rw [place_at r _ h1 f hf l]
    simp only [h2]
    rfl
  · show nameS (r.at (t ++ l)) = { r with tgt := t }.at l
    rw [name_at r t l h hl]
    rfl
  · show helpS (r.at (t ++ l)) = { r with s := 1, i := -1, tgt := t }.at l
    obtain ⟨n1, n2, n3⟩ := name_start h
    have e3 : startP (r.at (t ++ l)).tok = true := by
      rw [at_run r t l n2 n3 hl]
      exact n1
    unfold helpS
    rw [e3]
    simp only [if_true]
    have e4 : ({ r.at (t ++ l) with s := 1, i := -1 } : RS) = { r with s := 1, i := -1 }.at (t ++ l) := rfl
    rw [e4, name_at _ t l h hl]
    rfl
  · have e1 : opdTx o d s f i t 8 = Lib.itoa i := by show (if s = 1 then _ else _) = _; rw [if_neg hs]
    have e2 : opE o d s f i t 8 r = { r with i := i } := by show (if s = 1 then _ else _) = _; rw [if_neg hs]
    rw [e1, e2]
    show helpS (r.at (Lib.itoa i ++ l)) = _
    have e3 : startP (r.at (Lib.itoa i ++ l)).tok = false := itoa_start i l hl
    unfold helpS
    rw [e3]
    simp only [Bool.false_eq_true, if_false]
    rw [imm_at r i l hl h]
    rfl
theorem comma_at (r : RS) (l : List UInt8) : markS [44] (r.at (44 :: 32 :: l)) = r.at l := by
  rw [mark_at r 44 _ (by decide) (by decide) (by decide), at_blank r 32 l (.inl rfl)]
theorem tail_at (o d s f i : Int) (t : List UInt8) (a b c : Int) (r : RS) (ha : ¬ a = 0 → opOk o d s f i t a r) (hb : ¬ a = 0 → ¬ b = 0 → opOk o d s f i t b (opE o d s f i t a r)) (hc : ¬ a = 0 → ¬ b = 0 → ¬ c = 0 → opOk o d s f i t c (opE o d s f i t b (opE o d s f i t a r))) :
    opdL (a, b, c) (r.at (tailP (a, b, c) (opdTx o d s f i t))) = (if a = 0 then r else if b = 0 then opE o d s f i t a r else if c = 0 then opE o d s f i t b (opE o d s f i t a r) else opE o d s f i t c (opE o d s f i t b (opE o d s f i t a r))).at [] := by
  unfold opdL tailP
  simp only
  by_cases h1 : a = 0
  · rw [if_pos h1, if_pos h1, if_pos h1]
  · rw [if_neg h1, if_neg h1, if_neg h1]
    rw [at_blank r 32 _ (.inl rfl)]
    by_cases h2 : b = 0
    · rw [if_pos h2, if_pos h2, if_pos h2]
      exact op_at o d s f i t a r (ha h1) [] rfl
    · rw [if_neg h2, if_neg h2, if_neg h2, op_at o d s f i t a r (ha h1) _ rfl, comma_at]
      by_cases h3 : c = 0
      · rw [if_pos h3, if_pos h3, if_pos h3]
        exact op_at o d s f i t b _ (hb h1 h2) [] rfl
      · rw [if_neg h3, if_neg h3, if_neg h3, op_at o d s f i t b _ (hb h1 h2) _ rfl, comma_at]
        exact op_at o d s f i t c _ (hc h1 h2 h3) [] rfl
theorem tail_stop (t : Int × Int × Int) (x : Int → List UInt8) : stopP (tailP t x) = true := by
  unfold tailP
  split
  · rfl
  · rfl
end Go.Proofs.YtkihaohdcgjioaaGreatDoor
