import Derived.Test.YtcomhlimgocoaaaGreatDoorGc16
namespace Go.Proofs.YtcomhlimgocoaaaGreatDoor
open Go.RowKit
set_option linter.unusedVariables false
set_option linter.unusedSimpArgs false
set_option maxRecDepth 20000 in
set_option maxHeartbeats 800000 in
theorem imm_rd (w0 w : World) (p : Nat) (HR : Hid (Rdr w0 p w)) (r : RS) (h : RdAt w p r.cells) (hs : Sm r) : Calls Tryz.prog 112 #[.pointer (some ⟨p, 0, none⟩)] w fun e w' => (∃ v, e = .returned v) ∧ MEnd p (immS r) w w' := by
  have CA : Hid (Calls Tryz.prog 110 #[.pointer (some ⟨p, 0, none⟩), .string ⟨#[45]⟩] w fun e w' => e = .returned (.bool (skipP [45] r).2) ∧ MEnd p (skipP [45] r).1 w w') := skip_any w p r [45] h hs
  have ho := skip_o [45] r
  have hs1 := hs.skip [45]
  have HI : immS r = if r.o = 24 then { numS (sgnS r).2 9223372036854775808 18446744073709551615 (sgnS r).1 with i := numV (sgnS r).2 64 (sgnS r).1 } else { numS (sgnS r).2 2147483648 4294967295 (sgnS r).1 with i := numV (sgnS r).2 32 (sgnS r).1 } := rfl
  unfold sgnS at HI
  generalize immS r = rn at *
  generalize skipP [45] r = q at *
  obtain ⟨r1, b⟩ := q
  simp only at CA ho hs1 HI
  clear h hs
  generalize r.o = o at *
  cases b
  · have CB : Hid (∀ wx, MEnd p r1 w wx → Calls Tryz.prog 110 #[.pointer (some ⟨p, 0, none⟩), .string ⟨#[43]⟩] wx fun e w' => e = .returned (.bool (skipP [43] r1).2) ∧ MEnd p (skipP [43] r1).1 w w') := skipM w p r1 [43] hs1
    have ho2 := (skip_o [43] r1).trans ho
    have hs2 := hs1.skip [43]
    simp only [Bool.false_eq_true, if_false] at HI
    generalize skipP [43] r1 = q at *
    obtain ⟨r2, b2⟩ := q
    simp only at CB ho2 hs2 HI
    clear ho hs1
    by_cases h24 : o = 24
    · subst h24
      rw [if_pos rfl] at HI
      have CN : Hid (∀ wx, MEnd p r2 w wx → Calls Tryz.prog 133 #[.pointer (some ⟨p, 0, none⟩), .bool false, .int .i64 64, .int .u64 18446744073709551615] wx fun e w' => e = .returned (.int .i64 (numV false 64 r2)) ∧ MEnd p (numS false 9223372036854775808 18446744073709551615 r2) w w') := num64M w0 w p HR.out r2 hs2 false _
      generalize numV false 64 r2 = vn at *
      generalize numS false 9223372036854775808 18446744073709551615 r2 = rm at *
      have HI := hidOf HI
      clear hs2 HR
      go_enter Tryz.func112, Tryz.ntmps112
      go_wp2_with (first | (go_at_call 133; refine (CN.out _ M2.out).mono ?_; rintro e w4 ⟨rfl, hm4⟩; have d6 := hm4.ci.1; have f6 := hm4.ci.2; have M4 := hidOf hm4; clear hm4) | (go_at_call 110; refine (CB.out _ M1.out).mono ?_; rintro e w2 ⟨rfl, hm2⟩; have d2 := hm2.co.1; rw [ho2] at d2; have M2 := hidOf hm2; clear hm2) | (go_at_call 110; refine CA.out.mono ?_; rintro e w1 ⟨rfl, hm1⟩; have M1 := hidOf hm1; clear hm1))
      go_end0
      exact ⟨⟨_, rfl⟩, by rw [HI.out]; exact M4.out.set 6 _ rfl⟩
    · rw [if_neg h24] at HI
      have h24' : (o == 24) = false := by simpa using h24
      have CN : Hid (∀ wx, MEnd p r2 w wx → Calls Tryz.prog 133 #[.pointer (some ⟨p, 0, none⟩), .bool false, .int .i64 32, .int .u64 4294967295] wx fun e w' => e = .returned (.int .i64 (numV false 32 r2)) ∧ MEnd p (numS false 2147483648 4294967295 r2) w w') := num32M w0 w p HR.out r2 hs2 false _
      generalize numV false 32 r2 = vn at *
      generalize numS false 2147483648 4294967295 r2 = rm at *
      have HI := hidOf HI
      clear hs2 HR
      go_enter Tryz.func112, Tryz.ntmps112
      go_wp2_with (first | (go_at_call 133; refine (CN.out _ M2.out).mono ?_; rintro e w4 ⟨rfl, hm4⟩; have d6 := hm4.ci.1; have f6 := hm4.ci.2; have M4 := hidOf hm4; clear hm4) | (go_at_call 110; refine (CB.out _ M1.out).mono ?_; rintro e w2 ⟨rfl, hm2⟩; have d2 := hm2.co.1; rw [ho2] at d2; have M2 := hidOf hm2; clear hm2) | (go_at_call 110; refine CA.out.mono ?_; rintro e w1 ⟨rfl, hm1⟩; have M1 := hidOf hm1; clear hm1))
      go_end0
      exact ⟨⟨_, rfl⟩, by rw [HI.out]; exact M4.out.set 6 _ rfl⟩
  · simp only [if_true] at HI
    by_cases h24 : o = 24
    · subst h24
      rw [if_pos rfl] at HI
      have CN : Hid (∀ wx, MEnd p r1 w wx → Calls Tryz.prog 133 #[.pointer (some ⟨p, 0, none⟩), .bool true, .int .i64 64, .int .u64 18446744073709551615] wx fun e w' => e = .returned (.int .i64 (numV true 64 r1)) ∧ MEnd p (numS true 9223372036854775808 18446744073709551615 r1) w w') := num64M w0 w p HR.out r1 hs1 true _
      generalize numV true 64 r1 = vn at *
      generalize numS true 9223372036854775808 18446744073709551615 r1 = rm at *
      have HI := hidOf HI
      clear hs1 HR
      go_enter Tryz.func112, Tryz.ntmps112
      go_wp2_with (first | (go_at_call 133; refine (CN.out _ M1.out).mono ?_; rintro e w4 ⟨rfl, hm4⟩; have d6 := hm4.ci.1; have f6 := hm4.ci.2; have M4 := hidOf hm4; clear hm4) | (go_at_call 110; refine CA.out.mono ?_; rintro e w1 ⟨rfl, hm1⟩; have d2 := hm1.co.1; rw [ho] at d2; have M1 := hidOf hm1; clear hm1))
      go_end0
      exact ⟨⟨_, rfl⟩, by rw [HI.out]; exact M4.out.set 6 _ rfl⟩
    · rw [if_neg h24] at HI
      have h24' : (o == 24) = false := by simpa using h24
      have CN : Hid (∀ wx, MEnd p r1 w wx → Calls Tryz.prog 133 #[.pointer (some ⟨p, 0, none⟩), .bool true, .int .i64 32, .int .u64 4294967295] wx fun e w' => e = .returned (.int .i64 (numV true 32 r1)) ∧ MEnd p (numS true 2147483648 4294967295 r1) w w') := num32M w0 w p HR.out r1 hs1 true _
      generalize numV true 32 r1 = vn at *
      generalize numS true 2147483648 4294967295 r1 = rm at *
      have HI := hidOf HI
      clear hs1 HR
      go_enter Tryz.func112, Tryz.ntmps112
      go_wp2_with (first | (go_at_call 133; refine (CN.out _ M1.out).mono ?_; rintro e w4 ⟨rfl, hm4⟩; have d6 := hm4.ci.1; have f6 := hm4.ci.2; have M4 := hidOf hm4; clear hm4) | (go_at_call 110; refine CA.out.mono ?_; rintro e w1 ⟨rfl, hm1⟩; have d2 := hm1.co.1; rw [ho] at d2; have M1 := hidOf hm1; clear hm1))
      go_end0
      exact ⟨⟨_, rfl⟩, by rw [HI.out]; exact M4.out.set 6 _ rfl⟩
end Go.Proofs.YtcomhlimgocoaaaGreatDoor
namespace Go.Proofs.YtcomhlimgocoaaaGreatDoor
open Go.RowKit
set_option linter.unusedVariables false
set_option linter.unusedSimpArgs false
theorem Rdr.next {w0 w wx : World} {p : Nat} {r : RS} (h : Rdr w0 p w) (m : MEnd p r w wx) : Rdr w0 p wx := ⟨h.1, m.out h, h.2.2⟩
theorem immM (w0 w : World) (p : Nat) (R : Rdr w0 p w) (r : RS) (hs : Sm r) (wx : World) (m : MEnd p r w wx) : Calls Tryz.prog 112 #[.pointer (some ⟨p, 0, none⟩)] wx fun e w' => (∃ v, e = .returned v) ∧ MEnd p (immS r) w w' :=
  (imm_rd w0 wx p (hidOf (R.next m)) r m.1 hs).mono fun e w' ⟨a, b⟩ => ⟨a, m.trans b⟩
set_option maxRecDepth 20000 in
set_option maxHeartbeats 800000 in
theorem place_rd (w0 w : World) (p : Nat) (HR : Hid (Rdr w0 p w)) (r : RS) (h : RdAt w p r.cells) (hs : Sm r) : Calls Tryz.prog 114 #[.pointer (some ⟨p, 0, none⟩)] w fun e w' => e = .returned (.tuple #[.int .i64 (placeS r).2.1, .int .i64 (placeS r).2.2]) ∧ MEnd p (placeS r).1 w w' := by
  have CA : Hid (∀ wx, MEnd p r w wx → Calls Tryz.prog 66 #[.pointer (some ⟨p, 0, none⟩), .string ⟨#[91]⟩] wx fun e w' => (∃ v, e = .returned v) ∧ MEnd p (markS [91] r) w w') := markM w p r [91] hs
  have M0 := hidOf (MEnd.refl h)
  have hs1 := hs.mark [91]
  have HP : placeS r = (markS [93] (numS (pgnS (regS (markS [91] r)).1).2 32768 32767 (pgnS (regS (markS [91] r)).1).1), (regS (markS [91] r)).2, numV (pgnS (regS (markS [91] r)).1).2 16 (pgnS (regS (markS [91] r)).1).1) := rfl
  unfold pgnS at HP
  generalize placeS r = q at *
  obtain ⟨rz, kz, vz⟩ := q
  show Calls Tryz.prog 114 #[.pointer (some ⟨p, 0, none⟩)] w fun e w' => e = .returned (.tuple #[.int .i64 kz, .int .i64 vz]) ∧ MEnd p rz w w'
  clear h hs
  generalize markS [91] r = r1 at *
  have CR : Hid (∀ wx, MEnd p r1 w wx → Calls Tryz.prog 111 #[.pointer (some ⟨p, 0, none⟩)] wx fun e w' => e = .returned (.int .i64 (regS r1).2) ∧ MEnd p (regS r1).1 w w') := regM w0 w p HR.out r1 hs1
  have hs2 := hs1.reg
  generalize regS r1 = q at *
  obtain ⟨r2, k⟩ := q
  simp only at CR hs2 HP
  clear hs1
  have CS : Hid (∀ wx, MEnd p r2 w wx → Calls Tryz.prog 110 #[.pointer (some ⟨p, 0, none⟩), .string ⟨#[45]⟩] wx fun e w' => e = .returned (.bool (skipP [45] r2).2) ∧ MEnd p (skipP [45] r2).1 w w') := skipM w p r2 [45] hs2
  have hs3 := hs2.skip [45]
  generalize skipP [45] r2 = q at *
  obtain ⟨r3, b⟩ := q
  simp only at CS hs3 HP
  clear hs2
  cases b
  · simp only [Bool.false_eq_true, if_false] at HP
    have CP : Hid (∀ wx, MEnd p r3 w wx → Calls Tryz.prog 66 #[.pointer (some ⟨p, 0, none⟩), .string ⟨#[43]⟩] wx fun e w' => (∃ v, e = .returned v) ∧ MEnd p (markS [43] r3) w w') := markM w p r3 [43] hs3
    have hs4 := hs3.mark [43]
    generalize markS [43] r3 = r4 at *
    clear hs3
    have CN : Hid (∀ wx, MEnd p r4 w wx → Calls Tryz.prog 133 #[.pointer (some ⟨p, 0, none⟩), .bool false, .int .i64 16, .int .u64 32767] wx fun e w' => e = .returned (.int .i64 (numV false 16 r4)) ∧ MEnd p (numS false 32768 32767 r4) w w') := num16M w0 w p HR.out r4 hs4 false _
    have hs5 := hs4.num false 32768 32767
    generalize numV false 16 r4 = vn at *
    generalize numS false 32768 32767 r4 = r5 at *
    have CZ : Hid (∀ wx, MEnd p r5 w wx → Calls Tryz.prog 66 #[.pointer (some ⟨p, 0, none⟩), .string ⟨#[93]⟩] wx fun e w' => (∃ v, e = .returned v) ∧ MEnd p (markS [93] r5) w w') := markM w p r5 [93] hs5
    generalize markS [93] r5 = r6 at *
    simp only [Prod.mk.injEq] at HP
    obtain ⟨rfl, rfl, rfl⟩ := HP
    clear hs5 hs4 HR
    go_enter Tryz.func114, Tryz.ntmps114
    go_wp2_with (first | (go_at_call 66; refine (CZ.out _ M5.out).mono ?_; rintro e w6 ⟨⟨v6, rfl⟩, hm⟩; have M6 := hidOf hm; clear hm) | (go_at_call 133; refine (CN.out _ M4.out).mono ?_; rintro e w5 ⟨rfl, hm⟩; have M5 := hidOf hm; clear hm) | (go_at_call 66; refine (CP.out _ M3.out).mono ?_; rintro e w4 ⟨⟨v4, rfl⟩, hm⟩; have M4 := hidOf hm; clear hm) | (go_at_call 110; refine (CS.out _ M2.out).mono ?_; rintro e w3 ⟨rfl, hm⟩; have M3 := hidOf hm; clear hm) | (go_at_call 111; refine (CR.out _ M1.out).mono ?_; rintro e w2 ⟨rfl, hm⟩; have M2 := hidOf hm; clear hm) | (go_at_call 66; refine (CA.out _ M0.out).mono ?_; rintro e w1 ⟨⟨v1, rfl⟩, hm⟩; have M1 := hidOf hm; clear hm))
    go_ret2
    exact ⟨rfl, M6.out⟩
  · simp only [if_true] at HP
    have CN : Hid (∀ wx, MEnd p r3 w wx → Calls Tryz.prog 133 #[.pointer (some ⟨p, 0, none⟩), .bool true, .int .i64 16, .int .u64 32767] wx fun e w' => e = .returned (.int .i64 (numV true 16 r3)) ∧ MEnd p (numS true 32768 32767 r3) w w') := num16M w0 w p HR.out r3 hs3 true _
    have hs5 := hs3.num true 32768 32767
    generalize numV true 16 r3 = vn at *
    generalize numS true 32768 32767 r3 = r5 at *
    have CZ : Hid (∀ wx, MEnd p r5 w wx → Calls Tryz.prog 66 #[.pointer (some ⟨p, 0, none⟩), .string ⟨#[93]⟩] wx fun e w' => (∃ v, e = .returned v) ∧ MEnd p (markS [93] r5) w w') := markM w p r5 [93] hs5
    generalize markS [93] r5 = r6 at *
    simp only [Prod.mk.injEq] at HP
    obtain ⟨rfl, rfl, rfl⟩ := HP
    clear hs5 hs3 HR
    go_enter Tryz.func114, Tryz.ntmps114
    go_wp2_with (first | (go_at_call 66; refine (CZ.out _ M5.out).mono ?_; rintro e w6 ⟨⟨v6, rfl⟩, hm⟩; have M6 := hidOf hm; clear hm) | (go_at_call 133; refine (CN.out _ M3.out).mono ?_; rintro e w5 ⟨rfl, hm⟩; have M5 := hidOf hm; clear hm) | (go_at_call 110; refine (CS.out _ M2.out).mono ?_; rintro e w3 ⟨rfl, hm⟩; have M3 := hidOf hm; clear hm) | (go_at_call 111; refine (CR.out _ M1.out).mono ?_; rintro e w2 ⟨rfl, hm⟩; have M2 := hidOf hm; clear hm) | (go_at_call 66; refine (CA.out _ M0.out).mono ?_; rintro e w1 ⟨⟨v1, rfl⟩, hm⟩; have M1 := hidOf hm; clear hm))
    go_ret2
    exact ⟨rfl, M6.out⟩
theorem placeM (w0 w : World) (p : Nat) (R : Rdr w0 p w) (r : RS) (hs : Sm r) (wx : World) (m : MEnd p r w wx) : Calls Tryz.prog 114 #[.pointer (some ⟨p, 0, none⟩)] wx fun e w' => e = .returned (.tuple #[.int .i64 (placeS r).2.1, .int .i64 (placeS r).2.2]) ∧ MEnd p (placeS r).1 w w' :=
  (place_rd w0 wx p (hidOf (R.next m)) r m.1 hs).mono fun e w' ⟨a, b⟩ => ⟨a, m.trans b⟩
end Go.Proofs.YtcomhlimgocoaaaGreatDoor
