import Derived.Test.YteelicelpkjmhaaGreatDoorRd
namespace Go.Proofs.YteelicelpkjmhaaGreatDoor
open Go.RowKit
set_option linter.unusedVariables false
set_option linter.unusedSimpArgs false
set_option maxRecDepth 20000 in
set_option maxHeartbeats 800000 in
theorem imm_rd (w0 w : World) (p : Nat) (HR : Hid (Rdr w0 p w)) (r : RS) (h : RdAt w p r.cells) (hs : Sm r) : Calls Tryz.prog 115 #[.pointer (some ⟨p, 0, none⟩)] w fun e w' => (∃ v, e = .returned v) ∧ MEnd p (immS r) w w' := by
  have CA : Hid (Calls Tryz.prog 113 #[.pointer (some ⟨p, 0, none⟩), .string ⟨#[45]⟩] w fun e w' => e = .returned (.bool (skipP [45] r).2) ∧ MEnd p (skipP [45] r).1 w w') := skip_any w p r [45] h hs
  have ho := skip_o [45] r
  have hs1 := hs.skip [45]
  have HI : immS r = if r.o = 24 then { numS (sgnS r).2 9223372036854775808 18446744073709551615 (sgnS r).1 with i := numV (sgnS r).2 64 (sgnS r).1 } else { numS (sgnS r).2 2147483648 4294967295 (sgnS r).1 with i := numV (sgnS r).2 32 (sgnS r).1 } := rfl
  unfold sgnS at HI
  generalize immS r = rn at *
  generalize skipP [45] r = q at *
  obtain ⟨r1, b⟩ := q
  simp only at CA ho hs1 HI
  clear h hs
  generalize r.o = o at *
  cases b
  · have CB : Hid (∀ wx, MEnd p r1 w wx → Calls Tryz.prog 113 #[.pointer (some ⟨p, 0, none⟩), .string ⟨#[43]⟩] wx fun e w' => e = .returned (.bool (skipP [43] r1).2) ∧ MEnd p (skipP [43] r1).1 w w') := skipM w p r1 [43] hs1
    have ho2 := (skip_o [43] r1).trans ho
    have hs2 := hs1.skip [43]
    simp only [Bool.false_eq_true, if_false] at HI
    generalize skipP [43] r1 = q at *
    obtain ⟨r2, b2⟩ := q
    simp only at CB ho2 hs2 HI
    clear ho hs1
    by_cases h24 : o = 24
    · subst h24
      rw [if_pos rfl] at HI
      have CN : Hid (∀ wx, MEnd p r2 w wx → Calls Tryz.prog 136 #[.pointer (some ⟨p, 0, none⟩), .bool false, .int .i64 64, .int .u64 18446744073709551615] wx fun e w' => e = .returned (.int .i64 (numV false 64 r2)) ∧ MEnd p (numS false 9223372036854775808 18446744073709551615 r2) w w') := num64M w0 w p HR.out r2 hs2 false _
      generalize numV false 64 r2 = vn at *
      generalize numS false 9223372036854775808 18446744073709551615 r2 = rm at *
      have HI := hidOf HI
      clear hs2 HR
      go_enter Tryz.func115, Tryz.ntmps115
      go_wp2_with (first | (go_at_call 136; refine (CN.out _ M2.out).mono ?_; rintro e w4 ⟨rfl, hm4⟩; have d6 := hm4.ci.1; have f6 := hm4.ci.2; have M4 := hidOf hm4; clear hm4) | (go_at_call 113; refine (CB.out _ M1.out).mono ?_; rintro e w2 ⟨rfl, hm2⟩; have d2 := hm2.co.1; rw [ho2] at d2; have M2 := hidOf hm2; clear hm2) | (go_at_call 113; refine CA.out.mono ?_; rintro e w1 ⟨rfl, hm1⟩; have M1 := hidOf hm1; clear hm1))
      go_end0
      exact ⟨⟨_, rfl⟩, by rw [HI.out]; exact M4.out.set 6 _ rfl⟩
    · rw [if_neg h24] at HI
      have h24' : (o == 24) = false := by simpa using h24
      have CN : Hid (∀ wx, MEnd p r2 w wx → Calls Tryz.prog 136 #[.pointer (some ⟨p, 0, none⟩), .bool false, .int .i64 32, .int .u64 4294967295] wx fun e w' => e = .returned (.int .i64 (numV false 32 r2)) ∧ MEnd p (numS false 2147483648 4294967295 r2) w w') := num32M w0 w p HR.out r2 hs2 false _
      generalize numV false 32 r2 = vn at *
      generalize numS false 2147483648 4294967295 r2 = rm at *
      have HI := hidOf HI
      clear hs2 HR
      go_enter Tryz.func115, Tryz.ntmps115
      go_wp2_with (first | (go_at_call 136; refine (CN.out _ M2.out).mono ?_; rintro e w4 ⟨rfl, hm4⟩; have d6 := hm4.ci.1; have f6 := hm4.ci.2; have M4 := hidOf hm4; clear hm4) | (go_at_call 113; refine (CB.out _ M1.out).mono ?_; rintro e w2 ⟨rfl, hm2⟩; have d2 := hm2.co.1; rw [ho2] at d2; have M2 := hidOf hm2; clear hm2) | (go_at_call 113; refine CA.out.mono ?_; rintro e w1 ⟨rfl, hm1⟩; have M1 := hidOf hm1; clear hm1))
      go_end0
      exact ⟨⟨_, rfl⟩, by rw [HI.out]; exact M4.out.set 6 _ rfl⟩
  · simp only [if_true] at HI
    by_cases h24 : o = 24
    · subst h24
      rw [if_pos rfl] at HI
      have CN : Hid (∀ wx, MEnd p r1 w wx → Calls Tryz.prog 136 #[.pointer (some ⟨p, 0, none⟩), .bool true, .int .i64 64, .int .u64 18446744073709551615] wx fun e w' => e = .returned (.int .i64 (numV true 64 r1)) ∧ MEnd p (numS true 9223372036854775808 18446744073709551615 r1) w w') := num64M w0 w p HR.out r1 hs1 true _
      generalize numV true 64 r1 = vn at *
      generalize numS true 9223372036854775808 18446744073709551615 r1 = rm at *
      have HI := hidOf HI
      clear hs1 HR
      go_enter Tryz.func115, Tryz.ntmps115
      go_wp2_with (first | (go_at_call 136; refine (CN.out _ M1.out).mono ?_; rintro e w4 ⟨rfl, hm4⟩; have d6 := hm4.ci.1; have f6 := hm4.ci.2; have M4 := hidOf hm4; clear hm4) | (go_at_call 113; refine CA.out.mono ?_; rintro e w1 ⟨rfl, hm1⟩; have d2 := hm1.co.1; rw [ho] at d2; have M1 := hidOf hm1; clear hm1))
      go_end0
      exact ⟨⟨_, rfl⟩, by rw [HI.out]; exact M4.out.set 6 _ rfl⟩
    · rw [if_neg h24] at HI
      have h24' : (o == 24) = false := by simpa using h24
      have CN : Hid (∀ wx, MEnd p r1 w wx → Calls Tryz.prog 136 #[.pointer (some ⟨p, 0, none⟩), .bool true, .int .i64 32, .int .u64 4294967295] wx fun e w' => e = .returned (.int .i64 (numV true 32 r1)) ∧ MEnd p (numS true 2147483648 4294967295 r1) w w') := num32M w0 w p HR.out r1 hs1 true _
      generalize numV true 32 r1 = vn at *
      generalize numS true 2147483648 4294967295 r1 = rm at *
      have HI := hidOf HI
      clear hs1 HR
      go_enter Tryz.func115, Tryz.ntmps115
      go_wp2_with (first | (go_at_call 136; refine (CN.out _ M1.out).mono ?_; rintro e w4 ⟨rfl, hm4⟩; have d6 := hm4.ci.1; have f6 := hm4.ci.2; have M4 := hidOf hm4; clear hm4) | (go_at_call 113; refine CA.out.mono ?_; rintro e w1 ⟨rfl, hm1⟩; have d2 := hm1.co.1; rw [ho] at d2; have M1 := hidOf hm1; clear hm1))
      go_end0
      exact ⟨⟨_, rfl⟩, by rw [HI.out]; exact M4.out.set 6 _ rfl⟩
end Go.Proofs.YteelicelpkjmhaaGreatDoor
