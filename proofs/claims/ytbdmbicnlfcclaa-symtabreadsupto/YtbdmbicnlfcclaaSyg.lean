import Derived.Test.YtbdmbicnlfcclaaSyf
import Derived.Test.YtbdmbicnlfcclaaSyc
namespace Go.Proofs.Ytbdmbicnlfcclaa
open Go.RowKit
set_option linter.unusedVariables false
set_option linter.unusedSimpArgs false
/-- an entry's bytes -/
def enB (s : Sy) : List UInt8 := leB s.na.toNat 4 ++ leB (16 * s.bi + s.ki).toNat 1 ++ leB 0 1 ++ leB s.se.toNat 2 ++ leB s.va.toNat 8 ++ leB s.si.toNat 8
theorem enB_len (s : Sy) : (enB s).length = 24 := by simp [enB, leB_len]
/-- a symbol whose numbers can be laid -/
structure LayOk (s : Sy) : Prop where
  na : 0 ≤ s.na ∧ s.na ≤ 9223372036854775807
  bi : 0 ≤ s.bi ∧ s.bi < 16
  ki : 0 ≤ s.ki ∧ s.ki < 16
  se : 0 ≤ s.se ∧ s.se ≤ 9223372036854775807
  va : 0 ≤ s.va ∧ s.va ≤ 9223372036854775807
  si : 0 ≤ s.si ∧ s.si ≤ 9223372036854775807
set_option maxRecDepth 8000 in
set_option maxHeartbeats 1000000 in
theorem layEntry_any (N : Nat) (w : World) (ba : Option Addr) (bc : Nat) (O R : List UInt8) (na bi ki se va si : Int) (hR : R = O ++ enB ⟨na, bi, ki, se, va, si⟩) (hb : OwB N (.slice ba O.length bc) O w) (hN : N ≤ w.heap.size) (hl : O.length + 24 ≤ 140737488355328) (hk : LayOk ⟨na, bi, ki, se, va, si⟩) :
    Calls Try.prog 33 #[.slice ba O.length bc, .agg #[.int .i64 na, .int .i64 bi, .int .i64 ki, .int .i64 se, .int .i64 va, .int .i64 si]] w fun e w' => ∃ a c, e = .returned (.slice a R.length c) ∧ OwB N (.slice a R.length c) R w' ∧ Below N w w' ∧ Keep w w' := by
  obtain ⟨h1, h2, h3, h4, h5, h6⟩ := hk
  simp only at h1 h2 h3 h4 h5 h6
  obtain ⟨n1, rfl⟩ : ∃ n : Nat, na = n := ⟨na.toNat, by omega⟩
  obtain ⟨n4, rfl⟩ : ∃ n : Nat, se = n := ⟨se.toNat, by omega⟩
  obtain ⟨n5, rfl⟩ : ∃ n : Nat, va = n := ⟨va.toNat, by omega⟩
  obtain ⟨n6, rfl⟩ : ∃ n : Nat, si = n := ⟨si.toNat, by omega⟩
  obtain ⟨n2, hn2⟩ : ∃ n : Nat, 16 * bi + ki = n := ⟨(16 * bi + ki).toNat, by omega⟩
  have CB := hidOf (fun wx => sortByte_any n1 bi ki n4 n5 n6 wx h2 h3)
  rw [hn2] at CB
  obtain ⟨R1, hR1⟩ : ∃ R, R = O ++ leB n1 4 := ⟨_, rfl⟩
  obtain ⟨R2, hR2⟩ : ∃ R, R = R1 ++ leB n2 1 := ⟨_, rfl⟩
  obtain ⟨R3, hR3⟩ : ∃ R, R = R2 ++ leB 0 1 := ⟨_, rfl⟩
  obtain ⟨R4, hR4⟩ : ∃ R, R = R3 ++ leB n4 2 := ⟨_, rfl⟩
  obtain ⟨R5, hR5⟩ : ∃ R, R = R4 ++ leB n5 8 := ⟨_, rfl⟩
  have hR6 : R = R5 ++ leB n6 8 := by
    rw [hR, enB, hR5, hR4, hR3, hR2, hR1]
    simp only [hn2, Int.toNat_natCast, List.append_assoc]
  have l1 : R1.length = O.length + 4 := by rw [hR1, List.length_append, leB_len]
  have l2 : R2.length = R1.length + 1 := by rw [hR2, List.length_append, leB_len]
  have l3 : R3.length = R2.length + 1 := by rw [hR3, List.length_append, leB_len]
  have l4 : R4.length = R3.length + 2 := by rw [hR4, List.length_append, leB_len]
  have l5 : R5.length = R4.length + 8 := by rw [hR5, List.length_append, leB_len]
  have C1 := hidOf (fun wx a c (h : OwB N (.slice a O.length c) O wx) (hx : N ≤ wx.heap.size) => lay_any N wx a c O R1 n1 4 hR1 h hx (by omega) (by omega) (by omega))
  have C2 := hidOf (fun wx a c (h : OwB N (.slice a R1.length c) R1 wx) (hx : N ≤ wx.heap.size) => lay_any N wx a c R1 R2 n2 1 hR2 h hx (by omega) (by omega) (by omega))
  have C3 := hidOf (fun wx a c (h : OwB N (.slice a R2.length c) R2 wx) (hx : N ≤ wx.heap.size) => lay_any N wx a c R2 R3 0 1 hR3 h hx (by omega) (by omega) (by omega))
  have C4 := hidOf (fun wx a c (h : OwB N (.slice a R3.length c) R3 wx) (hx : N ≤ wx.heap.size) => lay_any N wx a c R3 R4 n4 2 hR4 h hx (by omega) (by omega) (by omega))
  have C5 := hidOf (fun wx a c (h : OwB N (.slice a R4.length c) R4 wx) (hx : N ≤ wx.heap.size) => lay_any N wx a c R4 R5 n5 8 hR5 h hx (by omega) (by omega) (by omega))
  have C6 := hidOf (fun wx a c (h : OwB N (.slice a R5.length c) R5 wx) (hx : N ≤ wx.heap.size) => lay_any N wx a c R5 R n6 8 hR6 h hx (by omega) (by omega) (by omega))
  have HB := hidOf hb
  clear hR hR1 hR2 hR3 hR4 hR5 hR6 l1 l2 l3 l4 l5 hb h1 h2 h3 h4 h5 h6 hn2 hl
  go_enter Try.func33, Try.ntmps33
  obtain ⟨W, hW⟩ : ∃ W, W = w.alloc (.cells #[.int .i64 (n1 : Int), .int .i64 bi, .int .i64 ki, .int .i64 (n4 : Int), .int .i64 (n5 : Int), .int .i64 (n6 : Int)] 57) := ⟨_, rfl⟩
  have HX : Hid (W.heap[w.heap.size]? = some (.cells #[.int .i64 (n1 : Int), .int .i64 bi, .int .i64 ki, .int .i64 (n4 : Int), .int .i64 (n5 : Int), .int .i64 (n6 : Int)] 57 (0, 0))) := hidOf (by rw [hW]; exact heap_alloc_new w _)
  have OW : Hid (Out w W) := hidOf (by rw [hW]; exact (Out.refl w).alloc _)
  have HBW : Hid (OwB N (.slice ba O.length bc) O W) := hidOf (own_at HB.out OW.out)
  have HK : Hid (∀ wx, Keep W wx → wx.cell? ⟨w.heap.size, 0, none⟩ = some (.int .i64 (n1 : Int)) ∧ wx.cell? ⟨w.heap.size, 1, none⟩ = some (.int .i64 bi) ∧ wx.cell? ⟨w.heap.size, 2, none⟩ = some (.int .i64 ki) ∧ wx.cell? ⟨w.heap.size, 3, none⟩ = some (.int .i64 (n4 : Int)) ∧ wx.cell? ⟨w.heap.size, 4, none⟩ = some (.int .i64 (n5 : Int)) ∧ wx.cell? ⟨w.heap.size, 5, none⟩ = some (.int .i64 (n6 : Int))) := fun wx k => by
    have h := k _ _ _ HX.out (by decide)
    exact ⟨box_cell h 0, box_cell h 1, box_cell h 2, box_cell h 3, box_cell h 4, box_cell h 5⟩
  have HN := hidOf hN
  go_upto_region 1 with fail
  rw [← hW]
  clear hW hN
  obtain ⟨c0, c1, c2, c3, c4, c5⟩ := HK.out W (Keep.refl W)
  go_upto_region 2 with (first | (go_at_call 47; refine (C1.out _ _ _ HBW.out (Nat.le_trans HN.out OW.out.size)).mono ?_; rintro e w1 ⟨a1, b1, rfl, ho, hb, hk⟩; have HO1 := hidOf ho; have HL1 := hidOf (Below.trans (Below.mono OW.out HN.out) hb); have HP1 := hidOf hk; clear ho hb hk))
  clear c0 c1 c2 c3 c4 c5
  obtain ⟨c0, c1, c2, c3, c4, c5⟩ := HK.out w1 HP1.out
  go_upto_region 3 with (first | (go_at_call 45; refine (CB.out _).mono ?_; rintro e w2 ⟨rfl, hO⟩; have HO2 := hidOf (own_at HO1.out hO); have HL2 := hidOf (Below.trans HL1.out (Below.mono hO (Nat.le_trans HN.out HL1.out.size))); have HP2 := hidOf (HP1.out.trans (Keep.of_out hO)); clear hO) | (go_at_call 47; refine (C2.out _ _ _ HO2.out (Nat.le_trans HN.out HL2.out.size)).mono ?_; rintro e w3 ⟨a3, b3, rfl, ho, hb, hk⟩; have HO3 := hidOf ho; have HL3 := hidOf (Below.trans HL2.out hb); have HP3 := hidOf (HP2.out.trans hk); clear ho hb hk))
  clear c0 c1 c2 c3 c4 c5
  go_upto_region 4 with (first | (go_at_call 47; refine (C3.out _ _ _ HO3.out (Nat.le_trans HN.out HL3.out.size)).mono ?_; rintro e w4 ⟨a4, b4, rfl, ho, hb, hk⟩; have HO4 := hidOf ho; have HL4 := hidOf (Below.trans HL3.out hb); have HP4 := hidOf (HP3.out.trans hk); clear ho hb hk))
  obtain ⟨c0, c1, c2, c3, c4, c5⟩ := HK.out w4 HP4.out
  go_upto_region 5 with (first | (go_at_call 47; refine (C4.out _ _ _ HO4.out (Nat.le_trans HN.out HL4.out.size)).mono ?_; rintro e w5 ⟨a5, b5, rfl, ho, hb, hk⟩; have HO5 := hidOf ho; have HL5 := hidOf (Below.trans HL4.out hb); have HP5 := hidOf (HP4.out.trans hk); clear ho hb hk))
  clear c0 c1 c2 c3 c4 c5
  obtain ⟨c0, c1, c2, c3, c4, c5⟩ := HK.out w5 HP5.out
  go_upto_region 6 with (first | (go_at_call 47; refine (C5.out _ _ _ HO5.out (Nat.le_trans HN.out HL5.out.size)).mono ?_; rintro e w6 ⟨a6, b6, rfl, ho, hb, hk⟩; have HO6 := hidOf ho; have HL6 := hidOf (Below.trans HL5.out hb); have HP6 := hidOf (HP5.out.trans hk); clear ho hb hk))
  clear c0 c1 c2 c3 c4 c5
  obtain ⟨c0, c1, c2, c3, c4, c5⟩ := HK.out w6 HP6.out
  go_wp2_with (first | (go_at_call 47; refine (C6.out _ _ _ HO6.out (Nat.le_trans HN.out HL6.out.size)).mono ?_; rintro e w7 ⟨a7, b7, rfl, ho, hb, hk⟩; have HO7 := hidOf ho; have HL7 := hidOf (Below.trans HL6.out hb); have HP7 := hidOf (HP6.out.trans hk); clear ho hb hk))
  go_ret
  exact ⟨a7, b7, rfl, HO7.out, HL7.out, (Keep.of_out OW.out).trans HP7.out⟩
end Go.Proofs.Ytbdmbicnlfcclaa
