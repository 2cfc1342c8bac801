import Derived.Test.YtmpbdakmmelmgaaGa27
namespace Go.Proofs.Ytmpbdakmmelmgaa
open Go.RowKit
set_option linter.unusedVariables false
set_option linter.unusedSimpArgs false
theorem box_cell9 {w : World} {q : Nat} {cs : Array Value} {t : TypeId} (h : w.heap[q]? = some (.cells cs t (0, 0))) (j : Nat) : w.cell? ⟨q, j, none⟩ = cs[j]? := by simp [World.cell?, h]
set_option maxRecDepth 8000 in
set_option maxHeartbeats 1000000 in
theorem entry9_any (N : Nat) (w : World) (ba : Option Addr) (bc : Nat) (O R : List UInt8) (nm : List UInt8) (da : Option Addr) (dc z ty fl p dl li inf al es : Nat) (hRR : R = O ++ (leB z 4 ++ (leB ty 4 ++ (leB fl 8 ++ (leB 0 8 ++ (leB p 8 ++ (leB dl 8 ++ (leB li 4 ++ (leB inf 4 ++ (leB al 8 ++ leB es 8)))))))))) (hb : OwB N (.slice ba O.length bc) O w) (hN : N ≤ w.heap.size) (hl : O.length + 64 ≤ 140737488355328) (hz : z ≤ 9223372036854775807) (hty : ty ≤ 9223372036854775807) (hfl : fl ≤ 9223372036854775807) (hp : p ≤ 9223372036854775807) (hdl : dl ≤ 9223372036854775807) (hli : li ≤ 9223372036854775807) (hinf : inf ≤ 9223372036854775807) (hal : al ≤ 9223372036854775807) (hes : es ≤ 9223372036854775807) :
    Calls Try.prog 45 #[.slice ba O.length bc, .int .i64 (z : Int), .agg #[.string ⟨nm.toArray⟩, .int .i64 (ty : Int), .int .i64 (fl : Int), .int .i64 (li : Int), .int .i64 (inf : Int), .int .i64 (al : Int), .int .i64 (es : Int), .slice da dl dc], .int .i64 (p : Int)] w fun e w' => ∃ a c, e = .returned (.slice a R.length c) ∧ AppB N w w' (.slice ba O.length bc) (.slice a R.length c) R := by
  obtain ⟨R1, hR1⟩ : ∃ R, R = O ++ leB z 4 := ⟨_, rfl⟩
  obtain ⟨R2, hR2⟩ : ∃ R, R = R1 ++ leB ty 4 := ⟨_, rfl⟩
  obtain ⟨R3, hR3⟩ : ∃ R, R = R2 ++ leB fl 8 := ⟨_, rfl⟩
  obtain ⟨R4, hR4⟩ : ∃ R, R = R3 ++ leB 0 8 := ⟨_, rfl⟩
  obtain ⟨R5, hR5⟩ : ∃ R, R = R4 ++ leB p 8 := ⟨_, rfl⟩
  obtain ⟨R6, hR6⟩ : ∃ R, R = R5 ++ leB dl 8 := ⟨_, rfl⟩
  obtain ⟨R7, hR7⟩ : ∃ R, R = R6 ++ leB li 4 := ⟨_, rfl⟩
  obtain ⟨R8, hR8⟩ : ∃ R, R = R7 ++ leB inf 4 := ⟨_, rfl⟩
  obtain ⟨R9, hR9⟩ : ∃ R, R = R8 ++ leB al 8 := ⟨_, rfl⟩
  obtain ⟨R10, hR10⟩ : ∃ R, R = R9 ++ leB es 8 := ⟨_, rfl⟩
  have l1 : R1.length = O.length + 4 := by rw [hR1, List.length_append, leB_len]
  have l2 : R2.length = R1.length + 4 := by rw [hR2, List.length_append, leB_len]
  have l3 : R3.length = R2.length + 8 := by rw [hR3, List.length_append, leB_len]
  have l4 : R4.length = R3.length + 8 := by rw [hR4, List.length_append, leB_len]
  have l5 : R5.length = R4.length + 8 := by rw [hR5, List.length_append, leB_len]
  have l6 : R6.length = R5.length + 8 := by rw [hR6, List.length_append, leB_len]
  have l7 : R7.length = R6.length + 4 := by rw [hR7, List.length_append, leB_len]
  have l8 : R8.length = R7.length + 4 := by rw [hR8, List.length_append, leB_len]
  have l9 : R9.length = R8.length + 8 := by rw [hR9, List.length_append, leB_len]
  have l10 : R10.length = R9.length + 8 := by rw [hR10, List.length_append, leB_len]
  have C1 := hidOf (fun wx a c (h : OwB N (.slice a O.length c) O wx) (hx : N ≤ wx.heap.size) => num9_any N wx a c O R1 z 4 hR1 h hx (by omega) (by omega) hz)
  have C2 := hidOf (fun wx a c (h : OwB N (.slice a R1.length c) R1 wx) (hx : N ≤ wx.heap.size) => num9_any N wx a c R1 R2 ty 4 hR2 h hx (by omega) (by omega) hty)
  have C3 := hidOf (fun wx a c (h : OwB N (.slice a R2.length c) R2 wx) (hx : N ≤ wx.heap.size) => num9_any N wx a c R2 R3 fl 8 hR3 h hx (by omega) (by omega) hfl)
  have C4 := hidOf (fun wx a c (h : OwB N (.slice a R3.length c) R3 wx) (hx : N ≤ wx.heap.size) => num9_any N wx a c R3 R4 0 8 hR4 h hx (by omega) (by omega) (by omega))
  have C5 := hidOf (fun wx a c (h : OwB N (.slice a R4.length c) R4 wx) (hx : N ≤ wx.heap.size) => num9_any N wx a c R4 R5 p 8 hR5 h hx (by omega) (by omega) hp)
  have C6 := hidOf (fun wx a c (h : OwB N (.slice a R5.length c) R5 wx) (hx : N ≤ wx.heap.size) => num9_any N wx a c R5 R6 dl 8 hR6 h hx (by omega) (by omega) hdl)
  have C7 := hidOf (fun wx a c (h : OwB N (.slice a R6.length c) R6 wx) (hx : N ≤ wx.heap.size) => num9_any N wx a c R6 R7 li 4 hR7 h hx (by omega) (by omega) hli)
  have C8 := hidOf (fun wx a c (h : OwB N (.slice a R7.length c) R7 wx) (hx : N ≤ wx.heap.size) => num9_any N wx a c R7 R8 inf 4 hR8 h hx (by omega) (by omega) hinf)
  have C9 := hidOf (fun wx a c (h : OwB N (.slice a R8.length c) R8 wx) (hx : N ≤ wx.heap.size) => num9_any N wx a c R8 R9 al 8 hR9 h hx (by omega) (by omega) hal)
  have C10 := hidOf (fun wx a c (h : OwB N (.slice a R9.length c) R9 wx) (hx : N ≤ wx.heap.size) => num9_any N wx a c R9 R10 es 8 hR10 h hx (by omega) (by omega) hes)
  have HRR : Hid (R = R10) := hidOf (hRR.trans (by rw [hR10, hR9, hR8, hR7, hR6, hR5, hR4, hR3, hR2, hR1]; simp only [List.append_assoc]))
  clear hRR hR1 hR2 hR3 hR4 hR5 hR6 hR7 hR8 hR9 hR10 l1 l2 l3 l4 l5 l6 l7 l8 l9 l10
  have HQ0 : Hid ((w.alloc (.cells #[.string ⟨nm.toArray⟩, .int .i64 (ty : Int), .int .i64 (fl : Int), .int .i64 (li : Int), .int .i64 (inf : Int), .int .i64 (al : Int), .int .i64 (es : Int), .slice da dl dc] 52)).heap[w.heap.size]? = some (.cells #[.string ⟨nm.toArray⟩, .int .i64 (ty : Int), .int .i64 (fl : Int), .int .i64 (li : Int), .int .i64 (inf : Int), .int .i64 (al : Int), .int .i64 (es : Int), .slice da dl dc] 52 (0, 0))) := hidOf (heap_alloc_new w _)
  have HLT : Hid (∀ b, (Value.slice ba O.length bc).ownBlock = some b → b < w.heap.size) := hidOf (fun b h => (World.ownsRow.lt hb b h).2)
  have A0 : Hid (AppB N w (w.alloc (.cells #[.string ⟨nm.toArray⟩, .int .i64 (ty : Int), .int .i64 (fl : Int), .int .i64 (li : Int), .int .i64 (inf : Int), .int .i64 (al : Int), .int .i64 (es : Int), .slice da dl dc] 52)) (.slice ba O.length bc) (.slice ba O.length bc) O) := hidOf ⟨World.ownsRow.alloc hb _, Chg.of_out ((Out.refl w).alloc _), fun b h => .inl h⟩
  have A00 : Hid (AppB N (w.alloc (.cells #[.string ⟨nm.toArray⟩, .int .i64 (ty : Int), .int .i64 (fl : Int), .int .i64 (li : Int), .int .i64 (inf : Int), .int .i64 (al : Int), .int .i64 (es : Int), .slice da dl dc] 52)) (w.alloc (.cells #[.string ⟨nm.toArray⟩, .int .i64 (ty : Int), .int .i64 (fl : Int), .int .i64 (li : Int), .int .i64 (inf : Int), .int .i64 (al : Int), .int .i64 (es : Int), .slice da dl dc] 52)) (.slice ba O.length bc) (.slice ba O.length bc) O) := hidOf (AppB.refl A0.out.own)
  have HN0 : Hid (N ≤ (w.alloc (.cells #[.string ⟨nm.toArray⟩, .int .i64 (ty : Int), .int .i64 (fl : Int), .int .i64 (li : Int), .int .i64 (inf : Int), .int .i64 (al : Int), .int .i64 (es : Int), .slice da dl dc] 52)).heap.size) := hidOf (by rw [size_alloc]; omega)
  clear hb
  go_enter Try.func45, Try.ntmps45
  go_upto_region 1 with fail
  generalize w.alloc (.cells #[.string ⟨nm.toArray⟩, .int .i64 (ty : Int), .int .i64 (fl : Int), .int .i64 (li : Int), .int .i64 (inf : Int), .int .i64 (al : Int), .int .i64 (es : Int), .slice da dl dc] 52) = x0 at *
  have HQ : Hid (∀ wx v R, AppB N x0 wx (.slice ba O.length bc) v R → wx.cell? ⟨w.heap.size, 0, none⟩ = some (.string ⟨nm.toArray⟩) ∧ wx.cell? ⟨w.heap.size, 1, none⟩ = some (.int .i64 (ty : Int)) ∧ wx.cell? ⟨w.heap.size, 2, none⟩ = some (.int .i64 (fl : Int)) ∧ wx.cell? ⟨w.heap.size, 3, none⟩ = some (.int .i64 (li : Int)) ∧ wx.cell? ⟨w.heap.size, 4, none⟩ = some (.int .i64 (inf : Int)) ∧ wx.cell? ⟨w.heap.size, 5, none⟩ = some (.int .i64 (al : Int)) ∧ wx.cell? ⟨w.heap.size, 6, none⟩ = some (.int .i64 (es : Int)) ∧ wx.cell? ⟨w.heap.size, 7, none⟩ = some (.slice da dl dc)) := hidOf (fun wx v R h => by
    have hs := (h.chg.block w.heap.size (Array.getElem?_eq_some_iff.1 HQ0.out).1 (fun e => by have := HLT.out _ e; omega)).trans HQ0.out
    exact ⟨box_cell9 hs 0, box_cell9 hs 1, box_cell9 hs 2, box_cell9 hs 3, box_cell9 hs 4, box_cell9 hs 5, box_cell9 hs 6, box_cell9 hs 7⟩)
  have HA := A0
  clear A0
  have A0 := A00
  clear A00
  obtain ⟨q0, q1, q2, q3, q4, q5, q6, q7⟩ := HQ.out x0 _ _ A0.out
  go_upto_region 2 with (first | (go_at_call 75; refine (C1.out _ _ _ A0.out.own HN0.out).mono ?_; rintro e x1 ⟨b1, d1, rfl, ha⟩; have A1 := hidOf (A0.out.trans ha); have HN1 := hidOf (Nat.le_trans HN0.out ha.chg.size); clear ha))
  clear q0 q1 q2 q3 q4 q5 q6 q7
  obtain ⟨q0, q1, q2, q3, q4, q5, q6, q7⟩ := HQ.out x1 _ _ A1.out
  go_upto_region 3 with (first | (go_at_call 75; refine (C2.out _ _ _ A1.out.own HN1.out).mono ?_; rintro e x2 ⟨b2, d2, rfl, ha⟩; have A2 := hidOf (A1.out.trans ha); have HN2 := hidOf (Nat.le_trans HN1.out ha.chg.size); clear ha))
  clear q0 q1 q2 q3 q4 q5 q6 q7
  obtain ⟨q0, q1, q2, q3, q4, q5, q6, q7⟩ := HQ.out x2 _ _ A2.out
  go_upto_region 4 with (first | (go_at_call 75; refine (C3.out _ _ _ A2.out.own HN2.out).mono ?_; rintro e x3 ⟨b3, d3, rfl, ha⟩; have A3 := hidOf (A2.out.trans ha); have HN3 := hidOf (Nat.le_trans HN2.out ha.chg.size); clear ha))
  clear q0 q1 q2 q3 q4 q5 q6 q7
  obtain ⟨q0, q1, q2, q3, q4, q5, q6, q7⟩ := HQ.out x3 _ _ A3.out
  go_upto_region 5 with (first | (go_at_call 75; refine (C4.out _ _ _ A3.out.own HN3.out).mono ?_; rintro e x4 ⟨b4, d4, rfl, ha⟩; have A4 := hidOf (A3.out.trans ha); have HN4 := hidOf (Nat.le_trans HN3.out ha.chg.size); clear ha))
  clear q0 q1 q2 q3 q4 q5 q6 q7
  obtain ⟨q0, q1, q2, q3, q4, q5, q6, q7⟩ := HQ.out x4 _ _ A4.out
  go_upto_region 6 with (first | (go_at_call 75; refine (C5.out _ _ _ A4.out.own HN4.out).mono ?_; rintro e x5 ⟨b5, d5, rfl, ha⟩; have A5 := hidOf (A4.out.trans ha); have HN5 := hidOf (Nat.le_trans HN4.out ha.chg.size); clear ha))
  clear q0 q1 q2 q3 q4 q5 q6 q7
  obtain ⟨q0, q1, q2, q3, q4, q5, q6, q7⟩ := HQ.out x5 _ _ A5.out
  go_upto_region 7 with (first | (go_at_call 75; refine (C6.out _ _ _ A5.out.own HN5.out).mono ?_; rintro e x6 ⟨b6, d6, rfl, ha⟩; have A6 := hidOf (A5.out.trans ha); have HN6 := hidOf (Nat.le_trans HN5.out ha.chg.size); clear ha))
  clear q0 q1 q2 q3 q4 q5 q6 q7
  obtain ⟨q0, q1, q2, q3, q4, q5, q6, q7⟩ := HQ.out x6 _ _ A6.out
  go_upto_region 8 with (first | (go_at_call 75; refine (C7.out _ _ _ A6.out.own HN6.out).mono ?_; rintro e x7 ⟨b7, d7, rfl, ha⟩; have A7 := hidOf (A6.out.trans ha); have HN7 := hidOf (Nat.le_trans HN6.out ha.chg.size); clear ha))
  clear q0 q1 q2 q3 q4 q5 q6 q7
  obtain ⟨q0, q1, q2, q3, q4, q5, q6, q7⟩ := HQ.out x7 _ _ A7.out
  go_upto_region 9 with (first | (go_at_call 75; refine (C8.out _ _ _ A7.out.own HN7.out).mono ?_; rintro e x8 ⟨b8, d8, rfl, ha⟩; have A8 := hidOf (A7.out.trans ha); have HN8 := hidOf (Nat.le_trans HN7.out ha.chg.size); clear ha))
  clear q0 q1 q2 q3 q4 q5 q6 q7
  obtain ⟨q0, q1, q2, q3, q4, q5, q6, q7⟩ := HQ.out x8 _ _ A8.out
  go_upto_region 10 with (first | (go_at_call 75; refine (C9.out _ _ _ A8.out.own HN8.out).mono ?_; rintro e x9 ⟨b9, d9, rfl, ha⟩; have A9 := hidOf (A8.out.trans ha); have HN9 := hidOf (Nat.le_trans HN8.out ha.chg.size); clear ha))
  clear q0 q1 q2 q3 q4 q5 q6 q7
  obtain ⟨q0, q1, q2, q3, q4, q5, q6, q7⟩ := HQ.out x9 _ _ A9.out
  go_wp2_with (first | (go_at_call 75; refine (C10.out _ _ _ A9.out.own HN9.out).mono ?_; rintro e x10 ⟨b10, d10, rfl, ha⟩; have A10 := hidOf (A9.out.trans ha); have HN10 := hidOf (Nat.le_trans HN9.out ha.chg.size); clear ha))
  go_ret
  rw [HRR.out]
  exact ⟨_, _, rfl, HA.out.trans A10.out⟩
end Go.Proofs.Ytmpbdakmmelmgaa
namespace Go.Proofs.Ytmpbdakmmelmgaa
open Go.RowKit
set_option linter.unusedVariables false
set_option linter.unusedSimpArgs false
def h16 : List UInt8 := [127, 69, 76, 70, 2, 1, 1, 0, 0, 0, 0, 0, 0, 0, 0, 0]
set_option maxRecDepth 8000 in
set_option maxHeartbeats 1000000 in
theorem head9_any (w : World) (count p : Nat) (R : List UInt8) (hRR0 : R = h16 ++ (leB 1 2 ++ (leB 247 2 ++ (leB 1 4 ++ (leB 0 8 ++ (leB 0 8 ++ (leB p 8 ++ (leB 0 4 ++ (leB 64 2 ++ (leB 0 4 ++ (leB 64 2 ++ (leB (count + 2) 2 ++ leB (count + 1) 2)))))))))))) (hc : count ≤ 1000) (hp : p ≤ 9223372036854775807) :
    Calls Try.prog 46 #[.int .i64 (count : Int), .int .i64 (p : Int)] w fun e w' => ∃ a c, e = .returned (.slice a R.length c) ∧ OwB w.heap.size (.slice a R.length c) R w' ∧ Out w w' := by
  obtain ⟨O, hO⟩ : ∃ O, O = h16 := ⟨_, rfl⟩
  obtain ⟨c2, hc2⟩ : ∃ c, c = count + 2 := ⟨_, rfl⟩
  obtain ⟨c1, hc1⟩ : ∃ c, c = count + 1 := ⟨_, rfl⟩
  obtain ⟨N, hNN⟩ : ∃ N, N = w.heap.size := ⟨_, rfl⟩
  have hc2I : (count : Int) + 2 = c2 := by omega
  have hc1I : (count : Int) + 1 = c1 := by omega
  have hc2w : IntKind.i64.wrap (c2 : Int) = c2 := by rw [IntKind.wrap_i64]; omega
  have hc1w : IntKind.i64.wrap (c1 : Int) = c1 := by rw [IntKind.wrap_i64]; omega
  have hOl : O.length = 16 := by rw [hO]; rfl
  have hRR : R = O ++ (leB 1 2 ++ (leB 247 2 ++ (leB 1 4 ++ (leB 0 8 ++ (leB 0 8 ++ (leB p 8 ++ (leB 0 4 ++ (leB 64 2 ++ (leB 0 4 ++ (leB 64 2 ++ (leB c2 2 ++ leB c1 2))))))))))) := by rw [hRR0, hO, hc2, hc1]
  clear hRR0
  obtain ⟨R1, hR1⟩ : ∃ R, R = O ++ leB 1 2 := ⟨_, rfl⟩
  obtain ⟨R2, hR2⟩ : ∃ R, R = R1 ++ leB 247 2 := ⟨_, rfl⟩
  obtain ⟨R3, hR3⟩ : ∃ R, R = R2 ++ leB 1 4 := ⟨_, rfl⟩
  obtain ⟨R4, hR4⟩ : ∃ R, R = R3 ++ leB 0 8 := ⟨_, rfl⟩
  obtain ⟨R5, hR5⟩ : ∃ R, R = R4 ++ leB 0 8 := ⟨_, rfl⟩
  obtain ⟨R6, hR6⟩ : ∃ R, R = R5 ++ leB p 8 := ⟨_, rfl⟩
  obtain ⟨R7, hR7⟩ : ∃ R, R = R6 ++ leB 0 4 := ⟨_, rfl⟩
  obtain ⟨R8, hR8⟩ : ∃ R, R = R7 ++ leB 64 2 := ⟨_, rfl⟩
  obtain ⟨R9, hR9⟩ : ∃ R, R = R8 ++ leB 0 4 := ⟨_, rfl⟩
  obtain ⟨R10, hR10⟩ : ∃ R, R = R9 ++ leB 64 2 := ⟨_, rfl⟩
  obtain ⟨R11, hR11⟩ : ∃ R, R = R10 ++ leB c2 2 := ⟨_, rfl⟩
  obtain ⟨R12, hR12⟩ : ∃ R, R = R11 ++ leB c1 2 := ⟨_, rfl⟩
  have l1 : R1.length = O.length + 2 := by rw [hR1, List.length_append, leB_len]
  have l2 : R2.length = R1.length + 2 := by rw [hR2, List.length_append, leB_len]
  have l3 : R3.length = R2.length + 4 := by rw [hR3, List.length_append, leB_len]
  have l4 : R4.length = R3.length + 8 := by rw [hR4, List.length_append, leB_len]
  have l5 : R5.length = R4.length + 8 := by rw [hR5, List.length_append, leB_len]
  have l6 : R6.length = R5.length + 8 := by rw [hR6, List.length_append, leB_len]
  have l7 : R7.length = R6.length + 4 := by rw [hR7, List.length_append, leB_len]
  have l8 : R8.length = R7.length + 2 := by rw [hR8, List.length_append, leB_len]
  have l9 : R9.length = R8.length + 4 := by rw [hR9, List.length_append, leB_len]
  have l10 : R10.length = R9.length + 2 := by rw [hR10, List.length_append, leB_len]
  have l11 : R11.length = R10.length + 2 := by rw [hR11, List.length_append, leB_len]
  have l12 : R12.length = R11.length + 2 := by rw [hR12, List.length_append, leB_len]
  have C1 := hidOf (fun wx a c (h : OwB N (.slice a O.length c) O wx) (hx : N ≤ wx.heap.size) => num9_any N wx a c O R1 1 2 hR1 h hx (by omega) (by omega) (by omega))
  have C2 := hidOf (fun wx a c (h : OwB N (.slice a R1.length c) R1 wx) (hx : N ≤ wx.heap.size) => num9_any N wx a c R1 R2 247 2 hR2 h hx (by omega) (by omega) (by omega))
  have C3 := hidOf (fun wx a c (h : OwB N (.slice a R2.length c) R2 wx) (hx : N ≤ wx.heap.size) => num9_any N wx a c R2 R3 1 4 hR3 h hx (by omega) (by omega) (by omega))
  have C4 := hidOf (fun wx a c (h : OwB N (.slice a R3.length c) R3 wx) (hx : N ≤ wx.heap.size) => num9_any N wx a c R3 R4 0 8 hR4 h hx (by omega) (by omega) (by omega))
  have C5 := hidOf (fun wx a c (h : OwB N (.slice a R4.length c) R4 wx) (hx : N ≤ wx.heap.size) => num9_any N wx a c R4 R5 0 8 hR5 h hx (by omega) (by omega) (by omega))
  have C6 := hidOf (fun wx a c (h : OwB N (.slice a R5.length c) R5 wx) (hx : N ≤ wx.heap.size) => num9_any N wx a c R5 R6 p 8 hR6 h hx (by omega) (by omega) hp)
  have C7 := hidOf (fun wx a c (h : OwB N (.slice a R6.length c) R6 wx) (hx : N ≤ wx.heap.size) => num9_any N wx a c R6 R7 0 4 hR7 h hx (by omega) (by omega) (by omega))
  have C8 := hidOf (fun wx a c (h : OwB N (.slice a R7.length c) R7 wx) (hx : N ≤ wx.heap.size) => num9_any N wx a c R7 R8 64 2 hR8 h hx (by omega) (by omega) (by omega))
  have C9 := hidOf (fun wx a c (h : OwB N (.slice a R8.length c) R8 wx) (hx : N ≤ wx.heap.size) => num9_any N wx a c R8 R9 0 4 hR9 h hx (by omega) (by omega) (by omega))
  have C10 := hidOf (fun wx a c (h : OwB N (.slice a R9.length c) R9 wx) (hx : N ≤ wx.heap.size) => num9_any N wx a c R9 R10 64 2 hR10 h hx (by omega) (by omega) (by omega))
  have C11 := hidOf (fun wx a c (h : OwB N (.slice a R10.length c) R10 wx) (hx : N ≤ wx.heap.size) => num9_any N wx a c R10 R11 c2 2 hR11 h hx (by omega) (by omega) (by omega))
  have C12 := hidOf (fun wx a c (h : OwB N (.slice a R11.length c) R11 wx) (hx : N ≤ wx.heap.size) => num9_any N wx a c R11 R12 c1 2 hR12 h hx (by omega) (by omega) (by omega))
  have HRR : Hid (R = R12) := hidOf (hRR.trans (by rw [hR12, hR11, hR10, hR9, hR8, hR7, hR6, hR5, hR4, hR3, hR2, hR1]; simp only [List.append_assoc]))
  clear hRR hR1 hR2 hR3 hR4 hR5 hR6 hR7 hR8 hR9 hR10 hR11 hR12 l1 l2 l3 l4 l5 l6 l7 l8 l9 l10 l11 l12
  have A0 : Hid (AppB N (w.alloc (.cells #[.int .u8 127, .int .u8 69, .int .u8 76, .int .u8 70, .int .u8 2, .int .u8 1, .int .u8 1, .int .u8 0, .int .u8 0, .int .u8 0, .int .u8 0, .int .u8 0, .int .u8 0, .int .u8 0, .int .u8 0, .int .u8 0] 5)) (w.alloc (.cells #[.int .u8 127, .int .u8 69, .int .u8 76, .int .u8 70, .int .u8 2, .int .u8 1, .int .u8 1, .int .u8 0, .int .u8 0, .int .u8 0, .int .u8 0, .int .u8 0, .int .u8 0, .int .u8 0, .int .u8 0, .int .u8 0] 5)) (.slice (some ⟨w.heap.size, 0, none⟩) 16 16) (.slice (some ⟨w.heap.size, 0, none⟩) O.length 16) O) := hidOf (by
    have ho : OwB N (.slice (some ⟨w.heap.size, 0, none⟩) O.length 16) O (w.alloc (.cells #[.int .u8 127, .int .u8 69, .int .u8 76, .int .u8 70, .int .u8 2, .int .u8 1, .int .u8 1, .int .u8 0, .int .u8 0, .int .u8 0, .int .u8 0, .int .u8 0, .int .u8 0, .int .u8 0, .int .u8 0, .int .u8 0] 5)) := by
      rw [hO, hNN]
      exact ⟨rfl, .inr ⟨w.heap.size, 16, _, rfl, Nat.le_refl _, heap_alloc_new w _, Nat.le_refl _, by decide, rfl, rfl⟩⟩
    exact ⟨ho, Chg.refl _ _, fun b hb => .inl hb⟩)
  have HN0 : Hid (N ≤ (w.alloc (.cells #[.int .u8 127, .int .u8 69, .int .u8 76, .int .u8 70, .int .u8 2, .int .u8 1, .int .u8 1, .int .u8 0, .int .u8 0, .int .u8 0, .int .u8 0, .int .u8 0, .int .u8 0, .int .u8 0, .int .u8 0, .int .u8 0] 5)).heap.size) := hidOf (by rw [size_alloc, hNN]; omega)
  have HO0 : Hid (Out w (w.alloc (.cells #[.int .u8 127, .int .u8 69, .int .u8 76, .int .u8 70, .int .u8 2, .int .u8 1, .int .u8 1, .int .u8 0, .int .u8 0, .int .u8 0, .int .u8 0, .int .u8 0, .int .u8 0, .int .u8 0, .int .u8 0, .int .u8 0] 5))) := hidOf ((Out.refl w).alloc _)
  have HOl := hidOf hOl
  have HNN := hidOf hNN
  clear hO hc2 hc1 hNN
  go_enter Try.func46, Try.ntmps46
  go_upto_region 2 with fail
  rw [hOl] at A0
  generalize w.alloc (.cells #[.int .u8 127, .int .u8 69, .int .u8 76, .int .u8 70, .int .u8 2, .int .u8 1, .int .u8 1, .int .u8 0, .int .u8 0, .int .u8 0, .int .u8 0, .int .u8 0, .int .u8 0, .int .u8 0, .int .u8 0, .int .u8 0] 5) = x0 at *
  have C1' := C1
  rw [hOl] at C1'
  clear C1
  have C1 := C1'
  clear C1' hOl
  go_upto_region 3 with (first | (go_at_call 75; refine (C1.out _ _ _ A0.out.own HN0.out).mono ?_; rintro e x1 ⟨b1, d1, rfl, ha⟩; have A1 := hidOf (A0.out.trans ha); have HN1 := hidOf (Nat.le_trans HN0.out ha.chg.size); clear ha))
  go_upto_region 4 with (first | (go_at_call 75; refine (C2.out _ _ _ A1.out.own HN1.out).mono ?_; rintro e x2 ⟨b2, d2, rfl, ha⟩; have A2 := hidOf (A1.out.trans ha); have HN2 := hidOf (Nat.le_trans HN1.out ha.chg.size); clear ha))
  go_upto_region 5 with (first | (go_at_call 75; refine (C3.out _ _ _ A2.out.own HN2.out).mono ?_; rintro e x3 ⟨b3, d3, rfl, ha⟩; have A3 := hidOf (A2.out.trans ha); have HN3 := hidOf (Nat.le_trans HN2.out ha.chg.size); clear ha))
  go_upto_region 6 with (first | (go_at_call 75; refine (C4.out _ _ _ A3.out.own HN3.out).mono ?_; rintro e x4 ⟨b4, d4, rfl, ha⟩; have A4 := hidOf (A3.out.trans ha); have HN4 := hidOf (Nat.le_trans HN3.out ha.chg.size); clear ha))
  go_upto_region 7 with (first | (go_at_call 75; refine (C5.out _ _ _ A4.out.own HN4.out).mono ?_; rintro e x5 ⟨b5, d5, rfl, ha⟩; have A5 := hidOf (A4.out.trans ha); have HN5 := hidOf (Nat.le_trans HN4.out ha.chg.size); clear ha))
  go_upto_region 8 with (first | (go_at_call 75; refine (C6.out _ _ _ A5.out.own HN5.out).mono ?_; rintro e x6 ⟨b6, d6, rfl, ha⟩; have A6 := hidOf (A5.out.trans ha); have HN6 := hidOf (Nat.le_trans HN5.out ha.chg.size); clear ha))
  go_upto_region 9 with (first | (go_at_call 75; refine (C7.out _ _ _ A6.out.own HN6.out).mono ?_; rintro e x7 ⟨b7, d7, rfl, ha⟩; have A7 := hidOf (A6.out.trans ha); have HN7 := hidOf (Nat.le_trans HN6.out ha.chg.size); clear ha))
  go_upto_region 10 with (first | (go_at_call 75; refine (C8.out _ _ _ A7.out.own HN7.out).mono ?_; rintro e x8 ⟨b8, d8, rfl, ha⟩; have A8 := hidOf (A7.out.trans ha); have HN8 := hidOf (Nat.le_trans HN7.out ha.chg.size); clear ha))
  go_upto_region 11 with (first | (go_at_call 75; refine (C9.out _ _ _ A8.out.own HN8.out).mono ?_; rintro e x9 ⟨b9, d9, rfl, ha⟩; have A9 := hidOf (A8.out.trans ha); have HN9 := hidOf (Nat.le_trans HN8.out ha.chg.size); clear ha))
  go_upto_region 12 with (first | (go_at_call 75; refine (C10.out _ _ _ A9.out.own HN9.out).mono ?_; rintro e x10 ⟨b10, d10, rfl, ha⟩; have A10 := hidOf (A9.out.trans ha); have HN10 := hidOf (Nat.le_trans HN9.out ha.chg.size); clear ha))
  go_upto_region 13 with (first | (go_at_call 75; refine (C11.out _ _ _ A10.out.own HN10.out).mono ?_; rintro e x11 ⟨b11, d11, rfl, ha⟩; have A11 := hidOf (A10.out.trans ha); have HN11 := hidOf (Nat.le_trans HN10.out ha.chg.size); clear ha))
  go_wp2_with (first | (go_at_call 75; refine (C12.out _ _ _ A11.out.own HN11.out).mono ?_; rintro e x12 ⟨b12, d12, rfl, ha⟩; have A12 := hidOf (A11.out.trans ha); have HN12 := hidOf (Nat.le_trans HN11.out ha.chg.size); clear ha))
  go_ret
  rw [HRR.out]
  have h := A12.out.own
  rw [HNN.out] at h
  exact ⟨_, _, rfl, h, Chg.out A12.out.chg HO0.out (fun k hk => by simp [Value.ownBlock] at hk; omega)⟩
end Go.Proofs.Ytmpbdakmmelmgaa
