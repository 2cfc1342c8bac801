import Derived.Test.YtcjhgihpahnnoabGreatDoorGt
import Derived.Test.YtcjhgihpahnnoabGreatDoorHh
namespace Go.Proofs.YtcjhgihpahnnoabGreatDoor
open Go.RowKit
set_option linter.unusedVariables false
set_option linter.unusedSimpArgs false
theorem wfU64 {n : Int} (h : (Lit.int .u64 n).wf = true) : 0 ≤ n ∧ n < 18446744073709551616 := by
  simp [Lit.wf, IntKind.min, IntKind.max, IntKind.bits, IntKind.signed] at h
  omega
set_option maxRecDepth 40000 in
set_option maxHeartbeats 3200000 in
theorem lineNumbers_walk (x : Int) (h0 : 0 ≤ x) (h1 : x < 18446744073709551616) (w : World) (hE : AEnv w) : Calls Tryz.prog 3 #[.int .u64 x] w fun e w' => e = .returned (.bool true) ∧ Out w w' := by
  have CA : Hid (∀ wx, Out w wx → Calls Tryz.prog 5 #[] wx fun e w' => e = .returned (.bool true) ∧ Out wx w') := fun wx ho => awake_any wx (hE.out ho)
  have CH : Hid (∀ wx, Calls Tryz.prog 6 #[.int .u64 x] wx fun e w' => (∃ s, HexOf x s ∧ e = .returned (.string ⟨(hxT s).toArray⟩)) ∧ Out wx w') := fun wx => hexadecimal_any x h0 h1 wx
  obtain ⟨r1, r2, r3⟩ := ex64_rng h0 h1
  obtain ⟨L, HL⟩ : ∃ L, Hid (L = lineP 24 1 0 0 (ex64 x) []) := ⟨_, hidOf rfl⟩
  have CP : Hid (∀ wx, Out w wx → Calls Tryz.prog 8 #[.agg #[.int .i64 24, .int .i64 1, .int .i64 0, .int .i64 0, .int .i64 (ex64 x)], .string ⟨#[]⟩] wx fun e w' => e = .returned (.tuple #[.string ⟨L.toArray⟩, .int .i64 0]) ∧ Out wx w') := fun wx ho => by
    have := print_any 24 1 0 0 (ex64 x) [] wx (hE.out ho) (by decide) ⟨by decide, by decide⟩ ⟨r1, r2⟩
    rw [show printP 24 1 0 0 (ex64 x) [] = (L, 0) from by unfold printP; rw [if_pos (may_lddw _), if_pos (tfit_lddw _), HL.out]] at this
    exact this
  have CB : Hid (∀ wx, Out w wx → Calls Tryz.prog 7 #[.string ⟨L.toArray⟩] wx fun e w' => e = .returned (.tuple #[.agg #[.int .i64 24, .int .i64 1, .int .i64 0, .int .i64 0, .int .i64 (ex64 x)], .string ⟨#[]⟩, .int .i64 0]) ∧ Out wx w') := fun wx ho => by
    have := parse_any wx L (hE.out ho).1 (by rw [HL.out]; exact line_len 24 1 0 0 (ex64 x) [] ⟨by decide, by decide⟩ ⟨r1, r2⟩ (may_lddw _) (tfit_lddw _))
    rw [HL.out, parse_line 24 1 0 0 (ex64 x) [] (may_lddw _) (tfit_lddw _) ⟨r1, r2⟩] at this
    rw [HL.out]
    exact this
  have CX : Hid (∀ s, HexOf x s → ∃ X L1 L2 L3 : List UInt8, X = hxT s ∧ (∀ w, (Op.stringOp .add ⟨#[108, 100, 100, 119, 32, 114, 49, 44, 32]⟩ ⟨X.toArray⟩).run Tryz.prog w = .ok (.string ⟨L1.toArray⟩) w) ∧ (∀ w, (Op.stringOp .add ⟨#[108, 100, 100, 119, 32, 114, 49, 44, 32, 43, 32]⟩ ⟨X.toArray⟩).run Tryz.prog w = .ok (.string ⟨L2.toArray⟩) w) ∧ (∀ w, (Op.stringOp .add ⟨#[109, 111, 118, 32, 114, 49, 44, 32]⟩ ⟨X.toArray⟩).run Tryz.prog w = .ok (.string ⟨L3.toArray⟩) w) ∧
      Hid (∀ wx, Out w wx → Calls Tryz.prog 7 #[.string ⟨L1.toArray⟩] wx fun e w' => e = .returned (.tuple #[.agg #[.int .i64 24, .int .i64 1, .int .i64 0, .int .i64 0, .int .i64 (ex64 x)], .string ⟨#[]⟩, .int .i64 0]) ∧ Out wx w') ∧
      Hid (∀ wx, Out w wx → Calls Tryz.prog 7 #[.string ⟨L2.toArray⟩] wx fun e w' => e = .returned (.tuple #[.agg #[.int .i64 24, .int .i64 1, .int .i64 0, .int .i64 0, .int .i64 (ex64 x)], .string ⟨#[]⟩, .int .i64 0]) ∧ Out wx w') ∧
      Hid (∀ wx, Out w wx → Calls Tryz.prog 7 #[.string ⟨L3.toArray⟩] wx fun e w' => e = .returned (if decide (4294967295 < x) then .tuple #[.agg #[.int .i64 0, .int .i64 0, .int .i64 0, .int .i64 0, .int .i64 0], .string ⟨#[]⟩, .int .i64 42] else .tuple #[.agg #[.int .i64 183, .int .i64 1, .int .i64 0, .int .i64 0, .int .i64 (ex32 x)], .string ⟨#[]⟩, .int .i64 0]) ∧ Out wx w')) := fun s hs => by
    have hlen : (hxT s).length ≤ 18 := by have := hs.2.2.1; unfold hxT; simp; omega
    refine ⟨hxT s, [108, 100, 100, 119, 32, 114, 49, 44, 32] ++ hxT s, [108, 100, 100, 119, 32, 114, 49, 44, 32, 43, 32] ++ hxT s, [109, 111, 118, 32, 114, 49, 44, 32] ++ hxT s, rfl, add_lists [108, 100, 100, 119, 32, 114, 49, 44, 32] _ _ rfl (by simp; omega), add_lists [108, 100, 100, 119, 32, 114, 49, 44, 32, 43, 32] _ _ rfl (by simp; omega), add_lists [109, 111, 118, 32, 114, 49, 44, 32] _ _ rfl (by simp; omega), fun wx ho => ?_, fun wx ho => ?_, fun wx ho => ?_⟩
    · have := parse_any wx ([108, 100, 100, 119, 32, 114, 49, 44, 32] ++ hxT s) (hE.out ho).1 (by simp; omega)
      rw [lddw_hex hs h0 h1] at this
      exact this
    · have := parse_any wx ([108, 100, 100, 119, 32, 114, 49, 44, 32, 43, 32] ++ hxT s) (hE.out ho).1 (by simp; omega)
      rw [lddw_plus hs h0 h1] at this
      exact this
    · have := parse_any wx ([109, 111, 118, 32, 114, 49, 44, 32] ++ hxT s) (hE.out ho).1 (by simp; omega)
      rw [mov_hex hs h0] at this
      by_cases hx : 4294967295 < x
      · rw [show decide (4294967295 < x) = true from decide_eq_true hx] at this ⊢
        exact this
      · rw [show decide (4294967295 < x) = false from decide_eq_false hx] at this ⊢
        exact this
  clear hE HL
  generalize ex64 x = I at *
  by_cases hx : x ≤ 4294967295
  · obtain ⟨q1, q2, q3⟩ := ex32_rng h0 hx
    rw [show decide (4294967295 < x) = false from decide_eq_false (by omega)] at CX
    simp only [Bool.false_eq_true, if_false] at CX
    generalize ex32 x = M at *
    go_enter Tryz.func3, Tryz.ntmps3
    go_wp2_with (first | (go_at_call 5; refine (CA.out w (Out.refl w)).mono ?_; rintro e w1 ⟨rfl, ho⟩; have H1 := hidOf ho; clear ho CA) | (go_at_call 6; refine (CH.out w1).mono ?_; rintro e w2 ⟨⟨s, hs, rfl⟩, ho⟩; have H2 := hidOf (Out.trans H1.out ho); obtain ⟨X, L1, L2, L3, hX, a1, a2, a3, P1, P2, P3⟩ := CX.out s hs; rw [← hX]; clear ho CX CH hs hX) | (go_at_call 7; refine (P1.out w2 H2.out).mono ?_; rintro e w3 ⟨rfl, ho⟩; have H3 := hidOf (Out.trans H2.out ho); clear ho P1 a1))
    go_wp2_with (go_at_call 7; refine (P2.out _ (H3.out.alloc _)).mono ?_; rintro e w4 ⟨rfl, ho⟩; have H4 := hidOf (Out.trans (H3.out.alloc _) ho); have X4 : Hid (∀ O, Bx w3.heap.size 24 1 0 0 I (w4.alloc O)) := fun O => (Bx.new w3 24 1 0 0 I).out (ho.alloc O); have c0 := fun O => (X4.out O).1; have c1 := fun O => (X4.out O).2.1; have c2 := fun O => (X4.out O).2.2.1; have c3 := fun O => (X4.out O).2.2.2.1; have c4 := fun O => (X4.out O).2.2.2.2; clear ho P2 a2)
    go_wp2_with (go_at_call 8; refine (CP.out _ (H4.out.alloc _)).mono ?_; rintro e w5 ⟨rfl, ho⟩; have H5 := hidOf (Out.trans (H4.out.alloc _) ho); have XI := hidOf ((X4.out _).out ho); have XJ := hidOf ((Bx.new w4 24 1 0 0 I).out ho); clear ho CP)
    go_wp2_with (go_at_call 7; refine (CB.out w5 H5.out).mono ?_; rintro e w6 ⟨rfl, ho⟩; have H6 := hidOf (Out.trans H5.out ho); have YI : Hid (∀ O, Bx w3.heap.size 24 1 0 0 I (w6.alloc O)) := fun O => XI.out.out (ho.alloc O); have YJ : Hid (∀ O, Bx w4.heap.size 24 1 0 0 I (w6.alloc O)) := fun O => XJ.out.out (ho.alloc O); clear c0 c1 c2 c3 c4; have f0 := fun O => (YI.out O).1; have f1 := fun O => (YI.out O).2.1; have f2 := fun O => (YI.out O).2.2.1; have f3 := fun O => (YI.out O).2.2.2.1; have f4 := fun O => (YI.out O).2.2.2.2; have g0 := fun O => (YJ.out O).1; have g1 := fun O => (YJ.out O).2.1; have g2 := fun O => (YJ.out O).2.2.1; have g3 := fun O => (YJ.out O).2.2.2.1; have g4 := fun O => (YJ.out O).2.2.2.2; clear ho CB)
    go_wp2_with (first | (go_at_call 9; refine (num_any _ _).mono ?_; rintro e wn ⟨rfl, hw⟩; have hw := hw.symm; subst hw) | (go_at_call 7; refine (P3.out _ (H6.out.alloc _)).mono ?_; rintro e w7 ⟨rfl, ho⟩; have H7 := hidOf (Out.trans (H6.out.alloc _) ho); clear ho P3 a3))
    go_ret
    exact ⟨rfl, H7.out.alloc _⟩
  · rw [show decide (4294967295 < x) = true from decide_eq_true (by omega)] at CX
    simp only [if_true] at CX
    go_enter Tryz.func3, Tryz.ntmps3
    go_wp2_with (first | (go_at_call 5; refine (CA.out w (Out.refl w)).mono ?_; rintro e w1 ⟨rfl, ho⟩; have H1 := hidOf ho; clear ho CA) | (go_at_call 6; refine (CH.out w1).mono ?_; rintro e w2 ⟨⟨s, hs, rfl⟩, ho⟩; have H2 := hidOf (Out.trans H1.out ho); obtain ⟨X, L1, L2, L3, hX, a1, a2, a3, P1, P2, P3⟩ := CX.out s hs; rw [← hX]; clear ho CX CH hs hX) | (go_at_call 7; refine (P1.out w2 H2.out).mono ?_; rintro e w3 ⟨rfl, ho⟩; have H3 := hidOf (Out.trans H2.out ho); clear ho P1 a1))
    go_wp2_with (go_at_call 7; refine (P2.out _ (H3.out.alloc _)).mono ?_; rintro e w4 ⟨rfl, ho⟩; have H4 := hidOf (Out.trans (H3.out.alloc _) ho); have X4 : Hid (∀ O, Bx w3.heap.size 24 1 0 0 I (w4.alloc O)) := fun O => (Bx.new w3 24 1 0 0 I).out (ho.alloc O); have c0 := fun O => (X4.out O).1; have c1 := fun O => (X4.out O).2.1; have c2 := fun O => (X4.out O).2.2.1; have c3 := fun O => (X4.out O).2.2.2.1; have c4 := fun O => (X4.out O).2.2.2.2; clear ho P2 a2)
    go_wp2_with (go_at_call 8; refine (CP.out _ (H4.out.alloc _)).mono ?_; rintro e w5 ⟨rfl, ho⟩; have H5 := hidOf (Out.trans (H4.out.alloc _) ho); have XI := hidOf ((X4.out _).out ho); have XJ := hidOf ((Bx.new w4 24 1 0 0 I).out ho); clear ho CP)
    go_wp2_with (go_at_call 7; refine (CB.out w5 H5.out).mono ?_; rintro e w6 ⟨rfl, ho⟩; have H6 := hidOf (Out.trans H5.out ho); have YI : Hid (∀ O, Bx w3.heap.size 24 1 0 0 I (w6.alloc O)) := fun O => XI.out.out (ho.alloc O); have YJ : Hid (∀ O, Bx w4.heap.size 24 1 0 0 I (w6.alloc O)) := fun O => XJ.out.out (ho.alloc O); clear c0 c1 c2 c3 c4; have f0 := fun O => (YI.out O).1; have f1 := fun O => (YI.out O).2.1; have f2 := fun O => (YI.out O).2.2.1; have f3 := fun O => (YI.out O).2.2.2.1; have f4 := fun O => (YI.out O).2.2.2.2; have g0 := fun O => (YJ.out O).1; have g1 := fun O => (YJ.out O).2.1; have g2 := fun O => (YJ.out O).2.2.1; have g3 := fun O => (YJ.out O).2.2.2.1; have g4 := fun O => (YJ.out O).2.2.2.2; clear ho CB)
    go_wp2_with (first | (go_at_call 9; refine (num_any _ _).mono ?_; rintro e wn ⟨rfl, hw⟩; have hw := hw.symm; subst hw) | (go_at_call 7; refine (P3.out _ (H6.out.alloc _)).mono ?_; rintro e w7 ⟨rfl, ho⟩; have H7 := hidOf (Out.trans (H6.out.alloc _) ho); clear ho P3 a3))
    go_ret
    exact ⟨rfl, H7.out.alloc _⟩
end Go.Proofs.YtcjhgihpahnnoabGreatDoor
