import Derived.Test.YtkihaohdcgjioaaGreatDoorGr14
import Derived.Test.YtkihaohdcgjioaaGreatDoorGr19
import Derived.LoopN
namespace Go.Proofs.YtkihaohdcgjioaaGreatDoor
open Go.RowKit
set_option linter.unusedVariables false
set_option linter.unusedSimpArgs false
theorem opds_rng (c s f : Int) (u : Bool) : (1 ≤ (opdsP c s f u).1 ∧ (opdsP c s f u).1 ≤ 8 ∨ (opdsP c s f u).1 = 0) ∧ (1 ≤ (opdsP c s f u).2.1 ∧ (opdsP c s f u).2.1 ≤ 8 ∨ (opdsP c s f u).2.1 = 0) ∧ (1 ≤ (opdsP c s f u).2.2 ∧ (opdsP c s f u).2.2 ≤ 8 ∨ (opdsP c s f u).2.2 = 0) := by
  unfold opdsP
  repeat' split
  all_goals decide
theorem idx3_0 (a b c : Int) (w : World) : (Instr.index 133 (.agg #[.int .u8 a, .int .u8 b, .int .u8 c]) (.int .i64 0)).run Tryz.prog w = .ok (.int .u8 a) w := by kernel_rfl
theorem idx3_1 (a b c : Int) (w : World) : (Instr.index 133 (.agg #[.int .u8 a, .int .u8 b, .int .u8 c]) (.int .i64 1)).run Tryz.prog w = .ok (.int .u8 b) w := by kernel_rfl
theorem idx3_2 (a b c : Int) (w : World) : (Instr.index 133 (.agg #[.int .u8 a, .int .u8 b, .int .u8 c]) (.int .i64 2)).run Tryz.prog w = .ok (.int .u8 c) w := by kernel_rfl
theorem opds_at (w : World) (r : RS) (hO : TabO w) (hf : (formP r.o == 0) = false) : Calls Tryz.prog 85 #[.agg #[.int .i64 r.o, .int .i64 r.d, .int .i64 r.s, .int .i64 r.f, .int .i64 r.i]] w fun e w' => e = .returned (.agg #[.int .u8 (tOf r.o r.s r.f).1, .int .u8 (tOf r.o r.s r.f).2.1, .int .u8 (tOf r.o r.s r.f).2.2]) ∧ Out w w' :=
  opds_all r.o r.d r.s r.f r.i _ _ _ _ _ _ w (hidOf fun wx ho => info_ok_out r.o wx (hO.out ho) hf)
set_option maxRecDepth 20000 in
set_option maxHeartbeats 1600000 in
theorem operands_0 (w0 w : World) (p : Nat) (HR : Hid (Rdr w0 p w)) (r : RS) (h : RdAt w p r.cells) (hs : Sm r) (a b c : Int) (ha : a = 0) (CO : Hid (Calls Tryz.prog 85 #[.agg #[.int .i64 r.o, .int .i64 r.d, .int .i64 r.s, .int .i64 r.f, .int .i64 r.i]] w fun e w' => e = .returned (.agg #[.int .u8 a, .int .u8 b, .int .u8 c]) ∧ Out w w')) : Calls Tryz.prog 179 #[.pointer (some ⟨p, 0, none⟩)] w fun e w' => (∃ v, e = .returned v) ∧ MEnd p { r with wrong := r.wrong || !r.tok.isEmpty } w w' := by
  have d2 := (MEnd.refl h).co.1
  have d3 := (MEnd.refl h).cd.1
  have d4 := (MEnd.refl h).cs.1
  have d5 := (MEnd.refl h).cf.1
  have d6 := (MEnd.refl h).ci.1
  have H0 : Hid (∀ w1, Out w w1 → MEnd p r w w1) := fun w1 ho => ⟨h.below ho, Chg.of_out ho⟩
  subst ha
  clear h hs HR 
  have hx0 : ∀ w : World, (Instr.index 133 (.agg #[.int .u8 0, .int .u8 b, .int .u8 c]) (.int .i64 0)).run Tryz.prog w = .ok (.int .u8 0) w := fun w => idx3_0 _ _ _ w
  have hx1 : ∀ w : World, (Instr.index 133 (.agg #[.int .u8 0, .int .u8 b, .int .u8 c]) (.int .i64 1)).run Tryz.prog w = .ok (.int .u8 b) w := fun w => idx3_1 _ _ _ w
  have hx2 : ∀ w : World, (Instr.index 133 (.agg #[.int .u8 0, .int .u8 b, .int .u8 c]) (.int .i64 2)).run Tryz.prog w = .ok (.int .u8 c) w := fun w => idx3_2 _ _ _ w
  go_enter Tryz.func179, Tryz.ntmps179
  go_wp2_with (go_at_call 85; refine CO.out.mono ?_; rintro e w1 ⟨rfl, ho1⟩; have hm := H0.out _ ho1; have d8w1 := hm.cw.1; have f8w1 := hm.cw.2; have d1w1 := hm.ct; have M0 := hidOf hm; clear hm ho1)
  refine wp_loop_rounds 4 ?_
  rw [rounds_succ]
  go_wp2
  all_goals (go_end0; first | exact ⟨⟨_, rfl⟩, M0.out.set 8 _ (by rw [show r.wrong = true from ‹_›]; rfl)⟩ | exact ⟨⟨_, rfl⟩, M0.out.set 8 _ (by rw [show r.wrong = false from by simpa using ‹¬ r.wrong = true›]; rfl)⟩)
set_option maxRecDepth 20000 in
set_option maxHeartbeats 1600000 in
theorem operands_1 (w0 w : World) (p : Nat) (HR : Hid (Rdr w0 p w)) (r : RS) (h : RdAt w p r.cells) (hs : Sm r) (a b c : Int) (ha : 1 ≤ a ∧ a ≤ 8) (hb : b = 0) (CO : Hid (Calls Tryz.prog 85 #[.agg #[.int .i64 r.o, .int .i64 r.d, .int .i64 r.s, .int .i64 r.f, .int .i64 r.i]] w fun e w' => e = .returned (.agg #[.int .u8 a, .int .u8 b, .int .u8 c]) ∧ Out w w')) : Calls Tryz.prog 179 #[.pointer (some ⟨p, 0, none⟩)] w fun e w' => (∃ v, e = .returned v) ∧ MEnd p { (opS a r) with wrong := (opS a r).wrong || !(opS a r).tok.isEmpty } w w' := by
  have d2 := (MEnd.refl h).co.1
  have d3 := (MEnd.refl h).cd.1
  have d4 := (MEnd.refl h).cs.1
  have d5 := (MEnd.refl h).cf.1
  have d6 := (MEnd.refl h).ci.1
  have H0 : Hid (∀ w1, Out w w1 → MEnd p r w w1) := fun w1 ho => ⟨h.below ho, Chg.of_out ho⟩
  have CP0 : Hid (∀ wx, MEnd p r w wx → Calls Tryz.prog 224 #[.pointer (some ⟨p, 0, none⟩), .int .u8 a] wx fun e w' => (∃ v, e = .returned v) ∧ MEnd p (opS a r) w w') := operandM w0 w p HR.out r hs a ha
  have hso0 := hs.opS a
  generalize opS a r = ro0 at *
  have za : (a == 0) = false := by simp only [beq_eq_false_iff_ne]; omega
  subst hb
  clear h hs HR hso0 ha
  have hx0 : ∀ w : World, (Instr.index 133 (.agg #[.int .u8 a, .int .u8 0, .int .u8 c]) (.int .i64 0)).run Tryz.prog w = .ok (.int .u8 a) w := fun w => idx3_0 _ _ _ w
  have hx1 : ∀ w : World, (Instr.index 133 (.agg #[.int .u8 a, .int .u8 0, .int .u8 c]) (.int .i64 1)).run Tryz.prog w = .ok (.int .u8 0) w := fun w => idx3_1 _ _ _ w
  have hx2 : ∀ w : World, (Instr.index 133 (.agg #[.int .u8 a, .int .u8 0, .int .u8 c]) (.int .i64 2)).run Tryz.prog w = .ok (.int .u8 c) w := fun w => idx3_2 _ _ _ w
  go_enter Tryz.func179, Tryz.ntmps179
  go_wp2_with (go_at_call 85; refine CO.out.mono ?_; rintro e w1 ⟨rfl, ho1⟩; have hm := H0.out _ ho1; have d8w1 := hm.cw.1; have f8w1 := hm.cw.2; have d1w1 := hm.ct; have M0 := hidOf hm; clear hm ho1)
  refine wp_loop_rounds 4 ?_
  rw [rounds_succ]
  go_wp2_with (first | (go_at_call 224; refine (CP0.out _ M0.out).mono ?_; rintro e wo0 ⟨⟨vwo0, rfl⟩, hm⟩; have d8wo0 := hm.cw.1; have f8wo0 := hm.cw.2; have d1wo0 := hm.ct; have MO0 := hidOf hm; clear hm))
  rw [rounds_succ]
  go_wp2
  all_goals (go_end0; first | exact ⟨⟨_, rfl⟩, MO0.out.set 8 _ (by rw [show ro0.wrong = true from ‹_›]; rfl)⟩ | exact ⟨⟨_, rfl⟩, MO0.out.set 8 _ (by rw [show ro0.wrong = false from by simpa using ‹¬ ro0.wrong = true›]; rfl)⟩)
set_option maxRecDepth 20000 in
set_option maxHeartbeats 1600000 in
theorem operands_2 (w0 w : World) (p : Nat) (HR : Hid (Rdr w0 p w)) (r : RS) (h : RdAt w p r.cells) (hs : Sm r) (a b c : Int) (ha : 1 ≤ a ∧ a ≤ 8) (hb : 1 ≤ b ∧ b ≤ 8) (hc : c = 0) (CO : Hid (Calls Tryz.prog 85 #[.agg #[.int .i64 r.o, .int .i64 r.d, .int .i64 r.s, .int .i64 r.f, .int .i64 r.i]] w fun e w' => e = .returned (.agg #[.int .u8 a, .int .u8 b, .int .u8 c]) ∧ Out w w')) : Calls Tryz.prog 179 #[.pointer (some ⟨p, 0, none⟩)] w fun e w' => (∃ v, e = .returned v) ∧ MEnd p { (opS b (markS [44] (opS a r))) with wrong := (opS b (markS [44] (opS a r))).wrong || !(opS b (markS [44] (opS a r))).tok.isEmpty } w w' := by
  have d2 := (MEnd.refl h).co.1
  have d3 := (MEnd.refl h).cd.1
  have d4 := (MEnd.refl h).cs.1
  have d5 := (MEnd.refl h).cf.1
  have d6 := (MEnd.refl h).ci.1
  have H0 : Hid (∀ w1, Out w w1 → MEnd p r w w1) := fun w1 ho => ⟨h.below ho, Chg.of_out ho⟩
  have CP0 : Hid (∀ wx, MEnd p r w wx → Calls Tryz.prog 224 #[.pointer (some ⟨p, 0, none⟩), .int .u8 a] wx fun e w' => (∃ v, e = .returned v) ∧ MEnd p (opS a r) w w') := operandM w0 w p HR.out r hs a ha
  have hso0 := hs.opS a
  generalize opS a r = ro0 at *
  have za : (a == 0) = false := by simp only [beq_eq_false_iff_ne]; omega
  have CM1 : Hid (∀ wx, MEnd p ro0 w wx → Calls Tryz.prog 223 #[.pointer (some ⟨p, 0, none⟩), .string ⟨#[44]⟩] wx fun e w' => (∃ v, e = .returned v) ∧ MEnd p (markS [44] ro0) w w') := markM w p ro0 [44] hso0
  have hsm1 := hso0.mark [44]
  generalize markS [44] ro0 = rm1 at *
  have CP1 : Hid (∀ wx, MEnd p rm1 w wx → Calls Tryz.prog 224 #[.pointer (some ⟨p, 0, none⟩), .int .u8 b] wx fun e w' => (∃ v, e = .returned v) ∧ MEnd p (opS b rm1) w w') := operandM w0 w p HR.out rm1 hsm1 b hb
  have hso1 := hsm1.opS b
  generalize opS b rm1 = ro1 at *
  have zb : (b == 0) = false := by simp only [beq_eq_false_iff_ne]; omega
  subst hc
  clear h hs HR hsm1 hso0 hso1 ha hb
  have hx0 : ∀ w : World, (Instr.index 133 (.agg #[.int .u8 a, .int .u8 b, .int .u8 0]) (.int .i64 0)).run Tryz.prog w = .ok (.int .u8 a) w := fun w => idx3_0 _ _ _ w
  have hx1 : ∀ w : World, (Instr.index 133 (.agg #[.int .u8 a, .int .u8 b, .int .u8 0]) (.int .i64 1)).run Tryz.prog w = .ok (.int .u8 b) w := fun w => idx3_1 _ _ _ w
  have hx2 : ∀ w : World, (Instr.index 133 (.agg #[.int .u8 a, .int .u8 b, .int .u8 0]) (.int .i64 2)).run Tryz.prog w = .ok (.int .u8 0) w := fun w => idx3_2 _ _ _ w
  go_enter Tryz.func179, Tryz.ntmps179
  go_wp2_with (go_at_call 85; refine CO.out.mono ?_; rintro e w1 ⟨rfl, ho1⟩; have hm := H0.out _ ho1; have d8w1 := hm.cw.1; have f8w1 := hm.cw.2; have d1w1 := hm.ct; have M0 := hidOf hm; clear hm ho1)
  refine wp_loop_rounds 4 ?_
  rw [rounds_succ]
  go_wp2_with (first | (go_at_call 224; refine (CP0.out _ M0.out).mono ?_; rintro e wo0 ⟨⟨vwo0, rfl⟩, hm⟩; have d8wo0 := hm.cw.1; have f8wo0 := hm.cw.2; have d1wo0 := hm.ct; have MO0 := hidOf hm; clear hm))
  rw [rounds_succ]
  go_wp2_with (first | (go_at_call 224; refine (CP1.out _ MM1.out).mono ?_; rintro e wo1 ⟨⟨vwo1, rfl⟩, hm⟩; have d8wo1 := hm.cw.1; have f8wo1 := hm.cw.2; have d1wo1 := hm.ct; have MO1 := hidOf hm; clear hm) | (go_at_call 223; refine (CM1.out _ MO0.out).mono ?_; rintro e wm1 ⟨⟨vwm1, rfl⟩, hm⟩; have MM1 := hidOf hm; clear hm))
  rw [rounds_succ]
  go_wp2
  all_goals (go_end0; first | exact ⟨⟨_, rfl⟩, MO1.out.set 8 _ (by rw [show ro1.wrong = true from ‹_›]; rfl)⟩ | exact ⟨⟨_, rfl⟩, MO1.out.set 8 _ (by rw [show ro1.wrong = false from by simpa using ‹¬ ro1.wrong = true›]; rfl)⟩)
set_option maxRecDepth 20000 in
set_option maxHeartbeats 1600000 in
theorem operands_3 (w0 w : World) (p : Nat) (HR : Hid (Rdr w0 p w)) (r : RS) (h : RdAt w p r.cells) (hs : Sm r) (a b c : Int) (ha : 1 ≤ a ∧ a ≤ 8) (hb : 1 ≤ b ∧ b ≤ 8) (hc : 1 ≤ c ∧ c ≤ 8) (CO : Hid (Calls Tryz.prog 85 #[.agg #[.int .i64 r.o, .int .i64 r.d, .int .i64 r.s, .int .i64 r.f, .int .i64 r.i]] w fun e w' => e = .returned (.agg #[.int .u8 a, .int .u8 b, .int .u8 c]) ∧ Out w w')) : Calls Tryz.prog 179 #[.pointer (some ⟨p, 0, none⟩)] w fun e w' => (∃ v, e = .returned v) ∧ MEnd p { (opS c (markS [44] (opS b (markS [44] (opS a r))))) with wrong := (opS c (markS [44] (opS b (markS [44] (opS a r))))).wrong || !(opS c (markS [44] (opS b (markS [44] (opS a r))))).tok.isEmpty } w w' := by
  have d2 := (MEnd.refl h).co.1
  have d3 := (MEnd.refl h).cd.1
  have d4 := (MEnd.refl h).cs.1
  have d5 := (MEnd.refl h).cf.1
  have d6 := (MEnd.refl h).ci.1
  have H0 : Hid (∀ w1, Out w w1 → MEnd p r w w1) := fun w1 ho => ⟨h.below ho, Chg.of_out ho⟩
  have CP0 : Hid (∀ wx, MEnd p r w wx → Calls Tryz.prog 224 #[.pointer (some ⟨p, 0, none⟩), .int .u8 a] wx fun e w' => (∃ v, e = .returned v) ∧ MEnd p (opS a r) w w') := operandM w0 w p HR.out r hs a ha
  have hso0 := hs.opS a
  generalize opS a r = ro0 at *
  have za : (a == 0) = false := by simp only [beq_eq_false_iff_ne]; omega
  have CM1 : Hid (∀ wx, MEnd p ro0 w wx → Calls Tryz.prog 223 #[.pointer (some ⟨p, 0, none⟩), .string ⟨#[44]⟩] wx fun e w' => (∃ v, e = .returned v) ∧ MEnd p (markS [44] ro0) w w') := markM w p ro0 [44] hso0
  have hsm1 := hso0.mark [44]
  generalize markS [44] ro0 = rm1 at *
  have CP1 : Hid (∀ wx, MEnd p rm1 w wx → Calls Tryz.prog 224 #[.pointer (some ⟨p, 0, none⟩), .int .u8 b] wx fun e w' => (∃ v, e = .returned v) ∧ MEnd p (opS b rm1) w w') := operandM w0 w p HR.out rm1 hsm1 b hb
  have hso1 := hsm1.opS b
  generalize opS b rm1 = ro1 at *
  have zb : (b == 0) = false := by simp only [beq_eq_false_iff_ne]; omega
  have CM2 : Hid (∀ wx, MEnd p ro1 w wx → Calls Tryz.prog 223 #[.pointer (some ⟨p, 0, none⟩), .string ⟨#[44]⟩] wx fun e w' => (∃ v, e = .returned v) ∧ MEnd p (markS [44] ro1) w w') := markM w p ro1 [44] hso1
  have hsm2 := hso1.mark [44]
  generalize markS [44] ro1 = rm2 at *
  have CP2 : Hid (∀ wx, MEnd p rm2 w wx → Calls Tryz.prog 224 #[.pointer (some ⟨p, 0, none⟩), .int .u8 c] wx fun e w' => (∃ v, e = .returned v) ∧ MEnd p (opS c rm2) w w') := operandM w0 w p HR.out rm2 hsm2 c hc
  have hso2 := hsm2.opS c
  generalize opS c rm2 = ro2 at *
  have zc : (c == 0) = false := by simp only [beq_eq_false_iff_ne]; omega
  clear h hs HR hsm1 hsm2 hso0 hso1 hso2 ha hb hc
  have hx0 : ∀ w : World, (Instr.index 133 (.agg #[.int .u8 a, .int .u8 b, .int .u8 c]) (.int .i64 0)).run Tryz.prog w = .ok (.int .u8 a) w := fun w => idx3_0 _ _ _ w
  have hx1 : ∀ w : World, (Instr.index 133 (.agg #[.int .u8 a, .int .u8 b, .int .u8 c]) (.int .i64 1)).run Tryz.prog w = .ok (.int .u8 b) w := fun w => idx3_1 _ _ _ w
  have hx2 : ∀ w : World, (Instr.index 133 (.agg #[.int .u8 a, .int .u8 b, .int .u8 c]) (.int .i64 2)).run Tryz.prog w = .ok (.int .u8 c) w := fun w => idx3_2 _ _ _ w
  go_enter Tryz.func179, Tryz.ntmps179
  go_wp2_with (go_at_call 85; refine CO.out.mono ?_; rintro e w1 ⟨rfl, ho1⟩; have hm := H0.out _ ho1; have d8w1 := hm.cw.1; have f8w1 := hm.cw.2; have d1w1 := hm.ct; have M0 := hidOf hm; clear hm ho1)
  refine wp_loop_rounds 4 ?_
  rw [rounds_succ]
  go_wp2_with (first | (go_at_call 224; refine (CP0.out _ M0.out).mono ?_; rintro e wo0 ⟨⟨vwo0, rfl⟩, hm⟩; have d8wo0 := hm.cw.1; have f8wo0 := hm.cw.2; have d1wo0 := hm.ct; have MO0 := hidOf hm; clear hm))
  rw [rounds_succ]
  go_wp2_with (first | (go_at_call 224; refine (CP1.out _ MM1.out).mono ?_; rintro e wo1 ⟨⟨vwo1, rfl⟩, hm⟩; have d8wo1 := hm.cw.1; have f8wo1 := hm.cw.2; have d1wo1 := hm.ct; have MO1 := hidOf hm; clear hm) | (go_at_call 223; refine (CM1.out _ MO0.out).mono ?_; rintro e wm1 ⟨⟨vwm1, rfl⟩, hm⟩; have MM1 := hidOf hm; clear hm))
  rw [rounds_succ]
  go_wp2_with (first | (go_at_call 224; refine (CP2.out _ MM2.out).mono ?_; rintro e wo2 ⟨⟨vwo2, rfl⟩, hm⟩; have d8wo2 := hm.cw.1; have f8wo2 := hm.cw.2; have d1wo2 := hm.ct; have MO2 := hidOf hm; clear hm) | (go_at_call 223; refine (CM2.out _ MO1.out).mono ?_; rintro e wm2 ⟨⟨vwm2, rfl⟩, hm⟩; have MM2 := hidOf hm; clear hm))
  rw [rounds_succ]
  go_wp2
  all_goals (go_end0; first | exact ⟨⟨_, rfl⟩, MO2.out.set 8 _ (by rw [show ro2.wrong = true from ‹_›]; rfl)⟩ | exact ⟨⟨_, rfl⟩, MO2.out.set 8 _ (by rw [show ro2.wrong = false from by simpa using ‹¬ ro2.wrong = true›]; rfl)⟩)
theorem operands_any (w0 w : World) (p : Nat) (HR : Hid (Rdr w0 p w)) (r : RS) (h : RdAt w p r.cells) (hs : Sm r) (hf : (formP r.o == 0) = false) : Calls Tryz.prog 179 #[.pointer (some ⟨p, 0, none⟩)] w fun e w' => (∃ v, e = .returned v) ∧ MEnd p (opsS (tOf r.o r.s r.f) r) w w' := by
  have CO := hidOf (opds_at w r ((HR.out.1.out HR.out.2.1).2.2.2) hf)
  have hrng : (1 ≤ (tOf r.o r.s r.f).1 ∧ (tOf r.o r.s r.f).1 ≤ 8 ∨ (tOf r.o r.s r.f).1 = 0) ∧ (1 ≤ (tOf r.o r.s r.f).2.1 ∧ (tOf r.o r.s r.f).2.1 ≤ 8 ∨ (tOf r.o r.s r.f).2.1 = 0) ∧ (1 ≤ (tOf r.o r.s r.f).2.2 ∧ (tOf r.o r.s r.f).2.2 ≤ 8 ∨ (tOf r.o r.s r.f).2.2 = 0) := opds_rng _ _ _ _
  generalize tOf r.o r.s r.f = t at *
  obtain ⟨a, b, c⟩ := t
  obtain ⟨ha, hb, hc⟩ := hrng
  simp only at ha hb hc CO
  unfold opsS opdL
  simp only
  rcases ha with ha | ha
  · rw [if_neg (show ¬ a = 0 by omega)]
    rcases hb with hb | hb
    · rw [if_neg (show ¬ b = 0 by omega)]
      rcases hc with hc | hc
      · rw [if_neg (show ¬ c = 0 by omega)]
        exact operands_3 w0 w p HR r h hs a b c ha hb hc CO
      · rw [if_pos hc]
        exact operands_2 w0 w p HR r h hs a b c ha hb hc CO
    · rw [if_pos hb]
      exact operands_1 w0 w p HR r h hs a b c ha hb CO
  · rw [if_pos ha]
    exact operands_0 w0 w p HR r h hs a b c ha CO
end Go.Proofs.YtkihaohdcgjioaaGreatDoor
namespace Go.Proofs.YtkihaohdcgjioaaGreatDoor
open Go.RowKit
open Go.Maps (Keyed)
set_option linter.unusedVariables false
set_option linter.unusedSimpArgs false
def RV (v : Value) : Option (DataW Value × List MemPlace) := some (.held v, [])
theorem strLaw6 : Keyed Tryz.prog 9 := Maps.string_keyed Tryz.underlying9
theorem keyOf6 (l : List UInt8) (h : l.length ≤ 1000000) : keyOf Tryz.prog 9 (.string ⟨l.toArray⟩) = some (.string l) := by
  have := WideMaps.keyOf_string_mk (P := Tryz.prog) (k := 9) Tryz.underlying9 (s := ⟨l.toArray⟩) (by show l.toArray.size ≤ _; rw [List.size_toArray]; unfold maxLen; omega)
  simpa using this
def fnV (kb : Nat) : Value := .func (.func 134) #[] #[.pointer (some ⟨kb, 0, none⟩)]
def tbV : Value := .func (.func 92) #[] #[]
def DirD (a b c : Nat) : DataW Value := ((((DataW.map []).put (.string funcB) (.held (fnV a))).put (.string globB) (.held (fnV b))).put (.string extB) (.held (fnV c))).put (.string mapB) (.held tbV)
def BxI (w : World) (k : Nat) (c : Int) : Prop := w.heap[k]? = some (.cells #[.int .i64 c] 3 (0, 0))
def DirM (w : World) (mb : Nat) : Prop := ∃ a b c, w.ownsMap Tryz.prog 9 RV mb 4 (DirD a b c) ∧ BxI w a 2 ∧ BxI w b 3 ∧ BxI w c 4
theorem zfn (w : World) : (zeroValue 137).run Tryz.prog w = .ok .nilFunc w := by kernel_rfl
theorem mkDir (w : World) : (Instr.makeMap 110 none).run Tryz.prog w = .ok (.map (some w.heap.size)) (w.alloc (.map #[] 0)) := by kernel_rfl
theorem undDir : Tryz.prog.underlying 110 = some (.map 9 137) := by kernel_rfl
theorem BxI.out {w w' : World} {k : Nat} {c : Int} (h : BxI w k c) (o : Out w w') : BxI w' k c := (o.block k (Array.getElem?_eq_some_iff.1 h).1).trans h
theorem own_map_block {H : Type} {P : Program} {k : TypeId} {R : Value → Option (DataW H × List MemPlace)} {b n : Nat} {D : DataW H} {w w' : World} (h : w.ownsMap P k R b n D) (e : w'.heap[b]? = w.heap[b]?) : w'.ownsMap P k R b n D := by
  obtain ⟨es, cl, h1, h2, h3, h4⟩ := h
  exact ⟨es, cl, e.trans h1, h2, h3, h4⟩
theorem own_map_form {H : Type} {P : Program} {k : TypeId} {R : Value → Option (DataW H × List MemPlace)} {b n : Nat} {D : DataW H} {w : World} (h : w.ownsMap P k R b n D) : ∃ es cl, w.heap[b]? = some (.map es cl) := by
  obtain ⟨es, cl, h1, h2, h3, h4⟩ := h
  exact ⟨es, cl, h1⟩
theorem DirM.on {S : Nat → Prop} {w w' : World} {mb : Nat} (h : DirM w mb) (c : Chg S w w') (hS : ∀ b, S b → ∃ cs t fr, w.heap[b]? = some (.cells cs t fr) ∧ ¬ t = 3) : DirM w' mb := by
  obtain ⟨x, y, z, h1, h2, h3, h4⟩ := h
  have bx : ∀ k v, BxI w k v → BxI w' k v := fun k v hb => (c.block k (Array.getElem?_eq_some_iff.1 hb).1 (fun hs => by
    obtain ⟨cs, t, fr, e, hn⟩ := hS k hs
    rw [show w.heap[k]? = _ from hb] at e
    simp at e
    exact hn e.2.1.symm)).trans hb
  refine ⟨x, y, z, own_map_block h1 (c.block mb h1.lt (fun hs => ?_)), bx _ _ h2, bx _ _ h3, bx _ _ h4⟩
  obtain ⟨cs, t, fr, e, hn⟩ := hS mb hs
  obtain ⟨es, cl, e2⟩ := own_map_form h1
  rw [e2] at e
  cases e
theorem DirM.out {w w' : World} {mb : Nat} (h : DirM w mb) (o : Out w w') : DirM w' mb := h.on (S := fun _ => False) (Chg.of_out o) (fun _ h => h.elim)
theorem DirM.kq {B : Nat} {w w' : World} {mb : Nat} (h : DirM w mb) (c : Chg (KQ B w) w w') : DirM w' mb := h.on c (fun b hb => by
  obtain ⟨_, cs, t, fr, e, ht⟩ := hb
  refine ⟨cs, t, fr, e, fun e2 => ?_⟩
  rcases ht with ht | ht
  · rw [ht] at e2; exact absurd e2 (by decide)
  · rw [ht] at e2; exact absurd e2 (by decide))
theorem named_any (w : World) (k : Int) : Calls Tryz.prog 91 #[.int .i64 k] w fun e w' => e = .returned (fnV w.heap.size) ∧ w' = w.alloc (.cells #[.int .i64 k] 3) := by
  unfold fnV
  go_enter Tryz.func91, Tryz.ntmps91
  go_wp2
  go_ret
  exact ⟨rfl, rfl⟩
set_option maxRecDepth 20000 in
set_option maxHeartbeats 1000000 in
theorem directives_any (w : World) : Calls Tryz.prog 61 #[] w fun e w' => e = .returned (.map (some w.heap.size)) ∧ DirM w' w.heap.size ∧ Out w w' := by
  have hmk := mkDir w
  obtain ⟨m, hm⟩ : ∃ m, m = w.heap.size := ⟨_, rfl⟩
  obtain ⟨w1, hw1⟩ : ∃ w1, w1 = w.alloc (.map #[] 0) := ⟨_, rfl⟩
  have h1 : w1.ownsMap Tryz.prog 9 RV m 0 (.map []) := by rw [hw1, hm]; exact World.ownsMap_made w Tryz.prog 9 RV
  have o1 : Out w w1 := by rw [hw1]; exact (Out.refl w).alloc _
  rw [← hw1, ← hm] at hmk
  have step : ∀ (wx : World) (n : Nat) (D : DataW Value) (key : List UInt8) (val : Value), key.length ≤ 1000000 → n < 100 → Out w wx → wx.ownsMap Tryz.prog 9 RV m n D → ∃ w', (Instr.mapUpdate 110 (.map (some m)) (.string ⟨key.toArray⟩) val).run Tryz.prog wx = .ok () w' ∧ w'.ownsMap Tryz.prog 9 RV m (n + 1) (D.put (.string key) (.held val)) ∧ Out w w' ∧ ∀ k c, BxI wx k c → BxI w' k c := fun wx n D key val hk hn o h => by
    obtain ⟨w', hrun, hown, hg⟩ := h.update (t := 110) (val := val) strLaw6 undDir (by unfold maxLen; omega) (keyOf6 key hk) (show RV val = some (.held val, []) from rfl)
    refine ⟨w', hrun, hown, Below.trans o (Below.grown (Below.refl w.heap.size wx) hg o.size (fun k e => by cases e; rw [hm]; exact Nat.le_refl _)), fun k c hb => (hg.block k (Array.getElem?_eq_some_iff.1 hb).1 (fun e => ?_)).trans hb⟩
    cases e
    obtain ⟨es, cl, e2⟩ := own_map_form h
    rw [show wx.heap[m]? = _ from hb] at e2
    cases e2
  obtain ⟨w2, hw2⟩ : ∃ w2, w2 = w1.alloc (.cells #[.int .i64 2] 3) := ⟨_, rfl⟩
  have c2 : BxI w2 w1.heap.size 2 := by rw [hw2]; exact heap_alloc_new w1 _
  obtain ⟨w3, r3, h3, o3, k3⟩ := step w2 0 _ funcB (fnV w1.heap.size) (by decide) (by omega) (by rw [hw2]; exact o1.alloc _) (by rw [hw2]; exact h1.alloc _)
  obtain ⟨w4, hw4⟩ : ∃ w4, w4 = w3.alloc (.cells #[.int .i64 3] 3) := ⟨_, rfl⟩
  have c4 : BxI w4 w3.heap.size 3 := by rw [hw4]; exact heap_alloc_new w3 _
  have g4 : Out w3 w4 := by rw [hw4]; exact (Out.refl w3).alloc _
  obtain ⟨w5, r5, h5, o5, k5⟩ := step w4 1 _ globB (fnV w3.heap.size) (by decide) (by omega) (o3.trans g4) (by rw [hw4]; exact h3.alloc _)
  obtain ⟨w6, hw6⟩ : ∃ w6, w6 = w5.alloc (.cells #[.int .i64 4] 3) := ⟨_, rfl⟩
  have c6 : BxI w6 w5.heap.size 4 := by rw [hw6]; exact heap_alloc_new w5 _
  have g6 : Out w5 w6 := by rw [hw6]; exact (Out.refl w5).alloc _
  obtain ⟨w7, r7, h7, o7, k7⟩ := step w6 2 _ extB (fnV w5.heap.size) (by decide) (by omega) (o5.trans g6) (by rw [hw6]; exact h5.alloc _)
  obtain ⟨w8, r8, h8, o8, k8⟩ := step w7 3 _ mapB tbV (by decide) (by omega) o7 h7
  have HD : Hid (DirM w8 m) := hidOf ⟨w1.heap.size, w3.heap.size, w5.heap.size, h8, k8 _ _ (k7 _ _ ((k5 _ _ ((k3 _ _ c2).out g4)).out g6)), k8 _ _ (k7 _ _ ((k5 _ _ c4).out g6)), k8 _ _ (k7 _ _ c6)⟩
  have HO := hidOf o8
  have C1 := hidOf (named_any w1 2)
  have C3 := hidOf (named_any w3 3)
  have C5 := hidOf (named_any w5 4)
  rw [← hw2] at C1
  rw [← hw4] at C3
  rw [← hw6] at C5
  have R3 : (Instr.mapUpdate 110 (.map (some m)) (.string ⟨#[46, 102, 117, 110, 99]⟩) (fnV w1.heap.size)).run Tryz.prog w2 = .ok () w3 := r3
  have R5 : (Instr.mapUpdate 110 (.map (some m)) (.string ⟨#[46, 103, 108, 111, 98, 97, 108]⟩) (fnV w3.heap.size)).run Tryz.prog w4 = .ok () w5 := r5
  have R7 : (Instr.mapUpdate 110 (.map (some m)) (.string ⟨#[46, 101, 120, 116, 101, 114, 110]⟩) (fnV w5.heap.size)).run Tryz.prog w6 = .ok () w7 := r7
  have R8 : (Instr.mapUpdate 110 (.map (some m)) (.string ⟨#[46, 109, 97, 112]⟩) (.func (.func 92) #[] #[])).run Tryz.prog w7 = .ok () w8 := r8
  have Hm := hidOf hm
  rw [← hm]
  generalize fnV w1.heap.size = F1 at *
  generalize fnV w3.heap.size = F3 at *
  generalize fnV w5.heap.size = F5 at *
  clear step r3 r5 r7 r8 h1 h3 h5 h7 h8 o1 o3 o5 o7 o8 k3 k5 k7 k8 c2 c4 c6 g4 g6 hw2 hw4 hw6 hw1 hm
  go_enter Tryz.func61, Tryz.ntmps61
  go_wp2_with (go_at_call 91; first | (refine C1.out.mono ?_; rintro e wx ⟨rfl, hx⟩; subst hx) | (refine C3.out.mono ?_; rintro e wx ⟨rfl, hx⟩; subst hx) | (refine C5.out.mono ?_; rintro e wx ⟨rfl, hx⟩; subst hx))
  go_ret
  exact ⟨rfl, HD.out, HO.out⟩
theorem dir_look {w : World} {mb : Nat} (h : DirM w mb) (x : List UInt8) (hx : x.length ≤ 1000000) :
    (restQ x = (fun ts => .no 60 ts) ∧ ∀ w', w'.heap[mb]? = w.heap[mb]? → (Instr.lookup 110 (.map (some mb)) (.string ⟨x.toArray⟩) true).run Tryz.prog w' = .ok (.tuple #[.nilFunc, .bool false]) w')
    ∨ (∃ kb kd, BxI w kb kd ∧ restQ x = nmQ kd ∧ ∀ w', w'.heap[mb]? = w.heap[mb]? → (Instr.lookup 110 (.map (some mb)) (.string ⟨x.toArray⟩) true).run Tryz.prog w' = .ok (.tuple #[fnV kb, .bool true]) w')
    ∨ (restQ x = tbQ ∧ ∀ w', w'.heap[mb]? = w.heap[mb]? → (Instr.lookup 110 (.map (some mb)) (.string ⟨x.toArray⟩) true).run Tryz.prog w' = .ok (.tuple #[tbV, .bool true]) w') := by
  obtain ⟨a, b, c, h1, h2, h3, h4⟩ := h
  have key : ∀ w', w'.heap[mb]? = w.heap[mb]? → ∃ v, (Instr.lookup 110 (.map (some mb)) (.string ⟨x.toArray⟩) true).run Tryz.prog w' = .ok (.tuple #[v, .bool (Maps.has (DirD a b c) (.string x))]) w' ∧ (DirD a b c).atKey (.string x) (.held .nilFunc) = .held v := fun w' e => by
    obtain ⟨v, ps, hrun, hv⟩ := (own_map_block h1 e).look_ok (t := 110) strLaw6 undDir (zfn w') (show RV .nilFunc = some (.held .nilFunc, []) from rfl) (keyOf6 x hx)
    unfold RV at hv
    simp at hv
    exact ⟨v, hrun, hv.1.symm⟩
  have fin : ∀ V bb, Maps.has (DirD a b c) (.string x) = bb → (DirD a b c).atKey (.string x) (.held .nilFunc) = .held V → ∀ w', w'.heap[mb]? = w.heap[mb]? → (Instr.lookup 110 (.map (some mb)) (.string ⟨x.toArray⟩) true).run Tryz.prog w' = .ok (.tuple #[V, .bool bb]) w' := fun V bb e1 e2 w' e => by
    obtain ⟨v, hrun, hv⟩ := key w' e
    rw [e2] at hv
    cases hv
    rw [← e1]
    exact hrun
  by_cases e1 : x = funcB
  · refine .inr (.inl ⟨a, 2, h2, by funext ts; unfold restQ; rw [if_pos e1], fin _ _ ?_ ?_⟩)
    · subst e1; rfl
    · subst e1; rfl
  by_cases e2 : x = globB
  · refine .inr (.inl ⟨b, 3, h3, by funext ts; unfold restQ; rw [if_neg e1, if_pos e2], fin _ _ ?_ ?_⟩)
    · subst e2; rfl
    · subst e2; rfl
  by_cases e3 : x = extB
  · refine .inr (.inl ⟨c, 4, h4, by funext ts; unfold restQ; rw [if_neg e1, if_neg e2, if_pos e3], fin _ _ ?_ ?_⟩)
    · subst e3; rfl
    · subst e3; rfl
  by_cases e4 : x = mapB
  · refine .inr (.inr ⟨by funext ts; unfold restQ; rw [if_neg e1, if_neg e2, if_neg e3, if_pos e4], fin _ _ ?_ ?_⟩)
    · subst e4; rfl
    · subst e4; rfl
  refine .inl ⟨by funext ts; unfold restQ; rw [if_neg e1, if_neg e2, if_neg e3, if_neg e4], fin _ _ ?_ ?_⟩
  · unfold DirD
    rw [Maps.has_put_other (by simpa using e4), Maps.has_put_other (by simpa using e3), Maps.has_put_other (by simpa using e2), Maps.has_put_other (by simpa using e1)]
    rfl
  · unfold DirD
    rw [Maps.atKey_put_other (by simpa using e4), Maps.atKey_put_other (by simpa using e3), Maps.atKey_put_other (by simpa using e2), Maps.atKey_put_other (by simpa using e1)]
    rfl
end Go.Proofs.YtkihaohdcgjioaaGreatDoor
