import Derived.Test.YtadneimllbfdnaaGreatDoorGu17
import Derived.LoopN
namespace Go.Proofs.YtadneimllbfdnaaGreatDoor
open Go.RowKit
set_option linter.unusedVariables false
set_option linter.unusedSimpArgs false
theorem opds_rng (c s f:Int) (u:Bool):(1<=(opdsP c s f u).1/\(opdsP c s f u).1<=8\/(opdsP c s f u).1=0)/\(1<=(opdsP c s f u).2.1/\(opdsP c s f u).2.1<=8\/(opdsP c s f u).2.1=0)/\(1<=(opdsP c s f u).2.2/\(opdsP c s f u).2.2<=8\/(opdsP c s f u).2.2=0):=by
 unfold opdsP
 repeat' split
 all_goals decide
theorem idx3_0 (a b c:Int) (w:World):(Instr.index 106 (.agg #[.int .u8 a,.int .u8 b,.int .u8 c]) (.int .i64 0)).run Tryz.prog w=.ok (.int .u8 a) w:=by kernel_rfl
theorem idx3_1 (a b c:Int) (w:World):(Instr.index 106 (.agg #[.int .u8 a,.int .u8 b,.int .u8 c]) (.int .i64 1)).run Tryz.prog w=.ok (.int .u8 b) w:=by kernel_rfl
theorem idx3_2 (a b c:Int) (w:World):(Instr.index 106 (.agg #[.int .u8 a,.int .u8 b,.int .u8 c]) (.int .i64 2)).run Tryz.prog w=.ok (.int .u8 c) w:=by kernel_rfl
theorem opds_at (w:World) (r:RS) (hO:TabO w) (hf:(formP r.o == 0)=false):Calls Tryz.prog 58 #[.agg #[.int .i64 r.o,.int .i64 r.d,.int .i64 r.s,.int .i64 r.f,.int .i64 r.i]] w fun e w'=>e=.returned (.agg #[.int .u8 (tOf r.o r.s r.f).1,.int .u8 (tOf r.o r.s r.f).2.1,.int .u8 (tOf r.o r.s r.f).2.2])/\Out w w':=
 opds_all r.o r.d r.s r.f r.i _ _ _ _ _ _ w (hidOf fun wx ho=>info_ok_out r.o wx (hO.out ho) hf)
set_option maxRecDepth 20000 in
set_option maxHeartbeats 1600000 in
theorem operands_0 (w0 w:World) (p:Nat) (HR:Hid (Rdr w0 p w)) (r:RS) (h:RdAt w p r.cells) (hs:Sm r) (a b c:Int) (ha:a=0) (CO:Hid (Calls Tryz.prog 58 #[.agg #[.int .i64 r.o,.int .i64 r.d,.int .i64 r.s,.int .i64 r.f,.int .i64 r.i]] w fun e w'=>e=.returned (.agg #[.int .u8 a,.int .u8 b,.int .u8 c])/\Out w w')):Calls Tryz.prog 107 #[.pointer (some ⟨p,0,none⟩)] w fun e w'=>(∃ v,e=.returned v)/\MEnd p { r with wrong:=r.wrong || !r.tok.isEmpty } w w':=by
 have d2:=(MEnd.refl h).co.1
 have d3:=(MEnd.refl h).cd.1
 have d4:=(MEnd.refl h).cs.1
 have d5:=(MEnd.refl h).cf.1
 have d6:=(MEnd.refl h).ci.1
 have H0:Hid (∀ w1,Out w w1->MEnd p r w w1):=fun w1 ho=>⟨h.below ho,Chg.of_out ho⟩
 subst ha
 clear h hs HR 
 have hx0:∀ w:World,(Instr.index 106 (.agg #[.int .u8 0,.int .u8 b,.int .u8 c]) (.int .i64 0)).run Tryz.prog w=.ok (.int .u8 0) w:=fun w=>idx3_0 _ _ _ w
 have hx1:∀ w:World,(Instr.index 106 (.agg #[.int .u8 0,.int .u8 b,.int .u8 c]) (.int .i64 1)).run Tryz.prog w=.ok (.int .u8 b) w:=fun w=>idx3_1 _ _ _ w
 have hx2:∀ w:World,(Instr.index 106 (.agg #[.int .u8 0,.int .u8 b,.int .u8 c]) (.int .i64 2)).run Tryz.prog w=.ok (.int .u8 c) w:=fun w=>idx3_2 _ _ _ w
 go_enter Tryz.func107,Tryz.ntmps107
 go_wp2_with (go_at_call 58;refine CO.out.mono ?_;rintro e w1 ⟨rfl,ho1⟩;have hm:=H0.out _ ho1;have d8w1:=hm.cw.1;have f8w1:=hm.cw.2;have d1w1:=hm.ct;have M0:=hidOf hm;clear hm ho1)
 refine wp_loop_rounds 4 ?_
 rw [rounds_succ]
 go_wp2
 all_goals (go_end0;first | exact ⟨⟨_,rfl⟩,M0.out.set 8 _ (by rw [show r.wrong=true from ‹_›];rfl)⟩ | exact ⟨⟨_,rfl⟩,M0.out.set 8 _ (by rw [show r.wrong=false from by simpa using ‹¬r.wrong=true›];rfl)⟩)
set_option maxRecDepth 20000 in
set_option maxHeartbeats 1600000 in
theorem operands_1 (w0 w:World) (p:Nat) (HR:Hid (Rdr w0 p w)) (r:RS) (h:RdAt w p r.cells) (hs:Sm r) (a b c:Int) (ha:1<=a/\a<=8) (hb:b=0) (CO:Hid (Calls Tryz.prog 58 #[.agg #[.int .i64 r.o,.int .i64 r.d,.int .i64 r.s,.int .i64 r.f,.int .i64 r.i]] w fun e w'=>e=.returned (.agg #[.int .u8 a,.int .u8 b,.int .u8 c])/\Out w w')):Calls Tryz.prog 107 #[.pointer (some ⟨p,0,none⟩)] w fun e w'=>(∃ v,e=.returned v)/\MEnd p { (opS a r) with wrong:=(opS a r).wrong || !(opS a r).tok.isEmpty } w w':=by
 have d2:=(MEnd.refl h).co.1
 have d3:=(MEnd.refl h).cd.1
 have d4:=(MEnd.refl h).cs.1
 have d5:=(MEnd.refl h).cf.1
 have d6:=(MEnd.refl h).ci.1
 have H0:Hid (∀ w1,Out w w1->MEnd p r w w1):=fun w1 ho=>⟨h.below ho,Chg.of_out ho⟩
 have CP0:Hid (∀ wx,MEnd p r w wx->Calls Tryz.prog 146 #[.pointer (some ⟨p,0,none⟩),.int .u8 a] wx fun e w'=>(∃ v,e=.returned v)/\MEnd p (opS a r) w w'):=operandM w0 w p HR.out r hs a ha
 have hso0:=hs.opS a
 generalize opS a r=ro0 at *
 have za:(a == 0)=false:=by simp only [beq_eq_false_iff_ne];omega
 subst hb
 clear h hs HR hso0 ha
 have hx0:∀ w:World,(Instr.index 106 (.agg #[.int .u8 a,.int .u8 0,.int .u8 c]) (.int .i64 0)).run Tryz.prog w=.ok (.int .u8 a) w:=fun w=>idx3_0 _ _ _ w
 have hx1:∀ w:World,(Instr.index 106 (.agg #[.int .u8 a,.int .u8 0,.int .u8 c]) (.int .i64 1)).run Tryz.prog w=.ok (.int .u8 0) w:=fun w=>idx3_1 _ _ _ w
 have hx2:∀ w:World,(Instr.index 106 (.agg #[.int .u8 a,.int .u8 0,.int .u8 c]) (.int .i64 2)).run Tryz.prog w=.ok (.int .u8 c) w:=fun w=>idx3_2 _ _ _ w
 go_enter Tryz.func107,Tryz.ntmps107
 go_wp2_with (go_at_call 58;refine CO.out.mono ?_;rintro e w1 ⟨rfl,ho1⟩;have hm:=H0.out _ ho1;have d8w1:=hm.cw.1;have f8w1:=hm.cw.2;have d1w1:=hm.ct;have M0:=hidOf hm;clear hm ho1)
 refine wp_loop_rounds 4 ?_
 rw [rounds_succ]
 go_wp2_with (first | (go_at_call 146;refine (CP0.out _ M0.out).mono ?_;rintro e wo0 ⟨⟨vwo0,rfl⟩,hm⟩;have d8wo0:=hm.cw.1;have f8wo0:=hm.cw.2;have d1wo0:=hm.ct;have MO0:=hidOf hm;clear hm))
 rw [rounds_succ]
 go_wp2
 all_goals (go_end0;first | exact ⟨⟨_,rfl⟩,MO0.out.set 8 _ (by rw [show ro0.wrong=true from ‹_›];rfl)⟩ | exact ⟨⟨_,rfl⟩,MO0.out.set 8 _ (by rw [show ro0.wrong=false from by simpa using ‹¬ro0.wrong=true›];rfl)⟩)
set_option maxRecDepth 20000 in
set_option maxHeartbeats 1600000 in
theorem operands_2 (w0 w:World) (p:Nat) (HR:Hid (Rdr w0 p w)) (r:RS) (h:RdAt w p r.cells) (hs:Sm r) (a b c:Int) (ha:1<=a/\a<=8) (hb:1<=b/\b<=8) (hc:c=0) (CO:Hid (Calls Tryz.prog 58 #[.agg #[.int .i64 r.o,.int .i64 r.d,.int .i64 r.s,.int .i64 r.f,.int .i64 r.i]] w fun e w'=>e=.returned (.agg #[.int .u8 a,.int .u8 b,.int .u8 c])/\Out w w')):Calls Tryz.prog 107 #[.pointer (some ⟨p,0,none⟩)] w fun e w'=>(∃ v,e=.returned v)/\MEnd p { (opS b (markS [44] (opS a r))) with wrong:=(opS b (markS [44] (opS a r))).wrong || !(opS b (markS [44] (opS a r))).tok.isEmpty } w w':=by
 have d2:=(MEnd.refl h).co.1
 have d3:=(MEnd.refl h).cd.1
 have d4:=(MEnd.refl h).cs.1
 have d5:=(MEnd.refl h).cf.1
 have d6:=(MEnd.refl h).ci.1
 have H0:Hid (∀ w1,Out w w1->MEnd p r w w1):=fun w1 ho=>⟨h.below ho,Chg.of_out ho⟩
 have CP0:Hid (∀ wx,MEnd p r w wx->Calls Tryz.prog 146 #[.pointer (some ⟨p,0,none⟩),.int .u8 a] wx fun e w'=>(∃ v,e=.returned v)/\MEnd p (opS a r) w w'):=operandM w0 w p HR.out r hs a ha
 have hso0:=hs.opS a
 generalize opS a r=ro0 at *
 have za:(a == 0)=false:=by simp only [beq_eq_false_iff_ne];omega
 have CM1:Hid (∀ wx,MEnd p ro0 w wx->Calls Tryz.prog 145 #[.pointer (some ⟨p,0,none⟩),.string ⟨#[44]⟩] wx fun e w'=>(∃ v,e=.returned v)/\MEnd p (markS [44] ro0) w w'):=markM w p ro0 [44] hso0
 have hsm1:=hso0.mark [44]
 generalize markS [44] ro0=rm1 at *
 have CP1:Hid (∀ wx,MEnd p rm1 w wx->Calls Tryz.prog 146 #[.pointer (some ⟨p,0,none⟩),.int .u8 b] wx fun e w'=>(∃ v,e=.returned v)/\MEnd p (opS b rm1) w w'):=operandM w0 w p HR.out rm1 hsm1 b hb
 have hso1:=hsm1.opS b
 generalize opS b rm1=ro1 at *
 have zb:(b == 0)=false:=by simp only [beq_eq_false_iff_ne];omega
 subst hc
 clear h hs HR hsm1 hso0 hso1 ha hb
 have hx0:∀ w:World,(Instr.index 106 (.agg #[.int .u8 a,.int .u8 b,.int .u8 0]) (.int .i64 0)).run Tryz.prog w=.ok (.int .u8 a) w:=fun w=>idx3_0 _ _ _ w
 have hx1:∀ w:World,(Instr.index 106 (.agg #[.int .u8 a,.int .u8 b,.int .u8 0]) (.int .i64 1)).run Tryz.prog w=.ok (.int .u8 b) w:=fun w=>idx3_1 _ _ _ w
 have hx2:∀ w:World,(Instr.index 106 (.agg #[.int .u8 a,.int .u8 b,.int .u8 0]) (.int .i64 2)).run Tryz.prog w=.ok (.int .u8 0) w:=fun w=>idx3_2 _ _ _ w
 go_enter Tryz.func107,Tryz.ntmps107
 go_wp2_with (go_at_call 58;refine CO.out.mono ?_;rintro e w1 ⟨rfl,ho1⟩;have hm:=H0.out _ ho1;have d8w1:=hm.cw.1;have f8w1:=hm.cw.2;have d1w1:=hm.ct;have M0:=hidOf hm;clear hm ho1)
 refine wp_loop_rounds 4 ?_
 rw [rounds_succ]
 go_wp2_with (first | (go_at_call 146;refine (CP0.out _ M0.out).mono ?_;rintro e wo0 ⟨⟨vwo0,rfl⟩,hm⟩;have d8wo0:=hm.cw.1;have f8wo0:=hm.cw.2;have d1wo0:=hm.ct;have MO0:=hidOf hm;clear hm))
 rw [rounds_succ]
 go_wp2_with (first | (go_at_call 146;refine (CP1.out _ MM1.out).mono ?_;rintro e wo1 ⟨⟨vwo1,rfl⟩,hm⟩;have d8wo1:=hm.cw.1;have f8wo1:=hm.cw.2;have d1wo1:=hm.ct;have MO1:=hidOf hm;clear hm) | (go_at_call 145;refine (CM1.out _ MO0.out).mono ?_;rintro e wm1 ⟨⟨vwm1,rfl⟩,hm⟩;have MM1:=hidOf hm;clear hm))
 rw [rounds_succ]
 go_wp2
 all_goals (go_end0;first | exact ⟨⟨_,rfl⟩,MO1.out.set 8 _ (by rw [show ro1.wrong=true from ‹_›];rfl)⟩ | exact ⟨⟨_,rfl⟩,MO1.out.set 8 _ (by rw [show ro1.wrong=false from by simpa using ‹¬ro1.wrong=true›];rfl)⟩)
set_option maxRecDepth 20000 in
set_option maxHeartbeats 1600000 in
theorem operands_3 (w0 w:World) (p:Nat) (HR:Hid (Rdr w0 p w)) (r:RS) (h:RdAt w p r.cells) (hs:Sm r) (a b c:Int) (ha:1<=a/\a<=8) (hb:1<=b/\b<=8) (hc:1<=c/\c<=8) (CO:Hid (Calls Tryz.prog 58 #[.agg #[.int .i64 r.o,.int .i64 r.d,.int .i64 r.s,.int .i64 r.f,.int .i64 r.i]] w fun e w'=>e=.returned (.agg #[.int .u8 a,.int .u8 b,.int .u8 c])/\Out w w')):Calls Tryz.prog 107 #[.pointer (some ⟨p,0,none⟩)] w fun e w'=>(∃ v,e=.returned v)/\MEnd p { (opS c (markS [44] (opS b (markS [44] (opS a r))))) with wrong:=(opS c (markS [44] (opS b (markS [44] (opS a r))))).wrong || !(opS c (markS [44] (opS b (markS [44] (opS a r))))).tok.isEmpty } w w':=by
 have d2:=(MEnd.refl h).co.1
 have d3:=(MEnd.refl h).cd.1
 have d4:=(MEnd.refl h).cs.1
 have d5:=(MEnd.refl h).cf.1
 have d6:=(MEnd.refl h).ci.1
 have H0:Hid (∀ w1,Out w w1->MEnd p r w w1):=fun w1 ho=>⟨h.below ho,Chg.of_out ho⟩
 have CP0:Hid (∀ wx,MEnd p r w wx->Calls Tryz.prog 146 #[.pointer (some ⟨p,0,none⟩),.int .u8 a] wx fun e w'=>(∃ v,e=.returned v)/\MEnd p (opS a r) w w'):=operandM w0 w p HR.out r hs a ha
 have hso0:=hs.opS a
 generalize opS a r=ro0 at *
 have za:(a == 0)=false:=by simp only [beq_eq_false_iff_ne];omega
 have CM1:Hid (∀ wx,MEnd p ro0 w wx->Calls Tryz.prog 145 #[.pointer (some ⟨p,0,none⟩),.string ⟨#[44]⟩] wx fun e w'=>(∃ v,e=.returned v)/\MEnd p (markS [44] ro0) w w'):=markM w p ro0 [44] hso0
 have hsm1:=hso0.mark [44]
 generalize markS [44] ro0=rm1 at *
 have CP1:Hid (∀ wx,MEnd p rm1 w wx->Calls Tryz.prog 146 #[.pointer (some ⟨p,0,none⟩),.int .u8 b] wx fun e w'=>(∃ v,e=.returned v)/\MEnd p (opS b rm1) w w'):=operandM w0 w p HR.out rm1 hsm1 b hb
 have hso1:=hsm1.opS b
 generalize opS b rm1=ro1 at *
 have zb:(b == 0)=false:=by simp only [beq_eq_false_iff_ne];omega
 have CM2:Hid (∀ wx,MEnd p ro1 w wx->Calls Tryz.prog 145 #[.pointer (some ⟨p,0,none⟩),.string ⟨#[44]⟩] wx fun e w'=>(∃ v,e=.returned v)/\MEnd p (markS [44] ro1) w w'):=markM w p ro1 [44] hso1
 have hsm2:=hso1.mark [44]
 generalize markS [44] ro1=rm2 at *
 have CP2:Hid (∀ wx,MEnd p rm2 w wx->Calls Tryz.prog 146 #[.pointer (some ⟨p,0,none⟩),.int .u8 c] wx fun e w'=>(∃ v,e=.returned v)/\MEnd p (opS c rm2) w w'):=operandM w0 w p HR.out rm2 hsm2 c hc
 have hso2:=hsm2.opS c
 generalize opS c rm2=ro2 at *
 have zc:(c == 0)=false:=by simp only [beq_eq_false_iff_ne];omega
 clear h hs HR hsm1 hsm2 hso0 hso1 hso2 ha hb hc
 have hx0:∀ w:World,(Instr.index 106 (.agg #[.int .u8 a,.int .u8 b,.int .u8 c]) (.int .i64 0)).run Tryz.prog w=.ok (.int .u8 a) w:=fun w=>idx3_0 _ _ _ w
 have hx1:∀ w:World,(Instr.index 106 (.agg #[.int .u8 a,.int .u8 b,.int .u8 c]) (.int .i64 1)).run Tryz.prog w=.ok (.int .u8 b) w:=fun w=>idx3_1 _ _ _ w
 have hx2:∀ w:World,(Instr.index 106 (.agg #[.int .u8 a,.int .u8 b,.int .u8 c]) (.int .i64 2)).run Tryz.prog w=.ok (.int .u8 c) w:=fun w=>idx3_2 _ _ _ w
 go_enter Tryz.func107,Tryz.ntmps107
 go_wp2_with (go_at_call 58;refine CO.out.mono ?_;rintro e w1 ⟨rfl,ho1⟩;have hm:=H0.out _ ho1;have d8w1:=hm.cw.1;have f8w1:=hm.cw.2;have d1w1:=hm.ct;have M0:=hidOf hm;clear hm ho1)
 refine wp_loop_rounds 4 ?_
 rw [rounds_succ]
 go_wp2_with (first | (go_at_call 146;refine (CP0.out _ M0.out).mono ?_;rintro e wo0 ⟨⟨vwo0,rfl⟩,hm⟩;have d8wo0:=hm.cw.1;have f8wo0:=hm.cw.2;have d1wo0:=hm.ct;have MO0:=hidOf hm;clear hm))
 rw [rounds_succ]
 go_wp2_with (first | (go_at_call 146;refine (CP1.out _ MM1.out).mono ?_;rintro e wo1 ⟨⟨vwo1,rfl⟩,hm⟩;have d8wo1:=hm.cw.1;have f8wo1:=hm.cw.2;have d1wo1:=hm.ct;have MO1:=hidOf hm;clear hm) | (go_at_call 145;refine (CM1.out _ MO0.out).mono ?_;rintro e wm1 ⟨⟨vwm1,rfl⟩,hm⟩;have MM1:=hidOf hm;clear hm))
 rw [rounds_succ]
 go_wp2_with (first | (go_at_call 146;refine (CP2.out _ MM2.out).mono ?_;rintro e wo2 ⟨⟨vwo2,rfl⟩,hm⟩;have d8wo2:=hm.cw.1;have f8wo2:=hm.cw.2;have d1wo2:=hm.ct;have MO2:=hidOf hm;clear hm) | (go_at_call 145;refine (CM2.out _ MO1.out).mono ?_;rintro e wm2 ⟨⟨vwm2,rfl⟩,hm⟩;have MM2:=hidOf hm;clear hm))
 rw [rounds_succ]
 go_wp2
 all_goals (go_end0;first | exact ⟨⟨_,rfl⟩,MO2.out.set 8 _ (by rw [show ro2.wrong=true from ‹_›];rfl)⟩ | exact ⟨⟨_,rfl⟩,MO2.out.set 8 _ (by rw [show ro2.wrong=false from by simpa using ‹¬ro2.wrong=true›];rfl)⟩)
theorem operands_any (w0 w:World) (p:Nat) (HR:Hid (Rdr w0 p w)) (r:RS) (h:RdAt w p r.cells) (hs:Sm r) (hf:(formP r.o == 0)=false):Calls Tryz.prog 107 #[.pointer (some ⟨p,0,none⟩)] w fun e w'=>(∃ v,e=.returned v)/\MEnd p (opsS (tOf r.o r.s r.f) r) w w':=by
 have CO:=hidOf (opds_at w r ((HR.out.1.out HR.out.2.1).2.2.2) hf)
 have hrng:(1<=(tOf r.o r.s r.f).1/\(tOf r.o r.s r.f).1<=8\/(tOf r.o r.s r.f).1=0)/\(1<=(tOf r.o r.s r.f).2.1/\(tOf r.o r.s r.f).2.1<=8\/(tOf r.o r.s r.f).2.1=0)/\(1<=(tOf r.o r.s r.f).2.2/\(tOf r.o r.s r.f).2.2<=8\/(tOf r.o r.s r.f).2.2=0):=opds_rng _ _ _ _
 generalize tOf r.o r.s r.f=t at *
 obtain ⟨a,b,c⟩:=t
 obtain ⟨ha,hb,hc⟩:=hrng
 simp only at ha hb hc CO
 unfold opsS opdL
 simp only
 rcases ha with ha | ha
 ·
  rw [if_neg (show ¬a=0 by omega)]
  rcases hb with hb | hb
  ·
   rw [if_neg (show ¬b=0 by omega)]
   rcases hc with hc | hc
   ·
    rw [if_neg (show ¬c=0 by omega)]
    exact operands_3 w0 w p HR r h hs a b c ha hb hc CO
   ·
    rw [if_pos hc]
    exact operands_2 w0 w p HR r h hs a b c ha hb hc CO
  ·
   rw [if_pos hb]
   exact operands_1 w0 w p HR r h hs a b c ha hb CO
 ·
  rw [if_pos ha]
  exact operands_0 w0 w p HR r h hs a b c ha CO
end Go.Proofs.YtadneimllbfdnaaGreatDoor
