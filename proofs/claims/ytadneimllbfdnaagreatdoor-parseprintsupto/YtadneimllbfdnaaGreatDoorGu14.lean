import Derived.Test.YtadneimllbfdnaaGreatDoorGu13
namespace Go.Proofs.YtadneimllbfdnaaGreatDoor
open Go.RowKit
set_option linter.unusedVariables false
set_option linter.unusedSimpArgs false
theorem Rdr.next {w0 w wx:World} {p:Nat} {r:RS} (h:Rdr w0 p w) (m:MEnd p r w wx):Rdr w0 p wx:=⟨h.1,m.out h,h.2.2⟩
theorem immM (w0 w:World) (p:Nat) (R:Rdr w0 p w) (r:RS) (hs:Sm r) (wx:World) (m:MEnd p r w wx):Calls Tryz.prog 175 #[.pointer (some ⟨p,0,none⟩)] wx fun e w'=>(∃ v,e=.returned v)/\MEnd p (immS r) w w':=
 (imm_rd w0 wx p (hidOf (R.next m)) r m.1 hs).mono fun e w' ⟨a,b⟩=>⟨a,m.trans b⟩
set_option maxRecDepth 20000 in
set_option maxHeartbeats 800000 in
theorem place_rd (w0 w:World) (p:Nat) (HR:Hid (Rdr w0 p w)) (r:RS) (h:RdAt w p r.cells) (hs:Sm r):Calls Tryz.prog 177 #[.pointer (some ⟨p,0,none⟩)] w fun e w'=>e=.returned (.tuple #[.int .i64 (placeS r).2.1,.int .i64 (placeS r).2.2])/\MEnd p (placeS r).1 w w':=by
 have CA:Hid (∀ wx,MEnd p r w wx->Calls Tryz.prog 145 #[.pointer (some ⟨p,0,none⟩),.string ⟨#[91]⟩] wx fun e w'=>(∃ v,e=.returned v)/\MEnd p (markS [91] r) w w'):=markM w p r [91] hs
 have M0:=hidOf (MEnd.refl h)
 have hs1:=hs.mark [91]
 have HP:placeS r=(markS [93] (numS (pgnS (regS (markS [91] r)).1).2 32768 32767 (pgnS (regS (markS [91] r)).1).1),(regS (markS [91] r)).2,numV (pgnS (regS (markS [91] r)).1).2 16 (pgnS (regS (markS [91] r)).1).1):=rfl
 unfold pgnS at HP
 generalize placeS r=q at *
 obtain ⟨rz,kz,vz⟩:=q
 show Calls Tryz.prog 177 #[.pointer (some ⟨p,0,none⟩)] w fun e w'=>e=.returned (.tuple #[.int .i64 kz,.int .i64 vz])/\MEnd p rz w w'
 clear h hs
 generalize markS [91] r=r1 at *
 have CR:Hid (∀ wx,MEnd p r1 w wx->Calls Tryz.prog 174 #[.pointer (some ⟨p,0,none⟩)] wx fun e w'=>e=.returned (.int .i64 (regS r1).2)/\MEnd p (regS r1).1 w w'):=regM w0 w p HR.out r1 hs1
 have hs2:=hs1.reg
 generalize regS r1=q at *
 obtain ⟨r2,k⟩:=q
 simp only at CR hs2 HP
 clear hs1
 have CS:Hid (∀ wx,MEnd p r2 w wx->Calls Tryz.prog 173 #[.pointer (some ⟨p,0,none⟩),.string ⟨#[45]⟩] wx fun e w'=>e=.returned (.bool (skipP [45] r2).2)/\MEnd p (skipP [45] r2).1 w w'):=skipM w p r2 [45] hs2
 have hs3:=hs2.skip [45]
 generalize skipP [45] r2=q at *
 obtain ⟨r3,b⟩:=q
 simp only at CS hs3 HP
 clear hs2
 cases b
 ·
  simp only [Bool.false_eq_true,if_false] at HP
  have CP:Hid (∀ wx,MEnd p r3 w wx->Calls Tryz.prog 145 #[.pointer (some ⟨p,0,none⟩),.string ⟨#[43]⟩] wx fun e w'=>(∃ v,e=.returned v)/\MEnd p (markS [43] r3) w w'):=markM w p r3 [43] hs3
  have hs4:=hs3.mark [43]
  generalize markS [43] r3=r4 at *
  clear hs3
  have CN:Hid (∀ wx,MEnd p r4 w wx->Calls Tryz.prog 189 #[.pointer (some ⟨p,0,none⟩),.bool false,.int .i64 16,.int .u64 32767] wx fun e w'=>e=.returned (.int .i64 (numV false 16 r4))/\MEnd p (numS false 32768 32767 r4) w w'):=num16M w0 w p HR.out r4 hs4 false _
  have hs5:=hs4.num false 32768 32767
  generalize numV false 16 r4=vn at *
  generalize numS false 32768 32767 r4=r5 at *
  have CZ:Hid (∀ wx,MEnd p r5 w wx->Calls Tryz.prog 145 #[.pointer (some ⟨p,0,none⟩),.string ⟨#[93]⟩] wx fun e w'=>(∃ v,e=.returned v)/\MEnd p (markS [93] r5) w w'):=markM w p r5 [93] hs5
  generalize markS [93] r5=r6 at *
  simp only [Prod.mk.injEq] at HP
  obtain ⟨rfl,rfl,rfl⟩:=HP
  clear hs5 hs4 HR
  go_enter Tryz.func177,Tryz.ntmps177
  go_wp2_with (first | (go_at_call 145;refine (CZ.out _ M5.out).mono ?_;rintro e w6 ⟨⟨v6,rfl⟩,hm⟩;have M6:=hidOf hm;clear hm) | (go_at_call 189;refine (CN.out _ M4.out).mono ?_;rintro e w5 ⟨rfl,hm⟩;have M5:=hidOf hm;clear hm) | (go_at_call 145;refine (CP.out _ M3.out).mono ?_;rintro e w4 ⟨⟨v4,rfl⟩,hm⟩;have M4:=hidOf hm;clear hm) | (go_at_call 173;refine (CS.out _ M2.out).mono ?_;rintro e w3 ⟨rfl,hm⟩;have M3:=hidOf hm;clear hm) | (go_at_call 174;refine (CR.out _ M1.out).mono ?_;rintro e w2 ⟨rfl,hm⟩;have M2:=hidOf hm;clear hm) | (go_at_call 145;refine (CA.out _ M0.out).mono ?_;rintro e w1 ⟨⟨v1,rfl⟩,hm⟩;have M1:=hidOf hm;clear hm))
  go_ret2
  exact ⟨rfl,M6.out⟩
 ·
  simp only [if_true] at HP
  have CN:Hid (∀ wx,MEnd p r3 w wx->Calls Tryz.prog 189 #[.pointer (some ⟨p,0,none⟩),.bool true,.int .i64 16,.int .u64 32767] wx fun e w'=>e=.returned (.int .i64 (numV true 16 r3))/\MEnd p (numS true 32768 32767 r3) w w'):=num16M w0 w p HR.out r3 hs3 true _
  have hs5:=hs3.num true 32768 32767
  generalize numV true 16 r3=vn at *
  generalize numS true 32768 32767 r3=r5 at *
  have CZ:Hid (∀ wx,MEnd p r5 w wx->Calls Tryz.prog 145 #[.pointer (some ⟨p,0,none⟩),.string ⟨#[93]⟩] wx fun e w'=>(∃ v,e=.returned v)/\MEnd p (markS [93] r5) w w'):=markM w p r5 [93] hs5
  generalize markS [93] r5=r6 at *
  simp only [Prod.mk.injEq] at HP
  obtain ⟨rfl,rfl,rfl⟩:=HP
  clear hs5 hs3 HR
  go_enter Tryz.func177,Tryz.ntmps177
  go_wp2_with (first | (go_at_call 145;refine (CZ.out _ M5.out).mono ?_;rintro e w6 ⟨⟨v6,rfl⟩,hm⟩;have M6:=hidOf hm;clear hm) | (go_at_call 189;refine (CN.out _ M3.out).mono ?_;rintro e w5 ⟨rfl,hm⟩;have M5:=hidOf hm;clear hm) | (go_at_call 173;refine (CS.out _ M2.out).mono ?_;rintro e w3 ⟨rfl,hm⟩;have M3:=hidOf hm;clear hm) | (go_at_call 174;refine (CR.out _ M1.out).mono ?_;rintro e w2 ⟨rfl,hm⟩;have M2:=hidOf hm;clear hm) | (go_at_call 145;refine (CA.out _ M0.out).mono ?_;rintro e w1 ⟨⟨v1,rfl⟩,hm⟩;have M1:=hidOf hm;clear hm))
  go_ret2
  exact ⟨rfl,M6.out⟩
theorem placeM (w0 w:World) (p:Nat) (R:Rdr w0 p w) (r:RS) (hs:Sm r) (wx:World) (m:MEnd p r w wx):Calls Tryz.prog 177 #[.pointer (some ⟨p,0,none⟩)] wx fun e w'=>e=.returned (.tuple #[.int .i64 (placeS r).2.1,.int .i64 (placeS r).2.2])/\MEnd p (placeS r).1 w w':=
 (place_rd w0 wx p (hidOf (R.next m)) r m.1 hs).mono fun e w' ⟨a,b⟩=>⟨a,m.trans b⟩
def orB (o:Int):Int:=bits .or .i64 o 8
def srcS (r:RS):RS:=if startP r.tok then { (regS { r with o:=orB r.o }).1 with s:=(regS { r with o:=orB r.o }).2 } else immS r
def helpS (r:RS):RS:=if startP r.tok then nameS { r with s:=1,i:=-1 } else immS r
theorem Sm.srcS {r:RS} (h:Sm r):Sm (srcS r):=by
 unfold YtadneimllbfdnaaGreatDoor.srcS
 split
 · exact (show Sm { r with o:=orB r.o } from h).reg
 · exact h.imm
theorem Sm.helpS {r:RS} (h:Sm r):Sm (helpS r):=by
 unfold YtadneimllbfdnaaGreatDoor.helpS
 split
 · exact (show Sm { r with s:=1,i:=-1 } from h).name
 · exact h.imm
theorem startM (w:World) (r:RS) (wx:World) (b:Bool) (hb:startP r.tok=b):Calls Tryz.prog 116 #[.string ⟨r.tok.toArray⟩] wx fun e w'=>e=.returned (.bool b)/\wx=w':=by
 have h:=startsWord_any ⟨r.tok.toArray⟩ wx
 rw [mk_list,hb] at h
 exact h
set_option maxRecDepth 20000 in
set_option maxHeartbeats 800000 in
theorem source_rd (w0 w:World) (p:Nat) (HR:Hid (Rdr w0 p w)) (r:RS) (h:RdAt w p r.cells) (hs:Sm r):Calls Tryz.prog 176 #[.pointer (some ⟨p,0,none⟩)] w fun e w'=>(∃ v,e=.returned v)/\MEnd p (srcS r) w w':=by
 have M0:=hidOf (MEnd.refl h)
 have d1:=M0.out.ct
 obtain ⟨d2,f2⟩:=M0.out.co
 cases hb:startP r.tok
 ·
  have e1:srcS r=immS r:=by unfold srcS;rw [hb];rfl
  rw [e1]
  have CS:Hid (∀ wx,Calls Tryz.prog 116 #[.string ⟨r.tok.toArray⟩] wx fun e w'=>e=.returned (.bool false)/\wx=w'):=fun wx=>startM w r wx false hb
  have CI:Hid (∀ wx,MEnd p r w wx->Calls Tryz.prog 175 #[.pointer (some ⟨p,0,none⟩)] wx fun e w'=>(∃ v,e=.returned v)/\MEnd p (immS r) w w'):=immM w0 w p HR.out r hs
  generalize immS r=rn at *
  clear h hs HR e1 hb
  go_enter Tryz.func176,Tryz.ntmps176
  go_wp2_with (first | (go_at_call 116;refine (CS.out _).mono ?_;rintro e w1 ⟨rfl,rfl⟩) | (go_at_call 175;refine (CI.out _ M0.out).mono ?_;rintro e w2 ⟨⟨v2,rfl⟩,hm⟩;have M2:=hidOf hm;clear hm))
  (try simp only [Exit.inBlock,Exit.then])
  refine bodyPost_ret (results_none rfl _ _ _) rfl ?_
  exact ⟨⟨_,rfl⟩,M2.out⟩
 ·
  have e1:srcS r = { (regS { r with o:=orB r.o }).1 with s:=(regS { r with o:=orB r.o }).2 }:=by unfold srcS;rw [hb];rfl
  rw [e1]
  have CS:Hid (∀ wx,Calls Tryz.prog 116 #[.string ⟨r.tok.toArray⟩] wx fun e w'=>e=.returned (.bool true)/\wx=w'):=fun wx=>startM w r wx true hb
  have CR:Hid (∀ wx,MEnd p { r with o:=orB r.o } w wx->Calls Tryz.prog 174 #[.pointer (some ⟨p,0,none⟩)] wx fun e w'=>e=.returned (.int .i64 (regS { r with o:=orB r.o }).2)/\MEnd p (regS { r with o:=orB r.o }).1 w w'):=regM w0 w p HR.out { r with o:=orB r.o } hs
  have M1:Hid (MEnd p { r with o:=orB r.o } w (w.setCell ⟨p,2,none⟩ (.int .i64 (orB r.o)))):=M0.out.set 2 _ rfl
  generalize regS { r with o:=orB r.o } = q at *
  obtain ⟨rn,k⟩:=q
  simp only at CR
  clear h hs HR e1 hb M0
  go_enter Tryz.func176,Tryz.ntmps176
  go_wp2_with (first | (go_at_call 116;refine (CS.out _).mono ?_;rintro e w1 ⟨rfl,rfl⟩) | (go_at_call 174;refine (CR.out _ M1.out).mono ?_;rintro e w2 ⟨rfl,hm⟩;have d4:=hm.cs.1;have f4:=hm.cs.2;have M2:=hidOf hm;clear hm))
  go_end0
  exact ⟨⟨_,rfl⟩,M2.out.set 4 _ rfl⟩
set_option maxRecDepth 20000 in
set_option maxHeartbeats 800000 in
theorem helper_rd (w0 w:World) (p:Nat) (HR:Hid (Rdr w0 p w)) (r:RS) (h:RdAt w p r.cells) (hs:Sm r):Calls Tryz.prog 179 #[.pointer (some ⟨p,0,none⟩)] w fun e w'=>(∃ v,e=.returned v)/\MEnd p (helpS r) w w':=by
 have M0:=hidOf (MEnd.refl h)
 have d1:=M0.out.ct
 cases hb:startP r.tok
 ·
  have e1:helpS r=immS r:=by unfold helpS;rw [hb];rfl
  rw [e1]
  have CS:Hid (∀ wx,Calls Tryz.prog 116 #[.string ⟨r.tok.toArray⟩] wx fun e w'=>e=.returned (.bool false)/\wx=w'):=fun wx=>startM w r wx false hb
  have CI:Hid (∀ wx,MEnd p r w wx->Calls Tryz.prog 175 #[.pointer (some ⟨p,0,none⟩)] wx fun e w'=>(∃ v,e=.returned v)/\MEnd p (immS r) w w'):=immM w0 w p HR.out r hs
  generalize immS r=rn at *
  clear h hs HR e1 hb
  go_enter Tryz.func179,Tryz.ntmps179
  go_wp2_with (first | (go_at_call 116;refine (CS.out _).mono ?_;rintro e w1 ⟨rfl,rfl⟩) | (go_at_call 175;refine (CI.out _ M0.out).mono ?_;rintro e w2 ⟨⟨v2,rfl⟩,hm⟩;have M2:=hidOf hm;clear hm))
  (try simp only [Exit.inBlock,Exit.then])
  refine bodyPost_ret (results_none rfl _ _ _) rfl ?_
  exact ⟨⟨_,rfl⟩,M2.out⟩
 ·
  have e1:helpS r=nameS { r with s:=1,i:=-1 }:=by unfold helpS;rw [hb];rfl
  rw [e1]
  have CS:Hid (∀ wx,Calls Tryz.prog 116 #[.string ⟨r.tok.toArray⟩] wx fun e w'=>e=.returned (.bool true)/\wx=w'):=fun wx=>startM w r wx true hb
  have CR:Hid (∀ wx,MEnd p { r with s:=1,i:=-1 } w wx->Calls Tryz.prog 178 #[.pointer (some ⟨p,0,none⟩)] wx fun e w'=>(∃ v,e=.returned v)/\MEnd p (nameS { r with s:=1,i:=-1 }) w w'):=nameM w p { r with s:=1,i:=-1 } hs
  have M1:Hid (MEnd p { r with s:=1,i:=-1 } w ((w.setCell ⟨p,4,none⟩ (.int .i64 1)).setCell ⟨p,6,none⟩ (.int .i64 (-1)))):=(M0.out.set (r2:={ r with s:=1 }) 4 _ rfl).set 6 _ rfl
  obtain ⟨d4,f4⟩:=M0.out.cs
  obtain ⟨d6,f6⟩:=M0.out.ci
  generalize nameS { r with s:=1,i:=-1 } = rn at *
  clear h hs HR e1 hb M0
  go_enter Tryz.func179,Tryz.ntmps179
  go_wp2_with (first | (go_at_call 116;refine (CS.out _).mono ?_;rintro e w1 ⟨rfl,rfl⟩) | (go_at_call 178;refine (CR.out _ M1.out).mono ?_;rintro e w2 ⟨⟨v2,rfl⟩,hm⟩;have M2:=hidOf hm;clear hm))
  go_end0
  exact ⟨⟨_,rfl⟩,M2.out⟩
theorem sourceM (w0 w:World) (p:Nat) (R:Rdr w0 p w) (r:RS) (hs:Sm r) (wx:World) (m:MEnd p r w wx):Calls Tryz.prog 176 #[.pointer (some ⟨p,0,none⟩)] wx fun e w'=>(∃ v,e=.returned v)/\MEnd p (srcS r) w w':=
 (source_rd w0 wx p (hidOf (R.next m)) r m.1 hs).mono fun e w' ⟨a,b⟩=>⟨a,m.trans b⟩
theorem helperM (w0 w:World) (p:Nat) (R:Rdr w0 p w) (r:RS) (hs:Sm r) (wx:World) (m:MEnd p r w wx):Calls Tryz.prog 179 #[.pointer (some ⟨p,0,none⟩)] wx fun e w'=>(∃ v,e=.returned v)/\MEnd p (helpS r) w w':=
 (helper_rd w0 wx p (hidOf (R.next m)) r m.1 hs).mono fun e w' ⟨a,b⟩=>⟨a,m.trans b⟩
def opS (c:Int) (r:RS):RS:=
 if c=1 then { (regS r).1 with d:=(regS r).2 } else if c=2 then { (regS r).1 with s:=(regS r).2 } else if c=3 then immS r else if c=4 then srcS r
 else if c=5 then { (placeS r).1 with s:=(placeS r).2.1,f:=(placeS r).2.2 } else if c=6 then { (placeS r).1 with d:=(placeS r).2.1,f:=(placeS r).2.2 }
 else if c=7 then nameS r else if c=8 then helpS r else r
theorem Sm.opS {r:RS} (h:Sm r) (c:Int):Sm (opS c r):=by
 unfold YtadneimllbfdnaaGreatDoor.opS
 split
 · exact h.reg
 split
 · exact h.reg
 split
 · exact h.imm
 split
 · exact h.srcS
 split
 · exact h.place
 split
 · exact h.place
 split
 · exact h.name
 split
 · exact h.helpS
 · exact h
set_option maxRecDepth 20000 in
set_option maxHeartbeats 800000 in
theorem operand_1 (w0 w:World) (p:Nat) (HR:Hid (Rdr w0 p w)) (r:RS) (h:RdAt w p r.cells) (hs:Sm r):Calls Tryz.prog 146 #[.pointer (some ⟨p,0,none⟩),.int .u8 1] w fun e w'=>(∃ v,e=.returned v)/\MEnd p (opS 1 r) w w':=by
 have M0:=hidOf (MEnd.refl h)
 have CR:Hid (∀ wx,MEnd p r w wx->Calls Tryz.prog 174 #[.pointer (some ⟨p,0,none⟩)] wx fun e w'=>e=.returned (.int .i64 (regS r).2)/\MEnd p (regS r).1 w w'):=regM w0 w p HR.out r hs
 show Calls _ _ _ _ fun e w'=>(∃ v,e=.returned v)/\MEnd p { (regS r).1 with d:=(regS r).2 } w w'
 generalize regS r=q at *
 obtain ⟨rn,k⟩:=q
 simp only at CR
 clear h hs HR
 go_enter Tryz.func146,Tryz.ntmps146
 go_wp2_with (go_at_call 174;refine (CR.out _ M0.out).mono ?_;rintro e w2 ⟨rfl,hm⟩;have d4:=hm.cd.1;have f4:=hm.cd.2;have M2:=hidOf hm;clear hm)
 go_end0
 exact ⟨⟨_,rfl⟩,M2.out.set 3 _ rfl⟩
set_option maxRecDepth 20000 in
set_option maxHeartbeats 800000 in
theorem operand_2 (w0 w:World) (p:Nat) (HR:Hid (Rdr w0 p w)) (r:RS) (h:RdAt w p r.cells) (hs:Sm r):Calls Tryz.prog 146 #[.pointer (some ⟨p,0,none⟩),.int .u8 2] w fun e w'=>(∃ v,e=.returned v)/\MEnd p (opS 2 r) w w':=by
 have M0:=hidOf (MEnd.refl h)
 have CR:Hid (∀ wx,MEnd p r w wx->Calls Tryz.prog 174 #[.pointer (some ⟨p,0,none⟩)] wx fun e w'=>e=.returned (.int .i64 (regS r).2)/\MEnd p (regS r).1 w w'):=regM w0 w p HR.out r hs
 show Calls _ _ _ _ fun e w'=>(∃ v,e=.returned v)/\MEnd p { (regS r).1 with s:=(regS r).2 } w w'
 generalize regS r=q at *
 obtain ⟨rn,k⟩:=q
 simp only at CR
 clear h hs HR
 go_enter Tryz.func146,Tryz.ntmps146
 go_wp2_with (go_at_call 174;refine (CR.out _ M0.out).mono ?_;rintro e w2 ⟨rfl,hm⟩;have d4:=hm.cs.1;have f4:=hm.cs.2;have M2:=hidOf hm;clear hm)
 go_end0
 exact ⟨⟨_,rfl⟩,M2.out.set 4 _ rfl⟩
set_option maxRecDepth 20000 in
set_option maxHeartbeats 800000 in
theorem operand_3 (w0 w:World) (p:Nat) (HR:Hid (Rdr w0 p w)) (r:RS) (h:RdAt w p r.cells) (hs:Sm r):Calls Tryz.prog 146 #[.pointer (some ⟨p,0,none⟩),.int .u8 3] w fun e w'=>(∃ v,e=.returned v)/\MEnd p (opS 3 r) w w':=by
 have M0:=hidOf (MEnd.refl h)
 have CR:Hid (∀ wx,MEnd p r w wx->Calls Tryz.prog 175 #[.pointer (some ⟨p,0,none⟩)] wx fun e w'=>(∃ v,e=.returned v)/\MEnd p (immS r) w w'):=immM w0 w p HR.out r hs
 show Calls _ _ _ _ fun e w'=>(∃ v,e=.returned v)/\MEnd p (immS r) w w'
 generalize immS r=rn at *
 clear h hs HR
 go_enter Tryz.func146,Tryz.ntmps146
 go_wp2_with (go_at_call 175;refine (CR.out _ M0.out).mono ?_;rintro e w2 ⟨⟨v2,rfl⟩,hm⟩;have M2:=hidOf hm;clear hm)
 go_end0
 exact ⟨⟨_,rfl⟩,M2.out⟩
set_option maxRecDepth 20000 in
set_option maxHeartbeats 800000 in
theorem operand_4 (w0 w:World) (p:Nat) (HR:Hid (Rdr w0 p w)) (r:RS) (h:RdAt w p r.cells) (hs:Sm r):Calls Tryz.prog 146 #[.pointer (some ⟨p,0,none⟩),.int .u8 4] w fun e w'=>(∃ v,e=.returned v)/\MEnd p (opS 4 r) w w':=by
 have M0:=hidOf (MEnd.refl h)
 have CR:Hid (∀ wx,MEnd p r w wx->Calls Tryz.prog 176 #[.pointer (some ⟨p,0,none⟩)] wx fun e w'=>(∃ v,e=.returned v)/\MEnd p (srcS r) w w'):=sourceM w0 w p HR.out r hs
 show Calls _ _ _ _ fun e w'=>(∃ v,e=.returned v)/\MEnd p (srcS r) w w'
 generalize srcS r=rn at *
 clear h hs HR
 go_enter Tryz.func146,Tryz.ntmps146
 go_wp2_with (go_at_call 176;refine (CR.out _ M0.out).mono ?_;rintro e w2 ⟨⟨v2,rfl⟩,hm⟩;have M2:=hidOf hm;clear hm)
 go_end0
 exact ⟨⟨_,rfl⟩,M2.out⟩
set_option maxRecDepth 20000 in
set_option maxHeartbeats 800000 in
theorem operand_7 (w0 w:World) (p:Nat) (HR:Hid (Rdr w0 p w)) (r:RS) (h:RdAt w p r.cells) (hs:Sm r):Calls Tryz.prog 146 #[.pointer (some ⟨p,0,none⟩),.int .u8 7] w fun e w'=>(∃ v,e=.returned v)/\MEnd p (opS 7 r) w w':=by
 have M0:=hidOf (MEnd.refl h)
 have CR:Hid (∀ wx,MEnd p r w wx->Calls Tryz.prog 178 #[.pointer (some ⟨p,0,none⟩)] wx fun e w'=>(∃ v,e=.returned v)/\MEnd p (nameS r) w w'):=nameM w p r hs
 show Calls _ _ _ _ fun e w'=>(∃ v,e=.returned v)/\MEnd p (nameS r) w w'
 generalize nameS r=rn at *
 clear h hs HR
 go_enter Tryz.func146,Tryz.ntmps146
 go_wp2_with (go_at_call 178;refine (CR.out _ M0.out).mono ?_;rintro e w2 ⟨⟨v2,rfl⟩,hm⟩;have M2:=hidOf hm;clear hm)
 go_end0
 exact ⟨⟨_,rfl⟩,M2.out⟩
set_option maxRecDepth 20000 in
set_option maxHeartbeats 800000 in
theorem operand_8 (w0 w:World) (p:Nat) (HR:Hid (Rdr w0 p w)) (r:RS) (h:RdAt w p r.cells) (hs:Sm r):Calls Tryz.prog 146 #[.pointer (some ⟨p,0,none⟩),.int .u8 8] w fun e w'=>(∃ v,e=.returned v)/\MEnd p (opS 8 r) w w':=by
 have M0:=hidOf (MEnd.refl h)
 have CR:Hid (∀ wx,MEnd p r w wx->Calls Tryz.prog 179 #[.pointer (some ⟨p,0,none⟩)] wx fun e w'=>(∃ v,e=.returned v)/\MEnd p (helpS r) w w'):=helperM w0 w p HR.out r hs
 show Calls _ _ _ _ fun e w'=>(∃ v,e=.returned v)/\MEnd p (helpS r) w w'
 generalize helpS r=rn at *
 clear h hs HR
 go_enter Tryz.func146,Tryz.ntmps146
 go_wp2_with (go_at_call 179;refine (CR.out _ M0.out).mono ?_;rintro e w2 ⟨⟨v2,rfl⟩,hm⟩;have M2:=hidOf hm;clear hm)
 go_end0
 exact ⟨⟨_,rfl⟩,M2.out⟩
set_option maxRecDepth 20000 in
set_option maxHeartbeats 800000 in
theorem operand_5 (w0 w:World) (p:Nat) (HR:Hid (Rdr w0 p w)) (r:RS) (h:RdAt w p r.cells) (hs:Sm r):Calls Tryz.prog 146 #[.pointer (some ⟨p,0,none⟩),.int .u8 5] w fun e w'=>(∃ v,e=.returned v)/\MEnd p (opS 5 r) w w':=by
 have M0:=hidOf (MEnd.refl h)
 have CR:Hid (∀ wx,MEnd p r w wx->Calls Tryz.prog 177 #[.pointer (some ⟨p,0,none⟩)] wx fun e w'=>e=.returned (.tuple #[.int .i64 (placeS r).2.1,.int .i64 (placeS r).2.2])/\MEnd p (placeS r).1 w w'):=placeM w0 w p HR.out r hs
 show Calls _ _ _ _ fun e w'=>(∃ v,e=.returned v)/\MEnd p { (placeS r).1 with s:=(placeS r).2.1,f:=(placeS r).2.2 } w w'
 generalize placeS r=q at *
 obtain ⟨rn,k,v⟩:=q
 simp only at CR
 clear h hs HR
 go_enter Tryz.func146,Tryz.ntmps146
 go_wp2_with (go_at_call 177;refine (CR.out _ M0.out).mono ?_;rintro e w2 ⟨rfl,hm⟩;have d4:=hm.cs.1;have f4:=hm.cs.2;have d5:=hm.cf.1;have f5:=hm.cf.2;have M2:=hidOf hm;clear hm)
 go_end0
 exact ⟨⟨_,rfl⟩,(M2.out.set (r2:={ rn with s:=k }) 4 _ rfl).set 5 _ rfl⟩
set_option maxRecDepth 20000 in
set_option maxHeartbeats 800000 in
theorem operand_6 (w0 w:World) (p:Nat) (HR:Hid (Rdr w0 p w)) (r:RS) (h:RdAt w p r.cells) (hs:Sm r):Calls Tryz.prog 146 #[.pointer (some ⟨p,0,none⟩),.int .u8 6] w fun e w'=>(∃ v,e=.returned v)/\MEnd p (opS 6 r) w w':=by
 have M0:=hidOf (MEnd.refl h)
 have CR:Hid (∀ wx,MEnd p r w wx->Calls Tryz.prog 177 #[.pointer (some ⟨p,0,none⟩)] wx fun e w'=>e=.returned (.tuple #[.int .i64 (placeS r).2.1,.int .i64 (placeS r).2.2])/\MEnd p (placeS r).1 w w'):=placeM w0 w p HR.out r hs
 show Calls _ _ _ _ fun e w'=>(∃ v,e=.returned v)/\MEnd p { (placeS r).1 with d:=(placeS r).2.1,f:=(placeS r).2.2 } w w'
 generalize placeS r=q at *
 obtain ⟨rn,k,v⟩:=q
 simp only at CR
 clear h hs HR
 go_enter Tryz.func146,Tryz.ntmps146
 go_wp2_with (go_at_call 177;refine (CR.out _ M0.out).mono ?_;rintro e w2 ⟨rfl,hm⟩;have d4:=hm.cd.1;have f4:=hm.cd.2;have d5:=hm.cf.1;have f5:=hm.cf.2;have M2:=hidOf hm;clear hm)
 go_end0
 exact ⟨⟨_,rfl⟩,(M2.out.set (r2:={ rn with d:=k }) 3 _ rfl).set 5 _ rfl⟩
theorem operandM (w0 w:World) (p:Nat) (R:Rdr w0 p w) (r:RS) (hs:Sm r) (c:Int) (hc:1<=c/\c<=8) (wx:World) (m:MEnd p r w wx):Calls Tryz.prog 146 #[.pointer (some ⟨p,0,none⟩),.int .u8 c] wx fun e w'=>(∃ v,e=.returned v)/\MEnd p (opS c r) w w':=by
 have hR:=hidOf (R.next m)
 have key:Calls Tryz.prog 146 #[.pointer (some ⟨p,0,none⟩),.int .u8 c] wx fun e w'=>(∃ v,e=.returned v)/\MEnd p (opS c r) wx w':=by
  rcases (show c=1\/c=2\/c=3\/c=4\/c=5\/c=6\/c=7\/c=8 from by omega) with rfl | rfl | rfl | rfl | rfl | rfl | rfl | rfl
  · exact operand_1 w0 wx p hR r m.1 hs
  · exact operand_2 w0 wx p hR r m.1 hs
  · exact operand_3 w0 wx p hR r m.1 hs
  · exact operand_4 w0 wx p hR r m.1 hs
  · exact operand_5 w0 wx p hR r m.1 hs
  · exact operand_6 w0 wx p hR r m.1 hs
  · exact operand_7 w0 wx p hR r m.1 hs
  · exact operand_8 w0 wx p hR r m.1 hs
 exact key.mono fun e w' ⟨a,b⟩=>⟨a,m.trans b⟩
end Go.Proofs.YtadneimllbfdnaaGreatDoor
