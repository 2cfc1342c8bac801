import Derived.Test.YtadneimllbfdnaaGreatDoorGu24
import Derived.Test.YtadneimllbfdnaaGreatDoorGu26
namespace Go.Proofs.YtadneimllbfdnaaGreatDoor
open Go.RowKit
open Go.Maps (Keyed)
set_option linter.unusedVariables false
set_option linter.unusedSimpArgs false
def PEnd (r:RS) (e:Ending):Prop:=(r.wrong=true/\e=.returned (.tuple #[.agg zero5,.string ⟨#[]⟩,.int .i64 41]))\/(r.wrong=false/\r.outside=true/\e=.returned (.tuple #[.agg zero5,.string ⟨#[]⟩,.int .i64 42])) \/
 (r.wrong=false/\r.outside=false/\e=.returned (.tuple #[.agg #[.int .i64 r.o,.int .i64 r.d,.int .i64 r.s,.int .i64 r.f,.int .i64 r.i],.string ⟨r.tgt.toArray⟩,.int .i64 0]))
theorem heap_drew' (w:World):w.drew.heap=w.heap:=rfl
theorem set5_drew {w:World} {b:Nat} {t:TypeId} {x0 x1 x2 x3 x4 u0 u1 u2 u3 u4:Value} (h:w.heap[b]? = some (.cells #[u0,u1,u2,u3,u4] t (0,0))):(((((w.setCell ⟨b,0,none⟩ x0).setCell ⟨b,1,none⟩ x1).setCell ⟨b,2,none⟩ x2).setCell ⟨b,3,none⟩ x3).setCell ⟨b,4,none⟩ x4).drew.heap[b]? = some (.cells #[x0,x1,x2,x3,x4] t (0,0)):=by
 rw [heap_drew']
 exact set5_heap h
theorem out5_drew {w0 w:World} {b:Nat} (h:Out w0 w) (hb:w0.heap.size<=b) (x0 x1 x2 x3 x4:Value):Out w0 (((((w.setCell ⟨b,0,none⟩ x0).setCell ⟨b,1,none⟩ x1).setCell ⟨b,2,none⟩ x2).setCell ⟨b,3,none⟩ x3).setCell ⟨b,4,none⟩ x4).drew:=(h.set5 hb x0 x1 x2 x3 x4).drew
set_option maxRecDepth 40000 in
set_option maxHeartbeats 8000000 in
theorem parse_some (w:World) (l:List UInt8) (hE:PEnv w) (hl:l.length<=140737488355328) (o s f i:Int) (hm:meanOf (newR l).tok=some (o,s,f,i)):Calls Tryz.prog 77 #[.string ⟨l.toArray⟩] w fun e w'=>PEnd (behindS (o,s,f,i) (newR l)) e/\Out w w':=by
 have CN:Hid (∀ wx,Calls Tryz.prog 103 #[.string ⟨l.toArray⟩] wx fun e w'=>∃ p,e=.returned (.pointer (some ⟨p,0,none⟩))/\wx.heap.size<=p/\RdAt w' p (newR l).cells/\Out wx w'):=fun wx=>newReader_any wx l hl
 have CM:Hid (∀ wx,Out w wx->Calls Tryz.prog 104 #[.string ⟨(newR l).tok.toArray⟩] wx fun e w'=>e=.returned (.tuple #[.agg #[.int .u8 o,.int .u8 s,.int .u8 f,.int .u8 i],.bool true])/\Out wx w'):=fun wx ho=>(meaning_any wx _ (hE.2.out ho)).mono fun e w' ⟨a,b⟩=>⟨by rw [a,hm];rfl,b⟩
 have HSm:=hidOf (newR_sm hl)
 have HM:=hidOf hm
 have HEnv:=hidOf hE.1
 have CI:Hid (∀ wx,Calls Tryz.prog 105 #[.agg #[.int .u8 o,.int .u8 s,.int .u8 f,.int .u8 i]] wx fun e w'=>e=.returned (.agg #[.int .i64 o,.int .i64 0,.int .i64 s,.int .i64 f,.int .i64 i])/\Out wx w'):=fun wx=>insn_any o s f i wx (mean_bd _ _ hm)
 have HF:Hid ((formP o == 0)=false):=by
  obtain ⟨x,hx,hx0,hxe⟩:=mean_mem _ _ hm
  have:=(mean_f x hx hx0).1
  rw [hxe] at this
  simp only at this
  exact hidOf (by simp only [beq_eq_false_iff_ne];omega)
 clear hE hl hm
 generalize newR l=r at *
 go_enter Tryz.func77,Tryz.ntmps77
 go_wp2_with (first | (go_at_call 103;refine (CN.out _).mono ?_;rintro e w1 ⟨p,rfl,hp,hR,ho⟩;have H1:=hidOf hR;have Hp:=hidOf hp;have Ho1:=hidOf (Out.trans ((Out.refl w).alloc _) ho);have HoA:=hidOf ho;have d1:w1.cell? ⟨p,1,none⟩=some (.string ⟨r.tok.toArray⟩):=hR.cell 1;clear hp hR ho))
 have nw1:=World.new_ne w1 ⟨p,1,none⟩ d1
 go_at_call 104
 refine (CM.out w1 Ho1.out).mono ?_
 rintro e w2 ⟨rfl,ho⟩
 have d1A:w2.cell? ⟨p,1,none⟩=some (.string ⟨r.tok.toArray⟩):=cell_later ho d1
 have Hw2:Hid (Out w1 w2):=ho
 have nw:=World.new_ne w2 ⟨p,1,none⟩ d1A
 clear ho
 go_upto_if 19 with fail
 refine via_wp (fun wz=>Out w1 wz/\∀ j,wz.cell? ⟨w2.heap.size,j,none⟩=(#[.int .u8 o,.int .u8 s,.int .u8 f,.int .u8 i]:Array Value)[j]?) ⟨Hw2.out.alloc _,fun j=>new_cell w2 _ _ j⟩ ?_
 all_goals rintro wz ⟨hz,hbx⟩
 all_goals have HB:=hidOf (res_cells (Out.trans HoA.out hz))
 all_goals have M0:Hid (MEnd p r wz wz):=MEnd.refl (H1.out.below hz)
 all_goals have HRd:Hid (∀ wx r',MEnd p r' wz wx->Rdr (w.alloc (.cells #[.int .i64 0,.int .i64 0,.int .i64 0,.int .i64 0,.int .i64 0] 40)) p wx/\Out w wx):=fun wx r' m=>(fun (hR:Rdr (w.alloc (.cells #[.int .i64 0,.int .i64 0,.int .i64 0,.int .i64 0,.int .i64 0] 40)) p wz)=>⟨hR.next m,Out.trans ((Out.refl w).alloc _) (m.out hR)⟩) ⟨HEnv.out.out ((Out.refl w).alloc _),Out.trans HoA.out hz,Hp.out⟩
 all_goals have CX:Hid (∀ wx,MEnd p { r with o:=o,d:=0,s:=s,f:=f,i:=i } wz wx->Calls Tryz.prog 106 #[.pointer (some ⟨p,0,none⟩)] wx fun e w'=>(∃ v,e=.returned v)/\MEnd p (RS.next { r with o:=o,d:=0,s:=s,f:=f,i:=i }) wz w'):=nextM wz p { r with o:=o,d:=0,s:=s,f:=f,i:=i } HSm.out
 all_goals have CO:Hid (∀ wx,MEnd p (RS.next { r with o:=o,d:=0,s:=s,f:=f,i:=i }) wz wx->Calls Tryz.prog 107 #[.pointer (some ⟨p,0,none⟩)] wx fun e w'=>(∃ v,e=.returned v)/\MEnd p (behindS (o,s,f,i) r) wz w'):=fun wx m=>(operands_any (w.alloc (.cells #[.int .i64 0,.int .i64 0,.int .i64 0,.int .i64 0,.int .i64 0] 40)) wx p (hidOf (HRd.out wx _ m).1) _ m.1 (Sm.next (r:={ r with o:=o,d:=0,s:=s,f:=f,i:=i }) HSm.out) HF.out).mono fun e w' ⟨a,b⟩=>⟨a,m.trans b⟩
 all_goals (obtain ⟨rz,Hrz⟩:∃ rz,Hid (behindS (o,s,f,i) r=rz):=⟨_,hidOf rfl⟩;rw [Hrz.out] at CO;generalize RS.next { r with o:=o,d:=0,s:=s,f:=f,i:=i } = rn at *)
 all_goals (first | (have c0:wz.cell? ⟨w2.heap.size,0,none⟩=some (.int .u8 o):=hbx 0;have c1:wz.cell? ⟨w2.heap.size,1,none⟩=some (.int .u8 s):=hbx 1;have c2:wz.cell? ⟨w2.heap.size,2,none⟩=some (.int .u8 f):=hbx 2;have c3:wz.cell? ⟨w2.heap.size,3,none⟩=some (.int .u8 i):=hbx 3) | (have c0:wz.cell? ⟨w1.heap.size,0,none⟩=some (.int .u8 o):=hbx 0;have c1:wz.cell? ⟨w1.heap.size,1,none⟩=some (.int .u8 s):=hbx 1;have c2:wz.cell? ⟨w1.heap.size,2,none⟩=some (.int .u8 f):=hbx 2;have c3:wz.cell? ⟨w1.heap.size,3,none⟩=some (.int .u8 i):=hbx 3))
 all_goals clear hz hbx d1 d1A CM CN
 all_goals go_wp2_with (first | (go_at_call 107;refine (CO.out _ M3.out).mono ?_;rintro e w6 ⟨⟨v6,rfl⟩,hm⟩;have M6:=hidOf hm;have HB6:=hidOf (res_cells (HRd.out _ _ hm).1.2.1);have HO6:=hidOf (HRd.out _ _ hm).2;have q8:=hm.cw.1;have q9:w6.cell? ⟨p,9,none⟩=some (.bool rz.outside):=hm.1.cell 9;have q2:=hm.co.1;have q3:=hm.cd.1;have q4:=hm.cs.1;have q5:=hm.cf.1;have q6:=hm.ci.1;have q7:w6.cell? ⟨p,7,none⟩=some (.string ⟨rz.tgt.toArray⟩):=hm.1.cell 7;have r0:w6.cell? ⟨w.heap.size,0,none⟩=some (.int .i64 0):=(blk_cell HB6.out 0).1;have r1:w6.cell? ⟨w.heap.size,1,none⟩=some (.int .i64 0):=(blk_cell HB6.out 1).1;have r2:w6.cell? ⟨w.heap.size,2,none⟩=some (.int .i64 0):=(blk_cell HB6.out 2).1;have r3:w6.cell? ⟨w.heap.size,3,none⟩=some (.int .i64 0):=(blk_cell HB6.out 3).1;have r4:w6.cell? ⟨w.heap.size,4,none⟩=some (.int .i64 0):=(blk_cell HB6.out 4).1;have f0:=(blk_cell HB6.out 0).2;have f1:=(blk_cell HB6.out 1).2;have f2:=(blk_cell HB6.out 2).2;have f3:=(blk_cell HB6.out 3).2;have f4:=(blk_cell HB6.out 4).2;clear hm) | (go_at_call 106;refine (CX.out _ (M1.out.insn o 0 s f i)).mono ?_;rintro e w5 ⟨⟨v5,rfl⟩,hm⟩;have M3:=hidOf hm;clear hm) | (go_at_call 105;refine (CI.out _).mono ?_;rintro e w3 ⟨rfl,ho⟩;have hm:MEnd p r wz w3:=⟨M0.out.1.below ho,Chg.of_out ho⟩;have M1:=hidOf hm;have p2:=hm.co.1;have p3:=hm.cd.1;have p4:=hm.cs.1;have p5:=hm.cf.1;have p6:=hm.ci.1;have g2:=hm.co.2;have g3:=hm.cd.2;have g4:=hm.cs.2;have g5:=hm.cf.2;have g6:=hm.ci.2;clear ho hm))
 all_goals have hn1:¬p=w.heap.size:=by have:=Hp.out;rw [size_alloc] at this;omega
 all_goals have hn2:¬w.heap.size=p:=fun h=>hn1 h.symm
 all_goals first | (refine bodyPost_ret (results_row_tmp2 rfl _ _ w.heap.size 40 #[.int .i64 0,.int .i64 0,.int .i64 0,.int .i64 0,.int .i64 0] (0,0) _ rfl (set5_heap HB6.out) Tryz.underlying40 rfl size5) rfl ?_;rw [Hrz.out];exact ⟨.inl ⟨by assumption,rfl⟩,HO6.out.set5 (Nat.le_refl _) _ _ _ _ _⟩) | (refine bodyPost_ret (results_row_tmp2 rfl _ _ w.heap.size 40 #[.int .i64 0,.int .i64 0,.int .i64 0,.int .i64 0,.int .i64 0] (0,0) _ rfl (set5_heap HB6.out) Tryz.underlying40 rfl size5) rfl ?_;rw [Hrz.out];exact ⟨.inr (.inl ⟨by assumption,by assumption,rfl⟩),HO6.out.set5 (Nat.le_refl _) _ _ _ _ _⟩) | skip
 all_goals go_region_law (fail)
 all_goals refine via_world (fun wz=>wz.heap[w.heap.size]? = some (.cells #[.int .i64 rz.o,.int .i64 rz.d,.int .i64 rz.s,.int .i64 rz.f,.int .i64 rz.i] 40 (0,0))/\Out w wz) ⟨set5_drew HB6.out,out5_drew HO6.out (Nat.le_refl _) _ _ _ _ _⟩ ?_
 all_goals rintro wq ⟨hq,hoq⟩
 all_goals have HQ:=hidOf hq
 all_goals have HOQ:=hidOf hoq
 all_goals clear hq hoq q2 q3 q4 q5 q6 q7 q8 q9 r0 r1 r2 r3 r4 f0 f1 f2 f3 f4 CX CO CI HRd M0 M1 M3 M6 HB6 HO6 p2 p3 p4 p5 p6 g2 g3 g4 g5 g6 hn1 hn2 c0 c1 c2 c3 HB HF HM HSm HEnv H1 Hp Ho1 HoA
 all_goals go_simp
 all_goals go_wp2
 all_goals refine bodyPost_ret (results_row_tmp2 rfl _ _ w.heap.size 40 #[.int .i64 rz.o,.int .i64 rz.d,.int .i64 rz.s,.int .i64 rz.f,.int .i64 rz.i] (0,0) _ rfl HQ.out Tryz.underlying40 rfl size5) rfl ?_
 all_goals rw [Hrz.out]
 all_goals exact ⟨.inr (.inr ⟨by assumption,by assumption,rfl⟩),HOQ.out⟩
end Go.Proofs.YtadneimllbfdnaaGreatDoor
namespace Go.Proofs.YtadneimllbfdnaaGreatDoor
open Go.RowKit
set_option linter.unusedVariables false
set_option linter.unusedSimpArgs false
theorem parse_any (w:World) (l:List UInt8) (hE:PEnv w) (hl:l.length<=140737488355328):Calls Tryz.prog 77 #[.string ⟨l.toArray⟩] w fun e w'=>e=.returned (.tuple #[.agg #[.int .i64 (parseP l).o,.int .i64 (parseP l).d,.int .i64 (parseP l).s,.int .i64 (parseP l).f,.int .i64 (parseP l).i],.string ⟨(parseP l).tgt.toArray⟩,.int .i64 (parseP l).e])/\Out w w':=by
 cases hm:meanOf (newR l).tok with
 | none=>
  have hp:parseP l=⟨0,0,0,0,0,[],40⟩:=by unfold parseP;rw [hm]
  rw [hp]
  exact parse_none w l hE hl hm
 | some m=>
  obtain ⟨o,s,f,i⟩:=m
  refine (parse_some w l hE hl o s f i hm).mono fun e w' ⟨he,ho⟩=>⟨?_,ho⟩
  unfold parseP
  rw [hm]
  simp only
  rcases he with ⟨h1,he⟩ | ⟨h1,h2,he⟩ | ⟨h1,h2,he⟩
  · rw [if_pos h1,he];rfl
  · rw [if_neg (by rw [h1];decide),if_pos h2,he];rfl
  · rw [if_neg (by rw [h1];decide),if_neg (by rw [h2];decide),he]
theorem ixQ_len:∀ (acc:List UInt8) (ts:List Lx.Tk),TkOk ts->(ixQ acc ts).1.length<=acc.length+71*ts.length
 | acc,[],_=>by unfold ixQ;simp
 | acc,t::r,h=>by
  unfold ixQ
  have htl:=ttQ_len (h t (by simp))
  by_cases e:t.k=5
  · rw [if_pos e];simp
  ·
   rw [if_neg e]
   have:=ixQ_len ((if acc.isEmpty then acc else acc++[32])++ttQ t) r (tkOk_clo _ _ h)
   by_cases ha:acc.isEmpty=true
   ·
    rw [if_pos ha] at this ⊢
    simp only [List.length_append,List.length_cons] at this ⊢
    omega
   ·
    rw [if_neg ha] at this ⊢
    simp only [List.length_append,List.length_cons,List.length_nil] at this ⊢
    omega
set_option maxRecDepth 20000 in
set_option maxHeartbeats 4000000 in
theorem instruction_any (w0:World) (B:Nat) (hB0:w0.heap.size<=B) (hpw:Lx.Pow w0) (hE0:PEnv w0) (w:World) (hw:Out w0 w) (p g mb:Nat) (sv:Value) (ts:List Lx.Tk) (h:PS B w p g mb sv ts) (hl:Lw ts) (hN:TkOk ts) (hlen:ts.length<=1000000000) :
  Calls Tryz.prog 53 #[.pointer (some ⟨p,0,none⟩)] w (REndS (inQ ts) B w p g mb sv):=by
 unfold inQ
 have hpl:=h.gl.1
 have hgl:=h.gl.2
 have hpB:=h.pB
 have hxl:=ixQ_len [] ts hN
 obtain ⟨w1,hw1⟩:∃ w1,w1=w.alloc (.cells #[.int .i64 0,.string ⟨#[]⟩,.slice none 0 0,.slice none 0 0,.int .i64 0,.int .i64 0,.int .i64 0,.int .i64 0,.int .i64 0,.string ⟨#[]⟩,.int .i64 0] 42):=⟨_,rfl⟩
 have o1:Out w w1:=by rw [hw1];exact (Out.refl w).alloc _
 have b1:w1.heap[w.heap.size]? = some (.cells #[.int .i64 0,.string ⟨#[]⟩,.slice none 0 0,.slice none 0 0,.int .i64 0,.int .i64 0,.int .i64 0,.int .i64 0,.int .i64 0,.string ⟨#[]⟩,.int .i64 0] 42 (0,0)):=by rw [hw1];exact heap_alloc_new w _
 have CI:=hidOf (instructionText_any w0 B hB0 hpw w1 (hw.trans o1) p g mb sv ts (h.out o1) hl hN hlen)
 obtain ⟨X,R,hXR⟩:∃ X R,ixQ [] ts=(X,R):=⟨_,_,rfl⟩
 rw [hXR] at CI hxl ⊢
 have hxl:X.length<=140737488355328:=by simp only [List.length_nil] at hxl;omega
 have CP:Hid (∀ wx,Out w0 wx->Calls Tryz.prog 77 #[.string ⟨X.toArray⟩] wx fun e w'=>e=.returned (.tuple #[.agg #[.int .i64 (parseP X).o,.int .i64 (parseP X).d,.int .i64 (parseP X).s,.int .i64 (parseP X).f,.int .i64 (parseP X).i],.string ⟨(parseP X).tgt.toArray⟩,.int .i64 (parseP X).e])/\Out wx w'):=hidOf (fun wx o=>parse_any wx X (hE0.out o) hxl)
 simp only at CI ⊢
 generalize parseP X=y at CP ⊢
 obtain ⟨o,d,s,f,i,tg,ec⟩:=y
 simp only at CP ⊢
 have B1:=hidOf b1
 have O1:=hidOf o1
 have Hw1:=hidOf hw1
 have Hw:=hidOf hw
 clear hXR hN hl h b1 o1 hw1 hw hE0 hpw
 by_cases he:ec=0
 ·
  subst he
  rw [if_pos rfl]
  go_enter Tryz.func53,Tryz.ntmps53
  go_upto_region 1 with fail
  rw [<-Hw1.out]
  go_upto_region 2 with (first | (go_at_call 78;refine CI.out.mono ?_;rintro e w2 ⟨rfl,hp,hc⟩;have P2:=hidOf hp;have C2:=hidOf hc;have O2:Hid (Out w0 w2):=hidOf (Chg.out hc (Hw.out.trans O1.out) (fun k hk=>by rw [hk];omega));have Z2:=hidOf ((hc.block w.heap.size (Array.getElem?_eq_some_iff.1 B1.out).1 (fun e=>by omega)).trans B1.out);clear hp hc) | (go_at_call 77;refine (CP.out _ O2.out).mono ?_;rintro e w3 ⟨rfl,ho⟩;have O3:=hidOf ho;have Z3:=hidOf ((ho.block _ (Array.getElem?_eq_some_iff.1 Z2.out).1).trans Z2.out);clear ho))
  obtain ⟨w4,hw4⟩:∃ w4,w4=w3.alloc (.cells #[.int .i64 o,.int .i64 d,.int .i64 s,.int .i64 f,.int .i64 i] 40):=⟨_,rfl⟩
  have O4:Hid (Out w3 w4):=hidOf (by rw [hw4];exact (Out.refl w3).alloc _)
  have b4:w4.heap[w3.heap.size]? = some (.cells #[.int .i64 o,.int .i64 d,.int .i64 s,.int .i64 f,.int .i64 i] 40 (0,0)):=by rw [hw4];exact heap_alloc_new w3 _
  rw [<-hw4]
  have m0:w4.cell? ⟨w3.heap.size,0,none⟩=some (.int .i64 o):=by rw [cell_atL b4];rfl
  have m1:w4.cell? ⟨w3.heap.size,1,none⟩=some (.int .i64 d):=by rw [cell_atL b4];rfl
  have m2:w4.cell? ⟨w3.heap.size,2,none⟩=some (.int .i64 s):=by rw [cell_atL b4];rfl
  have m3:w4.cell? ⟨w3.heap.size,3,none⟩=some (.int .i64 f):=by rw [cell_atL b4];rfl
  have m4:w4.cell? ⟨w3.heap.size,4,none⟩=some (.int .i64 i):=by rw [cell_atL b4];rfl
  have z4:w4.heap[w.heap.size]? = some (.cells #[.int .i64 0,.string ⟨#[]⟩,.slice none 0 0,.slice none 0 0,.int .i64 0,.int .i64 0,.int .i64 0,.int .i64 0,.int .i64 0,.string ⟨#[]⟩,.int .i64 0] 42 (0,0)):=(O4.out.block _ (Array.getElem?_eq_some_iff.1 Z3.out).1).trans Z3.out
  have z4_0:w4.cell? ⟨w.heap.size,0,none⟩=some (.int .i64 0):=by rw [cell_atL z4];rfl
  have z4_1:w4.cell? ⟨w.heap.size,1,none⟩=some (.string ⟨#[]⟩):=by rw [cell_atL z4];rfl
  have z4_2:w4.cell? ⟨w.heap.size,2,none⟩=some (.slice none 0 0):=by rw [cell_atL z4];rfl
  have z4_3:w4.cell? ⟨w.heap.size,3,none⟩=some (.slice none 0 0):=by rw [cell_atL z4];rfl
  have z4_4:w4.cell? ⟨w.heap.size,4,none⟩=some (.int .i64 0):=by rw [cell_atL z4];rfl
  have z4_5:w4.cell? ⟨w.heap.size,5,none⟩=some (.int .i64 0):=by rw [cell_atL z4];rfl
  have z4_6:w4.cell? ⟨w.heap.size,6,none⟩=some (.int .i64 0):=by rw [cell_atL z4];rfl
  have z4_7:w4.cell? ⟨w.heap.size,7,none⟩=some (.int .i64 0):=by rw [cell_atL z4];rfl
  have z4_8:w4.cell? ⟨w.heap.size,8,none⟩=some (.int .i64 0):=by rw [cell_atL z4];rfl
  have z4_9:w4.cell? ⟨w.heap.size,9,none⟩=some (.string ⟨#[]⟩):=by rw [cell_atL z4];rfl
  have z4_10:w4.cell? ⟨w.heap.size,10,none⟩=some (.int .i64 0):=by rw [cell_atL z4];rfl
  have f4_0:=frozen_atL z4 0
  have f4_1:=frozen_atL z4 1
  have f4_2:=frozen_atL z4 2
  have f4_3:=frozen_atL z4 3
  have f4_4:=frozen_atL z4 4
  have f4_5:=frozen_atL z4 5
  have f4_6:=frozen_atL z4 6
  have f4_7:=frozen_atL z4 7
  have f4_8:=frozen_atL z4 8
  have f4_9:=frozen_atL z4 9
  have f4_10:=frozen_atL z4 10
  have HZ:=hidOf z4
  clear hw4 b4 z4
  go_wp2
  have c3:=set11_chg w4 w.heap.size (.int .i64 6) (.string ⟨#[]⟩) (.slice none 0 0) (.slice none 0 0) (.int .i64 o) (.int .i64 d) (.int .i64 s) (.int .i64 f) (.int .i64 i) (.string ⟨tg.toArray⟩) (.int .i64 0)
  have b3:=set11_heap (a0:=.int .i64 6) (a1:=.string ⟨#[]⟩) (a2:=.slice none 0 0) (a3:=.slice none 0 0) (a4:=.int .i64 o) (a5:=.int .i64 d) (a6:=.int .i64 s) (a7:=.int .i64 f) (a8:=.int .i64 i) (a9:=.string ⟨tg.toArray⟩) (a10:=.int .i64 0) HZ.out
  refine bodyPost_ret (results_cell_row rfl _ _ w.heap.size 42 _ (0,0) _ rfl b3 Tryz.underlying42 rfl size11) rfl ?_
  have PE:=(P2.out.out O3.out).out O4.out
  refine ⟨_,_,rfl,LsOk.nil B _ _ rfl rfl,PE.setq c3 (fun e=>by omega) (fun e=>by omega),(Chg.then2 (Chg.then2 (Chg.of_out O1.out) C2.out) (Chg.of_out (O3.out.trans O4.out))).trans c3 (fun x hx hlt=>by omega)⟩
 rw [if_neg he]
 by_cases h40:ec=40
 ·
  subst h40
  rw [if_pos rfl]
  clear he
  go_enter Tryz.func53,Tryz.ntmps53
  go_upto_region 1 with fail
  rw [<-Hw1.out]
  go_upto_region 2 with (first | (go_at_call 78;refine CI.out.mono ?_;rintro e w2 ⟨rfl,hp,hc⟩;have P2:=hidOf hp;have C2:=hidOf hc;have O2:Hid (Out w0 w2):=hidOf (Chg.out hc (Hw.out.trans O1.out) (fun k hk=>by rw [hk];omega));have Z2:=hidOf ((hc.block w.heap.size (Array.getElem?_eq_some_iff.1 B1.out).1 (fun e=>by omega)).trans B1.out);clear hp hc) | (go_at_call 77;refine (CP.out _ O2.out).mono ?_;rintro e w3 ⟨rfl,ho⟩;have O3:=hidOf ho;have Z3:=hidOf ((ho.block _ (Array.getElem?_eq_some_iff.1 Z2.out).1).trans Z2.out);clear ho))
  obtain ⟨w4,hw4⟩:∃ w4,w4=w3.alloc (.cells #[.int .i64 o,.int .i64 d,.int .i64 s,.int .i64 f,.int .i64 i] 40):=⟨_,rfl⟩
  have O4:Hid (Out w3 w4):=hidOf (by rw [hw4];exact (Out.refl w3).alloc _)
  have b4:w4.heap[w3.heap.size]? = some (.cells #[.int .i64 o,.int .i64 d,.int .i64 s,.int .i64 f,.int .i64 i] 40 (0,0)):=by rw [hw4];exact heap_alloc_new w3 _
  rw [<-hw4]
  clear hw4 b4
  go_wp2
  exact ⟨rfl,rfl,(P2.out.out O3.out).out O4.out,Chg.then2 (Chg.then2 (Chg.of_out O1.out) C2.out) (Chg.of_out (O3.out.trans O4.out))⟩
 ·
  rw [if_neg h40]
  have hb0:(ec == 0)=false:=by simp [he]
  have hb4:(ec == 40)=false:=by simp [h40]
  clear he h40
  go_enter Tryz.func53,Tryz.ntmps53
  go_upto_region 1 with fail
  rw [<-Hw1.out]
  go_upto_region 2 with (first | (go_at_call 78;refine CI.out.mono ?_;rintro e w2 ⟨rfl,hp,hc⟩;have P2:=hidOf hp;have C2:=hidOf hc;have O2:Hid (Out w0 w2):=hidOf (Chg.out hc (Hw.out.trans O1.out) (fun k hk=>by rw [hk];omega));have Z2:=hidOf ((hc.block w.heap.size (Array.getElem?_eq_some_iff.1 B1.out).1 (fun e=>by omega)).trans B1.out);clear hp hc) | (go_at_call 77;refine (CP.out _ O2.out).mono ?_;rintro e w3 ⟨rfl,ho⟩;have O3:=hidOf ho;have Z3:=hidOf ((ho.block _ (Array.getElem?_eq_some_iff.1 Z2.out).1).trans Z2.out);clear ho))
  obtain ⟨w4,hw4⟩:∃ w4,w4=w3.alloc (.cells #[.int .i64 o,.int .i64 d,.int .i64 s,.int .i64 f,.int .i64 i] 40):=⟨_,rfl⟩
  have O4:Hid (Out w3 w4):=hidOf (by rw [hw4];exact (Out.refl w3).alloc _)
  have b4:w4.heap[w3.heap.size]? = some (.cells #[.int .i64 o,.int .i64 d,.int .i64 s,.int .i64 f,.int .i64 i] 40 (0,0)):=by rw [hw4];exact heap_alloc_new w3 _
  rw [<-hw4]
  clear hw4 b4
  go_wp2
  exact ⟨rfl,rfl,(P2.out.out O3.out).out O4.out,Chg.then2 (Chg.then2 (Chg.of_out O1.out) C2.out) (Chg.of_out (O3.out.trans O4.out))⟩
end Go.Proofs.YtadneimllbfdnaaGreatDoor
