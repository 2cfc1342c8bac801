import Derived.Test.YtadneimllbfdnaaGreatDoorGu42
import Derived.Test.YtadneimllbfdnaaGreatDoorGu43
namespace Go.Proofs.YtadneimllbfdnaaGreatDoor
open Go.RowKit
set_option linter.unusedVariables false
set_option linter.unusedSimpArgs false
theorem row_wl:∀ r ∈ rowsAll,r.w.length<=16/\r.imm<=1000/\(r.sh=11->r.op=24)/\r.off<=1000:=by decide +kernel
theorem find_bd {o d s f i:Int} {r:Rw} (h:findR o d s f i=some r):r ∈ rowsAll/\(0<=d/\d<=10)/\(0<=s/\s<=10)/\(o=133->i<9223372036854775807):=by
 have h1:=List.find?_some h
 have h2:r ∈ rowsAll:=(List.mem_filter.1 (List.mem_of_find?_eq_some h)).1
 obtain ⟨p1,p2,p3,p4⟩:=row_wl r h2
 rw [Bool.and_eq_true] at h1
 obtain ⟨ho,hl⟩:=h1
 unfold lawR at hl
 simp only [Bool.and_eq_true,Bool.or_eq_true,beq_iff_eq,inR,decide_eq_true_eq,Bool.not_eq_true'] at hl
 obtain ⟨⟨⟨h3,h4⟩,h5⟩,h6⟩:=hl
 refine ⟨h2,by omega,by omega,fun h133=>?_⟩
 by_cases h11:r.sh=11
 ·
  unfold ofR at ho
  have:=p3 h11
  simp [h11] at ho
  omega
 · omega
set_option maxRecDepth 20000 in
set_option maxHeartbeats 4000000 in
theorem rprint4_any (o d s f i:Int) (t:List UInt8) (hl:t.length<=140737488355328) (o0 : -9223372036854775808<=o) (o1:o<9223372036854775808) (f0 : -9223372036854775808<=f) (f1:f<9223372036854775808) (i0 : -9223372036854775808<=i) (i1:i<9223372036854775808) (w:World):Calls Tryz.prog 37 #[.agg #[.int .i64 o,.int .i64 d,.int .i64 s,.int .i64 f,.int .i64 i],.string ⟨t.toArray⟩] w fun e w'=>e=.returned (.tuple #[.string ⟨(rprintP o d s f i t).1.toArray⟩,.int .i64 (rprintP o d s f i t).2])/\Out w w':=by
 have CF:=hidOf (fun wx=>find4_any o d s f i wx)
 obtain ⟨RP,hRP⟩:∃ RP,rprintP o d s f i t=RP:=⟨_,rfl⟩
 have HRP:=hidOf hRP
 rw [hRP]
 clear hRP
 go_enter Tryz.func37,Tryz.ntmps37
 go_upto_region 1 with fail
 obtain ⟨wb,hwb⟩:∃ wb,wb=w.alloc (.cells #[.int .i64 o,.int .i64 d,.int .i64 s,.int .i64 f,.int .i64 i] 40):=⟨_,rfl⟩
 obtain ⟨q,hq⟩:∃ q,q=w.heap.size:=⟨_,rfl⟩
 have ob:Out w wb:=by rw [hwb];exact (Out.refl w).alloc _
 have hb:wb.heap[q]? = some (.cells #[.int .i64 o,.int .i64 d,.int .i64 s,.int .i64 f,.int .i64 i] 40 (0,0)):=by rw [hwb,hq];exact heap_alloc_new w _
 have HB:=hidOf (fun wx (ox:Out wb wx)=>blk_out ox hb)
 have OB:=hidOf ob
 rw [<-hwb, <-hq]
 have e0:wb.cell? ⟨q,0,none⟩=some (.int .i64 o):=by rw [cell_atL hb];rfl
 have e1:wb.cell? ⟨q,1,none⟩=some (.int .i64 d):=by rw [cell_atL hb];rfl
 have e2:wb.cell? ⟨q,2,none⟩=some (.int .i64 s):=by rw [cell_atL hb];rfl
 have e3:wb.cell? ⟨q,3,none⟩=some (.int .i64 f):=by rw [cell_atL hb];rfl
 have e4:wb.cell? ⟨q,4,none⟩=some (.int .i64 i):=by rw [cell_atL hb];rfl
 clear hwb hq ob hb
 cases hfd:findR o d s f i with
 | none=>
  have HE:Hid (RP=([],if (pickO o).isEmpty then 20 else 21)):=hidOf (by rw [<-HRP.out];unfold rprintP;rw [hfd])
  rw [hfd] at CF
  have CG:Hid (∀ wx,Calls Tryz.prog 63 #[.agg #[.int .i64 o,.int .i64 d,.int .i64 s,.int .i64 f,.int .i64 i]] wx fun e w'=>e=.returned (.tuple #[.agg #[.string ⟨#[]⟩,.int .i64 0,.int .i64 0,.int .i64 0,.int .i64 0],.int .i64 (if (pickO o).isEmpty then 20 else 21)])/\Out wx w'):=hidOf (fun wx=>(CF.out wx).mono (by
   rintro e w' ⟨h | h,ho⟩
   · obtain ⟨r,hr,_⟩:=h;cases hr
   · exact ⟨h.2,ho⟩))
  clear CF HRP hfd
  obtain ⟨ec,hec⟩:∃ ec:Int,(if (pickO o).isEmpty then 20 else 21)=ec:=⟨_,rfl⟩
  have hn0:¬ec=0:=by rw [<-hec];split <;> omega
  have hnb:(ec != 0)=true:=by simp [hn0]
  rw [hec] at HE CG
  clear hec
  go_upto_region 2 with (go_at_call 63;refine (CG.out _).mono ?_;rintro e w1 ⟨rfl,ho⟩;have O1:=hidOf ho;clear ho)
  go_wp2
  go_ret2
  refine ⟨by rw [HE.out];rfl, ?_⟩
  exact Out.trans OB.out (O1.out.alloc _)
 | some r=>
  obtain ⟨hmem,⟨d0,d1⟩,⟨s0,s1⟩,h133⟩:=find_bd hfd
  obtain ⟨pl,_,_,_⟩:=row_wl r hmem
  obtain ⟨_,_,p2,p3⟩:=row_bd r hmem
  have HE:Hid (RP=if ((tgtR o s f i).1 && (!nameP t || (tgtR o s f i).2 != 0) || !(tgtR o s f i).1 && !t.isEmpty)=true then ([],41) else (lineR r o d s f i t,0)):=hidOf (by rw [<-HRP.out];unfold rprintP;rw [hfd])
  rw [hfd] at CF
  obtain ⟨L,sh,op,off,imm⟩:=r
  simp only at pl p2 p3
  have CG:Hid (∀ wx,Calls Tryz.prog 63 #[.agg #[.int .i64 o,.int .i64 d,.int .i64 s,.int .i64 f,.int .i64 i]] wx fun e w'=>e=.returned (.tuple #[.agg #[.string ⟨L.toArray⟩,.int .i64 sh,.int .i64 op,.int .i64 off,.int .i64 imm],.int .i64 0])/\Out wx w'):=hidOf (fun wx=>(CF.out wx).mono (by
   rintro e w' ⟨h | h,ho⟩
   ·
    obtain ⟨r,hr,h⟩:=h
    cases hr
    exact ⟨h,ho⟩
   · cases h.1))
  clear CF HRP hfd hmem
  have CT:=hidOf (fun wx=>targeted4_any o d s f i o0 o1 i0 h133 wx)
  have CN:=hidOf (fun wx=>name4_any t wx (by omega))
  have CI:=hidOf (fun wx=>Decimal_any i i0 i1 wx)
  have CW:=hidOf (fun wx=>two4_any L sh op off imm wx)
  have CRd:=hidOf (fun wx=>register4_any d d0 d1 wx)
  have CRs:=hidOf (fun wx=>register4_any s s0 s1 wx)
  have CPd:=hidOf (fun wx=>place4_any d f d0 d1 f0 f1 wx)
  have CPs:=hidOf (fun wx=>place4_any s f s0 s1 f0 f1 wx)
  have lRd:(regL d.toNat).length<=3:=regL_len4 ⟨d.toNat,by omega⟩
  have lRs:(regL s.toNat).length<=3:=regL_len4 ⟨s.toNat,by omega⟩
  have lI:=itoa_len4 i i0 i1
  have lF:=itoa_len4 f f0 f1
  have lPd:(placeTx d.toNat f).length<=60:=by unfold placeTx;split <;> simp <;> omega
  have lPs:(placeTx s.toNat f).length<=60:=by unfold placeTx;split <;> simp <;> omega
  obtain ⟨S2,hS2⟩:∃ S2,(if (twoR ⟨L,sh,op,off,imm⟩ && o != op)=true then regL s.toNat else Lib.itoa i)=S2:=⟨_,rfl⟩
  have lS2:S2.length<=21:=by rw [<-hS2];split <;> omega
  have HE2:Hid (∀ X,(if ((tgtR o s f i).1 && (!nameP t || (tgtR o s f i).2 != 0) || !(tgtR o s f i).1 && !t.isEmpty)=true then (([],41):List UInt8 × Int) else (X,0))=(if ((tgtR o s f i).1 && (!nameP t || (tgtR o s f i).2 != 0) || !(tgtR o s f i).1 && !t.isEmpty)=true then ([],41) else (X,0))):=hidOf (fun _=>rfl)
  unfold lineR at HE
  simp only at HE
  rw [hS2] at HE
  have HS2:=hidOf hS2
  clear hS2 HE2 lF
  unfold placeR at HE
  generalize regL d.toNat=Rd at *
  generalize regL s.toNat=Rs at *
  generalize Lib.itoa i=It at *
  generalize placeTx d.toNat f=Pd at *
  generalize placeTx s.toNat f=Ps at *
  generalize (tgtR o s f i).1=th at *
  generalize (tgtR o s f i).2=tf at *
  generalize nameP t=nm at *
  generalize hbad:(th && (!nm || tf != 0) || !th && !t.isEmpty)=BAD at HE
  have HBAD:=hidOf hbad
  generalize htw:twoR ⟨L,sh,op,off,imm⟩=tw at *
  clear hbad htw o0 o1 f0 f1 i0 i1 d0 d1 s0 s1 h133
  go_upto_region 2 with (go_at_call 63;refine (CG.out _).mono ?_;rintro e w1 ⟨rfl,ho⟩;have O1:=hidOf ho;clear ho)
  obtain ⟨wC,hwC⟩:∃ wC,wC=w1.alloc (.cells #[.string ⟨L.toArray⟩,.int .i64 sh,.int .i64 op,.int .i64 off,.int .i64 imm] 111):=⟨_,rfl⟩
  obtain ⟨qr,hqr⟩:∃ qr,qr=w1.heap.size:=⟨_,rfl⟩
  have oC:Out w1 wC:=by rw [hwC];exact (Out.refl w1).alloc _
  have hr:wC.heap[qr]? = some (.cells #[.string ⟨L.toArray⟩,.int .i64 sh,.int .i64 op,.int .i64 off,.int .i64 imm] 111 (0,0)):=by rw [hwC,hqr];exact heap_alloc_new w1 _
  have hi:=HB.out wC (O1.out.trans oC)
  have HC:Hid (∀ wx,Out wC wx->wx.cell? ⟨q,0,none⟩=some (.int .i64 o)/\wx.cell? ⟨q,1,none⟩=some (.int .i64 d)/\wx.cell? ⟨q,2,none⟩=some (.int .i64 s)/\wx.cell? ⟨q,3,none⟩=some (.int .i64 f)/\wx.cell? ⟨q,4,none⟩=some (.int .i64 i)/\wx.cell? ⟨qr,0,none⟩=some (.string ⟨L.toArray⟩)/\wx.cell? ⟨qr,1,none⟩=some (.int .i64 sh)/\wx.cell? ⟨qr,2,none⟩=some (.int .i64 op)/\wx.cell? ⟨qr,3,none⟩=some (.int .i64 off)/\wx.cell? ⟨qr,4,none⟩=some (.int .i64 imm)):=hidOf (fun wx ox=>⟨by rw [cell_atL (blk_out ox hi)];rfl,by rw [cell_atL (blk_out ox hi)];rfl,by rw [cell_atL (blk_out ox hi)];rfl,by rw [cell_atL (blk_out ox hi)];rfl,by rw [cell_atL (blk_out ox hi)];rfl,by rw [cell_atL (blk_out ox hr)];rfl,by rw [cell_atL (blk_out ox hr)];rfl,by rw [cell_atL (blk_out ox hr)];rfl,by rw [cell_atL (blk_out ox hr)];rfl,by rw [cell_atL (blk_out ox hr)];rfl⟩)
  have OC:=hidOf (OB.out.trans (O1.out.trans oC))
  rw [<-hwC, <-hqr]
  clear hwC hqr oC hr hi e0 e1 e2 e3 e4 HB OB O1
  obtain ⟨x0,x1,x2,x3,x4,y0,y1,y2,y3,y4⟩:=HC.out wC (Out.refl wC)
  go_upto_region 5 with (go_at_call 64;refine (CT.out _).mono ?_;rintro e w2 ⟨rfl,ho⟩;have O2:=hidOf ho;clear ho)
  go_cut [41] (fun v wx=>v=.bool BAD/\w2=wx)
  case first=>
   clear x0 x1 x2 x3 x4 y0 y1 y2 y3 y4
   cases th
   ·
    cases t with
    | nil=>
     go_wp2
     go_meet
     exact ⟨by rw [<-HBAD.out];rfl,rfl⟩
    | cons c r=>
     go_wp2
     go_meet
     exact ⟨by rw [<-HBAD.out];rfl,rfl⟩
   ·
    cases nm
    ·
     go_wp2_with (go_at_call 38;refine (CN.out _).mono ?_;rintro e wn ⟨rfl,hw⟩;subst hw)
     go_meet
     exact ⟨by rw [<-HBAD.out];rfl,rfl⟩
    ·
     cases hz:(tf != 0)
     ·
      go_wp2_with (go_at_call 38;refine (CN.out _).mono ?_;rintro e wn ⟨rfl,hw⟩;subst hw)
      go_meet
      exact ⟨by rw [<-HBAD.out,hz];rfl,rfl⟩
     ·
      go_wp2_with (go_at_call 38;refine (CN.out _).mono ?_;rintro e wn ⟨rfl,hw⟩;subst hw)
      go_meet
      exact ⟨by rw [<-HBAD.out,hz];rfl,rfl⟩
  case rest=>
   obtain ⟨rfl,rfl⟩:=hcut
   cases BAD
   case true=>
    rw [if_pos rfl] at HE
    go_wp2
    go_ret2
    exact ⟨by rw [HE.out];rfl,OC.out.trans O2.out⟩
   case false=>
    rw [if_neg (by decide)] at HE
    clear x0 x1 x2 x3 x4 y0 y1 y2 y3 y4 HBAD CT CN CG
    obtain ⟨x0,x1,x2,x3,x4,y0,y1,y2,y3,y4⟩:=HC.out w2 O2.out
    go_upto_region 8 with (go_at_call 65;refine (CI.out _).mono ?_;rintro e w3 ⟨rfl,ho⟩;have O3:=hidOf (O2.out.trans ho);clear ho)
    clear x0 x1 x2 x3 x4 y0 y1 y2 y3 y4
    obtain ⟨x0,x1,x2,x3,x4,y0,y1,y2,y3,y4⟩:=HC.out w3 O3.out
    go_cut [53] (fun v wx=>v=.bool (tw && o != op)/\Hid (Out wC wx))
    case first=>
     cases tw
     ·
      go_wp2_with (go_at_call 66;refine (CW.out _).mono ?_;rintro e w4 ⟨rfl,ho⟩;have O4:=hidOf (O3.out.trans ho);clear ho)
      go_meet
      exact ⟨rfl,O4⟩
     ·
      go_wp2_with (go_at_call 66;refine (CW.out _).mono ?_;rintro e w4 ⟨rfl,ho⟩;have O4:=hidOf (O3.out.trans ho);clear ho x0 x1 x2 x3 x4 y0 y1 y2 y3 y4;obtain ⟨x0,x1,x2,x3,x4,y0,y1,y2,y3,y4⟩:=HC.out w4 O4.out)
      go_meet
      exact ⟨by first | rfl | simp,O4⟩
    case rest=>
     obtain ⟨rfl,O4⟩:=hcut
     clear x0 x1 x2 x3 x4 y0 y1 y2 y3 y4
     obtain ⟨x0,x1,x2,x3,x4,y0,y1,y2,y3,y4⟩:=HC.out wc O4.out
     go_upto_if 53 with fail
     go_cut [10] (fun v wx=>v=.string ⟨S2.toArray⟩/\Hid (Out wC wx))
     case first=>
      cases hc2:(tw && o != op)
      ·
       have e2:Hid (It=S2):=hidOf (by have:=HS2.out;rw [hc2] at this;exact this)
       go_wp2
       go_meet
       exact ⟨by rw [e2.out],O4⟩
      ·
       have e2:Hid (Rs=S2):=hidOf (by have:=HS2.out;rw [hc2] at this;exact this)
       go_wp2_with (go_at_call 67;refine (CRs.out _).mono ?_;rintro e w5 ⟨rfl,ho⟩;have O5:=hidOf (O4.out.trans ho);clear ho)
       go_meet
       exact ⟨by rw [e2.out],O5⟩
     case rest=>
      clear x0 x1 x2 x3 x4 y0 y1 y2 y3 y4
      obtain ⟨rfl,O5⟩:=hcut
      clear HS2 CI CW O4 lI
      have HC0:=HC.out wc O5.out
      have hsh:sh=1\/sh=2\/sh=3\/sh=4\/sh=5\/sh=6\/sh=7\/sh=8\/sh=9\/sh=10\/sh=11\/sh=12:=by omega
      clear p2 p3
      rcases hsh with rfl | rfl | rfl | rfl | rfl | rfl | rfl | rfl | rfl | rfl | rfl | rfl
      ·
       have hE:=HE.out
       simp at hE
       obtain ⟨z64,ez64⟩:∃ Z,Z=L++[32]:=⟨_,rfl⟩
       have lz64:z64.length<=17:=by rw [ez64];simp;omega
       have az64:∀ w,(Op.stringOp .add ⟨L.toArray⟩ ⟨#[32]⟩).run Tryz.prog w=.ok (.string ⟨z64.toArray⟩) w:=add_l4 L [32] z64 ez64 (by first | omega | (simp;omega))
       obtain ⟨z68,ez68⟩:∃ Z,Z=z64++Rd:=⟨_,rfl⟩
       have lz68:z68.length<=20:=by rw [ez68];simp;omega
       have az68:∀ w,(Op.stringOp .add ⟨z64.toArray⟩ ⟨Rd.toArray⟩).run Tryz.prog w=.ok (.string ⟨z68.toArray⟩) w:=add_l4 z64 Rd z68 ez68 (by first | omega | (simp;omega))
       obtain ⟨z69,ez69⟩:∃ Z,Z=z68++[44,32]:=⟨_,rfl⟩
       have lz69:z69.length<=22:=by rw [ez69];simp;omega
       have az69:∀ w,(Op.stringOp .add ⟨z68.toArray⟩ ⟨#[44,32]⟩).run Tryz.prog w=.ok (.string ⟨z69.toArray⟩) w:=add_l4 z68 [44,32] z69 ez69 (by first | omega | (simp;omega))
       obtain ⟨z71,ez71⟩:∃ Z,Z=z69++S2:=⟨_,rfl⟩
       have lz71:z71.length<=43:=by rw [ez71];simp;omega
       have az71:∀ w,(Op.stringOp .add ⟨z69.toArray⟩ ⟨S2.toArray⟩).run Tryz.prog w=.ok (.string ⟨z71.toArray⟩) w:=add_l4 z69 S2 z71 ez71 (by first | omega | (simp;omega))
       have HZ:Hid (RP=(z71,0)):=hidOf (by rw [hE,ez71,ez69,ez68,ez64];simp)
       clear hE HE ez64 lz64 ez68 lz68 ez69 lz69 ez71 lz71
       obtain ⟨x0,x1,x2,x3,x4,y0,y1,y2,y3,y4⟩:=HC.out wc O5.out
       go_upto_region 13 with fail
       clear x0 x1 x2 x3 x4 y0 y1 y2 y3 y4
       refine wp_region_held_drew (S:=(fun w'=>w'.cell? ⟨q,0,none⟩=some (.int .i64 o)/\w'.cell? ⟨q,1,none⟩=some (.int .i64 d)/\w'.cell? ⟨q,2,none⟩=some (.int .i64 s)/\w'.cell? ⟨q,3,none⟩=some (.int .i64 f)/\w'.cell? ⟨q,4,none⟩=some (.int .i64 i)/\w'.cell? ⟨qr,0,none⟩=some (.string ⟨L.toArray⟩)/\w'.cell? ⟨qr,1,none⟩=some (.int .i64 1)/\w'.cell? ⟨qr,2,none⟩=some (.int .i64 op)/\w'.cell? ⟨qr,3,none⟩=some (.int .i64 off)/\w'.cell? ⟨qr,4,none⟩=some (.int .i64 imm))) (by kernel_rfl) ?_ (fun hHeld=>?_)
       · exact HC0
       refine tkLB [0,1,2,3,4,8] ?_
       iterate 6 (refine tkLC (v:=?_) rfl rfl (by kernel_rfl) (by kernel_rfl) (by kernel_rfl) (fun _ _ _ h=>h) (by rfl) (by assumption) ?_ ?_;rotate_left;(· (intro w hSw;(try dsimp only at hSw);go_simp;(try with_reducible rfl)));simp only [Act.put,List.setIfInBounds_toArray,List.set_cons_zero,List.set_cons_succ])
       refine tkLE ?_
       refine wpAnyH_ready (rs:=[5]) (by kernel_rfl) (by simp) ?_
       refine AllReadyH.cons rfl (fun K5 hK5=>?_) AllReadyH.nil
       rw [if_pos (by rfl)]
       go_simp
       go_at_call 67
       refine (CRd.out _).mono ?_
       rintro e ua ⟨rfl,h2⟩
       have P1:=hidOf (Out.trans ((Out.refl wc).dN 1) h2)
       have HC1:=HC.out ua (O5.out.trans P1.out)
       refine hK5.out _ _ HC1 (fun hHeld5=>?_)
       clear h2
       refine tkLB [6,7,9,10,11] ?_
       iterate 5 (refine tkLC (v:=?_) rfl rfl (by kernel_rfl) (by kernel_rfl) (by kernel_rfl) (fun _ _ _ h=>h) (by rfl) (by assumption) ?_ ?_;rotate_left;(· (intro w hSw;(try dsimp only at hSw);go_simp;(try with_reducible rfl)));simp only [Act.put,List.setIfInBounds_toArray,List.set_cons_zero,List.set_cons_succ])
       refine tkLE ?_
       refine wpAnyH_done (by kernel_rfl) ?_ _
       go_wp2
       go_ret2
       exact ⟨by rw [HZ.out];rfl,OC.out.trans (O5.out.trans P1.out)⟩
      ·
       have hE:=HE.out
       simp at hE
       obtain ⟨z76,ez76⟩:∃ Z,Z=L++[32]:=⟨_,rfl⟩
       have lz76:z76.length<=17:=by rw [ez76];simp;omega
       have az76:∀ w,(Op.stringOp .add ⟨L.toArray⟩ ⟨#[32]⟩).run Tryz.prog w=.ok (.string ⟨z76.toArray⟩) w:=add_l4 L [32] z76 ez76 (by first | omega | (simp;omega))
       obtain ⟨z80,ez80⟩:∃ Z,Z=z76++Rd:=⟨_,rfl⟩
       have lz80:z80.length<=20:=by rw [ez80];simp;omega
       have az80:∀ w,(Op.stringOp .add ⟨z76.toArray⟩ ⟨Rd.toArray⟩).run Tryz.prog w=.ok (.string ⟨z80.toArray⟩) w:=add_l4 z76 Rd z80 ez80 (by first | omega | (simp;omega))
       obtain ⟨z81,ez81⟩:∃ Z,Z=z80++[44,32]:=⟨_,rfl⟩
       have lz81:z81.length<=22:=by rw [ez81];simp;omega
       have az81:∀ w,(Op.stringOp .add ⟨z80.toArray⟩ ⟨#[44,32]⟩).run Tryz.prog w=.ok (.string ⟨z81.toArray⟩) w:=add_l4 z80 [44,32] z81 ez81 (by first | omega | (simp;omega))
       obtain ⟨z85,ez85⟩:∃ Z,Z=z81++Rs:=⟨_,rfl⟩
       have lz85:z85.length<=25:=by rw [ez85];simp;omega
       have az85:∀ w,(Op.stringOp .add ⟨z81.toArray⟩ ⟨Rs.toArray⟩).run Tryz.prog w=.ok (.string ⟨z85.toArray⟩) w:=add_l4 z81 Rs z85 ez85 (by first | omega | (simp;omega))
       have HZ:Hid (RP=(z85,0)):=hidOf (by rw [hE,ez85,ez81,ez80,ez76];simp)
       clear hE HE ez76 lz76 ez80 lz80 ez81 lz81 ez85 lz85
       obtain ⟨x0,x1,x2,x3,x4,y0,y1,y2,y3,y4⟩:=HC.out wc O5.out
       go_upto_region 15 with fail
       clear x0 x1 x2 x3 x4 y0 y1 y2 y3 y4
       refine wp_region_held_drew (S:=(fun w'=>w'.cell? ⟨q,0,none⟩=some (.int .i64 o)/\w'.cell? ⟨q,1,none⟩=some (.int .i64 d)/\w'.cell? ⟨q,2,none⟩=some (.int .i64 s)/\w'.cell? ⟨q,3,none⟩=some (.int .i64 f)/\w'.cell? ⟨q,4,none⟩=some (.int .i64 i)/\w'.cell? ⟨qr,0,none⟩=some (.string ⟨L.toArray⟩)/\w'.cell? ⟨qr,1,none⟩=some (.int .i64 2)/\w'.cell? ⟨qr,2,none⟩=some (.int .i64 op)/\w'.cell? ⟨qr,3,none⟩=some (.int .i64 off)/\w'.cell? ⟨qr,4,none⟩=some (.int .i64 imm))) (by kernel_rfl) ?_ (fun hHeld=>?_)
       · exact HC0
       refine tkLB [0,1,2,3,4,8,9] ?_
       iterate 7 (refine tkLC (v:=?_) rfl rfl (by kernel_rfl) (by kernel_rfl) (by kernel_rfl) (fun _ _ _ h=>h) (by rfl) (by assumption) ?_ ?_;rotate_left;(· (intro w hSw;(try dsimp only at hSw);go_simp;(try with_reducible rfl)));simp only [Act.put,List.setIfInBounds_toArray,List.set_cons_zero,List.set_cons_succ])
       refine tkLE ?_
       refine wpAnyH_ready (rs:=[5]) (by kernel_rfl) (by simp) ?_
       refine AllReadyH.cons rfl (fun K5 hK5=>?_) AllReadyH.nil
       rw [if_pos (by rfl)]
       go_simp
       go_at_call 67
       refine (CRd.out _).mono ?_
       rintro e ua ⟨rfl,h2⟩
       have P1:=hidOf (Out.trans ((Out.refl wc).dN 1) h2)
       have HC1:=HC.out ua (O5.out.trans P1.out)
       refine hK5.out _ _ HC1 (fun hHeld5=>?_)
       clear h2
       refine tkLB [6,7] ?_
       iterate 2 (refine tkLC (v:=?_) rfl rfl (by kernel_rfl) (by kernel_rfl) (by kernel_rfl) (fun _ _ _ h=>h) (by rfl) (by assumption) ?_ ?_;rotate_left;(· (intro w hSw;(try dsimp only at hSw);go_simp;(try with_reducible rfl)));simp only [Act.put,List.setIfInBounds_toArray,List.set_cons_zero,List.set_cons_succ])
       refine tkLE ?_
       refine wpAnyH_ready (rs:=[10]) (by kernel_rfl) (by simp) ?_
       refine AllReadyH.cons rfl (fun K10 hK10=>?_) AllReadyH.nil
       rw [if_pos (by rfl)]
       go_simp
       go_at_call 67
       refine (CRs.out _).mono ?_
       rintro e ub ⟨rfl,h2⟩
       have P2:=hidOf (Out.trans (P1.out) h2)
       have HC2:=HC.out ub (O5.out.trans P2.out)
       refine hK10.out _ _ HC2 (fun hHeld10=>?_)
       clear h2
       refine tkLB [11,12,13] ?_
       iterate 3 (refine tkLC (v:=?_) rfl rfl (by kernel_rfl) (by kernel_rfl) (by kernel_rfl) (fun _ _ _ h=>h) (by rfl) (by assumption) ?_ ?_;rotate_left;(· (intro w hSw;(try dsimp only at hSw);go_simp;(try with_reducible rfl)));simp only [Act.put,List.setIfInBounds_toArray,List.set_cons_zero,List.set_cons_succ])
       refine tkLE ?_
       refine wpAnyH_done (by kernel_rfl) ?_ _
       go_wp2
       go_ret2
       exact ⟨by rw [HZ.out];rfl,OC.out.trans (O5.out.trans P2.out)⟩
      ·
       have hE:=HE.out
       simp at hE
       obtain ⟨z90,ez90⟩:∃ Z,Z=L++[32]:=⟨_,rfl⟩
       have lz90:z90.length<=17:=by rw [ez90];simp;omega
       have az90:∀ w,(Op.stringOp .add ⟨L.toArray⟩ ⟨#[32]⟩).run Tryz.prog w=.ok (.string ⟨z90.toArray⟩) w:=add_l4 L [32] z90 ez90 (by first | omega | (simp;omega))
       obtain ⟨z94,ez94⟩:∃ Z,Z=z90++Rd:=⟨_,rfl⟩
       have lz94:z94.length<=20:=by rw [ez94];simp;omega
       have az94:∀ w,(Op.stringOp .add ⟨z90.toArray⟩ ⟨Rd.toArray⟩).run Tryz.prog w=.ok (.string ⟨z94.toArray⟩) w:=add_l4 z90 Rd z94 ez94 (by first | omega | (simp;omega))
       have HZ:Hid (RP=(z94,0)):=hidOf (by rw [hE,ez94,ez90];simp)
       clear hE HE ez90 lz90 ez94 lz94
       obtain ⟨x0,x1,x2,x3,x4,y0,y1,y2,y3,y4⟩:=HC.out wc O5.out
       go_upto_region 17 with fail
       clear x0 x1 x2 x3 x4 y0 y1 y2 y3 y4
       refine wp_region_held_drew (S:=(fun w'=>w'.cell? ⟨q,0,none⟩=some (.int .i64 o)/\w'.cell? ⟨q,1,none⟩=some (.int .i64 d)/\w'.cell? ⟨q,2,none⟩=some (.int .i64 s)/\w'.cell? ⟨q,3,none⟩=some (.int .i64 f)/\w'.cell? ⟨q,4,none⟩=some (.int .i64 i)/\w'.cell? ⟨qr,0,none⟩=some (.string ⟨L.toArray⟩)/\w'.cell? ⟨qr,1,none⟩=some (.int .i64 3)/\w'.cell? ⟨qr,2,none⟩=some (.int .i64 op)/\w'.cell? ⟨qr,3,none⟩=some (.int .i64 off)/\w'.cell? ⟨qr,4,none⟩=some (.int .i64 imm))) (by kernel_rfl) ?_ (fun hHeld=>?_)
       · exact HC0
       refine tkLB [0,1,2,3,4] ?_
       iterate 5 (refine tkLC (v:=?_) rfl rfl (by kernel_rfl) (by kernel_rfl) (by kernel_rfl) (fun _ _ _ h=>h) (by rfl) (by assumption) ?_ ?_;rotate_left;(· (intro w hSw;(try dsimp only at hSw);go_simp;(try with_reducible rfl)));simp only [Act.put,List.setIfInBounds_toArray,List.set_cons_zero,List.set_cons_succ])
       refine tkLE ?_
       refine wpAnyH_ready (rs:=[5]) (by kernel_rfl) (by simp) ?_
       refine AllReadyH.cons rfl (fun K5 hK5=>?_) AllReadyH.nil
       rw [if_pos (by rfl)]
       go_simp
       go_at_call 67
       refine (CRd.out _).mono ?_
       rintro e ua ⟨rfl,h2⟩
       have P1:=hidOf (Out.trans ((Out.refl wc).dN 1) h2)
       have HC1:=HC.out ua (O5.out.trans P1.out)
       refine hK5.out _ _ HC1 (fun hHeld5=>?_)
       clear h2
       refine tkLB [6,7,8] ?_
       iterate 3 (refine tkLC (v:=?_) rfl rfl (by kernel_rfl) (by kernel_rfl) (by kernel_rfl) (fun _ _ _ h=>h) (by rfl) (by assumption) ?_ ?_;rotate_left;(· (intro w hSw;(try dsimp only at hSw);go_simp;(try with_reducible rfl)));simp only [Act.put,List.setIfInBounds_toArray,List.set_cons_zero,List.set_cons_succ])
       refine tkLE ?_
       refine wpAnyH_done (by kernel_rfl) ?_ _
       go_wp2
       go_ret2
       exact ⟨by rw [HZ.out];rfl,OC.out.trans (O5.out.trans P1.out)⟩
      ·
       have hE:=HE.out
       simp at hE
       obtain ⟨z99,ez99⟩:∃ Z,Z=L++[32]:=⟨_,rfl⟩
       have lz99:z99.length<=17:=by rw [ez99];simp;omega
       have az99:∀ w,(Op.stringOp .add ⟨L.toArray⟩ ⟨#[32]⟩).run Tryz.prog w=.ok (.string ⟨z99.toArray⟩) w:=add_l4 L [32] z99 ez99 (by first | omega | (simp;omega))
       obtain ⟨z103,ez103⟩:∃ Z,Z=z99++Rd:=⟨_,rfl⟩
       have lz103:z103.length<=20:=by rw [ez103];simp;omega
       have az103:∀ w,(Op.stringOp .add ⟨z99.toArray⟩ ⟨Rd.toArray⟩).run Tryz.prog w=.ok (.string ⟨z103.toArray⟩) w:=add_l4 z99 Rd z103 ez103 (by first | omega | (simp;omega))
       obtain ⟨z104,ez104⟩:∃ Z,Z=z103++[44,32]:=⟨_,rfl⟩
       have lz104:z104.length<=22:=by rw [ez104];simp;omega
       have az104:∀ w,(Op.stringOp .add ⟨z103.toArray⟩ ⟨#[44,32]⟩).run Tryz.prog w=.ok (.string ⟨z104.toArray⟩) w:=add_l4 z103 [44,32] z104 ez104 (by first | omega | (simp;omega))
       obtain ⟨z110,ez110⟩:∃ Z,Z=z104++Ps:=⟨_,rfl⟩
       have lz110:z110.length<=82:=by rw [ez110];simp;omega
       have az110:∀ w,(Op.stringOp .add ⟨z104.toArray⟩ ⟨Ps.toArray⟩).run Tryz.prog w=.ok (.string ⟨z110.toArray⟩) w:=add_l4 z104 Ps z110 ez110 (by first | omega | (simp;omega))
       have HZ:Hid (RP=(z110,0)):=hidOf (by rw [hE,ez110,ez104,ez103,ez99];simp)
       clear hE HE ez99 lz99 ez103 lz103 ez104 lz104 ez110 lz110
       obtain ⟨x0,x1,x2,x3,x4,y0,y1,y2,y3,y4⟩:=HC.out wc O5.out
       go_upto_region 19 with fail
       clear x0 x1 x2 x3 x4 y0 y1 y2 y3 y4
       refine wp_region_held_drew (S:=(fun w'=>w'.cell? ⟨q,0,none⟩=some (.int .i64 o)/\w'.cell? ⟨q,1,none⟩=some (.int .i64 d)/\w'.cell? ⟨q,2,none⟩=some (.int .i64 s)/\w'.cell? ⟨q,3,none⟩=some (.int .i64 f)/\w'.cell? ⟨q,4,none⟩=some (.int .i64 i)/\w'.cell? ⟨qr,0,none⟩=some (.string ⟨L.toArray⟩)/\w'.cell? ⟨qr,1,none⟩=some (.int .i64 4)/\w'.cell? ⟨qr,2,none⟩=some (.int .i64 op)/\w'.cell? ⟨qr,3,none⟩=some (.int .i64 off)/\w'.cell? ⟨qr,4,none⟩=some (.int .i64 imm))) (by kernel_rfl) ?_ (fun hHeld=>?_)
       · exact HC0
       refine tkLB [0,1,2,3,4,8,9,10,11] ?_
       iterate 9 (refine tkLC (v:=?_) rfl rfl (by kernel_rfl) (by kernel_rfl) (by kernel_rfl) (fun _ _ _ h=>h) (by rfl) (by assumption) ?_ ?_;rotate_left;(· (intro w hSw;(try dsimp only at hSw);go_simp;(try with_reducible rfl)));simp only [Act.put,List.setIfInBounds_toArray,List.set_cons_zero,List.set_cons_succ])
       refine tkLE ?_
       refine wpAnyH_ready (rs:=[5]) (by kernel_rfl) (by simp) ?_
       refine AllReadyH.cons rfl (fun K5 hK5=>?_) AllReadyH.nil
       rw [if_pos (by rfl)]
       go_simp
       go_at_call 67
       refine (CRd.out _).mono ?_
       rintro e ua ⟨rfl,h2⟩
       have P1:=hidOf (Out.trans ((Out.refl wc).dN 1) h2)
       have HC1:=HC.out ua (O5.out.trans P1.out)
       refine hK5.out _ _ HC1 (fun hHeld5=>?_)
       clear h2
       refine tkLB [6,7] ?_
       iterate 2 (refine tkLC (v:=?_) rfl rfl (by kernel_rfl) (by kernel_rfl) (by kernel_rfl) (fun _ _ _ h=>h) (by rfl) (by assumption) ?_ ?_;rotate_left;(· (intro w hSw;(try dsimp only at hSw);go_simp;(try with_reducible rfl)));simp only [Act.put,List.setIfInBounds_toArray,List.set_cons_zero,List.set_cons_succ])
       refine tkLE ?_
       refine wpAnyH_ready (rs:=[12]) (by kernel_rfl) (by simp) ?_
       refine AllReadyH.cons rfl (fun K12 hK12=>?_) AllReadyH.nil
       rw [if_pos (by rfl)]
       go_simp
       go_at_call 68
       refine (CPs.out _).mono ?_
       rintro e ub ⟨rfl,h2⟩
       have P2:=hidOf (Out.trans (P1.out) h2)
       have HC2:=HC.out ub (O5.out.trans P2.out)
       refine hK12.out _ _ HC2 (fun hHeld12=>?_)
       clear h2
       refine tkLB [13,14,15] ?_
       iterate 3 (refine tkLC (v:=?_) rfl rfl (by kernel_rfl) (by kernel_rfl) (by kernel_rfl) (fun _ _ _ h=>h) (by rfl) (by assumption) ?_ ?_;rotate_left;(· (intro w hSw;(try dsimp only at hSw);go_simp;(try with_reducible rfl)));simp only [Act.put,List.setIfInBounds_toArray,List.set_cons_zero,List.set_cons_succ])
       refine tkLE ?_
       refine wpAnyH_done (by kernel_rfl) ?_ _
       go_wp2
       go_ret2
       exact ⟨by rw [HZ.out];rfl,OC.out.trans (O5.out.trans P2.out)⟩
      ·
       have hE:=HE.out
       simp at hE
       obtain ⟨z115,ez115⟩:∃ Z,Z=L++[32]:=⟨_,rfl⟩
       have lz115:z115.length<=17:=by rw [ez115];simp;omega
       have az115:∀ w,(Op.stringOp .add ⟨L.toArray⟩ ⟨#[32]⟩).run Tryz.prog w=.ok (.string ⟨z115.toArray⟩) w:=add_l4 L [32] z115 ez115 (by first | omega | (simp;omega))
       obtain ⟨z121,ez121⟩:∃ Z,Z=z115++Pd:=⟨_,rfl⟩
       have lz121:z121.length<=77:=by rw [ez121];simp;omega
       have az121:∀ w,(Op.stringOp .add ⟨z115.toArray⟩ ⟨Pd.toArray⟩).run Tryz.prog w=.ok (.string ⟨z121.toArray⟩) w:=add_l4 z115 Pd z121 ez121 (by first | omega | (simp;omega))
       obtain ⟨z122,ez122⟩:∃ Z,Z=z121++[44,32]:=⟨_,rfl⟩
       have lz122:z122.length<=79:=by rw [ez122];simp;omega
       have az122:∀ w,(Op.stringOp .add ⟨z121.toArray⟩ ⟨#[44,32]⟩).run Tryz.prog w=.ok (.string ⟨z122.toArray⟩) w:=add_l4 z121 [44,32] z122 ez122 (by first | omega | (simp;omega))
       obtain ⟨z124,ez124⟩:∃ Z,Z=z122++S2:=⟨_,rfl⟩
       have lz124:z124.length<=100:=by rw [ez124];simp;omega
       have az124:∀ w,(Op.stringOp .add ⟨z122.toArray⟩ ⟨S2.toArray⟩).run Tryz.prog w=.ok (.string ⟨z124.toArray⟩) w:=add_l4 z122 S2 z124 ez124 (by first | omega | (simp;omega))
       have HZ:Hid (RP=(z124,0)):=hidOf (by rw [hE,ez124,ez122,ez121,ez115];simp)
       clear hE HE ez115 lz115 ez121 lz121 ez122 lz122 ez124 lz124
       obtain ⟨x0,x1,x2,x3,x4,y0,y1,y2,y3,y4⟩:=HC.out wc O5.out
       go_upto_region 21 with fail
       clear x0 x1 x2 x3 x4 y0 y1 y2 y3 y4
       refine wp_region_held_drew (S:=(fun w'=>w'.cell? ⟨q,0,none⟩=some (.int .i64 o)/\w'.cell? ⟨q,1,none⟩=some (.int .i64 d)/\w'.cell? ⟨q,2,none⟩=some (.int .i64 s)/\w'.cell? ⟨q,3,none⟩=some (.int .i64 f)/\w'.cell? ⟨q,4,none⟩=some (.int .i64 i)/\w'.cell? ⟨qr,0,none⟩=some (.string ⟨L.toArray⟩)/\w'.cell? ⟨qr,1,none⟩=some (.int .i64 5)/\w'.cell? ⟨qr,2,none⟩=some (.int .i64 op)/\w'.cell? ⟨qr,3,none⟩=some (.int .i64 off)/\w'.cell? ⟨qr,4,none⟩=some (.int .i64 imm))) (by kernel_rfl) ?_ (fun hHeld=>?_)
       · exact HC0
       refine tkLB [0,1,2,3,4,5,6,10] ?_
       iterate 8 (refine tkLC (v:=?_) rfl rfl (by kernel_rfl) (by kernel_rfl) (by kernel_rfl) (fun _ _ _ h=>h) (by rfl) (by assumption) ?_ ?_;rotate_left;(· (intro w hSw;(try dsimp only at hSw);go_simp;(try with_reducible rfl)));simp only [Act.put,List.setIfInBounds_toArray,List.set_cons_zero,List.set_cons_succ])
       refine tkLE ?_
       refine wpAnyH_ready (rs:=[7]) (by kernel_rfl) (by simp) ?_
       refine AllReadyH.cons rfl (fun K7 hK7=>?_) AllReadyH.nil
       rw [if_pos (by rfl)]
       go_simp
       go_at_call 68
       refine (CPd.out _).mono ?_
       rintro e ua ⟨rfl,h2⟩
       have P1:=hidOf (Out.trans ((Out.refl wc).dN 1) h2)
       have HC1:=HC.out ua (O5.out.trans P1.out)
       refine hK7.out _ _ HC1 (fun hHeld7=>?_)
       clear h2
       refine tkLB [8,9,11,12,13] ?_
       iterate 5 (refine tkLC (v:=?_) rfl rfl (by kernel_rfl) (by kernel_rfl) (by kernel_rfl) (fun _ _ _ h=>h) (by rfl) (by assumption) ?_ ?_;rotate_left;(· (intro w hSw;(try dsimp only at hSw);go_simp;(try with_reducible rfl)));simp only [Act.put,List.setIfInBounds_toArray,List.set_cons_zero,List.set_cons_succ])
       refine tkLE ?_
       refine wpAnyH_done (by kernel_rfl) ?_ _
       go_wp2
       go_ret2
       exact ⟨by rw [HZ.out];rfl,OC.out.trans (O5.out.trans P1.out)⟩
      ·
       have hE:=HE.out
       simp at hE
       obtain ⟨z129,ez129⟩:∃ Z,Z=L++[32]:=⟨_,rfl⟩
       have lz129:z129.length<=17:=by rw [ez129];simp;omega
       have az129:∀ w,(Op.stringOp .add ⟨L.toArray⟩ ⟨#[32]⟩).run Tryz.prog w=.ok (.string ⟨z129.toArray⟩) w:=add_l4 L [32] z129 ez129 (by first | omega | (simp;omega))
       obtain ⟨z135,ez135⟩:∃ Z,Z=z129++Pd:=⟨_,rfl⟩
       have lz135:z135.length<=77:=by rw [ez135];simp;omega
       have az135:∀ w,(Op.stringOp .add ⟨z129.toArray⟩ ⟨Pd.toArray⟩).run Tryz.prog w=.ok (.string ⟨z135.toArray⟩) w:=add_l4 z129 Pd z135 ez135 (by first | omega | (simp;omega))
       obtain ⟨z136,ez136⟩:∃ Z,Z=z135++[44,32]:=⟨_,rfl⟩
       have lz136:z136.length<=79:=by rw [ez136];simp;omega
       have az136:∀ w,(Op.stringOp .add ⟨z135.toArray⟩ ⟨#[44,32]⟩).run Tryz.prog w=.ok (.string ⟨z136.toArray⟩) w:=add_l4 z135 [44,32] z136 ez136 (by first | omega | (simp;omega))
       obtain ⟨z140,ez140⟩:∃ Z,Z=z136++Rs:=⟨_,rfl⟩
       have lz140:z140.length<=82:=by rw [ez140];simp;omega
       have az140:∀ w,(Op.stringOp .add ⟨z136.toArray⟩ ⟨Rs.toArray⟩).run Tryz.prog w=.ok (.string ⟨z140.toArray⟩) w:=add_l4 z136 Rs z140 ez140 (by first | omega | (simp;omega))
       have HZ:Hid (RP=(z140,0)):=hidOf (by rw [hE,ez140,ez136,ez135,ez129];simp)
       clear hE HE ez129 lz129 ez135 lz135 ez136 lz136 ez140 lz140
       obtain ⟨x0,x1,x2,x3,x4,y0,y1,y2,y3,y4⟩:=HC.out wc O5.out
       go_upto_region 23 with fail
       clear x0 x1 x2 x3 x4 y0 y1 y2 y3 y4
       refine wp_region_held_drew (S:=(fun w'=>w'.cell? ⟨q,0,none⟩=some (.int .i64 o)/\w'.cell? ⟨q,1,none⟩=some (.int .i64 d)/\w'.cell? ⟨q,2,none⟩=some (.int .i64 s)/\w'.cell? ⟨q,3,none⟩=some (.int .i64 f)/\w'.cell? ⟨q,4,none⟩=some (.int .i64 i)/\w'.cell? ⟨qr,0,none⟩=some (.string ⟨L.toArray⟩)/\w'.cell? ⟨qr,1,none⟩=some (.int .i64 6)/\w'.cell? ⟨qr,2,none⟩=some (.int .i64 op)/\w'.cell? ⟨qr,3,none⟩=some (.int .i64 off)/\w'.cell? ⟨qr,4,none⟩=some (.int .i64 imm))) (by kernel_rfl) ?_ (fun hHeld=>?_)
       · exact HC0
       refine tkLB [0,1,2,3,4,5,6,10,11] ?_
       iterate 9 (refine tkLC (v:=?_) rfl rfl (by kernel_rfl) (by kernel_rfl) (by kernel_rfl) (fun _ _ _ h=>h) (by rfl) (by assumption) ?_ ?_;rotate_left;(· (intro w hSw;(try dsimp only at hSw);go_simp;(try with_reducible rfl)));simp only [Act.put,List.setIfInBounds_toArray,List.set_cons_zero,List.set_cons_succ])
       refine tkLE ?_
       refine wpAnyH_ready (rs:=[7]) (by kernel_rfl) (by simp) ?_
       refine AllReadyH.cons rfl (fun K7 hK7=>?_) AllReadyH.nil
       rw [if_pos (by rfl)]
       go_simp
       go_at_call 68
       refine (CPd.out _).mono ?_
       rintro e ua ⟨rfl,h2⟩
       have P1:=hidOf (Out.trans ((Out.refl wc).dN 1) h2)
       have HC1:=HC.out ua (O5.out.trans P1.out)
       refine hK7.out _ _ HC1 (fun hHeld7=>?_)
       clear h2
       refine tkLB [8,9] ?_
       iterate 2 (refine tkLC (v:=?_) rfl rfl (by kernel_rfl) (by kernel_rfl) (by kernel_rfl) (fun _ _ _ h=>h) (by rfl) (by assumption) ?_ ?_;rotate_left;(· (intro w hSw;(try dsimp only at hSw);go_simp;(try with_reducible rfl)));simp only [Act.put,List.setIfInBounds_toArray,List.set_cons_zero,List.set_cons_succ])
       refine tkLE ?_
       refine wpAnyH_ready (rs:=[12]) (by kernel_rfl) (by simp) ?_
       refine AllReadyH.cons rfl (fun K12 hK12=>?_) AllReadyH.nil
       rw [if_pos (by rfl)]
       go_simp
       go_at_call 67
       refine (CRs.out _).mono ?_
       rintro e ub ⟨rfl,h2⟩
       have P2:=hidOf (Out.trans (P1.out) h2)
       have HC2:=HC.out ub (O5.out.trans P2.out)
       refine hK12.out _ _ HC2 (fun hHeld12=>?_)
       clear h2
       refine tkLB [13,14,15] ?_
       iterate 3 (refine tkLC (v:=?_) rfl rfl (by kernel_rfl) (by kernel_rfl) (by kernel_rfl) (fun _ _ _ h=>h) (by rfl) (by assumption) ?_ ?_;rotate_left;(· (intro w hSw;(try dsimp only at hSw);go_simp;(try with_reducible rfl)));simp only [Act.put,List.setIfInBounds_toArray,List.set_cons_zero,List.set_cons_succ])
       refine tkLE ?_
       refine wpAnyH_done (by kernel_rfl) ?_ _
       go_wp2
       go_ret2
       exact ⟨by rw [HZ.out];rfl,OC.out.trans (O5.out.trans P2.out)⟩
      ·
       have hE:=HE.out
       simp at hE
       obtain ⟨z145,ez145⟩:∃ Z,Z=L++[32]:=⟨_,rfl⟩
       have lz145:z145.length<=17:=by rw [ez145];simp;omega
       have az145:∀ w,(Op.stringOp .add ⟨L.toArray⟩ ⟨#[32]⟩).run Tryz.prog w=.ok (.string ⟨z145.toArray⟩) w:=add_l4 L [32] z145 ez145 (by first | omega | (simp;omega))
       obtain ⟨z147,ez147⟩:∃ Z,Z=z145++t:=⟨_,rfl⟩
       have lz147:z147.length<=140737488355345:=by rw [ez147];simp;omega
       have az147:∀ w,(Op.stringOp .add ⟨z145.toArray⟩ ⟨t.toArray⟩).run Tryz.prog w=.ok (.string ⟨z147.toArray⟩) w:=add_l4 z145 t z147 ez147 (by first | omega | (simp;omega))
       have HZ:Hid (RP=(z147,0)):=hidOf (by rw [hE,ez147,ez145];simp)
       clear hE HE ez145 lz145 ez147 lz147
       obtain ⟨x0,x1,x2,x3,x4,y0,y1,y2,y3,y4⟩:=HC0
       go_wp2
       go_ret2
       exact ⟨by rw [HZ.out];rfl,OC.out.trans O5.out⟩
      ·
       have hE:=HE.out
       simp at hE
       obtain ⟨z152,ez152⟩:∃ Z,Z=L++[32]:=⟨_,rfl⟩
       have lz152:z152.length<=17:=by rw [ez152];simp;omega
       have az152:∀ w,(Op.stringOp .add ⟨L.toArray⟩ ⟨#[32]⟩).run Tryz.prog w=.ok (.string ⟨z152.toArray⟩) w:=add_l4 L [32] z152 ez152 (by first | omega | (simp;omega))
       obtain ⟨z156,ez156⟩:∃ Z,Z=z152++Rd:=⟨_,rfl⟩
       have lz156:z156.length<=20:=by rw [ez156];simp;omega
       have az156:∀ w,(Op.stringOp .add ⟨z152.toArray⟩ ⟨Rd.toArray⟩).run Tryz.prog w=.ok (.string ⟨z156.toArray⟩) w:=add_l4 z152 Rd z156 ez156 (by first | omega | (simp;omega))
       obtain ⟨z157,ez157⟩:∃ Z,Z=z156++[44,32]:=⟨_,rfl⟩
       have lz157:z157.length<=22:=by rw [ez157];simp;omega
       have az157:∀ w,(Op.stringOp .add ⟨z156.toArray⟩ ⟨#[44,32]⟩).run Tryz.prog w=.ok (.string ⟨z157.toArray⟩) w:=add_l4 z156 [44,32] z157 ez157 (by first | omega | (simp;omega))
       obtain ⟨z159,ez159⟩:∃ Z,Z=z157++S2:=⟨_,rfl⟩
       have lz159:z159.length<=43:=by rw [ez159];simp;omega
       have az159:∀ w,(Op.stringOp .add ⟨z157.toArray⟩ ⟨S2.toArray⟩).run Tryz.prog w=.ok (.string ⟨z159.toArray⟩) w:=add_l4 z157 S2 z159 ez159 (by first | omega | (simp;omega))
       obtain ⟨z160,ez160⟩:∃ Z,Z=z159++[44,32]:=⟨_,rfl⟩
       have lz160:z160.length<=45:=by rw [ez160];simp;omega
       have az160:∀ w,(Op.stringOp .add ⟨z159.toArray⟩ ⟨#[44,32]⟩).run Tryz.prog w=.ok (.string ⟨z160.toArray⟩) w:=add_l4 z159 [44,32] z160 ez160 (by first | omega | (simp;omega))
       obtain ⟨z162,ez162⟩:∃ Z,Z=z160++t:=⟨_,rfl⟩
       have lz162:z162.length<=140737488355373:=by rw [ez162];simp;omega
       have az162:∀ w,(Op.stringOp .add ⟨z160.toArray⟩ ⟨t.toArray⟩).run Tryz.prog w=.ok (.string ⟨z162.toArray⟩) w:=add_l4 z160 t z162 ez162 (by first | omega | (simp;omega))
       have HZ:Hid (RP=(z162,0)):=hidOf (by rw [hE,ez162,ez160,ez159,ez157,ez156,ez152];simp)
       clear hE HE ez152 lz152 ez156 lz156 ez157 lz157 ez159 lz159 ez160 lz160 ez162 lz162
       obtain ⟨x0,x1,x2,x3,x4,y0,y1,y2,y3,y4⟩:=HC.out wc O5.out
       go_upto_region 27 with fail
       clear x0 x1 x2 x3 x4 y0 y1 y2 y3 y4
       refine wp_region_held_drew (S:=(fun w'=>w'.cell? ⟨q,0,none⟩=some (.int .i64 o)/\w'.cell? ⟨q,1,none⟩=some (.int .i64 d)/\w'.cell? ⟨q,2,none⟩=some (.int .i64 s)/\w'.cell? ⟨q,3,none⟩=some (.int .i64 f)/\w'.cell? ⟨q,4,none⟩=some (.int .i64 i)/\w'.cell? ⟨qr,0,none⟩=some (.string ⟨L.toArray⟩)/\w'.cell? ⟨qr,1,none⟩=some (.int .i64 8)/\w'.cell? ⟨qr,2,none⟩=some (.int .i64 op)/\w'.cell? ⟨qr,3,none⟩=some (.int .i64 off)/\w'.cell? ⟨qr,4,none⟩=some (.int .i64 imm))) (by kernel_rfl) ?_ (fun hHeld=>?_)
       · exact HC0
       refine tkLB [0,1,2,3,4,8,11] ?_
       iterate 7 (refine tkLC (v:=?_) rfl rfl (by kernel_rfl) (by kernel_rfl) (by kernel_rfl) (fun _ _ _ h=>h) (by rfl) (by assumption) ?_ ?_;rotate_left;(· (intro w hSw;(try dsimp only at hSw);go_simp;(try with_reducible rfl)));simp only [Act.put,List.setIfInBounds_toArray,List.set_cons_zero,List.set_cons_succ])
       refine tkLE ?_
       refine wpAnyH_ready (rs:=[5]) (by kernel_rfl) (by simp) ?_
       refine AllReadyH.cons rfl (fun K5 hK5=>?_) AllReadyH.nil
       rw [if_pos (by rfl)]
       go_simp
       go_at_call 67
       refine (CRd.out _).mono ?_
       rintro e ua ⟨rfl,h2⟩
       have P1:=hidOf (Out.trans ((Out.refl wc).dN 1) h2)
       have HC1:=HC.out ua (O5.out.trans P1.out)
       refine hK5.out _ _ HC1 (fun hHeld5=>?_)
       clear h2
       refine tkLB [6,7,9,10,12,13,14] ?_
       iterate 7 (refine tkLC (v:=?_) rfl rfl (by kernel_rfl) (by kernel_rfl) (by kernel_rfl) (fun _ _ _ h=>h) (by rfl) (by assumption) ?_ ?_;rotate_left;(· (intro w hSw;(try dsimp only at hSw);go_simp;(try with_reducible rfl)));simp only [Act.put,List.setIfInBounds_toArray,List.set_cons_zero,List.set_cons_succ])
       refine tkLE ?_
       refine wpAnyH_done (by kernel_rfl) ?_ _
       go_wp2
       go_ret2
       exact ⟨by rw [HZ.out];rfl,OC.out.trans (O5.out.trans P1.out)⟩
      ·
       have hE:=HE.out
       simp at hE
       cases th
       ·
        simp at hE
        obtain ⟨z173,ez173⟩:∃ Z,Z=L++[32]:=⟨_,rfl⟩
        have lz173:z173.length<=17:=by rw [ez173];simp;omega
        have az173:∀ w,(Op.stringOp .add ⟨L.toArray⟩ ⟨#[32]⟩).run Tryz.prog w=.ok (.string ⟨z173.toArray⟩) w:=add_l4 L [32] z173 ez173 (by first | omega | (simp;omega))
        obtain ⟨z175,ez175⟩:∃ Z,Z=z173++S2:=⟨_,rfl⟩
        have lz175:z175.length<=38:=by rw [ez175];simp;omega
        have az175:∀ w,(Op.stringOp .add ⟨z173.toArray⟩ ⟨S2.toArray⟩).run Tryz.prog w=.ok (.string ⟨z175.toArray⟩) w:=add_l4 z173 S2 z175 ez175 (by first | omega | (simp;omega))
        have HZ:Hid (RP=(z175,0)):=hidOf (by rw [hE,ez175,ez173];simp)
        clear hE HE ez173 lz173 ez175 lz175
        obtain ⟨x0,x1,x2,x3,x4,y0,y1,y2,y3,y4⟩:=HC0
        go_wp2
        go_ret2
        exact ⟨by rw [HZ.out];rfl,OC.out.trans O5.out⟩
       ·
        simp at hE
        obtain ⟨z168,ez168⟩:∃ Z,Z=L++[32]:=⟨_,rfl⟩
        have lz168:z168.length<=17:=by rw [ez168];simp;omega
        have az168:∀ w,(Op.stringOp .add ⟨L.toArray⟩ ⟨#[32]⟩).run Tryz.prog w=.ok (.string ⟨z168.toArray⟩) w:=add_l4 L [32] z168 ez168 (by first | omega | (simp;omega))
        obtain ⟨z170,ez170⟩:∃ Z,Z=z168++t:=⟨_,rfl⟩
        have lz170:z170.length<=140737488355345:=by rw [ez170];simp;omega
        have az170:∀ w,(Op.stringOp .add ⟨z168.toArray⟩ ⟨t.toArray⟩).run Tryz.prog w=.ok (.string ⟨z170.toArray⟩) w:=add_l4 z168 t z170 ez170 (by first | omega | (simp;omega))
        have HZ:Hid (RP=(z170,0)):=hidOf (by rw [hE,ez170,ez168];simp)
        clear hE HE ez168 lz168 ez170 lz170
        obtain ⟨x0,x1,x2,x3,x4,y0,y1,y2,y3,y4⟩:=HC0
        go_wp2
        go_ret2
        exact ⟨by rw [HZ.out];rfl,OC.out.trans O5.out⟩
      ·
       have hE:=HE.out
       simp at hE
       have HZ:=hidOf hE
       clear hE HE
       obtain ⟨x0,x1,x2,x3,x4,y0,y1,y2,y3,y4⟩:=HC0
       go_wp2
       go_ret2
       exact ⟨by rw [HZ.out];rfl,OC.out.trans O5.out⟩
      ·
       have hE:=HE.out
       simp at hE
       obtain ⟨z64,ez64⟩:∃ Z,Z=L++[32]:=⟨_,rfl⟩
       have lz64:z64.length<=17:=by rw [ez64];simp;omega
       have az64:∀ w,(Op.stringOp .add ⟨L.toArray⟩ ⟨#[32]⟩).run Tryz.prog w=.ok (.string ⟨z64.toArray⟩) w:=add_l4 L [32] z64 ez64 (by first | omega | (simp;omega))
       obtain ⟨z68,ez68⟩:∃ Z,Z=z64++Rd:=⟨_,rfl⟩
       have lz68:z68.length<=20:=by rw [ez68];simp;omega
       have az68:∀ w,(Op.stringOp .add ⟨z64.toArray⟩ ⟨Rd.toArray⟩).run Tryz.prog w=.ok (.string ⟨z68.toArray⟩) w:=add_l4 z64 Rd z68 ez68 (by first | omega | (simp;omega))
       obtain ⟨z69,ez69⟩:∃ Z,Z=z68++[44,32]:=⟨_,rfl⟩
       have lz69:z69.length<=22:=by rw [ez69];simp;omega
       have az69:∀ w,(Op.stringOp .add ⟨z68.toArray⟩ ⟨#[44,32]⟩).run Tryz.prog w=.ok (.string ⟨z69.toArray⟩) w:=add_l4 z68 [44,32] z69 ez69 (by first | omega | (simp;omega))
       obtain ⟨z71,ez71⟩:∃ Z,Z=z69++S2:=⟨_,rfl⟩
       have lz71:z71.length<=43:=by rw [ez71];simp;omega
       have az71:∀ w,(Op.stringOp .add ⟨z69.toArray⟩ ⟨S2.toArray⟩).run Tryz.prog w=.ok (.string ⟨z71.toArray⟩) w:=add_l4 z69 S2 z71 ez71 (by first | omega | (simp;omega))
       have HZ:Hid (RP=(z71,0)):=hidOf (by rw [hE,ez71,ez69,ez68,ez64];simp)
       clear hE HE ez64 lz64 ez68 lz68 ez69 lz69 ez71 lz71
       obtain ⟨x0,x1,x2,x3,x4,y0,y1,y2,y3,y4⟩:=HC.out wc O5.out
       go_upto_region 13 with fail
       clear x0 x1 x2 x3 x4 y0 y1 y2 y3 y4
       refine wp_region_held_drew (S:=(fun w'=>w'.cell? ⟨q,0,none⟩=some (.int .i64 o)/\w'.cell? ⟨q,1,none⟩=some (.int .i64 d)/\w'.cell? ⟨q,2,none⟩=some (.int .i64 s)/\w'.cell? ⟨q,3,none⟩=some (.int .i64 f)/\w'.cell? ⟨q,4,none⟩=some (.int .i64 i)/\w'.cell? ⟨qr,0,none⟩=some (.string ⟨L.toArray⟩)/\w'.cell? ⟨qr,1,none⟩=some (.int .i64 11)/\w'.cell? ⟨qr,2,none⟩=some (.int .i64 op)/\w'.cell? ⟨qr,3,none⟩=some (.int .i64 off)/\w'.cell? ⟨qr,4,none⟩=some (.int .i64 imm))) (by kernel_rfl) ?_ (fun hHeld=>?_)
       · exact HC0
       refine tkLB [0,1,2,3,4,8] ?_
       iterate 6 (refine tkLC (v:=?_) rfl rfl (by kernel_rfl) (by kernel_rfl) (by kernel_rfl) (fun _ _ _ h=>h) (by rfl) (by assumption) ?_ ?_;rotate_left;(· (intro w hSw;(try dsimp only at hSw);go_simp;(try with_reducible rfl)));simp only [Act.put,List.setIfInBounds_toArray,List.set_cons_zero,List.set_cons_succ])
       refine tkLE ?_
       refine wpAnyH_ready (rs:=[5]) (by kernel_rfl) (by simp) ?_
       refine AllReadyH.cons rfl (fun K5 hK5=>?_) AllReadyH.nil
       rw [if_pos (by rfl)]
       go_simp
       go_at_call 67
       refine (CRd.out _).mono ?_
       rintro e ua ⟨rfl,h2⟩
       have P1:=hidOf (Out.trans ((Out.refl wc).dN 1) h2)
       have HC1:=HC.out ua (O5.out.trans P1.out)
       refine hK5.out _ _ HC1 (fun hHeld5=>?_)
       clear h2
       refine tkLB [6,7,9,10,11] ?_
       iterate 5 (refine tkLC (v:=?_) rfl rfl (by kernel_rfl) (by kernel_rfl) (by kernel_rfl) (fun _ _ _ h=>h) (by rfl) (by assumption) ?_ ?_;rotate_left;(· (intro w hSw;(try dsimp only at hSw);go_simp;(try with_reducible rfl)));simp only [Act.put,List.setIfInBounds_toArray,List.set_cons_zero,List.set_cons_succ])
       refine tkLE ?_
       refine wpAnyH_done (by kernel_rfl) ?_ _
       go_wp2
       go_ret2
       exact ⟨by rw [HZ.out];rfl,OC.out.trans (O5.out.trans P1.out)⟩
      ·
       have hE:=HE.out
       simp at hE
       obtain ⟨z180,ez180⟩:∃ Z,Z=L++[32]:=⟨_,rfl⟩
       have lz180:z180.length<=17:=by rw [ez180];simp;omega
       have az180:∀ w,(Op.stringOp .add ⟨L.toArray⟩ ⟨#[32]⟩).run Tryz.prog w=.ok (.string ⟨z180.toArray⟩) w:=add_l4 L [32] z180 ez180 (by first | omega | (simp;omega))
       obtain ⟨z184,ez184⟩:∃ Z,Z=z180++Rd:=⟨_,rfl⟩
       have lz184:z184.length<=20:=by rw [ez184];simp;omega
       have az184:∀ w,(Op.stringOp .add ⟨z180.toArray⟩ ⟨Rd.toArray⟩).run Tryz.prog w=.ok (.string ⟨z184.toArray⟩) w:=add_l4 z180 Rd z184 ez184 (by first | omega | (simp;omega))
       obtain ⟨z185,ez185⟩:∃ Z,Z=z184++[44,32]:=⟨_,rfl⟩
       have lz185:z185.length<=22:=by rw [ez185];simp;omega
       have az185:∀ w,(Op.stringOp .add ⟨z184.toArray⟩ ⟨#[44,32]⟩).run Tryz.prog w=.ok (.string ⟨z185.toArray⟩) w:=add_l4 z184 [44,32] z185 ez185 (by first | omega | (simp;omega))
       obtain ⟨z187,ez187⟩:∃ Z,Z=z185++t:=⟨_,rfl⟩
       have lz187:z187.length<=140737488355350:=by rw [ez187];simp;omega
       have az187:∀ w,(Op.stringOp .add ⟨z185.toArray⟩ ⟨t.toArray⟩).run Tryz.prog w=.ok (.string ⟨z187.toArray⟩) w:=add_l4 z185 t z187 ez187 (by first | omega | (simp;omega))
       have HZ:Hid (RP=(z187,0)):=hidOf (by rw [hE,ez187,ez185,ez184,ez180];simp)
       clear hE HE ez180 lz180 ez184 lz184 ez185 lz185 ez187 lz187
       obtain ⟨x0,x1,x2,x3,x4,y0,y1,y2,y3,y4⟩:=HC.out wc O5.out
       go_upto_region 33 with fail
       clear x0 x1 x2 x3 x4 y0 y1 y2 y3 y4
       refine wp_region_held_drew (S:=(fun w'=>w'.cell? ⟨q,0,none⟩=some (.int .i64 o)/\w'.cell? ⟨q,1,none⟩=some (.int .i64 d)/\w'.cell? ⟨q,2,none⟩=some (.int .i64 s)/\w'.cell? ⟨q,3,none⟩=some (.int .i64 f)/\w'.cell? ⟨q,4,none⟩=some (.int .i64 i)/\w'.cell? ⟨qr,0,none⟩=some (.string ⟨L.toArray⟩)/\w'.cell? ⟨qr,1,none⟩=some (.int .i64 12)/\w'.cell? ⟨qr,2,none⟩=some (.int .i64 op)/\w'.cell? ⟨qr,3,none⟩=some (.int .i64 off)/\w'.cell? ⟨qr,4,none⟩=some (.int .i64 imm))) (by kernel_rfl) ?_ (fun hHeld=>?_)
       · exact HC0
       refine tkLB [0,1,2,3,4,8] ?_
       iterate 6 (refine tkLC (v:=?_) rfl rfl (by kernel_rfl) (by kernel_rfl) (by kernel_rfl) (fun _ _ _ h=>h) (by rfl) (by assumption) ?_ ?_;rotate_left;(· (intro w hSw;(try dsimp only at hSw);go_simp;(try with_reducible rfl)));simp only [Act.put,List.setIfInBounds_toArray,List.set_cons_zero,List.set_cons_succ])
       refine tkLE ?_
       refine wpAnyH_ready (rs:=[5]) (by kernel_rfl) (by simp) ?_
       refine AllReadyH.cons rfl (fun K5 hK5=>?_) AllReadyH.nil
       rw [if_pos (by rfl)]
       go_simp
       go_at_call 67
       refine (CRd.out _).mono ?_
       rintro e ua ⟨rfl,h2⟩
       have P1:=hidOf (Out.trans ((Out.refl wc).dN 1) h2)
       have HC1:=HC.out ua (O5.out.trans P1.out)
       refine hK5.out _ _ HC1 (fun hHeld5=>?_)
       clear h2
       refine tkLB [6,7,9,10,11] ?_
       iterate 5 (refine tkLC (v:=?_) rfl rfl (by kernel_rfl) (by kernel_rfl) (by kernel_rfl) (fun _ _ _ h=>h) (by rfl) (by assumption) ?_ ?_;rotate_left;(· (intro w hSw;(try dsimp only at hSw);go_simp;(try with_reducible rfl)));simp only [Act.put,List.setIfInBounds_toArray,List.set_cons_zero,List.set_cons_succ])
       refine tkLE ?_
       refine wpAnyH_done (by kernel_rfl) ?_ _
       go_wp2
       go_ret2
       exact ⟨by rw [HZ.out];rfl,OC.out.trans (O5.out.trans P1.out)⟩
end Go.Proofs.YtadneimllbfdnaaGreatDoor
