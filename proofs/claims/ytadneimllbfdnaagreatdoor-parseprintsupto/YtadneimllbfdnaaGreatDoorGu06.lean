import Derived.Test.YtadneimllbfdnaaGreatDoorGu04
import Derived.Test.YtadneimllbfdnaaGreatDoorGu05
import Derived.Shelf.Bytes.SlSearch1
import Derived.Shelf.Bytes.SlSearch2
import Derived.Shelf.Bytes.SlIndexWhole
import Derived.Ground.SlbtProg
import Derived.Shelf.Bytes.SlCut
import Derived.Lib.SmallJoins
import Derived.Test.YtadneimllbfdnaaGreatDoorRows
import Derived.ProofKit
import Derived.OpenShut
import Derived.ChangeOld
import Derived.LaidMore
import Derived.Lib.LaidTab
import Derived.Deep.Slices
import Derived.ChangeSlices
namespace Go.Proofs.YtadneimllbfdnaaGreatDoor.Lx
open Go.RowKit
set_option linter.unusedVariables false
set_option linter.unusedSimpArgs false
def NumsOk (ts:List Tk):Prop:=∀ x ∈ ts,0<=x.n/\x.n<18446744073709551616/\x.t.length<=140737488355328
set_option maxHeartbeats 4000000 in
theorem untoken_any (w:World) (hpw:Pow w) (a:Option Addr) (cap:Nat) (ts:List Tk) (h:TksAt w a ts) (hl:ts.length<=3518437208883) (hn:NumsOk ts) :
  Calls Tryz.prog 60 #[.slice a ts.length cap] w fun e w'=>e=.returned (.tuple #[.string ⟨(untokP ts).1.toArray⟩,.int .i64 (untokP ts).2])/\Out w w':=by
 have HT:=hidOf h
 have HP:=hidOf hpw
 have HN:=hidOf hn
 have H0:Hid (WrAt w.heap.size w.heap.size (w.alloc (.cells #[.pointer none,.slice none 0 0,.int .i64 0,.int .i64 0] 135)) ⟨[],0,0⟩):=⟨_,_,Nat.le_refl _,heap_alloc_new w _,.inl rfl,World.ownsRow_nil _ _ _ _,(fun k hk=>by cases hk),fun _=>rfl⟩
 have O0:Hid (Out w (w.alloc (.cells #[.pointer none,.slice none 0 0,.int .i64 0,.int .i64 0] 135))):=(Out.refl w).alloc _
 obtain ⟨p,hp⟩:∃ p,p=w.heap.size:=⟨_,rfl⟩
 have HF:Hid (∀ (e:Ending) (w':World) (E:Int),(∃ s,unF true ⟨[],0,0⟩ ts=(E,s))->¬E=0->e=.returned (.tuple #[.string ⟨#[]⟩,.int .i64 E])->Out w w'->e=.returned (.tuple #[.string ⟨(untokP ts).1.toArray⟩,.int .i64 (untokP ts).2])/\Out w w'):=fun e w' E ⟨s,hs⟩ hE he ho=>by
  have:untokP ts=([],E):=by unfold untokP;rw [hs,if_neg hE]
  rw [this];exact ⟨he,ho⟩
 clear h hpw hn
 go_enter Tryz.func60,Tryz.ntmps60
 go_wp2
 generalize w.alloc (.cells #[.pointer none,.slice none 0 0,.int .i64 0,.int .i64 0] 135)=w1 at *
 rw [<-hp] at H0 ⊢
 have HPP:=hidOf hp
 clear hp
 go_loopw [10] (fun kv wr=>∃ (k:Nat) (s:WS),kv=.int .i64 k/\k<=ts.length/\s.size<=100*k/\Hid (unF true ⟨[],0,0⟩ ts=unF (okAt ts k) s (ts.drop k))/\Hid s.Ok/\Hid (WrAt p p wr s)/\Hid (Out w wr)) (fun kv _=>ts.length - (intOf kv).toNat)
 case atStart=>exact ⟨0,⟨[],0,0⟩,rfl,by omega,by simp,hidOf rfl,hidOf ⟨by simp,by simp,by simp⟩,H0,O0⟩
 case round=>
  obtain ⟨k,s,rfl,hk,hsz,HU,HOk,HW,HO⟩:=hrel
  by_cases hlt:k<ts.length
  ·
   have hltI:(k:Int)<ts.length:=by omega
   obtain ⟨x,hx⟩:∃ x,ts[k]? = some x:=⟨_,List.getElem?_eq_getElem hlt⟩
   obtain ⟨b,off,rfl,hc⟩:∃ b off,a=some ⟨b,off,none⟩/\∀ k x,ts[k]? = some x->w.cell? ⟨b,off+k*4,none⟩=some (.int .i64 x.k)/\w.cell? ⟨b,off+k*4+1,none⟩=some (.string ⟨x.t.toArray⟩)/\w.cell? ⟨b,off+k*4+2,none⟩=some (.int .u64 x.n)/\w.cell? ⟨b,off+k*4+3,none⟩=some (.int .i64 x.l):=by
    rcases HT.out with h | h
    · rw [h] at hlt;simp at hlt
    · exact h
   obtain ⟨q0,q1,q2,q3⟩:=hc k x hx
   have q0:=cell_later HO.out q0
   have q1:=cell_later HO.out q1
   have q2:=cell_later HO.out q2
   have q3:=cell_later HO.out q3
   have hxn:=HN.out x (List.mem_of_getElem? hx)
   have HS:Hid (unF true ⟨[],0,0⟩ ts=unF (okAt ts k) s (x::ts.drop (k+1))):=by rw [<-drop_at hx];exact HU
   have HX:=hidOf hx
   have CM:Hid (∀ wx,Calls Tryz.prog 86 #[.agg #[.int .i64 x.k,.string ⟨x.t.toArray⟩,.int .u64 x.n,.int .i64 x.l]] wx fun e w'=>e=.returned (.int .i64 (mayP x))/\Out wx w'):=fun wx=>may_any x wx (by omega)
   have CE:Hid (∀ wx,Out w wx->Calls Tryz.prog 87 #[.slice (some ⟨b,off,none⟩) ts.length cap,.int .i64 (k:Int)] wx fun e w'=>e=.returned (.bool (endsP ts k))/\wx=w'):=fun wx ho=>endsAt_any wx _ cap ts (HT.out.out ho) (by omega) k hlt
   clear hc hx HU
   obtain ⟨kk,t,n,ln⟩:=x
   simp only at q0 q1 q2 q3 hxn CM
   go_upto_region 5 with fail
   have Hb:Hid (Out wr (wr.alloc (.cells #[.int .i64 kk,.string ⟨t.toArray⟩,.int .u64 n,.int .i64 ln] 77))):=(Out.refl wr).alloc _
   have b0:(wr.alloc (.cells #[.int .i64 kk,.string ⟨t.toArray⟩,.int .u64 n,.int .i64 ln] 77)).cell? ⟨wr.heap.size,0,none⟩=some (.int .i64 kk):=cell_fresh _ _ _ _ _ rfl
   have b1:(wr.alloc (.cells #[.int .i64 kk,.string ⟨t.toArray⟩,.int .u64 n,.int .i64 ln] 77)).cell? ⟨wr.heap.size,1,none⟩=some (.string ⟨t.toArray⟩):=cell_fresh _ _ _ _ _ rfl
   have b2:(wr.alloc (.cells #[.int .i64 kk,.string ⟨t.toArray⟩,.int .u64 n,.int .i64 ln] 77)).cell? ⟨wr.heap.size,2,none⟩=some (.int .u64 n):=cell_fresh _ _ _ _ _ rfl
   have b3:(wr.alloc (.cells #[.int .i64 kk,.string ⟨t.toArray⟩,.int .u64 n,.int .i64 ln] 77)).cell? ⟨wr.heap.size,3,none⟩=some (.int .i64 ln):=cell_fresh _ _ _ _ _ rfl
   have HW1:=hidOf (HW.out.out Hb.out)
   have HO1:=hidOf (Out.trans HO.out Hb.out)
   clear q0 q1 q2 q3 Hb HW
   generalize wr.alloc (.cells #[.int .i64 kk,.string ⟨t.toArray⟩,.int .u64 n,.int .i64 ln] 77)=wb at *
   generalize wr.heap.size=g at *
   clear HO
   have hE0:=may_len (x:=⟨kk,t,n,ln⟩)
   simp only at hE0
   obtain ⟨E,hE⟩:∃ E,mayP ⟨kk,t,n,ln⟩=E:=⟨_,rfl⟩
   rw [hE] at CM hE0
   have HE:=hidOf hE
   clear hE
   by_cases he:E=0
   ·
    subst he
    have ht65:=hE0 rfl
    have hd20:(Lib.decDigits n.toNat).length<=20:=dd_len 19 _ (by omega)
    have hOk:=HOk.out.tok ⟨kk,t,n,ln⟩ ht65 hd20
    have CT:Hid (∀ wx,Out w wx->WrAt p p wx s->Calls Tryz.prog 88 #[.pointer (some ⟨p,0,none⟩),.agg #[.int .i64 kk,.string ⟨t.toArray⟩,.int .u64 n,.int .i64 ln]] wx fun e w'=>WEnd p p wx (s.tok ⟨kk,t,n,ln⟩) e w'):=fun wx ho hw=>wtoken_any p p wx s ⟨kk,t,n,ln⟩ (HP.out.out ho) hw HOk.out.l24 HOk.out.ls (by omega) HOk.out.li (by simp only;omega) ⟨hxn.1,hxn.2.1⟩ (by simp only;omega)
    by_cases k0:kk=0
    ·
     subst k0
     have hr:ts.drop (k+1)=[] ↔ k+1=ts.length:=by rw [List.drop_eq_nil_iff];omega
     cases hb:endsP ts k
     ·
      have HR:Hid (∃ s',unF true ⟨[],0,0⟩ ts=(52,s')):=⟨s,by
       rw [HS.out];unfold unF
       rw [if_pos HE.out,if_pos ⟨rfl,fun h=>by
        have h1:=hr.1 h.1
        simp [endsP,h1,h.2] at hb⟩]⟩
      rw [hb] at CE
      go_upto_region 8 with (go_at_call 86;refine (CM.out wb).mono ?_;rintro e w2 ⟨rfl,ho⟩;have HM:=hidOf ho;clear ho)
      have d0:=cell_later HM.out b0
      have d1:=cell_later HM.out b1
      have d2:=cell_later HM.out b2
      have d3:=cell_later HM.out b3
      have HW2:=hidOf (HW1.out.out HM.out)
      have HO2:=hidOf (Out.trans HO1.out HM.out)
      clear b0 b1 b2 b3 HM
      go_wp2_with (go_at_call 87;refine (CE.out w2 HO2.out).mono ?_;rintro e w3 ⟨rfl,hw3⟩;subst hw3)
      go_ret2
      exact HF.out _ _ 52 HR.out (by decide) rfl HO2.out
     ·
      have HS':Hid (unF true ⟨[],0,0⟩ ts=unF (okAt ts (k+1)) (s.tok ⟨0,t,n,ln⟩) (ts.drop (k+1))):=by
       simp only [endsP,Bool.and_eq_true,decide_eq_true_eq] at hb
       rw [HS.out,okAt_succ HX.out]
       exact hidOf (by
        conv=>lhs;unfold unF
        rw [if_pos HE.out,if_neg (fun h=>h.2 ⟨hr.2 hb.1,hb.2⟩),if_neg (fun h=>by have:=h.1;cases this)])
      rw [hb] at CE
      go_upto_region 8 with (go_at_call 86;refine (CM.out wb).mono ?_;rintro e w2 ⟨rfl,ho⟩;have HM:=hidOf ho;clear ho)
      have d0:=cell_later HM.out b0
      have d1:=cell_later HM.out b1
      have d2:=cell_later HM.out b2
      have d3:=cell_later HM.out b3
      have HW2:=hidOf (HW1.out.out HM.out)
      have HO2:=hidOf (Out.trans HO1.out HM.out)
      clear b0 b1 b2 b3 HM
      go_wp2_with (first | (go_at_call 87;refine (CE.out w2 HO2.out).mono ?_;rintro e w3 ⟨rfl,hw3⟩;subst hw3) | (go_at_call 88;refine (CT.out w2 HO2.out HW2.out).mono ?_;rintro e w3 ⟨⟨v,rfl⟩,hq,hb⟩;have H3:=hidOf hq;have B3:Hid (Out w w3):=Below.step HO2.out (HPP.out ▸ hb);clear hq hb))
      go_roundw
      case rel=>exact ⟨k+1,s.tok ⟨0,t,n,ln⟩,by simp,by omega,by have:=hOk.2;omega,HS',hidOf hOk.1,H3,B3⟩
      case measure=>simp [intOf];omega
    ·
     have k0':(kk == 0)=false:=by simpa using k0
     by_cases k5:kk=5
     ·
      subst k5
      by_cases hln:1024<s.line
      ·
       have hln':(1024:Int)<s.line:=by omega
       have HR:Hid (∃ s',unF true ⟨[],0,0⟩ ts=(51,s')):=⟨s,by
        rw [HS.out];unfold unF
        rw [if_pos HE.out,if_neg (fun h=>by have:=h.1;cases this),if_pos ⟨rfl,hln⟩]⟩
       go_upto_region 8 with (go_at_call 86;refine (CM.out wb).mono ?_;rintro e w2 ⟨rfl,ho⟩;have HM:=hidOf ho;clear ho)
       have d0:=cell_later HM.out b0
       have d1:=cell_later HM.out b1
       have d2:=cell_later HM.out b2
       have d3:=cell_later HM.out b3
       have HW2:=hidOf (HW1.out.out HM.out)
       have HO2:=hidOf (Out.trans HO1.out HM.out)
       clear b0 b1 b2 b3 HM
       obtain ⟨e3,f3⟩:=HW2.out.c3
       go_wp2
       go_ret2
       exact HF.out _ _ 51 HR.out (by decide) rfl HO2.out
      ·
       have hln':¬(1024:Int)<s.line:=by omega
       have HS':Hid (unF true ⟨[],0,0⟩ ts=unF (okAt ts (k+1)) (s.tok ⟨5,t,n,ln⟩) (ts.drop (k+1))):=by
        rw [HS.out,okAt_succ HX.out]
        exact hidOf (by
         conv=>lhs;unfold unF
         rw [if_pos HE.out,if_neg (fun h=>by have:=h.1;cases this),if_neg (fun h=>hln h.2)])
       go_upto_region 8 with (go_at_call 86;refine (CM.out wb).mono ?_;rintro e w2 ⟨rfl,ho⟩;have HM:=hidOf ho;clear ho)
       have d0:=cell_later HM.out b0
       have d1:=cell_later HM.out b1
       have d2:=cell_later HM.out b2
       have d3:=cell_later HM.out b3
       have HW2:=hidOf (HW1.out.out HM.out)
       have HO2:=hidOf (Out.trans HO1.out HM.out)
       clear b0 b1 b2 b3 HM
       obtain ⟨e3,f3⟩:=HW2.out.c3
       go_wp2_with (go_at_call 88;refine (CT.out w2 HO2.out HW2.out).mono ?_;rintro e w3 ⟨⟨v,rfl⟩,hq,hb⟩;have H3:=hidOf hq;have B3:Hid (Out w w3):=Below.step HO2.out (HPP.out ▸ hb);clear hq hb)
       go_roundw
       case rel=>exact ⟨k+1,s.tok ⟨5,t,n,ln⟩,by simp,by omega,by have:=hOk.2;omega,HS',hidOf hOk.1,H3,B3⟩
       case measure=>simp [intOf];omega
     ·
      have k5':(kk == 5)=false:=by simpa using k5
      have HS':Hid (unF true ⟨[],0,0⟩ ts=unF (okAt ts (k+1)) (s.tok ⟨kk,t,n,ln⟩) (ts.drop (k+1))):=by
       rw [HS.out,okAt_succ HX.out]
       exact hidOf (by
        conv=>lhs;unfold unF
        rw [if_pos HE.out,if_neg (fun h=>k0 h.1),if_neg (fun h=>k5 h.1)])
      go_upto_region 8 with (go_at_call 86;refine (CM.out wb).mono ?_;rintro e w2 ⟨rfl,ho⟩;have HM:=hidOf ho;clear ho)
      have d0:=cell_later HM.out b0
      have d1:=cell_later HM.out b1
      have d2:=cell_later HM.out b2
      have d3:=cell_later HM.out b3
      have HW2:=hidOf (HW1.out.out HM.out)
      have HO2:=hidOf (Out.trans HO1.out HM.out)
      clear b0 b1 b2 b3 HM
      go_wp2_with (go_at_call 88;refine (CT.out w2 HO2.out HW2.out).mono ?_;rintro e w3 ⟨⟨v,rfl⟩,hq,hb⟩;have H3:=hidOf hq;have B3:Hid (Out w w3):=Below.step HO2.out (HPP.out ▸ hb);clear hq hb)
      go_roundw
      case rel=>exact ⟨k+1,s.tok ⟨kk,t,n,ln⟩,by simp,by omega,by have:=hOk.2;omega,HS',hidOf hOk.1,H3,B3⟩
      case measure=>simp [intOf];omega
   ·
    have he':(E == 0)=false:=by simpa using he
    have HR:Hid (∃ s',unF true ⟨[],0,0⟩ ts=(E,s')):=⟨s,by rw [HS.out];unfold unF;rw [HE.out,if_neg he]⟩
    go_wp2_with (go_at_call 86;refine (CM.out wb).mono ?_;rintro e w2 ⟨rfl,ho⟩;have HM:=hidOf ho;clear ho)
    go_ret2
    exact HF.out _ _ E HR.out he rfl (Out.trans HO1.out HM.out)
  ·
   have hltI:¬(k:Int)<ts.length:=by omega
   have hkl:k=ts.length:=by omega
   have HR:Hid (unF true ⟨[],0,0⟩ ts=(0,s)):=by rw [HU.out,hkl,List.drop_length];exact hidOf rfl
   clear HU
   obtain ⟨ad,bv,hW⟩:=HW.out
   have c2:wr.cell? ⟨p,2,none⟩=some (.int .i64 s.size):=hW.cell 2
   clear hW
   by_cases hte:ts=[]
   ·
    have h0:((ts.length:Int) == 0)=true:=by simp [hte]
    have hP:Hid (untokP ts=([],52)):=by
     unfold untokP
     rw [HR.out,if_pos rfl,if_neg (by rw [hte];simp [lastK])]
     exact hidOf rfl
    have HP0:Hid (untokP []=([],52)):=by rw [<-hte];exact hP
    go_wp2
    go_ret2
    exact ⟨by rw [HP0.out];rfl,HO.out⟩
   ·
    have hpos:0<ts.length:=List.length_pos_iff.2 hte
    obtain ⟨x,hx⟩:∃ x,ts[ts.length - 1]? = some x:=⟨_,List.getElem?_eq_getElem (by omega)⟩
    obtain ⟨b,off,rfl,hc⟩:∃ b off,a=some ⟨b,off,none⟩/\∀ k x,ts[k]? = some x->w.cell? ⟨b,off+k*4,none⟩=some (.int .i64 x.k)/\w.cell? ⟨b,off+k*4+1,none⟩=some (.string ⟨x.t.toArray⟩)/\w.cell? ⟨b,off+k*4+2,none⟩=some (.int .u64 x.n)/\w.cell? ⟨b,off+k*4+3,none⟩=some (.int .i64 x.l):=by
     rcases HT.out with h | h
     · exact absurd h hte
     · exact h
    have q0:=cell_later HO.out (hc _ x hx).1
    have HL:Hid (lastK ts=some x.k):=lastK_at (by omega) hx
    have h0:((ts.length:Int) == 0)=false:=by simp only [beq_eq_false_iff_ne];omega
    have i0:(1:Int)<=ts.length:=by omega
    have i1:(ts.length:Int) - 1<ts.length:=by omega
    have i2:(ts.length:Int)<=3518437208883:=by omega
    clear hc hx hkl hk hlt
    generalize x.k=xk at *
    by_cases hxk:xk=0
    ·
     subst hxk
     by_cases hsm:s.size<=16777216
     ·
      have hsm':¬(16777216:Int)<s.size:=by omega
      have hP:Hid (untokP ts=(s.l,0)):=by
       unfold untokP
       rw [HR.out,if_pos rfl,if_pos HL.out,if_pos hsm]
       exact hidOf rfl
      have CS:=hidOf (string_any p p wr s HW.out HOk.out.l24)
      go_wp2_with (go_at_call 17;refine CS.out.mono ?_;rintro e w2 ⟨rfl,hb⟩;have B2:Hid (Out w w2):=Below.step HO.out (HPP.out ▸ hb);clear hb)
      go_ret2
      exact ⟨by rw [hP.out];rfl,B2.out⟩
     ·
      have hsm':(16777216:Int)<s.size:=by omega
      have hP:Hid (untokP ts=([],50)):=by
       unfold untokP
       rw [HR.out,if_pos rfl,if_pos HL.out,if_neg hsm]
       exact hidOf rfl
      go_wp2
      go_ret2
      exact ⟨by rw [hP.out];rfl,HO.out⟩
    ·
     have hxk':(xk == 0)=false:=by simpa using hxk
     have hP:Hid (untokP ts=([],52)):=by
      unfold untokP
      rw [HR.out,if_pos rfl,if_neg (by rw [HL.out];exact fun h=>hxk (Option.some.inj h))]
      exact hidOf rfl
     go_wp2
     go_ret2
     exact ⟨by rw [hP.out];rfl,HO.out⟩
end Go.Proofs.YtadneimllbfdnaaGreatDoor.Lx
namespace Go.Proofs
open Go.Shelf
def Tryz.lays185_ren:Go.Shelf.Ren:=⟨fun | 185=>97 | 187=>23 | 115=>136 | 253=>137 | 224=>138 | 254=>139 | 255=>45 | 291=>166 | n=>n,fun | 37=>35 | 3=>3 | 4=>4 | 0=>0 | 5=>5 | 46=>129 | 9=>9 | 146=>207 | 51=>204 | n=>n,fun | 1=>0 | n=>n⟩
theorem Tryz.lays185:Go.Proofs.Lays.n185 Tryz.prog Tryz.lays185_ren:={
 mixed:=by kernel_rfl
 f115:=Tryz.func136.trans (congrArg some (by kernel_rfl))
 f185:=Tryz.func97.trans (congrArg some (by kernel_rfl))
 f187:=Tryz.func23.trans (congrArg some (by kernel_rfl))
 f224:=Tryz.func138.trans (congrArg some (by kernel_rfl))
 f253:=Tryz.func137.trans (congrArg some (by kernel_rfl))
 f254:=Tryz.func139.trans (congrArg some (by kernel_rfl))
 f255:=Tryz.func45.trans (congrArg some (by kernel_rfl))
 f291:=Tryz.func166.trans (congrArg some (by kernel_rfl))
 t0:=Tryz.underlying0
 a0:=Tryz.isAgg0
 z0:=Tryz.sizeOf0
 v0:=Tryz.zeroValue0
 t3:=Tryz.underlying3
 a3:=Tryz.isAgg3
 z3:=Tryz.sizeOf3
 v3:=Tryz.zeroValue3
 t4:=Tryz.underlying4
 a4:=Tryz.isAgg4
 z4:=Tryz.sizeOf4
 v4:=Tryz.zeroValue4
 t5:=Tryz.underlying5
 a5:=Tryz.isAgg5
 z5:=Tryz.sizeOf5
 v5:=Tryz.zeroValue5
 t9:=Tryz.underlying9
 a9:=Tryz.isAgg9
 z9:=Tryz.sizeOf9
 v9:=Tryz.zeroValue9
 t37:=Tryz.underlying35
 a37:=Tryz.isAgg35
 z37:=Tryz.sizeOf35
 v37:=Tryz.zeroValue35
 t46:=Tryz.underlying129
 a46:=Tryz.isAgg129
 z46:=Tryz.sizeOf129
 v46:=Tryz.zeroValue129
 t51:=Tryz.underlying204
 a51:=Tryz.isAgg204
 z51:=Tryz.sizeOf204
 v51:=Tryz.zeroValue204
 t146:=Tryz.underlying207
 a146:=Tryz.isAgg207
 z146:=Tryz.sizeOf207
 v146:=Tryz.zeroValue207
 g1:=by kernel_rfl }
open Go.RowKit Go.Lib in
theorem Tryz.bytes_Index_one (b o n c b2 o2 d:Nat) (xs:List Int) (cv:Int) (w:World) (hx:xs.length=n) (hc:∀ i,i<n->w.cell? ⟨b,o+i,none⟩=some (.int .u8 (xs.getD i 0))) (hc2:w.cell? ⟨b2,o2,none⟩=some (.int .u8 cv)) :
  Calls Tryz.prog 97 #[.slice (some ⟨b,o,none⟩) n c,.slice (some ⟨b2,o2,none⟩) 1 d] w fun e w'=>e=.returned (.int .i64 (Lib.indexByte (Lib.bytesOf xs) cv.toNat.toUInt8))/\w'=w:=Any.bytes_Index_one Tryz.lays185 b o n c b2 o2 d xs cv w hx hc hc2
def Tryz.laysSlT4_ren:Go.Shelf.Ren:=⟨fun | 4=>72 | 5=>97 | 6=>23 | 7=>136 | 8=>137 | 9=>138 | 10=>139 | 11=>45 | 12=>166 | n=>n,fun | 22=>35 | 4=>4 | 3=>3 | 0=>0 | 5=>5 | 29=>129 | 9=>9 | 31=>207 | 30=>204 | n=>n,fun | 0=>0 | n=>n⟩
theorem Tryz.laysSlT4:Go.Proofs.SlLaysT.n4 Tryz.prog Tryz.laysSlT4_ren:={
 mixed:=by kernel_rfl
 f4:=Tryz.func72.trans (congrArg some (by kernel_rfl))
 f5:=Tryz.func97.trans (congrArg some (by kernel_rfl))
 f6:=Tryz.func23.trans (congrArg some (by kernel_rfl))
 f7:=Tryz.func136.trans (congrArg some (by kernel_rfl))
 f8:=Tryz.func137.trans (congrArg some (by kernel_rfl))
 f9:=Tryz.func138.trans (congrArg some (by kernel_rfl))
 f10:=Tryz.func139.trans (congrArg some (by kernel_rfl))
 f11:=Tryz.func45.trans (congrArg some (by kernel_rfl))
 f12:=Tryz.func166.trans (congrArg some (by kernel_rfl))
 t0:=Tryz.underlying0
 a0:=Tryz.isAgg0
 z0:=Tryz.sizeOf0
 v0:=Tryz.zeroValue0
 t3:=Tryz.underlying3
 a3:=Tryz.isAgg3
 z3:=Tryz.sizeOf3
 v3:=Tryz.zeroValue3
 t4:=Tryz.underlying4
 a4:=Tryz.isAgg4
 z4:=Tryz.sizeOf4
 v4:=Tryz.zeroValue4
 t5:=Tryz.underlying5
 a5:=Tryz.isAgg5
 z5:=Tryz.sizeOf5
 v5:=Tryz.zeroValue5
 t9:=Tryz.underlying9
 a9:=Tryz.isAgg9
 z9:=Tryz.sizeOf9
 v9:=Tryz.zeroValue9
 t22:=Tryz.underlying35
 a22:=Tryz.isAgg35
 z22:=Tryz.sizeOf35
 v22:=Tryz.zeroValue35
 t29:=Tryz.underlying129
 a29:=Tryz.isAgg129
 z29:=Tryz.sizeOf129
 v29:=Tryz.zeroValue129
 t30:=Tryz.underlying204
 a30:=Tryz.isAgg204
 z30:=Tryz.sizeOf204
 v30:=Tryz.zeroValue204
 t31:=Tryz.underlying207
 a31:=Tryz.isAgg207
 z31:=Tryz.sizeOf207
 v31:=Tryz.zeroValue207
 g0:=by kernel_rfl }
theorem Tryz.bytes_Cut_of (p1 p2:Option Addr) (n c1 k c2:Nat) (i:Int) (w:World) (hcap:n<=c1) (hlo : -1<=i) (hroom:0<=i->i+k<=n) (hn:n<=4611686018427387904) (hidx:Calls Tryz.prog 97 #[.slice p1 n c1,.slice p2 k c2] w fun e w'=>e=.returned (.int .i64 i)/\∃ q,w'=w.drewN q) :
  Calls Tryz.prog 72 #[.slice p1 n c1,.slice p2 k c2] w fun e w'=>e=.returned (Lib.cutV p1 n c1 k i)/\∃ q,w'=w.drewN q:=Any.bytes_Cut_of Tryz.laysSlT4 p1 p2 n c1 k c2 i w hcap hlo hroom hn hidx
end Go.Proofs
namespace Go.Proofs.YtadneimllbfdnaaGreatDoor.Lx
open Go.RowKit
set_option linter.unusedVariables false
set_option linter.unusedSimpArgs false
theorem idx_cut:∀ l:List UInt8,(∃ i:Nat,Lib.indexByte l 10=(i:Int)/\i<l.length/\(cutL l).1=l.take i/\(cutL l).2=l.drop (i+1))\/(Lib.indexByte l 10 = -1/\(cutL l).1=l/\(cutL l).2=[])
 | []=>.inr ⟨rfl,rfl,rfl⟩
 | b::l=>by
  by_cases hb:b=10
  ·
   subst hb
   exact .inl ⟨0,rfl,by simp,rfl,rfl⟩
  ·
   have hb':(b == 10)=false:=by simpa using hb
   have e1:(cutL (b::l)).1=b::(cutL l).1:=by simp [cutL,hb']
   have e2:(cutL (b::l)).2=(cutL l).2:=by simp [cutL,hb']
   rcases idx_cut l with ⟨i,h1,h2,h3,h4⟩ | ⟨h1,h3,h4⟩
   ·
    refine .inl ⟨i+1, ?_,by simp;omega,by rw [e1,h3];rfl,by rw [e2,h4];rfl⟩
    unfold Lib.indexByte
    rw [hb',h1]
    have:((i:Int) == -1)=false:=by simp
    rw [this]
    simp
   ·
    refine .inr ⟨?_,by rw [e1,h3],by rw [e2,h4]⟩
    unfold Lib.indexByte
    rw [hb',h1]
    rfl
theorem bytesOf_nat (l:List UInt8):Lib.bytesOf (l.map (fun b=>(b.toNat:Int)))=l:=by
 unfold Lib.bytesOf
 rw [List.map_map]
 conv=>rhs;rw [<-List.map_id l]
 apply List.map_congr_left
 intro b _
 simp
theorem RestAt.take {N:Nat} {w:World} {a:Option Addr} {l:List UInt8} (h:RestAt N w a l) (i:Nat):RestAt N w a (l.take i):=by
 rcases h with rfl | ⟨b,off,hb,ha,hc⟩
 · exact .inl (by simp)
 ·
  refine .inr ⟨b,off,hb,ha,fun k x hx=>?_⟩
  rw [List.getElem?_take] at hx
  split at hx
  · exact hc k x hx
  · cases hx
theorem RestAt.drop {N:Nat} {w:World} {b off:Nat} {l:List UInt8} (hb:b<N) (hc:∀ k x,l[k]? = some x->w.cell? ⟨b,off+k,none⟩=some (.int .u8 (x.toNat:Int))) (i:Nat):RestAt N w (some ⟨b,off+i,none⟩) (l.drop i):=by
 refine .inr ⟨b,off+i,hb,rfl,fun k x hx=>?_⟩
 rw [List.getElem?_drop] at hx
 rw [Nat.add_assoc]
 exact hc (i+k) x hx
theorem cutC:CutC:=by
 intro N l a cap sb w hr hne hcap hl hs
 obtain ⟨b,off,hb,rfl,hc⟩:∃ b off,b<N/\a=some ⟨b,off,none⟩/\∀ k x,l[k]? = some x->w.cell? ⟨b,off+k,none⟩=some (.int .u8 (x.toNat:Int)):=by
  rcases hr with h | h
  · exact absurd h hne
  · exact h
 have hI:=Tryz.bytes_Index_one b off l.length cap sb 0 1 (l.map (fun b=>(b.toNat:Int))) 10 w (by simp) (fun i hi=>by
  rw [hc i l[i] (List.getElem?_eq_getElem hi)]
  simp [List.getD,List.getElem?_eq_getElem hi]) hs
 rw [bytesOf_nat] at hI
 have e10:(10:Int).toNat.toUInt8=10:=rfl
 rw [e10] at hI
 have hI':=hI.mono fun e w' h=>(show _/\∃ q,w'=w.drewN q from ⟨h.1,0,h.2⟩)
 rcases idx_cut l with ⟨i,h1,h2,h3,h4⟩ | ⟨h1,h3,h4⟩
 ·
  rw [h1] at hI'
  refine (Tryz.bytes_Cut_of (some ⟨b,off,none⟩) (some ⟨sb,0,none⟩) l.length cap 1 1 (i:Int) w hcap (by omega) (fun _=>by omega) (by omega) hI').mono ?_
  rintro e w' ⟨rfl,hq⟩
  have hcl1:(cutL l).1.length=i:=by rw [h3,List.length_take];omega
  have hcl2:(cutL l).2.length=l.length - (i+1):=by rw [h4,List.length_drop]
  refine ⟨some ⟨b,off,none⟩,cap,if cap=i+1 then some ⟨b,off,none⟩ else some ⟨b,off+(i+1),none⟩,cap - (i+1),true, ?_, ?_, ?_,by omega,hq⟩
  ·
   rw [hcl1,hcl2]
   unfold Lib.cutV Lib.fromV
   rw [if_pos (by omega)]
   simp only [Int.toNat_natCast]
   by_cases hci:cap=i+1
   · rw [if_pos hci,if_pos hci]
   ·
    rw [if_neg hci,if_neg hci]
    simp only [Option.map,Go.WideShapes.add_plain]
  · rw [h3];exact hr.take i
  ·
   rw [h4]
   by_cases hci:cap=i+1
   · exact .inl (List.drop_eq_nil_of_le (by omega))
   ·
    rw [if_neg hci]
    exact RestAt.drop hb hc (i+1)
 ·
  rw [h1] at hI'
  refine (Tryz.bytes_Cut_of (some ⟨b,off,none⟩) (some ⟨sb,0,none⟩) l.length cap 1 1 (-1) w hcap (by omega) (fun h=>by omega) (by omega) hI').mono ?_
  rintro e w' ⟨rfl,hq⟩
  refine ⟨some ⟨b,off,none⟩,cap,none,0,false, ?_, ?_, ?_, ?_,hq⟩
  · rw [h3,h4];rfl
  · rw [h3];exact hr
  · rw [h4];exact .inl rfl
  · rw [h4];exact Nat.zero_le _
def LEnv (w:World):Prop:=Env w.heap.size w/\Pow w
theorem LEnv.out {w w':World} (h:LEnv w) (o:Out w w'):LEnv w':=⟨(h.1.below o).le o.size,h.2.out o⟩
theorem tkV_get (T:List Tk):∀ (k:Nat) (x:Tk) (i:Nat),T[k]? = some x->i<4->(tkV T)[k*4+i]? = x.cs[i]?:=by
 induction T with
 | nil=>intro k x i h;simp at h
 | cons y r ih=>
  intro k x i h hi
  have hy:y.cs.length=4:=rfl
  cases k with
  | zero=>
   have:y=x:=by simpa using h
   subst this
   show (y.cs++tkV r)[0*4+i]? = _
   rw [List.getElem?_append_left (by omega)]
   simp
  | succ k=>
   show (y.cs++tkV r)[(k+1)*4+i]? = _
   rw [List.getElem?_append_right (by omega),show (k+1)*4+i - y.cs.length=k*4+i by omega]
   exact ih k x i (by simpa using h) hi
theorem piece_cons (c:UInt8) (r:List UInt8):pieceP (c::r)=(if kindP (bI c)=1 then (0,none,1)
  else if kindP (bI c)=2 then (0,none,r.length+1)
  else if kindP (bI c)=3 then (if runN (c::r)<=64 then 0 else 53,some (1,(c::r).take (runN (c::r)),0),runN (c::r))
  else if kindP (bI c)=5 then (if startP r=true then (if runN (c::r)<=65 then 0 else 53) else 52,some (2,(c::r).take (runN (c::r)),0),runN (c::r))
  else if kindP (bI c)=4 then (if (valP ((c::r).take (runN (c::r)))).2=true then 0 else 54,some (3,[],(valP ((c::r).take (runN (c::r)))).1),runN (c::r))
  else if kindP (bI c)=7 then (0,some (4,[c],0),1)
  else (52,none,0)):=rfl
def isPiece (x:Tk):Prop:=x.k=1\/x.k=2\/x.k=4\/x.k=3
theorem piece_kind (c:UInt8) (r:List UInt8) (q:Int × List UInt8 × Int) (h:(pieceP (c::r)).2.1=some q):q.1=1\/q.1=2\/q.1=3\/q.1=4:=by
 rw [piece_cons] at h
 by_cases k1:kindP (bI c)=1
 · rw [if_pos k1] at h;simp at h
 rw [if_neg k1] at h
 by_cases k2:kindP (bI c)=2
 · rw [if_pos k2] at h;simp at h
 rw [if_neg k2] at h
 by_cases k3:kindP (bI c)=3
 · rw [if_pos k3] at h;simp at h;rw [<-h];exact .inl rfl
 rw [if_neg k3] at h
 by_cases k5:kindP (bI c)=5
 · rw [if_pos k5] at h;simp at h;rw [<-h];exact .inr (.inl rfl)
 rw [if_neg k5] at h
 by_cases k4:kindP (bI c)=4
 · rw [if_pos k4] at h;simp at h;rw [<-h];exact .inr (.inr (.inl rfl))
 rw [if_neg k4] at h
 by_cases k7:kindP (bI c)=7
 · rw [if_pos k7] at h;simp at h;rw [<-h];exact .inr (.inr (.inr rfl))
 rw [if_neg k7] at h;simp at h
theorem scan_kind:∀ (f:Nat) (l:List UInt8) (q:Int × List UInt8 × Int),q ∈ (scanF f l).2->q.1=1\/q.1=2\/q.1=3\/q.1=4
 | 0,_,q,h=>by simp [scanF] at h
 | _+1,[],q,h=>by simp [scanF] at h
 | f+1,c::r,q,h=>by
  unfold scanF at h
  split at h
  ·
   simp only [List.mem_append,Option.mem_toList] at h
   rcases h with h | h
   · exact piece_kind c r q h
   · exact scan_kind f _ q h
  · simp at h
theorem line_kind (l:List UInt8) (q:Int × List UInt8 × Int) (h:q ∈ (lineP l).2):q.1=1\/q.1=2\/q.1=3\/q.1=4:=by
 unfold lineP at h
 split at h
 · exact scan_kind _ _ _ h
 · simp at h
theorem tokens_len (l:List UInt8):(tokensP l).1.length<=33554433:=by
 unfold tokensP
 split
 ·
  split
  ·
   have:=textF_len l.length 0 l
   show ((textF l.length 0 l).2.2++_).length<=_
   rw [List.length_append];simp;omega
  · simp
 · simp
end Go.Proofs.YtadneimllbfdnaaGreatDoor.Lx
namespace Go.Proofs.YtadneimllbfdnaaGreatDoor.Lx
open Go.ChangeShapes Go.WideShapes Go.ChangeAt Go.RowKit Go.Deep
set_option linter.unusedVariables false
set_option linter.unusedSimpArgs false
theorem laid_at {P:Program} {W:World} {n:String} {D:DataW Unit} : ∀ {laid:List (String × DataW Unit)} {ps:List MemPlace},DataW.LaidVars P W laid ps->(n,D) ∈ laid ->
  ∃ g t cs fuel p,P.globalNamed n=some g/\(P.globals[g]?).map (·.type)=some t/\W.var? P n=some cs/\DataW.trod (fun _=>()) P W 0 (fun _=>true) false fuel t cs.toList=some (D,p)
 | [],_,h,hm=>by cases hm
 | (m,E)::L,ps,h,hm=>by
  obtain ⟨g,t,cs,f,p,q,hg,ht,hv,hd,hr,_⟩:=h
  rcases List.mem_cons.1 hm with e | hm'
  ·
   cases e
   exact ⟨g,t,cs,f,p,hg,ht,hv,hd⟩
  · exact laid_at hr hm'
theorem arr_flat {H:Type} {enc:TypeId × Value->H} {P:Program} {W:World} {base:Nat} {sp:Nat->Bool} {held:Bool} {fuel:Nat} {t e:TypeId} {n c:Nat} {cs:List Value} {ds:List (DataW H)} {p:List MemPlace}
  (ht:P.underlying t=some (.array n e)) (hc:P.cellsOf e=c) (hcl:P.cellsOf t=n*c) (F:DataW H->List Value)
  (hF:∀ m cs d p,DataW.trod enc P W base sp held m e cs=some (d,p)->cs=F d)
  (h:DataW.trod enc P W base sp held fuel t cs=some (.agg ds,p)):cs=ds.flatMap F:=by
 obtain ⟨xs,m,rfl,hx,hlen,hxl,hel⟩:=DataW.trod_array ht h
 simp only [Prod.mk.injEq,DataW.agg.injEq] at hx
 obtain ⟨hds,_⟩:=hx
 rw [hc] at hel
 rw [hcl] at hlen
 have key:∀ (n:Nat) (cs:List Value) (xs:List (DataW H × List MemPlace)),cs.length=n*c->xs.length=n->(∀ i,i<n->DataW.trod enc P W base sp held m e ((cs.drop (i*c)).take c)=xs[i]?)->cs=(xs.map (·.1)).flatMap F:=by
  intro n
  induction n with
  | zero=>
   intro cs xs h1 h2 _
   rw [Nat.zero_mul] at h1
   rw [List.length_eq_zero_iff.1 h1,List.length_eq_zero_iff.1 h2]
   rfl
  | succ n ih=>
   intro cs xs h1 h2 h3
   cases xs with
   | nil=>simp at h2
   | cons x xs=>
    have e0:=h3 0 (by omega)
    simp only [Nat.zero_mul,List.drop_zero,List.getElem?_cons_zero] at e0
    have e1:=hF m _ x.1 x.2 e0
    have e2:=ih (cs.drop c) xs (by rw [List.length_drop,h1,Nat.succ_mul];omega) (by simpa using h2) (fun i hi=>by
     have:=h3 (i+1) (by omega)
     rw [List.getElem?_cons_succ] at this
     rw [List.drop_drop,show c+i*c=(i+1)*c from by rw [Nat.succ_mul];omega]
     exact this)
    simp only [List.map_cons,List.flatMap_cons]
    rw [<-e1, <-e2,List.take_append_drop]
 rw [hds]
 exact key n cs xs hlen hxl hel
def fI {H:Type} : DataW H->List Value
 | .lit (.int k n)=>[.int k n]
 | _=>[]
theorem int_flat {H:Type} {enc:TypeId × Value->H} {P:Program} {W:World} {base:Nat} {sp:Nat->Bool} {held:Bool} {t:TypeId} {k:IntKind} (ht:P.underlying t=some (.int k)) (m:Nat) (cs:List Value) (d:DataW H) (p:List MemPlace) (h:DataW.trod enc P W base sp held m t cs=some (d,p)):cs=fI d:=by
 obtain ⟨n,hs,hx,_⟩:=DataW.trod_int ht h
 simp only [Prod.mk.injEq] at hx
 rw [hs,hx.1]
 rfl
theorem range_of {W:World} {P:Program} {n:String} {g:Nat} {cs:Array Value} {vs:List Value} (hg:P.globalNamed n=some g) (hv:W.var? P n=some cs) (h:cs.toList=vs):W.rangeAt g 0 vs:=fun j v hj=>by
 have:=World.var?_cell hg hv j
 rw [Nat.zero_add]
 rw [this, <-hj, <-h]
 simp
theorem iface_flat {H:Type} {enc:TypeId × Value->H} {P:Program} {W:World} {base:Nat} {sp:Nat->Bool} {held:Bool} {fuel:Nat} {t:TypeId} {cs:List Value} {x:DataW H × List MemPlace} (ht:∃ z,P.underlying t=some (.interface z)) (h:DataW.trod enc P W base sp held fuel t cs=some x):cs=[.nilIface]\/∃ u v,cs=[.iface u v]:=by
 obtain ⟨z,ht⟩:=ht
 cases fuel with
 | zero=>simp [DataW.trod] at h
 | succ n=>
  unfold DataW.trod at h
  rw [ht] at h
  split at h <;> simp_all
theorem pow_of {W:World} {fuel:Nat} {enc:TypeId × Value->Unit} {sp:Nat->Bool} {held:Bool} {cs:List Value} {p:List MemPlace} (h:DataW.trod enc Tryz.prog W 0 sp held fuel 203 cs=some (Rows.laid_internal_strconv_uint64pow10,p)):cs=Lib.pow10Tab.map (fun z=>Value.int .u64 z):=
 (arr_flat (c:=1) Tryz.underlying203 (by kernel_rfl) (by kernel_rfl) fI (int_flat Tryz.underlying75) h).trans (by rfl)
theorem err_of {W:World} {g:Nat} {cs:Array Value} {n:String} (hg:Tryz.prog.globalNamed n=some g) (hv:W.var? Tryz.prog n=some cs) (hc:cs.toList=[.nilIface]\/∃ u v,cs.toList=[.iface u v]):ErrAt W g/\g<W.heap.size:=by
 rcases hc with hc | ⟨u,v,hc⟩
 ·
  have h1:W.cell? ⟨g,0,none⟩=some .nilIface:=by have:=range_of hg hv hc 0 .nilIface rfl;rwa [Nat.zero_add] at this
  exact ⟨⟨_,h1,.inl rfl⟩,World.block_lt_of_cell? W _ h1⟩
 ·
  have h1:W.cell? ⟨g,0,none⟩=some (.iface u v):=by have:=range_of hg hv hc 0 (.iface u v) rfl;rwa [Nat.zero_add] at this
  exact ⟨⟨_,h1,.inr ⟨u,v,rfl⟩⟩,World.block_lt_of_cell? W _ h1⟩
theorem env_of {W:World} (laid:List (String × DataW Unit)) (hp:(laid.all fun x=>x.2.handleName?.isNone)=true) (h:laidMetH Tryz.prog laid W)
  (m9:("internal/strconv.uint64pow10",Rows.laid_internal_strconv_uint64pow10) ∈ laid) (m10:("strconv.ErrRange",Rows.laid_strconv_ErrRange) ∈ laid) (m11:("strconv.ErrSyntax",Rows.laid_strconv_ErrSyntax) ∈ laid):LEnv W:=by
 rw [MakeChecks.laidMetH_plain _ _ _ hp] at h
 obtain ⟨ps,h,_,_⟩:=h
 have e9:Pow W:=by
  obtain ⟨g,t,cs,f,p,hg,ht,hv,hd⟩:=laid_at h m9
  obtain rfl:=Option.some.inj ((show Tryz.prog.globalNamed "internal/strconv.uint64pow10" = some 8 by kernel_rfl).symm.trans hg)
  obtain rfl:=Option.some.inj ((show (Tryz.prog.globals[8]?).map (·.type)=some 203 by kernel_rfl).symm.trans ht)
  unfold Pow Lib.TabIs
  rw [hv, <-pow_of hd]
 have e10:ErrAt W 13/\13 < W.heap.size:=by
  obtain ⟨g,t,cs,f,p,hg,ht,hv,hd⟩:=laid_at h m10
  obtain rfl:=Option.some.inj ((show Tryz.prog.globalNamed "strconv.ErrRange" = some 13 by kernel_rfl).symm.trans hg)
  obtain rfl:=Option.some.inj ((show (Tryz.prog.globals[13]?).map (·.type)=some 83 by kernel_rfl).symm.trans ht)
  exact err_of hg hv (iface_flat ⟨_,Tryz.underlying83⟩ hd)
 have e11:ErrAt W 12/\12 < W.heap.size:=by
  obtain ⟨g,t,cs,f,p,hg,ht,hv,hd⟩:=laid_at h m11
  obtain rfl:=Option.some.inj ((show Tryz.prog.globalNamed "strconv.ErrSyntax" = some 12 by kernel_rfl).symm.trans hg)
  obtain rfl:=Option.some.inj ((show (Tryz.prog.globals[12]?).map (·.type)=some 83 by kernel_rfl).symm.trans ht)
  exact err_of hg hv (iface_flat ⟨_,Tryz.underlying83⟩ hd)
 exact ⟨⟨e10.1,e11.1,e10.2,e11.2⟩,e9⟩
theorem list_of {α:Type} (P:Nat->α->Prop):∀ n,(∀ i,i<n->∃ x,P i x)->∃ l:List α,l.length=n/\∀ i x,l[i]? = some x->P i x
 | 0,_=>⟨[],rfl,fun i x h=>by simp at h⟩
 | n+1,h=>by
  obtain ⟨l,hl,hp⟩:=list_of P n (fun i hi=>h i (by omega))
  obtain ⟨x,hx⟩:=h n (by omega)
  refine ⟨l++[x],by simp [hl],fun i y hy=>?_⟩
  by_cases hi:i<n
  · rw [List.getElem?_append_left (by omega)] at hy;exact hp i y hy
  ·
   have:i<n+1:=by have:=(List.getElem?_eq_some_iff.1 hy).1;simp [hl] at this;exact this
   obtain rfl:i=n:=by omega
   rw [List.getElem?_append_right (by omega)] at hy
   simp [hl] at hy
   subst hy;exact hx
end Go.Proofs.YtadneimllbfdnaaGreatDoor.Lx
