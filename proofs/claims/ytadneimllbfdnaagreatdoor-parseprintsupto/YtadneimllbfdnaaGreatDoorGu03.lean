import Derived.Test.YtadneimllbfdnaaGreatDoorGu01
import Derived.Test.YtadneimllbfdnaaGreatDoorGu02
import Derived.Laws.MakeOwn
import Derived.Lib.AppendIntMem
import Derived.Lib.ItoaNum
namespace Go.Proofs.YtadneimllbfdnaaGreatDoor.Lx
open Go.RowKit
set_option linter.unusedVariables false
set_option linter.unusedSimpArgs false
def textF:Nat->Nat->List UInt8->Int × Nat × List Tk
 | 0,n,_=>(0,n,[])
 | _+1,n,[]=>(0,n,[])
 | f+1,n,c::r=>
  if (lineP (cutL (c::r)).1).1=0 then ((textF f (n+1) (cutL (c::r)).2).1,(textF f (n+1) (cutL (c::r)).2).2.1,((lineP (cutL (c::r)).1).2++[(5,[],0)]).map (mkT (n+1))++(textF f (n+1) (cutL (c::r)).2).2.2)
  else ((lineP (cutL (c::r)).1).1,n+1,[])
theorem textF_eq:∀ (f g n:Nat) (l:List UInt8),l.length<=f->l.length<=g->textF f n l=textF g n l
 | 0,0,_,_,_,_=>rfl
 | 0,g+1,n,[],_,_=>rfl
 | 0,g+1,n,c::r,h,_=>by simp at h
 | f+1,0,n,[],_,_=>rfl
 | f+1,0,n,c::r,_,h=>by simp at h
 | f+1,g+1,n,[],_,_=>rfl
 | f+1,g+1,n,c::r,hf,hg=>by
  have hc:=(cutL_len (c::r) (by simp)).2
  simp only [List.length_cons] at hf hg hc
  unfold textF
  rw [textF_eq f g (n+1) _ (by omega) (by omega)]
def textD (n:Nat) (l:List UInt8):Int × Nat × List Tk:=textF l.length n l
theorem textD_nil (n:Nat):textD n []=(0,n,[]):=rfl
theorem textD_ok (n:Nat) (l:List UInt8) (hl:¬l=[]) (h:(lineP (cutL l).1).1=0):textD n l=((textD (n+1) (cutL l).2).1,(textD (n+1) (cutL l).2).2.1,((lineP (cutL l).1).2++[(5,[],0)]).map (mkT (n+1))++(textD (n+1) (cutL l).2).2.2):=by
 cases l with
 | nil=>exact absurd rfl hl
 | cons c r=>
  have hc:=(cutL_len (c::r) (by simp)).2
  show textF (r.length+1) n (c::r)=_
  unfold textF
  simp only [List.length_cons] at hc
  rw [if_pos h,textF_eq r.length _ (n+1) (cutL (c::r)).2 (by omega) (Nat.le_refl _)]
  rfl
theorem textD_bad (n:Nat) (l:List UInt8) (hl:¬l=[]) (h:¬(lineP (cutL l).1).1=0):textD n l=((lineP (cutL l).1).1,n+1,[]):=by
 cases l with
 | nil=>exact absurd rfl hl
 | cons c r=>
  show textF (r.length+1) n (c::r)=_
  unfold textF
  rw [if_neg h]
structure Run (s0 s:Sn) (D:List Tk):Prop where
 keeps:s.keeps=s0.keeps
 cnt:s.cnt=s0.cnt+D.length
 T:s.T=if s0.keeps then s0.T++D else s0.T
def restOf (p:Nat) (w:World):Nat:=match w.cell? ⟨p,0,none⟩ with | some (.slice _ n _)=>n | _=>0
def TEnd (N p:Nat) (w:World) (s:Sn) (l:List UInt8) (e:Ending) (w':World):Prop:=
 e=.returned (.int .i64 (textD s.num l).1)/\Below N w w' /\
  (¬(textD s.num l).1=0->w'.cell? ⟨p,2,none⟩=some (.int .i64 ((textD s.num l).2.1:Nat))) /\
  ((textD s.num l).1=0->∃ rv tv' s',Sc N p w' rv tv' s'/\Run s s' ((textD s.num l).2.2++[⟨0,[],0,(textD s.num l).2.1⟩]))
theorem Run.putS {s0 s:Sn} {D:List Tk} (h:Run s0 s D) (L:List UInt8) (a:Nat) (X:List (Int × List UInt8 × Int)):Run s0 (putS s L a X) (D++X.map (mkT (s.num+1))):=by
 refine ⟨h.keeps, ?_, ?_⟩
 ·
  show s.cnt+X.length=_
  rw [h.cnt,List.length_append,List.length_map];omega
 ·
  show (if s.keeps then s.T++X.map (mkT (s.num+1)) else s.T)=_
  rw [h.keeps,h.T]
  by_cases hk:s0.keeps=true
  · simp [hk]
  · simp [hk]
theorem Run.len {s0 s:Sn} {D:List Tk} (h:Run s0 s D) (h0:s0.T.length<=s0.cnt):s.T.length<=s.cnt:=by
 rw [h.T,h.cnt]
 by_cases hk:s0.keeps=true
 · simp [hk];omega
 · simp [hk];omega
theorem Run.add {s0 s:Sn} {D:List Tk} (h:Run s0 s D) (k:Int) (t:List UInt8) (n:Int):Run s0 (s.add k t n) (D++[⟨k,t,n,s.num⟩]):=by
 refine ⟨h.keeps, ?_, ?_⟩
 ·
  show s.cnt+1=_
  rw [h.cnt,List.length_append];simp;omega
 ·
  show (if s.keeps then s.T++[⟨k,t,n,s.num⟩] else s.T)=_
  rw [h.keeps,h.T]
  by_cases hk:s0.keeps=true
  · simp [hk]
  · simp [hk]
set_option maxHeartbeats 4000000 in
theorem lines_any (CV:ValC) (CC:CutC) (N p:Nat) (w:World) (hE:Env N w) (ra:Option Addr) (rc:Nat) (tv:Value) (s:Sn) (l:List UInt8) (h:Sc N p w (.slice ra l.length rc) tv s) (hr:RestAt N w ra l) (hcap:l.length<=rc) (hl:l.length<=16777216) (hc:s.cnt=0) (hT:s.T.length=0) (hnum:s.num=0) :
  Calls Tryz.prog 22 #[.pointer (some ⟨p,0,none⟩)] w fun e w'=>TEnd N p w s l e w':=by
 have H:=hidOf h
 have HE:=hidOf hE
 have HR:=hidOf hr
 unfold TEnd
 rw [hnum]
 obtain ⟨E,n0,D0,HD⟩:∃ E n0 D0,Hid (textD 0 l=(E,n0,D0)):=⟨_,_,_,hidOf rfl⟩
 rw [HD.out]
 simp only
 clear h hr hE
 go_enter Tryz.func22,Tryz.ntmps22
 go_wp2
 go_loopw [3] (fun ev wr=>∃ (m:List UInt8) (D:List Tk) (ra':Option Addr) (rc':Nat) (tv':Value) (s':Sn),m.length<=rc'/\m.length<=l.length/\s'.num+m.length<=16777216/\s'.cnt+2*m.length<=33554432/\Hid (E=(textD s'.num m).1/\n0=(textD s'.num m).2.1/\(E=0->D0=D++(textD s'.num m).2.2))/\Hid (Sc N p wr (.slice ra' m.length rc') tv' s')/\Hid (Run s s' D)/\Hid (RestAt N wr ra' m)/\Hid (Below N w wr)) (fun ev wr=>restOf p wr)
 case atStart=>exact ⟨l,[],ra,rc,tv,s,hcap,by omega,by omega,by omega,hidOf ⟨by rw [hnum,HD.out],by rw [hnum,HD.out],fun _=>by rw [hnum,HD.out];rfl⟩,H,hidOf ⟨rfl,by simp,by simp⟩,HR,hidOf (Below.refl _ _)⟩
 case round=>
  obtain ⟨m,D,ra',rc',tv',s',hm,hml,hn,hct,HS,HC,HU,HA,HB⟩:=hrel
  have d0:wr.cell? ⟨p,0,none⟩=some (.slice ra' m.length rc'):=HC.out.cell 0
  have hro:Hid (restOf p wr=m.length):=hidOf (by unfold restOf;rw [d0])
  by_cases hme:m=[]
  ·
   subst hme
   have HX:Hid (E=0/\n0=s'.num/\D0=D):=by
    have h1:=HS.out
    rw [textD_nil] at h1
    exact hidOf ⟨h1.1,h1.2.1,by rw [h1.2.2 h1.1];simp⟩
   have CA:Hid (Calls Tryz.prog 44 #[.pointer (some ⟨p,0,none⟩),.int .i64 0,.string ⟨#[]⟩,.int .u64 0] wr fun e w'=>(∃ v,e=.returned v)/\SEnd N p (.slice ra' 0 rc') wr (s'.add 0 [] 0) w'):=add_any N p _ _ tv' _ 0 [] 0 HC.out (by omega) (HU.out.len (by omega))
   simp only [List.length_nil] at d0
   go_wp2_with (go_at_call 44;refine CA.out.mono ?_;rintro e w4 ⟨⟨v,rfl⟩,⟨tv4,q2⟩,q3⟩;have H4:=hidOf q2;have B4:=hidOf q3;clear q2 q3)
   go_ret
   refine ⟨by rw [HX.out.1];rfl,Below.step HB.out B4.out,fun h0=>absurd HX.out.1 h0,fun _=>⟨_,_,_,H4.out, ?_⟩⟩
   rw [HX.out.2.1,HX.out.2.2]
   exact HU.out.add 0 [] 0
  ·
   have hpos:0<m.length:=List.length_pos_iff.2 hme
   have hposI:(0:Int)<m.length:=by omega
   have CN:=hidOf (nextLine_any CV CC N p wr (HE.out.below HB.out) ra' rc' tv' s' m HC.out HA.out hme hm (by omega) (by omega) (HU.out.len (by omega)) (by omega))
   have hcl:=cutL_len m hme
   have hll:=lineP_len (cutL m).1
   have hok:=textD_ok s'.num m hme
   have hbad:=textD_bad s'.num m hme
   unfold LEnd at CN
   generalize cutL m=q at *
   obtain ⟨L,M⟩:=q
   simp only at CN hcl hll hok hbad
   generalize lineP L=z at *
   obtain ⟨x,X⟩:=z
   simp only at CN hll hok hbad
   by_cases hx:x=0
   ·
    subst hx
    have h2:=hok rfl
    have HS':Hid (E=(textD (s'.num+1) M).1/\n0=(textD (s'.num+1) M).2.1/\(E=0->D0=(D++(X++[(5,[],0)]).map (mkT (s'.num+1)))++(textD (s'.num+1) M).2.2)):=by
     have h3:=HS.out
     rw [h2] at h3
     exact hidOf ⟨h3.1,h3.2.1,fun e=>by rw [h3.2.2 e,List.append_assoc]⟩
    clear hok hbad h2 HS
    go_wp2_with (go_at_call 43;refine CN.out.mono ?_;rintro e w4 ⟨rfl,q1,q2,q3⟩;obtain ⟨a2,c2,tv4,L4,at4,r4,hc4,h4⟩:=q3 (by first | rfl | trivial);have H4:=hidOf h4;have B4:=hidOf q1;have R4:=hidOf r4;clear q1 q2 q3 h4 r4)
    go_roundw
    case rel=>
     refine ⟨M,_,a2,c2,tv4,_,hc4,by omega, ?_, ?_,HS',H4,hidOf (HU.out.putS L4 at4 _),R4,hidOf (Below.step HB.out B4.out)⟩
     ·
      show s'.num+1+M.length<=16777216
      omega
     ·
      show s'.cnt+(X++[(5,[],0)]).length+2*M.length<=33554432
      rw [List.length_append]
      simp only [List.length_cons,List.length_nil]
      omega
    case measure=>
     have e0:w4.cell? ⟨p,0,none⟩=some (.slice a2 M.length c2):=H4.out.cell 0
     rw [hro.out]
     unfold restOf
     rw [e0]
     exact hcl.2
   ·
    have hx':(x == 0)=false:=by simpa using hx
    have h2:=hbad hx
    have HX:Hid (E=x/\n0=s'.num+1):=by
     have h3:=HS.out
     rw [h2] at h3
     exact hidOf ⟨h3.1,h3.2.1⟩
    clear hok hbad h2 HS
    go_wp2_with (go_at_call 43;refine CN.out.mono ?_;rintro e w4 ⟨rfl,q1,q2,q3⟩;have B4:=hidOf q1;have Q2:=hidOf q2;clear q1 q2 q3)
    go_ret
    refine ⟨by rw [HX.out.1];rfl,Below.step HB.out B4.out,fun _=>by rw [HX.out.2];exact Q2.out,fun h0=>absurd (by rw [<-HX.out.1];exact h0) hx⟩
def tokensP (l:List UInt8):List Tk × Int × Int:=
 if l.length<=16777216 then (if (textD 0 l).1=0 then ((textD 0 l).2.2++[⟨0,[],0,(textD 0 l).2.1⟩],0,0) else ([],((textD 0 l).2.1:Nat),(textD 0 l).1)) else ([],0,50)
theorem textF_len:∀ (f n:Nat) (l:List UInt8),(textF f n l).2.2.length<=2*l.length
 | 0,_,_=>by simp [textF]
 | _+1,_,[]=>by simp [textF]
 | f+1,n,c::r=>by
  have hc:=cutL_len (c::r) (by simp)
  have hx:=lineP_len (cutL (c::r)).1
  have ih:=textF_len f (n+1) (cutL (c::r)).2
  unfold textF
  split
  ·
   simp only [List.length_append,List.length_map,List.length_cons,List.length_nil] at hc ⊢
   omega
  · simp
def sn0 (k:Bool):Sn:=⟨[],0,0,0,k,[]⟩
theorem sc_new {N:Nat} {w:World} (hN:N<=w.heap.size) (rv tv:Value) (k:Bool) (ho:w.ownsRow N 77 4 tv 0 []) (hne:∀ g,tv.ownBlock=some g->g<w.heap.size):Sc N w.heap.size (w.alloc (.cells ((sn0 k).cells rv tv) 67)) rv tv (sn0 k):=by
 refine ⟨hN,heap_alloc_new w _, ?_,fun g hg e=>?_⟩
 · exact owns_chg (S:=fun _=>False) ho (fun _ _ h=>h) (Chg.of_out ((Out.refl w).alloc _))
 · have:=hne g hg;omega
set_option maxHeartbeats 4000000 in
theorem tokens_any (CV:ValC) (CC:CutC) (w:World) (hE:Env w.heap.size w) (a:Option Addr) (cap:Nat) (l:List UInt8) (hr:RestAt w.heap.size w a l) (hcap:l.length<=cap) (hll:l.length<=140737488355328) :
  Calls Tryz.prog 12 #[.slice a l.length cap] w fun e w'=>∃ v,e=.returned (.tuple #[v,.int .i64 (tokensP l).2.1,.int .i64 (tokensP l).2.2])/\w'.ownsRow w.heap.size 77 4 v (tokensP l).1.length (tkV (tokensP l).1)/\Out w w':=by
 by_cases hl:l.length<=16777216
 ·
  have hlI:(l.length:Int)<=16777216:=by omega
  have hlI':¬(16777216:Int)<l.length:=by omega
  have CL:Hid (∀ wx p tv k,Below w.heap.size w wx->Sc w.heap.size p wx (.slice a l.length cap) tv (sn0 k)->Calls Tryz.prog 22 #[.pointer (some ⟨p,0,none⟩)] wx fun e w'=>TEnd w.heap.size p wx (sn0 k) l e w'):=fun wx p tv k hb hs=>lines_any CV CC w.heap.size p wx (hE.below hb) a cap tv (sn0 k) l hs (hr.below hb) hcap hl rfl rfl rfl
  have H1:Hid (Sc w.heap.size w.heap.size (w.alloc (.cells #[.slice a l.length cap,.string ⟨#[]⟩,.int .i64 0,.int .i64 0,.int .i64 0,.bool false,.slice none 0 0] 67)) (.slice a l.length cap) (.slice none 0 0) (sn0 false)):=sc_new (Nat.le_refl _) _ _ false (World.ownsRow_nil _ _ _ _) (fun g hg=>by cases hg)
  have B1:Hid (Below w.heap.size w (w.alloc (.cells #[.slice a l.length cap,.string ⟨#[]⟩,.int .i64 0,.int .i64 0,.int .i64 0,.bool false,.slice none 0 0] 67))):=(Out.refl w).alloc _
  have hlen:(textD 0 l).2.2.length<=2*l.length:=textF_len _ _ _
  have hP:tokensP l=(if (textD 0 l).1=0 then ((textD 0 l).2.2++[⟨0,[],0,(textD 0 l).2.1⟩],(0:Int),(0:Int)) else ([],(((textD 0 l).2.1:Nat):Int),(textD 0 l).1)):=by unfold tokensP;rw [if_pos hl]
  rw [hP]
  clear hP
  unfold TEnd at CL
  have hz:∀ k,(sn0 k).num=0:=fun _=>rfl
  simp only [hz] at CL
  obtain ⟨E,n0,D0,HD⟩:∃ E n0 D0,Hid (textD 0 l=(E,n0,D0)):=⟨_,_,_,hidOf rfl⟩
  rw [HD.out] at CL hlen ⊢
  simp only at CL hlen ⊢
  clear hE hr
  by_cases hx:E=0
  ·
   subst hx
   rw [if_pos rfl]
   simp only
   obtain ⟨i0,hi,hz0,hz1,hz2⟩:=info_parts infoTk
   go_enter Tryz.func12,Tryz.ntmps12
   go_upto_region 4 with fail
   generalize w.alloc (.cells #[.slice a l.length cap,.string ⟨#[]⟩,.int .i64 0,.int .i64 0,.int .i64 0,.bool false,.slice none 0 0] 67)=w1 at *
   go_upto_region 7 with (go_at_call 22;refine (CL.out w1 _ _ _ B1.out H1.out).mono ?_;rintro e w2 ⟨rfl,q1,q2,q3⟩;obtain ⟨rv2,tv2,s2,q4,q5⟩:=q3 (by first | rfl | trivial);have H2:=hidOf q4;have B2:=hidOf (Below.step B1.out q1);have U2:=hidOf q5;clear q1 q2 q3 q4 q5)
   obtain ⟨cn,hcn⟩:∃ cn,cn=s2.cnt:=⟨_,rfl⟩
   have hcD:cn=D0.length+1:=by rw [hcn,U2.out.cnt];simp [sn0]
   have d4:w2.cell? ⟨w.heap.size,4,none⟩=some (.int .i64 (cn:Int)):=by rw [hcn];exact H2.out.cell 4
   obtain ⟨w3,hmk,hown3,hgr3⟩:=run_make_own (P:=Tryz.prog) w2 w.heap.size 49 77 i0 _ 4 Tryz.underlying49 hi hz0 hz1 .i64 .i64 cn (by rw [hz2];omega) (by unfold maxLen;omega) B2.out.size
   have hlt3:=(hown3.lt w2.heap.size rfl).2
   have H3:=hidOf (sc_new (N:=w.heap.size) (w:=w3) (Nat.le_trans B2.out.size hgr3.size) (.slice a l.length cap) (.slice (some ⟨w2.heap.size,0,none⟩) 0 cn) true hown3 (fun g hg=>by simp [Value.ownBlock] at hg;omega))
   have B3:Hid (Below w.heap.size w (w3.alloc (.cells ((sn0 true).cells (.slice a l.length cap) (.slice (some ⟨w2.heap.size,0,none⟩) 0 cn)) 67))):=Below.alloc (Below.of_grown B2.out (Nat.le_refl _) hgr3 (fun k hk=>by cases hk)) (Nat.le_trans B2.out.size hgr3.size) _
   clear hown3 hgr3 hlt3 hcD hi hz0 hz1 hz2
   have hcn':=hidOf hcn
   clear hcn
   go_upto_region 8 with fail
   have H3':Hid (Sc w.heap.size w3.heap.size (w3.alloc (.cells #[.slice a l.length cap,.string ⟨#[]⟩,.int .i64 0,.int .i64 0,.int .i64 0,.bool true,.slice (some ⟨w2.heap.size,0,none⟩) 0 cn] 67)) (.slice a l.length cap) (.slice (some ⟨w2.heap.size,0,none⟩) 0 cn) (sn0 true)):=H3
   have B3':Hid (Below w.heap.size w (w3.alloc (.cells #[.slice a l.length cap,.string ⟨#[]⟩,.int .i64 0,.int .i64 0,.int .i64 0,.bool true,.slice (some ⟨w2.heap.size,0,none⟩) 0 cn] 67))):=B3
   clear H3 B3 hmk d4 H2 B2 U2 hcn'
   generalize w3.alloc (.cells #[.slice a l.length cap,.string ⟨#[]⟩,.int .i64 0,.int .i64 0,.int .i64 0,.bool true,.slice (some ⟨w2.heap.size,0,none⟩) 0 cn] 67)=w4 at *
   generalize hg3:(.slice (some ⟨w2.heap.size,0,none⟩) 0 cn:Value)=tv4 at H3'
   generalize w3.heap.size=p3 at *
   go_upto_region 9 with (go_at_call 22;refine (CL.out w4 p3 tv4 true B3'.out H3'.out).mono ?_;rintro e w5 ⟨rfl,q1,q2,q3⟩;obtain ⟨rv5,tv5,s5,q4,q5⟩:=q3 (by first | rfl | trivial);have H5:=hidOf q4;have B5:=hidOf (Below.step B3'.out q1);have U5:=hidOf q5;clear q1 q2 q3 q4 q5)
   obtain ⟨ad5,cp5,rfl⟩:∃ ad cp,tv5=.slice ad s5.T.length cp:=own_form H5.out.own
   have d6:w5.cell? ⟨p3,6,none⟩=some (.slice ad5 s5.T.length cp5):=H5.out.cell 6
   go_wp2
   go_ret3
   have e1:s5.T=D0++[⟨0,[],0,n0⟩]:=by rw [U5.out.T];simp [sn0]
   refine ⟨.slice ad5 s5.T.length cp5,rfl, ?_,B5.out⟩
   rw [<-e1]
   exact H5.out.own
  ·
   rw [if_neg hx]
   have hx':(E == 0)=false:=by simpa using hx
   simp only
   go_enter Tryz.func12,Tryz.ntmps12
   go_upto_region 4 with fail
   generalize w.alloc (.cells #[.slice a l.length cap,.string ⟨#[]⟩,.int .i64 0,.int .i64 0,.int .i64 0,.bool false,.slice none 0 0] 67)=w1 at *
   go_upto_region 6 with (go_at_call 22;refine (CL.out w1 _ _ _ B1.out H1.out).mono ?_;rintro e w2 ⟨rfl,q1,q2,q3⟩;have d2:=q2 hx;have B2:=hidOf (Below.step B1.out q1);clear q1 q2 q3)
   go_quiet (fail)
   go_wp2
   go_ret3
   exact ⟨.slice none 0 0,rfl,World.ownsRow_nil _ _ _ _,Below.step B2.out ⟨rfl,rfl,rfl,Nat.le_refl _,fun _ _=>rfl⟩⟩
 ·
  have hlI':(16777216:Int)<l.length:=by omega
  have hP:tokensP l=([],0,50):=by unfold tokensP;rw [if_neg hl]
  rw [hP]
  go_enter Tryz.func12,Tryz.ntmps12
  go_wp2
  go_ret3
  exact ⟨.slice none 0 0,rfl,World.ownsRow_nil _ _ _ _,Out.refl _⟩
theorem bldSize:(Tryz.prog.info? 56).map (·.size)=some 2:=Tryz.Builder_Extra_169.sizeBuilder
theorem wrtLies:liesAt Tryz.prog Tryz.prog.depth 135 (4 / Tryz.prog.cellsOf 135) 0 56 1=true:=by kernel_rfl
set_option maxRecDepth 100000 in
set_option maxHeartbeats 1000000 in
theorem chk_used (b:Nat) (w:World) (h0:w.cell? ⟨b,0,none⟩=some (.pointer (some ⟨b,0,none⟩))):Calls Tryz.prog 62 #[.pointer (some ⟨b,0,none⟩)] w fun e w'=>e=.returned (.tuple #[])/\w'=w:=by
 obtain ⟨j,hj,_⟩:=Option.map_eq_some_iff.1 bldSize
 go_enter Tryz.func62,Tryz.ntmps62
 go_wp2
 rw [Lib.run_neq_ptr_same w _ Tryz.underlying54 hj]
 go_wp2
 go_end0
 exact ⟨rfl,rfl⟩
set_option maxRecDepth 100000 in
set_option maxHeartbeats 1000000 in
theorem chk_new (b:Nat) (w:World) (h0:w.cell? ⟨b,0,none⟩=some (.pointer none)) (hs:w.shape? b=some (135,4)) (hf:w.frozen? ⟨b,0,none⟩=false):Calls Tryz.prog 62 #[.pointer (some ⟨b,0,none⟩)] w fun e w'=>e=.returned (.tuple #[])/\w'=w.setCell ⟨b,0,none⟩ (.pointer (some ⟨b,0,none⟩)):=by
 obtain ⟨j,hj,hj2⟩:=Option.map_eq_some_iff.1 bldSize
 go_enter Tryz.func62,Tryz.ntmps62
 go_wp2
 rw [Lib.run_to_unsafe w ⟨b,0,none⟩ Tryz.underlying54 Tryz.underlying139 hj (by rw [hj2];decide) hs (Nat.zero_lt_succ 3)]
 simp only [Result.andThen]
 rw [Oper.upon_value]
 go_wp2
 rw [run_callFunc_extern Tryz.func89 (by kernel_rfl) (by kernel_rfl) (by kernel_rfl) (e:=Extern.AbiNoEscape.same) (by kernel_rfl),Lib.run_noEscape]
 simp only [Result.andThen]
 rw [Oper.upon_value]
 go_wp2
 rw [Lib.run_from_unsafe w ⟨b,0,none⟩ Tryz.underlying139 Tryz.underlying54 hj hs wrtLies]
 simp only [Result.andThen]
 rw [Oper.upon_value]
 go_wp2
 go_end0
 exact ⟨rfl,rfl⟩
structure Wr (N p:Nat) (w:World) (l:List UInt8) (size line:Nat) (ad bv:Value):Prop where
 le:N<=p
 at_:w.heap[p]? = some (.cells #[ad,bv,.int .i64 size,.int .i64 line] 135 (0,0))
 ad_:ad=.pointer none\/ad=.pointer (some ⟨p,0,none⟩)
 own:w.ownsRow N 5 1 bv l.length (Lib.byteCells l)
 ne:∀ k,bv.ownBlock=some k->¬k=p
 nil_:l=[]->bv=.slice none 0 0
theorem Wr.cell {N p:Nat} {w:World} {l:List UInt8} {a b:Nat} {ad bv:Value} (h:Wr N p w l a b ad bv) (j:Nat):w.cell? ⟨p,j,none⟩=(#[ad,bv,.int .i64 a,.int .i64 b]:Array Value)[j]?:=by simp [World.cell?,h.at_]
theorem Wr.frozen {N p:Nat} {w:World} {l:List UInt8} {a b:Nat} {ad bv:Value} (h:Wr N p w l a b ad bv) (j:Nat):w.frozen? ⟨p,j,none⟩=false:=by simp [World.frozen?,h.at_]
theorem Wr.lt {N p:Nat} {w:World} {l:List UInt8} {a b:Nat} {ad bv:Value} (h:Wr N p w l a b ad bv):p<w.heap.size:=(Array.getElem?_eq_some_iff.1 h.at_).1
theorem Wr.base {N p:Nat} {w:World} {l:List UInt8} {a b:Nat} {ad bv:Value} (h:Wr N p w l a b ad bv):N<=w.heap.size:=by have:=h.lt;have:=h.le;omega
theorem Wr.out {N p:Nat} {w w':World} {l:List UInt8} {a b:Nat} {ad bv:Value} (h:Wr N p w l a b ad bv) (o:Out w w'):Wr N p w' l a b ad bv:=⟨h.le,(o.block p h.lt).trans h.at_,h.ad_,owns_chg (S:=fun _=>False) h.own (fun _ _ h=>h) (Chg.of_out o),h.ne,h.nil_⟩
theorem Wr.set2 {N p:Nat} {w:World} {l:List UInt8} {a b:Nat} {ad bv:Value} (h:Wr N p w l a b ad bv) (a':Nat):Wr N p (w.setCell ⟨p,2,none⟩ (.int .i64 a')) l a' b ad bv:=
 ⟨h.le,by simp [World.setCell,Array.getElem?_modify,h.at_],h.ad_,owns_chg (S:=fun k=>k=p) h.own h.ne (Chg.setCell (S:=fun k=>k=p) (Chg.refl _ w) (p:=⟨p,2,none⟩) rfl _),h.ne,h.nil_⟩
theorem Wr.set3 {N p:Nat} {w:World} {l:List UInt8} {a b:Nat} {ad bv:Value} (h:Wr N p w l a b ad bv) (b':Nat):Wr N p (w.setCell ⟨p,3,none⟩ (.int .i64 b')) l a b' ad bv:=
 ⟨h.le,by simp [World.setCell,Array.getElem?_modify,h.at_],h.ad_,owns_chg (S:=fun k=>k=p) h.own h.ne (Chg.setCell (S:=fun k=>k=p) (Chg.refl _ w) (p:=⟨p,3,none⟩) rfl _),h.ne,h.nil_⟩
theorem Wr.set0 {N p:Nat} {w:World} {l:List UInt8} {a b:Nat} {ad bv:Value} (h:Wr N p w l a b ad bv):Wr N p (w.setCell ⟨p,0,none⟩ (.pointer (some ⟨p,0,none⟩))) l a b (.pointer (some ⟨p,0,none⟩)) bv:=
 ⟨h.le,by simp [World.setCell,Array.getElem?_modify,h.at_],.inr rfl,owns_chg (S:=fun k=>k=p) h.own h.ne (Chg.setCell (S:=fun k=>k=p) (Chg.refl _ w) (p:=⟨p,0,none⟩) rfl _),h.ne,h.nil_⟩
theorem chk_any (N p:Nat) (w:World) (l:List UInt8) (a b:Nat) (ad bv:Value) (h:Wr N p w l a b ad bv):Calls Tryz.prog 62 #[.pointer (some ⟨p,0,none⟩)] w fun e w'=>e=.returned (.tuple #[])/\Wr N p w' l a b (.pointer (some ⟨p,0,none⟩)) bv/\Below N w w':=by
 rcases h.ad_ with rfl | rfl
 · exact (chk_new p w (h.cell 0) (by simp [World.shape?,h.at_]) (h.frozen 0)).mono fun e w' ⟨he,hw⟩=>⟨he,hw ▸ h.set0,hw ▸ Below.set_own (Below.refl N w) h.le _⟩
 · exact (chk_used p w (h.cell 0)).mono fun e w' ⟨he,hw⟩=>⟨he,hw ▸ h,hw ▸ Below.refl N _⟩
set_option maxRecDepth 100000 in
set_option maxHeartbeats 2000000 in
theorem write_any (N p:Nat) (w:World) (l:List UInt8) (a b:Nat) (ad bv:Value) (t:List UInt8) (h:Wr N p w l a b ad bv) (hlen:l.length+t.length<=100000000) :
  Calls Tryz.prog 34 #[.pointer (some ⟨p,0,none⟩),.string ⟨t.toArray⟩] w fun e w'=>(∃ v,e=.returned v)/\(∃ ad' bv',Wr N p w' (l++t) a b ad' bv')/\Below N w w':=by
 obtain ⟨i0,hi,hz0,hz1,hz2⟩:=info_parts (show (Tryz.prog.info? 5).map (fun i=>(i.zero,i.size,i.bytes))=some (some (.int .u8 0),1,1) from Tryz.Builder_Extra_169.infoByte)
 have CK:=hidOf (chk_any N p w l a b ad bv h)
 have hts:(⟨t.toArray⟩:ByteArray).size=t.length:=mk_size t
 have hN0:=h.base
 clear h
 go_enter Tryz.func34,Tryz.ntmps34
 go_wp2_with (go_at_call 62;refine CK.out.mono ?_)
 rintro e w1 ⟨rfl,hW,hb1⟩
 have hsz:=hb1.size
 have c1:w1.cell? ⟨p,1,none⟩=some bv:=hW.cell 1
 have hlt:p<w1.heap.size:=hW.lt
 have hNw:=hW.base
 go_wp2_with (at_builtin;refine Lib.wpList_append_own_string _ rfl _ _ 35 9 rfl N 5 i0 Tryz.underlying35 Tryz.underlying9 hi hz0 hz1 hz2 bv l.length (Lib.byteCells l) rfl hW.own ⟨t.toArray⟩ rfl (by unfold maxLen;omega) (by omega) hNw ?_)
 intro v' w2 hown' hgrow hiff
 have hb2:w2.heap[p]? = some (.cells #[.pointer (some ⟨p,0,none⟩),bv,.int .i64 a,.int .i64 b] 135 (0,0)):=(hgrow.block p hlt (fun e=>hW.ne p e.symm rfl)).trans hW.at_
 have d1:w2.cell? ⟨p,1,none⟩=some bv:=by rw [Lib.cell_of_heap hb2];rfl
 have f1:w2.frozen? ⟨p,1,none⟩=false:=Lib.frozen_of_heap hb2 1
 have HW:=hidOf (Below.set_own (j:=1) (Below.of_grown hb1 hN0 hgrow (own_le hW.own)) hW.le v')
 have hne2:∀ k,v'.ownBlock=some k->¬k=p:=fun k hk e=>by
  subst e
  rcases hown'.2 with ⟨hv,_⟩ | ⟨g,cap,cur,hv,_,hg,_⟩
  · rw [hv] at hk;cases hk
  ·
   rw [hv] at hk
   simp [Value.ownBlock] at hk
   subst hk
   rw [hb2] at hg
   simp at hg
 have hst:Lib.strCells ⟨t.toArray⟩=Lib.byteCells t:=by simp [Lib.strCells,Lib.byteCells]
 rw [hst] at hown'
 have hbl:Lib.byteCells l++Lib.byteCells t=Lib.byteCells (l++t):=by simp [Lib.byteCells]
 rw [hbl,show l.length+t.length=(l++t).length from by simp] at hown'
 have hnil2:l++t=[]->v'=.slice none 0 0:=fun h0=>by
  obtain ⟨h1,h2⟩:=List.append_eq_nil_iff.1 h0
  exact hiff.2 ⟨hW.nil_ h1,by first | exact h2 | simp [h2]⟩
 have HN:Hid (Wr N p (w2.setCell ⟨p,1,none⟩ v') (l++t) a b (.pointer (some ⟨p,0,none⟩)) v'):=⟨hW.le,by simp [World.setCell,Array.getElem?_modify,hb2],.inr rfl,owns_chg (S:=fun k=>k=p) hown' hne2 (Chg.setCell (S:=fun k=>k=p) (Chg.refl _ w2) (p:=⟨p,1,none⟩) rfl _),hne2,hnil2⟩
 obtain ⟨ao,cp,rfl⟩:∃ ao cp,v'=.slice ao (l.length+t.length) cp:=by have:=own_form hown';rw [List.length_append] at this;exact this
 clear hown' hgrow hb2 hne2 hnil2 hiff hW hb1 c1 hbl hst
 go_wp2
 go_ret2
 exact ⟨⟨_,rfl⟩,⟨_,_,HN.out⟩,HW.out⟩
end Go.Proofs.YtadneimllbfdnaaGreatDoor.Lx
namespace Go.Proofs.YtadneimllbfdnaaGreatDoor.Lx
open Go.RowKit Go.Sort
set_option linter.unusedVariables false
set_option linter.unusedSimpArgs false
def Pow (w:World):Prop:=Lib.TabIs Tryz.prog w "internal/strconv.uint64pow10" .u64 Lib.pow10Tab
set_option maxRecDepth 100000 in
set_option maxHeartbeats 2000000 in
theorem intFmt_any (u:Nat) (hu64:u<18446744073709551616) (w:World) (htab:Pow w) :
  Calls Tryz.prog 158 #[.int .u64 (u:Int),.int .i64 10] w fun e w'=>e=.returned (.string ⟨(Lib.decDigits u).toArray⟩)/\Out w w':=by
 by_cases hs:u<100
 ·
  have hs':(u:Int)<100:=by omega
  have CS:=hidOf (Tryz.internal_strconv_small u hs w)
  go_enter Tryz.func158,Tryz.ntmps158
  go_wp2_with (go_at_call 132;refine CS.out.mono ?_;rintro e w' ⟨rfl,hw⟩;have hw:=hw.symm;subst hw)
  go_ret
  exact ⟨rfl,Out.refl _⟩
 ·
  have hs':¬(u:Int)<100:=by omega
  have hu1:1<=u:=by omega
  have hnd20:Lib.nDigits u<=20:=by have:=Lib.numDigits_eq u hu1 hu64;split at this <;> omega
  have hal:Tryz.prog.arrayLen 174 = 24:=by simp [Program.arrayLen,Tryz.underlying174]
  have hsl:∀ W,(Instr.sliceAt 174 (.pointer (some ⟨w.heap.size,0,none⟩)) none (some (.int .i64 (Lib.nDigits u:Int))) none).run Tryz.prog W=.ok (.slice (some ⟨w.heap.size,0,none⟩) (Lib.nDigits u) 24) W:=fun W=>by
   rw [run_sliceAt_array_h W 174 ⟨w.heap.size,0,none⟩ (by simp [Program.arrayLen,Program.elem,Tryz.underlying174]) .i64 (Lib.nDigits u:Int) (by omega) (by rw [hal];omega)]
   go_simp
   try omega
  have hH0:=Lib.holds_zero0 w 174 (Lib.nDigits u) (by omega)
  have hfmt:=Tryz.internal_strconv_formatBase10 w.heap.size 0 24 u (Array.replicate (Lib.nDigits u) 0) (w.alloc (.cells Lib.zeros24 174)) hH0 (by rw [Array.size_replicate];exact Lib.lt_pow_nDigits u) hu64 (by rw [Array.size_replicate];omega)
  rw [Array.size_replicate] at hfmt
  have HH0:=hidOf hH0
  have CF:=hidOf hfmt
  have CN:=hidOf (Tryz.internal_strconv_numDigits u hu1 hu64 (w.alloc (.cells Lib.zeros24 174)) (Lib.tabIs_alloc htab _))
  clear hH0 hal hfmt
  go_enter Tryz.func158,Tryz.ntmps158
  go_wp2_with (go_at_call 133;refine CN.out.mono ?_;rintro e w' ⟨rfl,hw⟩;subst hw)
  go_at_call 134
  refine CF.out.mono ?_
  rintro e w' ⟨rfl,k,v',dk,rfl,hF⟩
  have hcv:(convert 35 9 (.slice (some ⟨w.heap.size,0,none⟩) (Lib.nDigits u) 24)).run Tryz.prog ((putRow (fun (b:UInt8)=>Value.int .u8 (b.toNat:Int)) (w.alloc (.cells Lib.zeros24 174)) w.heap.size 0 dk).drewN k)=.ok (.string ⟨(Lib.decDigits u).toArray⟩) ((putRow (fun (b:UInt8)=>Value.int .u8 (b.toNat:Int)) (w.alloc (.cells Lib.zeros24 174)) w.heap.size 0 dk).drewN k):=by
   have h:=run_convert_bytes_back (P:=Tryz.prog) ((putRow (fun (b:UInt8)=>Value.int .u8 (b.toNat:Int)) (w.alloc (.cells Lib.zeros24 174)) w.heap.size 0 dk).drewN k) 35 9 5 ⟨w.heap.size,0,none⟩ 24 (Lib.decDigits u) Tryz.underlying35 Tryz.underlying5 Tryz.underlying9 (fun j hj=>by
    rw [Lib.row_is_numeral hF j hj,Lib.add_plain,World.cell?_drewN]
    exact cell?_putRow (fun (b:UInt8)=>Value.int .u8 (b.toNat:Int)) _ w.heap.size 0 _ dk HH0.out (by rw [hF.size,Array.size_replicate]) j (by rw [hF.size];rw [Lib.decDigits_length] at hj;exact hj))
   rw [Lib.decDigits_length] at h
   exact h
  have HO:Hid (Out w ((putRow (fun (b:UInt8)=>Value.int .u8 (b.toNat:Int)) (w.alloc (.cells Lib.zeros24 174)) w.heap.size 0 dk).drewN k)):=by
   obtain ⟨os,eo⟩:=Lib.fin_at w (.cells Lib.zeros24 174) dk k 0
   rw [eo]
   exact hidOf (Lib.below_grow _ w (Nat.le_refl _) k os)
  go_wp2
  go_ret
  exact ⟨rfl,HO.out⟩
theorem Pow.out {w w':World} (h:Pow w) (o:Out w w'):Pow w':=Lib.tabBelow_of_tabIs h w' o
theorem fmt_any (u:Nat) (hu64:u<18446744073709551616) (w:World) (htab:Pow w) :
  Calls Tryz.prog 124 #[.int .u64 (u:Int),.int .i64 10] w fun e w'=>e=.returned (.string ⟨(Lib.decDigits u).toArray⟩)/\Out w w':=by
 have CF:=hidOf (intFmt_any u hu64 w htab)
 go_enter Tryz.func124,Tryz.ntmps124
 go_wp2_with (go_at_call 158;refine CF.out.mono ?_;rintro e w1 ⟨rfl,ho⟩;have HO:=hidOf ho;clear ho)
 go_ret
 exact ⟨rfl,HO.out⟩
structure WS where
 l:List UInt8
 size:Nat
 line:Nat
def WS.put (s:WS) (t:List UInt8):WS:=⟨if s.size+t.length<=16777216 then s.l++t else s.l,s.size+t.length,s.line+t.length⟩
def WrAt (N p:Nat) (w:World) (s:WS):Prop:=∃ ad bv,Wr N p w s.l s.size s.line ad bv
def WEnd (N p:Nat) (w:World) (s:WS) (e:Ending) (w':World):Prop:=(∃ v,e=.returned v)/\WrAt N p w' s/\Below N w w'
set_option maxHeartbeats 1000000 in
theorem put_any (N p:Nat) (w:World) (s:WS) (t:List UInt8) (h:WrAt N p w s) (hl:s.l.length<=16777216) (hs:s.size+t.length<=4611686018427387904) (hli:s.line+t.length<=4611686018427387904) (ht:t.length<=16777216) :
  Calls Tryz.prog 125 #[.pointer (some ⟨p,0,none⟩),.string ⟨t.toArray⟩] w fun e w'=>WEnd N p w (s.put t) e w':=by
 obtain ⟨ad,bv,h⟩:=h
 obtain ⟨l,size,line⟩:=s
 simp only at h hl hs hli
 unfold WS.put
 simp only
 have H:=hidOf h
 have c2:w.cell? ⟨p,2,none⟩=some (.int .i64 size):=h.cell 2
 have c3:w.cell? ⟨p,3,none⟩=some (.int .i64 line):=h.cell 3
 have f2:=h.frozen 2
 have f3:=h.frozen 3
 have i1:(size:Int)+t.length<=4611686018427387904:=by omega
 have i2:(line:Int)+t.length<=4611686018427387904:=by omega
 have H2:Hid (Wr N p ((w.setCell ⟨p,2,none⟩ (.int .i64 ((size:Int)+t.length))).setCell ⟨p,3,none⟩ (.int .i64 ((line:Int)+t.length))) l (size+t.length) (line+t.length) ad bv):=(h.set2 (size+t.length)).set3 (line+t.length)
 have B2:Hid (Below N w ((w.setCell ⟨p,2,none⟩ (.int .i64 ((size:Int)+t.length))).setCell ⟨p,3,none⟩ (.int .i64 ((line:Int)+t.length)))):=Below.set_own (Below.set_own (Below.refl _ _) h.le _) h.le _
 clear h
 go_enter Tryz.func125,Tryz.ntmps125
 go_upto_region 2 with fail
 generalize (w.setCell ⟨p,2,none⟩ (.int .i64 ((size:Int)+t.length))).setCell ⟨p,3,none⟩ (.int .i64 ((line:Int)+t.length))=w1 at *
 clear c2 c3 f2 f3
 have c2:w1.cell? ⟨p,2,none⟩=some (.int .i64 ((size:Int)+t.length)):=H2.out.cell 2
 by_cases hm:size+t.length<=16777216
 ·
  have hm':(size:Int)+t.length<=16777216:=by omega
  have CW:=hidOf (write_any N p w1 l _ _ ad bv t H2.out (by omega))
  go_wp2_with (go_at_call 34;refine CW.out.mono ?_;rintro e w2 ⟨⟨v,rfl⟩,⟨ad',bv',q⟩,hb⟩;have H3:=hidOf q;have B3:=hidOf hb;clear q hb)
  go_end0
  exact ⟨⟨_,rfl⟩,⟨_,_,H3.out⟩,Below.step B2.out B3.out⟩
 ·
  have hm':¬(size:Int)+t.length<=16777216:=by omega
  go_wp2
  go_end0
  exact ⟨⟨_,rfl⟩,⟨_,_,H2.out⟩,B2.out⟩
def WS.piece (s:WS) (t:List UInt8):WS:=if 0<s.line then (s.put [32]).put t else s.put t
theorem put_len (s:WS) (t:List UInt8) (h:s.l.length<=16777216) (hs:s.l.length<=s.size):(s.put t).l.length<=16777216/\(s.put t).l.length<=(s.put t).size:=by
 unfold WS.put
 simp only
 split
 · rw [List.length_append];omega
 · omega
set_option maxHeartbeats 1000000 in
theorem piece_any (N p:Nat) (w:World) (s:WS) (t:List UInt8) (h:WrAt N p w s) (hl:s.l.length<=16777216) (hls:s.l.length<=s.size) (hs:s.size+t.length+1<=4611686018427387904) (hli:s.line<=s.size) (ht:t.length<=16777216) :
  Calls Tryz.prog 123 #[.pointer (some ⟨p,0,none⟩),.string ⟨t.toArray⟩] w fun e w'=>WEnd N p w (s.piece t) e w':=by
 obtain ⟨ad,bv,h'⟩:=h
 have c3:w.cell? ⟨p,3,none⟩=some (.int .i64 s.line):=h'.cell 3
 have H:Hid (WrAt N p w s):=⟨ad,bv,h'⟩
 clear h'
 unfold WS.piece
 by_cases h0:0<s.line
 ·
  have h0':(0:Int)<s.line:=by omega
  rw [if_pos h0]
  have C1:=hidOf (put_any N p w s [32] H.out hl (by simp;omega) (by simp;omega) (by simp))
  have C2:Hid (∀ wx,WrAt N p wx (s.put [32])->Calls Tryz.prog 125 #[.pointer (some ⟨p,0,none⟩),.string ⟨t.toArray⟩] wx fun e w'=>WEnd N p wx ((s.put [32]).put t) e w'):=fun wx hx=>put_any N p wx _ t hx (put_len s [32] hl hls).1 (by simp [WS.put];omega) (by simp [WS.put];omega) ht
  go_enter Tryz.func123,Tryz.ntmps123
  go_upto_region 2 with (go_at_call 125;refine C1.out.mono ?_;rintro e w1 ⟨⟨v,rfl⟩,hq,hb⟩;have H1:=hidOf hq;have B1:=hidOf hb;clear hq hb)
  go_wp2_with (go_at_call 125;refine (C2.out w1 H1.out).mono ?_;rintro e w2 ⟨⟨v,rfl⟩,hq,hb⟩;have H2:=hidOf hq;have B2:=hidOf hb;clear hq hb)
  go_end0
  exact ⟨⟨_,rfl⟩,H2.out,Below.step B1.out B2.out⟩
 ·
  have h0':¬(0:Int)<s.line:=by omega
  rw [if_neg h0]
  have C1:=hidOf (put_any N p w s t H.out hl (by omega) (by omega) ht)
  go_enter Tryz.func123,Tryz.ntmps123
  go_wp2_with (go_at_call 125;refine C1.out.mono ?_;rintro e w1 ⟨⟨v,rfl⟩,hq,hb⟩;have H1:=hidOf hq;have B1:=hidOf hb;clear hq hb)
  go_end0
  exact ⟨⟨_,rfl⟩,H1.out,B1.out⟩
end Go.Proofs.YtadneimllbfdnaaGreatDoor.Lx
