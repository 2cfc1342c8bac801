import Derived.Test.YtadneimllbfdnaaGreatDoorGu00
import Derived.Lib.ConvBytes
import Derived.Laws.BytesString
namespace Go.Proofs.YtadneimllbfdnaaGreatDoor.Lx
open Go.RowKit
set_option linter.unusedVariables false
set_option linter.unusedSimpArgs false
def ErrAt (w:World) (g:Nat):Prop:=∃ ev,w.cell? ⟨g,0,none⟩=some ev/\(ev=.nilIface\/∃ te pe,ev=.iface te pe)
structure Env (N:Nat) (w:World):Prop where
 er:ErrAt w 13
 es:ErrAt w 12
 lr : 13 < N
 ls : 12 < N
theorem ErrAt.below {N g:Nat} {w w':World} (h:ErrAt w g) (hg:g<N) (b:Below N w w'):ErrAt w' g:=by
 obtain ⟨ev,h1,h2⟩:=h
 exact ⟨ev,(Below.cell b hg).trans h1,h2⟩
theorem Env.below {N:Nat} {w w':World} (h:Env N w) (b:Below N w w'):Env N w':=⟨h.er.below h.lr b,h.es.below h.ls b,h.lr,h.ls⟩
def hexU (b:UInt8):Bool:=hexP (bI b)
def digU (b:UInt8):Bool:=digP (bI b)
def hexD (c:Int):Int:=if c<=57 then c - 48 else if 97<=c then c - 87 else c - 55
def hexV:Int->List UInt8->Int
 | a,[]=>a
 | a,b::l=>hexV (a*16+hexD (bI b)) l
def decV:Nat->List UInt8->Nat
 | a,[]=>a
 | a,b::l=>decV (a*10+(b.toNat - 48)) l
def valP (l:List UInt8):Int × Bool:=
 if l.take 2=[48,120] then (if l.length<=18/\¬l.length=2/\(l.drop 2).all hexU=true then (hexV 0 (l.drop 2),true) else (0,false))
 else if l.head? = some 48/\¬l=[48] then (0,false)
 else if l.all digU=true/\decV 0 l<=18446744073709551615 then (((decV 0 l:Nat):Int),true) else (0,false)
def ValC:Prop:=∀ (N:Nat) (t:List UInt8) (w:World),Env N w->¬t=[]->t.length<=1048576->Calls Tryz.prog 142 #[.string ⟨t.toArray⟩] w fun e w'=>e=.returned (.tuple #[.int .u64 (valP t).1,.bool (valP t).2])/\Out w w'
theorem Env.le {N M:Nat} {w:World} (h:Env N w) (hM:N<=M):Env M w:=⟨h.er,h.es,Nat.lt_of_lt_of_le h.lr hM,Nat.lt_of_lt_of_le h.ls hM⟩
theorem Below.of_out {N:Nat} {w w':World} (h:Out w w') (hN:N<=w.heap.size):Below N w w':=Below.mono h hN
set_option maxHeartbeats 1000000 in
theorem numeral_any (CV:ValC) (N p:Nat) (w:World) (hE:Env N w) (rv tv:Value) (s:Sn) (R:List UInt8) (n:Nat) (h:Sc N p w rv tv s) (ha:s.at'<=s.line.length) (hl:s.line.length<=1048576) (hc:s.cnt<=1000000000) (hT:s.T.length<=s.cnt) (hR:s.line.drop s.at'=R) (hn:runN R=n) (hne:¬R.take n=[]) :
  Calls Tryz.prog 101 #[.pointer (some ⟨p,0,none⟩)] w fun e w'=>EEnd N p rv w (if (valP (R.take n)).2=true then 0 else 54) s (tokS s 3 [] (valP (R.take n)).1 n) e w':=by
 have CR:=hidOf (run_any N p w rv tv s R n h ha (by omega) hR hn)
 have hRl:R.length<=s.line.length:=by rw [<-hR,List.length_drop];omega
 have hle:(R.take n).length<=1048576:=by rw [List.length_take];omega
 have CN:Hid (∀ wx,Below N w wx->Calls Tryz.prog 142 #[.string ⟨(R.take n).toArray⟩] wx fun e w'=>e=.returned (.tuple #[.int .u64 (valP (R.take n)).1,.bool (valP (R.take n)).2])/\Out wx w'):=fun wx b=>CV N _ wx (hE.below b) hne hle
 have hb:=hidOf h.base
 generalize hv:valP (R.take n)=v at *
 obtain ⟨v,ok⟩:=v
 have CA:Hid (∀ wx tv',Sc N p wx rv tv' { s with at':=s.at' + n }->Calls Tryz.prog 44 #[.pointer (some ⟨p,0,none⟩),.int .i64 3,.string ⟨#[]⟩,.int .u64 v] wx fun e w'=>(∃ v,e=.returned v)/\SEnd N p rv wx (tokS s 3 [] v n) w'):=fun wx tv' hx=>add_any N p wx rv tv' _ 3 [] v hx hc hT
 generalize R.take n=t at *
 clear h hR hn hE hv
 cases ok
 ·
  rw [if_neg (by simp)]
  go_enter Tryz.func101,Tryz.ntmps101
  go_wp2_with (first | (go_at_call 140;refine CR.out.mono ?_;rintro e w1 ⟨rfl,hs1,hb1⟩;have H1:=hidOf hs1;have B1:=hidOf hb1;clear hs1 hb1) | (go_at_call 142;refine (CN.out w1 B1.out).mono ?_;rintro e w2 ⟨rfl,ho⟩;have H2:=hidOf (H1.out.out ho);have B2:=hidOf (Below.of_out (N:=N) ho H1.out.base);clear ho))
  go_ret
  exact EEnd.bad (by decide) H2.out rfl (Below.step B1.out B2.out)
 ·
  rw [if_pos rfl]
  go_enter Tryz.func101,Tryz.ntmps101
  go_wp2_with (first | (go_at_call 140;refine CR.out.mono ?_;rintro e w1 ⟨rfl,hs1,hb1⟩;have H1:=hidOf hs1;have B1:=hidOf hb1;clear hs1 hb1) | (go_at_call 142;refine (CN.out w1 B1.out).mono ?_;rintro e w2 ⟨rfl,ho⟩;have H2:=hidOf (H1.out.out ho);have B2:=hidOf (Below.of_out (N:=N) ho H1.out.base);clear ho) | (go_at_call 44;refine (CA.out w2 tv H2.out).mono ?_;rintro e w3 ⟨⟨v,rfl⟩,⟨tv2,hs2⟩,hb2⟩;have H3:=hidOf hs2;have B3:=hidOf hb2;clear hs2 hb2))
  go_ret
  exact EEnd.ok H3.out rfl (Below.step B1.out (Below.step B2.out B3.out))
def pieceP:List UInt8->Int × Option (Int × List UInt8 × Int) × Nat
 | []=>(0,none,0)
 | c::r=>
  if kindP (bI c)=1 then (0,none,1)
  else if kindP (bI c)=2 then (0,none,r.length+1)
  else if kindP (bI c)=3 then (if runN (c::r)<=64 then 0 else 53,some (1,(c::r).take (runN (c::r)),0),runN (c::r))
  else if kindP (bI c)=5 then (if startP r=true then (if runN (c::r)<=65 then 0 else 53) else 52,some (2,(c::r).take (runN (c::r)),0),runN (c::r))
  else if kindP (bI c)=4 then (if (valP ((c::r).take (runN (c::r)))).2=true then 0 else 54,some (3,[],(valP ((c::r).take (runN (c::r)))).1),runN (c::r))
  else if kindP (bI c)=7 then (0,some (4,[c],0),1)
  else (52,none,0)
def Sn.adv (s:Sn) (t:Option (Int × List UInt8 × Int)) (n:Nat):Sn:=
 match t with
 | none=>{ s with at':=s.at' + n }
 | some (k,t,v)=>tokS s k t v n
theorem run_pos {c:UInt8} {r:List UInt8} (h:kindP (bI c)=3\/kindP (bI c)=4\/kindP (bI c)=5):0<runN (c::r):=by
 have:runU c=true:=by unfold runU;rw [runP_kind];rcases h with h | h | h <;> simp [h]
 simp [runN,List.takeWhile,this]
set_option maxHeartbeats 2000000 in
theorem next_any (CV:ValC) (N p:Nat) (w:World) (hE:Env N w) (rv tv:Value) (s:Sn) (c:UInt8) (R:List UInt8) (h:Sc N p w rv tv s) (ha:s.at' < s.line.length) (hl:s.line.length<=1048576) (hc:s.cnt<=1000000000) (hT:s.T.length<=s.cnt) (hR:s.line.drop s.at'=c::R) :
  Calls Tryz.prog 73 #[.pointer (some ⟨p,0,none⟩)] w fun e w'=>EEnd N p rv w (pieceP (c::R)).1 s (s.adv (pieceP (c::R)).2.1 (pieceP (c::R)).2.2) e w':=by
 have c1:w.cell? ⟨p,1,none⟩=some (.string ⟨s.line.toArray⟩):=h.cell 1
 have c3:w.cell? ⟨p,3,none⟩=some (.int .i64 s.at'):=h.cell 3
 have H:=hidOf h
 have HE:=hidOf hE
 have hRl:s.line.length - s.at'=R.length+1:=by have:=congrArg List.length hR;rw [List.length_drop] at this;simpa using this
 have hg:s.line[s.at']? = some c:=by
  have:=congrArg (·[0]?) hR
  simpa using this
 have ix:∀ hx,(⟨s.line.toArray⟩:ByteArray)[s.at']'hx=c:=fun hx=>by
  have h1:=lget ⟨s.line.toArray⟩ s.at' hx
  rw [mk_list,hg] at h1
  exact (Option.some.inj h1).symm
 have haI:(s.at':Int)<s.line.length:=by omega
 have hlI:(s.line.length:Int)<=1048576:=by omega
 have CW:Hid (∀ wx,Sc N p wx rv tv s->Calls Tryz.prog 99 #[.pointer (some ⟨p,0,none⟩)] wx fun e w'=>EEnd N p rv wx (if runN (c::R)<=64 then 0 else 53) s (tokS s 1 ((c::R).take (runN (c::R))) 0 (runN (c::R))) e w'):=fun wx hx=>word_any N p wx rv tv s (c::R) _ hx (by omega) (by omega) hc hT hR rfl
 have CD:Hid (∀ wx,Sc N p wx rv tv s->Calls Tryz.prog 100 #[.pointer (some ⟨p,0,none⟩)] wx fun e w'=>EEnd N p rv wx (if startP R=true then (if runN (c::R)<=65 then 0 else 53) else 52) s (tokS s 2 ((c::R).take (runN (c::R))) 0 (runN (c::R))) e w'):=fun wx hx=>dot_any N p wx rv tv s c R _ hx ha (by omega) hc hT hR rfl
 have CM:Hid (∀ wx,Sc N p wx rv tv s->Calls Tryz.prog 102 #[.pointer (some ⟨p,0,none⟩)] wx fun e w'=>EEnd N p rv wx 0 s (tokS s 4 [c] 0 1) e w'):=fun wx hx=>mark_any N p wx rv tv s c R hx ha (by omega) hc hT hR
 have CU:Hid (kindP (bI c)=4->∀ wx,Env N wx->Sc N p wx rv tv s->Calls Tryz.prog 101 #[.pointer (some ⟨p,0,none⟩)] wx fun e w'=>EEnd N p rv wx (if (valP ((c::R).take (runN (c::R)))).2=true then 0 else 54) s (tokS s 3 [] (valP ((c::R).take (runN (c::R)))).1 (runN (c::R))) e w'):=fun hk wx he hx=>numeral_any CV N p wx he rv tv s (c::R) _ hx (by omega) hl hc hT hR rfl (fun h0=>by
  have h1:=congrArg List.length h0
  have h2:=run_pos (c:=c) (r:=R) (.inr (.inl hk))
  have h3:=runN_le (c::R)
  rw [List.length_take] at h1;simp at h1 h3;omega)
 have hw1:IntKind.i64.wrap ((s.at':Int)+1)=(s.at':Int)+1:=by rw [IntKind.wrap_i64];omega
 have CK:Hid (∀ wx,Calls Tryz.prog 98 #[.int .u8 (c.toNat:Int)] wx fun e w'=>e=.returned (.int .i64 (kindP (bI c)))/\w'=wx):=fun wx=>(kindOf_any (bI c) wx).mono fun e w' h=>⟨h.1,h.2.symm⟩
 have HS1:Hid (∀ X,Sc N p X rv tv s->Sc N p (X.setCell ⟨p,3,none⟩ (.int .i64 ((s.at':Int)+1))) rv tv { s with at':=s.at' + 1 }):=fun X hX=>hX.set 3 _ _ rfl (by simp [Sn.cells])
 have HS2:Hid (∀ X,Sc N p X rv tv s->Sc N p (X.setCell ⟨p,3,none⟩ (.int .i64 (s.line.length:Int))) rv tv { s with at':=s.at' + (R.length+1) }):=fun X hX=>hX.set 3 _ _ rfl (by simp [Sn.cells];omega)
 clear h hR hg hE
 have hP:pieceP (c::R)=(if kindP (bI c)=1 then (0,none,1) else if kindP (bI c)=2 then (0,none,R.length+1)
  else if kindP (bI c)=3 then (if runN (c::R)<=64 then 0 else 53,some (1,(c::R).take (runN (c::R)),0),runN (c::R))
  else if kindP (bI c)=5 then (if startP R=true then (if runN (c::R)<=65 then 0 else 53) else 52,some (2,(c::R).take (runN (c::R)),0),runN (c::R))
  else if kindP (bI c)=4 then (if (valP ((c::R).take (runN (c::R)))).2=true then 0 else 54,some (3,[],(valP ((c::R).take (runN (c::R)))).1),runN (c::R))
  else if kindP (bI c)=7 then (0,some (4,[c],0),1) else (52,none,0)):=rfl
 rw [hP]
 clear hP
 generalize kindP (bI c)=k at *
 by_cases k1:k=1
 ·
  subst k1
  rw [if_pos rfl]
  go_enter Tryz.func73,Tryz.ntmps73
  go_upto_region 1 with fail
  go_quiet ((go_at_call 98;exact Calls.quiet_of_same (CK.out _)))
  have H0:=hidOf (H.out.drewN nq)
  have B0:Hid (Below N w (w.drewN nq)):=⟨rfl,rfl,rfl,Nat.le_refl _,fun _ _=>rfl⟩
  clear c1 c3
  generalize w.drewN nq=w0 at *
  have d3:w0.cell? ⟨p,3,none⟩=some (.int .i64 s.at'):=H0.out.cell 3
  have f3:=H0.out.frozen 3
  go_wp2
  go_ret
  exact EEnd.ok (HS1.out _ H0.out) rfl (Below.set_own B0.out H.out.le _)
 by_cases k2:k=2
 ·
  subst k2
  rw [if_neg k1,if_pos rfl]
  go_enter Tryz.func73,Tryz.ntmps73
  go_upto_region 1 with fail
  go_quiet ((go_at_call 98;exact Calls.quiet_of_same (CK.out _)))
  have H0:=hidOf (H.out.drewN nq)
  have B0:Hid (Below N w (w.drewN nq)):=⟨rfl,rfl,rfl,Nat.le_refl _,fun _ _=>rfl⟩
  clear c1 c3
  generalize w.drewN nq=w0 at *
  have d1:w0.cell? ⟨p,1,none⟩=some (.string ⟨s.line.toArray⟩):=H0.out.cell 1
  have d3:w0.cell? ⟨p,3,none⟩=some (.int .i64 s.at'):=H0.out.cell 3
  have f3:=H0.out.frozen 3
  go_wp2
  go_ret
  exact EEnd.ok (HS2.out _ H0.out) rfl (Below.set_own B0.out H.out.le _)
 rw [if_neg k1,if_neg k2]
 have j1:(k == 1)=false:=by simpa using k1
 have j2:(k == 2)=false:=by simpa using k2
 by_cases k3:k=3
 ·
  subst k3
  rw [if_pos rfl]
  generalize (if runN (c::R)<=64 then (0:Int) else 53)=E at *
  go_enter Tryz.func73,Tryz.ntmps73
  go_upto_region 1 with fail
  go_quiet ((go_at_call 98;exact Calls.quiet_of_same (CK.out _)))
  have H0:=hidOf (H.out.drewN nq)
  have B0:Hid (Below N w (w.drewN nq)):=⟨rfl,rfl,rfl,Nat.le_refl _,fun _ _=>rfl⟩
  clear c1 c3
  generalize w.drewN nq=w0 at *
  go_wp2_with (go_at_call 99;refine (CW.out w0 H0.out).mono ?_;rintro e w1 ⟨rfl,q1,q2,q3⟩;have Q1:=hidOf q1;have Q2:=hidOf q2;have Q3:=hidOf q3;clear q1 q2 q3)
  go_ret
  exact ⟨rfl,Q1.out,Q2.out,Below.step B0.out Q3.out⟩
 rw [if_neg k3]
 have j3:(k == 3)=false:=by simpa using k3
 by_cases k5:k=5
 ·
  subst k5
  rw [if_pos rfl]
  generalize (if startP R=true then (if runN (c::R)<=65 then (0:Int) else 53) else 52)=E at *
  go_enter Tryz.func73,Tryz.ntmps73
  go_upto_region 1 with fail
  go_quiet ((go_at_call 98;exact Calls.quiet_of_same (CK.out _)))
  have H0:=hidOf (H.out.drewN nq)
  have B0:Hid (Below N w (w.drewN nq)):=⟨rfl,rfl,rfl,Nat.le_refl _,fun _ _=>rfl⟩
  clear c1 c3
  generalize w.drewN nq=w0 at *
  go_wp2_with (go_at_call 100;refine (CD.out w0 H0.out).mono ?_;rintro e w1 ⟨rfl,q1,q2,q3⟩;have Q1:=hidOf q1;have Q2:=hidOf q2;have Q3:=hidOf q3;clear q1 q2 q3)
  go_ret
  exact ⟨rfl,Q1.out,Q2.out,Below.step B0.out Q3.out⟩
 rw [if_neg k5]
 have j5:(k == 5)=false:=by simpa using k5
 by_cases k4:k=4
 ·
  subst k4
  rw [if_pos rfl]
  generalize (if (valP ((c::R).take (runN (c::R)))).2=true then (0:Int) else 54)=E at *
  go_enter Tryz.func73,Tryz.ntmps73
  go_upto_region 1 with fail
  go_quiet ((go_at_call 98;exact Calls.quiet_of_same (CK.out _)))
  have H0:=hidOf (H.out.drewN nq)
  have B0:Hid (Below N w (w.drewN nq)):=⟨rfl,rfl,rfl,Nat.le_refl _,fun _ _=>rfl⟩
  clear c1 c3
  generalize w.drewN nq=w0 at *
  go_wp2_with (go_at_call 101;refine (CU.out rfl w0 (HE.out.below B0.out) H0.out).mono ?_;rintro e w1 ⟨rfl,q1,q2,q3⟩;have Q1:=hidOf q1;have Q2:=hidOf q2;have Q3:=hidOf q3;clear q1 q2 q3)
  go_ret
  exact ⟨rfl,Q1.out,Q2.out,Below.step B0.out Q3.out⟩
 rw [if_neg k4]
 have j4:(k == 4)=false:=by simpa using k4
 by_cases k7:k=7
 ·
  subst k7
  rw [if_pos rfl]
  go_enter Tryz.func73,Tryz.ntmps73
  go_upto_region 1 with fail
  go_quiet ((go_at_call 98;exact Calls.quiet_of_same (CK.out _)))
  have H0:=hidOf (H.out.drewN nq)
  have B0:Hid (Below N w (w.drewN nq)):=⟨rfl,rfl,rfl,Nat.le_refl _,fun _ _=>rfl⟩
  clear c1 c3
  generalize w.drewN nq=w0 at *
  go_wp2_with (go_at_call 102;refine (CM.out w0 H0.out).mono ?_;rintro e w1 ⟨rfl,q1,q2,q3⟩;have Q1:=hidOf q1;have Q2:=hidOf q2;have Q3:=hidOf q3;clear q1 q2 q3)
  go_ret
  exact ⟨rfl,fun _=>Q1.out trivial,Q2.out,Below.step B0.out Q3.out⟩
 rw [if_neg k7]
 have j7:(k == 7)=false:=by simpa using k7
 go_enter Tryz.func73,Tryz.ntmps73
 go_upto_region 1 with fail
 go_quiet ((go_at_call 98;exact Calls.quiet_of_same (CK.out _)))
 have H0:=hidOf (H.out.drewN nq)
 have B0:Hid (Below N w (w.drewN nq)):=⟨rfl,rfl,rfl,Nat.le_refl _,fun _ _=>rfl⟩
 clear c1 c3
 generalize w.drewN nq=w0 at *
 go_wp2
 go_ret
 exact EEnd.bad (by decide) H0.out rfl B0.out
theorem piece_len (c:UInt8) (r:List UInt8) (h:(pieceP (c::r)).1=0):1<=(pieceP (c::r)).2.2/\(pieceP (c::r)).2.2<=r.length+1:=by
 have h2:=runN_le (c::r)
 simp only [List.length_cons] at h2
 unfold pieceP at h ⊢
 simp only at h ⊢
 by_cases k1:kindP (bI c)=1
 · rw [if_pos k1];simp
 rw [if_neg k1] at h ⊢
 by_cases k2:kindP (bI c)=2
 · rw [if_pos k2];simp
 rw [if_neg k2] at h ⊢
 by_cases k3:kindP (bI c)=3
 ·
  have:=run_pos (c:=c) (r:=r) (.inl k3)
  rw [if_pos k3];simp only;omega
 rw [if_neg k3] at h ⊢
 by_cases k5:kindP (bI c)=5
 ·
  have:=run_pos (c:=c) (r:=r) (.inr (.inr k5))
  rw [if_pos k5];simp only;omega
 rw [if_neg k5] at h ⊢
 by_cases k4:kindP (bI c)=4
 ·
  have:=run_pos (c:=c) (r:=r) (.inr (.inl k4))
  rw [if_pos k4];simp only;omega
 rw [if_neg k4] at h ⊢
 by_cases k7:kindP (bI c)=7
 · rw [if_pos k7];simp
 rw [if_neg k7] at h
 simp at h
def scanF:Nat->List UInt8->Int × List (Int × List UInt8 × Int)
 | 0,_=>(0,[])
 | _+1,[]=>(0,[])
 | f+1,c::r=>if (pieceP (c::r)).1=0 then ((scanF f ((c::r).drop (pieceP (c::r)).2.2)).1,(pieceP (c::r)).2.1.toList++(scanF f ((c::r).drop (pieceP (c::r)).2.2)).2) else ((pieceP (c::r)).1,[])
theorem scanF_eq:∀ (f g:Nat) (l:List UInt8),l.length<=f->l.length<=g->scanF f l=scanF g l
 | 0,0,_,_,_=>rfl
 | 0,g+1,[],_,_=>rfl
 | 0,g+1,c::r,h,_=>by simp at h
 | f+1,0,[],_,_=>rfl
 | f+1,0,c::r,_,h=>by simp at h
 | f+1,g+1,[],_,_=>rfl
 | f+1,g+1,c::r,hf,hg=>by
  unfold scanF
  by_cases h:(pieceP (c::r)).1=0
  ·
   rw [if_pos h,if_pos h]
   have:=piece_len c r h
   have hd:((c::r).drop (pieceP (c::r)).2.2).length<=r.length:=by rw [List.length_drop];simp;omega
   simp only [List.length_cons] at hf hg
   rw [scanF_eq f g _ (by omega) (by omega)]
  · rw [if_neg h,if_neg h]
def scanD (l:List UInt8):Int × List (Int × List UInt8 × Int):=scanF l.length l
theorem scanD_nil:scanD []=(0,[]):=rfl
theorem scanD_ok (c:UInt8) (r:List UInt8) (h:(pieceP (c::r)).1=0):scanD (c::r)=((scanD ((c::r).drop (pieceP (c::r)).2.2)).1,(pieceP (c::r)).2.1.toList++(scanD ((c::r).drop (pieceP (c::r)).2.2)).2):=by
 have:=piece_len c r h
 have hd:((c::r).drop (pieceP (c::r)).2.2).length<=r.length:=by rw [List.length_drop];simp;omega
 show scanF (r.length+1) (c::r)=_
 unfold scanF
 rw [if_pos h,scanF_eq r.length _ _ hd (Nat.le_refl _)]
 rfl
theorem scanD_bad (c:UInt8) (r:List UInt8) (h:¬(pieceP (c::r)).1=0):scanD (c::r)=((pieceP (c::r)).1,[]):=by
 show scanF (r.length+1) (c::r)=_
 unfold scanF
 rw [if_neg h]
def lineP (l:List UInt8):Int × List (Int × List UInt8 × Int):=if l.length<=1024 then scanD l else (51,[])
theorem scanF_len:∀ (f:Nat) (l:List UInt8),(scanF f l).2.length<=l.length
 | 0,_=>by simp [scanF]
 | _+1,[]=>by simp [scanF]
 | f+1,c::r=>by
  unfold scanF
  by_cases h:(pieceP (c::r)).1=0
  ·
   rw [if_pos h]
   have h1:=piece_len c r h
   have h2:=scanF_len f ((c::r).drop (pieceP (c::r)).2.2)
   rw [List.length_drop] at h2
   have h3:(pieceP (c::r)).2.1.toList.length<=1:=by cases (pieceP (c::r)).2.1 <;> simp
   rw [List.length_append]
   simp only [List.length_cons] at h2 ⊢
   omega
  · rw [if_neg h];simp
theorem lineP_len (l:List UInt8):(lineP l).2.length<=l.length:=by
 unfold lineP
 split
 · exact scanF_len _ _
 · simp
def cutL (l:List UInt8):List UInt8 × List UInt8:=(l.takeWhile (fun b=>!(b == 10)),(l.dropWhile (fun b=>!(b == 10))).drop 1)
theorem cutL_len (l:List UInt8) (h:¬l=[]):(cutL l).1.length+(cutL l).2.length<=l.length/\(cutL l).2.length<l.length:=by
 have h1:(l.takeWhile (fun b=>!(b == 10))).length+(l.dropWhile (fun b=>!(b == 10))).length=l.length:=by rw [<-List.length_append,List.takeWhile_append_dropWhile]
 have hp:0<l.length:=List.length_pos_iff.2 h
 unfold cutL
 simp only [List.length_drop]
 omega
def RestAt (N:Nat) (w:World) (a:Option Addr) (l:List UInt8):Prop:=l=[]\/∃ b off,b<N/\a=some ⟨b,off,none⟩/\∀ k x,l[k]? = some x->w.cell? ⟨b,off+k,none⟩=some (.int .u8 (x.toNat:Int))
theorem RestAt.below {N:Nat} {w w':World} {a:Option Addr} {l:List UInt8} (h:RestAt N w a l) (b:Below N w w'):RestAt N w' a l:=by
 rcases h with h | ⟨g,o,hg,ha,hc⟩
 · exact .inl h
 · exact .inr ⟨g,o,hg,ha,fun k x hx=>(Below.cell b hg).trans (hc k x hx)⟩
def CutC:Prop:=∀ (N:Nat) (l:List UInt8) (a:Option Addr) (cap sb:Nat) (w:World),RestAt N w a l->¬l=[]->l.length<=cap->l.length<=16777216->w.cell? ⟨sb,0,none⟩=some (.int .u8 10) ->
 Calls Tryz.prog 72 #[.slice a l.length cap,.slice (some ⟨sb,0,none⟩) 1 1] w fun e w'=>∃ a1 c1 a2 c2 fd,e=.returned (.tuple #[.slice a1 (cutL l).1.length c1,.slice a2 (cutL l).2.length c2,.bool fd])/\RestAt N w a1 (cutL l).1/\RestAt N w a2 (cutL l).2/\(cutL l).2.length<=c2/\∃ q,w'=w.drewN q
def mkT (n:Nat) (x:Int × List UInt8 × Int):Tk:=⟨x.1,x.2.1,x.2.2,n⟩
def putS (s:Sn) (L:List UInt8) (a:Nat) (D:List (Int × List UInt8 × Int)):Sn:=⟨L,s.num+1,a,s.cnt+D.length,s.keeps,if s.keeps then s.T++D.map (mkT (s.num+1)) else s.T⟩
theorem putS_adv (s:Sn) (L:List UInt8) (a:Nat) (D:List (Int × List UInt8 × Int)) (t:Option (Int × List UInt8 × Int)) (n:Nat):(putS s L a D).adv t n=putS s L (a+n) (D++t.toList):=by
 cases t with
 | none=>simp [putS,Sn.adv]
 | some t=>
  obtain ⟨k,x,v⟩:=t
  simp only [putS,Sn.adv,tokS,Sn.add,Option.toList,List.length_append,List.map_append,Sn.mk.injEq,true_and,List.length_cons,List.length_nil]
  refine ⟨by omega, ?_⟩
  by_cases hk:s.keeps=true
  · simp [hk,mkT]
  · simp [hk]
theorem putS_len {s:Sn} (h:s.T.length<=s.cnt) (L:List UInt8) (a:Nat) (D:List (Int × List UInt8 × Int)):(putS s L a D).T.length<=(putS s L a D).cnt:=by
 unfold putS
 by_cases hk:s.keeps=true
 · simp [hk];omega
 · simp [hk];omega
def bCells (O:List UInt8):List Value:=O.map (fun b=>.int .u8 (b.toNat:Int))
theorem bCells_length (O:List UInt8):(bCells O).length=O.length:=by simp [bCells]
theorem fold_bytes (O:List UInt8):∀ r:ByteArray,(O.map (fun b=>(b.toNat:Int))).foldl (fun r n=>r.push (UInt8.ofNat n.toNat)) r=⟨r.data++O.toArray⟩:=by
 induction O with
 | nil=>intro r;simp
 | cons b l ih=>
  intro r
  rw [List.map_cons,List.foldl_cons,ih]
  simp [ByteArray.push]
theorem conv_list (w:World) (a:Addr) (cap:Nat) (O:List UInt8) (h:∀ j u,(bCells O)[j]? = some u->w.cell? (a.add j)=some u):(convert 35 9 (.slice (some a) O.length cap)).run Tryz.prog w=.ok (.string ⟨O.toArray⟩) w:=by
 rw [run_convert_bytes_string w 35 9 5 (some a) O.length cap Tryz.underlying35 Tryz.underlying5 Tryz.underlying9]
 have h1:=run_loadCells_list (P:=Tryz.prog) w a (bCells O) h
 rw [bCells_length] at h1
 rw [run_bytesToString w a O.length cap (O.map (fun b=>(b.toNat:Int))) (by rw [show (O.map (fun b=>(b.toNat:Int))).map (Value.int .u8)=bCells O from by simp [bCells]];exact h1),fold_bytes]
 simp
theorem conv_rest {N:Nat} {w:World} {a:Option Addr} {l:List UInt8} (h:RestAt N w a l) (cap:Nat):(convert 35 9 (.slice a l.length cap)).run Tryz.prog w=.ok (.string ⟨l.toArray⟩) w:=by
 rcases h with rfl | ⟨b,off,hb,rfl,hc⟩
 ·
  cases a with
  | none=>
   rw [run_convert_bytes_string w 35 9 5 none _ _ Tryz.underlying35 Tryz.underlying5 Tryz.underlying9]
   rfl
  | some a=>exact conv_list w a cap [] (fun j u hj=>by simp [bCells] at hj)
 ·
  refine conv_list w ⟨b,off,none⟩ cap l (fun j u hj=>?_)
  rw [Go.WideShapes.add_plain]
  simp only [bCells,List.getElem?_map] at hj
  cases hl:l[j]? with
  | none=>rw [hl] at hj;simp at hj
  | some x=>rw [hl] at hj;simp at hj;rw [<-hj];exact hc j x hl
def LEnd (N p:Nat) (w:World) (s:Sn) (l:List UInt8) (e:Ending) (w':World):Prop:=
 e=.returned (.int .i64 (lineP (cutL l).1).1)/\Below N w w'/\w'.cell? ⟨p,2,none⟩=some (.int .i64 ((s.num:Int)+1)) /\
  ((lineP (cutL l).1).1=0->∃ a2 c2 tv' L at',RestAt N w' a2 (cutL l).2/\(cutL l).2.length<=c2/\Sc N p w' (.slice a2 (cutL l).2.length c2) tv' (putS s L at' ((lineP (cutL l).1).2++[(5,[],0)])))
def atOf (p:Nat) (w:World):Nat:=match w.cell? ⟨p,3,none⟩ with | some (.int _ a)=>a.toNat | _=>0
set_option maxHeartbeats 4000000 in
theorem nextLine_any (CV:ValC) (CC:CutC) (N p:Nat) (w:World) (hE:Env N w) (ra:Option Addr) (rc:Nat) (tv:Value) (s:Sn) (l:List UInt8) (h:Sc N p w (.slice ra l.length rc) tv s) (hr:RestAt N w ra l) (hne:¬l=[]) (hcap:l.length<=rc) (hl:l.length<=16777216) (hc:s.cnt+l.length<=500000000) (hT:s.T.length<=s.cnt) (hnum:s.num<=500000000) :
  Calls Tryz.prog 43 #[.pointer (some ⟨p,0,none⟩)] w fun e w'=>LEnd N p w s l e w':=by
 have hcl:=cutL_len l hne
 have c0:w.cell? ⟨p,0,none⟩=some (.slice ra l.length rc):=h.cell 0
 have H:=hidOf h
 have HE:=hidOf hE
 have hsz:=h.lt
 have CK:Hid (Calls Tryz.prog 72 #[.slice ra l.length rc,.slice (some ⟨w.heap.size,0,none⟩) 1 1] (w.alloc (.cells #[.int .u8 10] 5)) fun e w'=>∃ a1 c1 a2 c2 fd,e=.returned (.tuple #[.slice a1 (cutL l).1.length c1,.slice a2 (cutL l).2.length c2,.bool fd])/\RestAt N (w.alloc (.cells #[.int .u8 10] 5)) a1 (cutL l).1/\RestAt N (w.alloc (.cells #[.int .u8 10] 5)) a2 (cutL l).2/\(cutL l).2.length<=c2/\∃ q,w'=(w.alloc (.cells #[.int .u8 10] 5)).drewN q):=
  CC N l ra rc w.heap.size _ (hr.below (Below.of_out ((Out.refl w).alloc _) h.base)) hne hcap hl (cell_fresh _ _ _ _ _ rfl)
 unfold LEnd
 generalize hq:cutL l=q at *
 obtain ⟨L,M⟩:=q
 simp only at hcl CK ⊢
 clear h hr hE
 have hLI:(L.length:Int)<=16777216:=by omega
 by_cases h1024:L.length<=1024
 ·
  have hP:lineP L=scanD L:=by unfold lineP;rw [if_pos h1024]
  rw [hP]
  have hsm:¬(1024:Int)<L.length:=by omega
  have hsm':(L.length:Int)<=1024:=by omega
  have hnI:(s.num:Int)<=500000000:=by omega
  obtain ⟨E,D0,HD⟩:∃ E D0,Hid (scanD L=(E,D0)):=⟨_,_,hidOf rfl⟩
  rw [HD.out]
  simp only
  go_enter Tryz.func43,Tryz.ntmps43
  go_upto_region 2 with (go_at_call 72;refine CK.out.mono ?_;rintro e w1 ⟨a1,k1,a2,k2,fd,rfl,r1,r2,hk2,q,rfl⟩;have R1:=hidOf r1;have R2:=hidOf r2;clear r1 r2)
  have B1:Hid (Below N w ((w.alloc (.cells #[.int .u8 10] 5)).drewN q)):=Below.of_out (((Out.refl w).alloc _).drewN q) H.out.base
  have H1:=hidOf ((H.out.out ((Out.refl w).alloc (.cells #[.int .u8 10] 5))).drewN q)
  have R1':Hid (RestAt N ((w.alloc (.cells #[.int .u8 10] 5)).drewN q) a1 L):=R1.out
  have R2':Hid (RestAt N ((w.alloc (.cells #[.int .u8 10] 5)).drewN q) a2 M):=R2.out
  clear c0 CK R1 R2
  generalize (w.alloc (.cells #[.int .u8 10] 5)).drewN q=w1 at *
  have d0:w1.cell? ⟨p,0,none⟩=some (.slice ra l.length rc):=H1.out.cell 0
  have d2:w1.cell? ⟨p,2,none⟩=some (.int .i64 s.num):=H1.out.cell 2
  have f0:=H1.out.frozen 0
  have f2:=H1.out.frozen 2
  go_upto_region 6 with fail
  have H2:=hidOf ((H1.out.set 0 (.slice a2 M.length k2) s (rv':=.slice a2 M.length k2) rfl (by simp [Sn.cells])).set 2 (.int .i64 ((s.num:Int)+1)) { s with num:=s.num+1 } (rv':=.slice a2 M.length k2) rfl (by simp [Sn.cells]))
  have B2:=hidOf (Below.set_own (Below.set_own B1.out H.out.le (j:=0) (.slice a2 M.length k2)) H.out.le (j:=2) (.int .i64 ((s.num:Int)+1)))
  have R1:=hidOf (R1'.out.below (Below.set_own (Below.set_own (Below.refl N w1) H.out.le (j:=0) (.slice a2 M.length k2)) H.out.le (j:=2) (.int .i64 ((s.num:Int)+1))))
  have R2:=hidOf (R2'.out.below (Below.set_own (Below.set_own (Below.refl N w1) H.out.le (j:=0) (.slice a2 M.length k2)) H.out.le (j:=2) (.int .i64 ((s.num:Int)+1))))
  clear d0 d2 f0 f2 R1' R2' H1 B1
  generalize (w1.setCell ⟨p,0,none⟩ (.slice a2 M.length k2)).setCell ⟨p,2,none⟩ (.int .i64 ((s.num:Int)+1))=w2 at *
  have d1:w2.cell? ⟨p,1,none⟩=some (.string ⟨s.line.toArray⟩):=H2.out.cell 1
  have d3:w2.cell? ⟨p,3,none⟩=some (.int .i64 s.at'):=H2.out.cell 3
  have f1:=H2.out.frozen 1
  have f3:=H2.out.frozen 3
  have hcv:=conv_rest R1.out k1
  go_wp2
  have H3:Hid (Sc N p ((w2.setCell ⟨p,1,none⟩ (.string ⟨L.toArray⟩)).setCell ⟨p,3,none⟩ (.int .i64 0)) (.slice a2 M.length k2) tv (putS s L 0 [])):=
   (H2.out.set 1 (.string ⟨L.toArray⟩) { s with num:=s.num+1,line:=L } (rv':=.slice a2 M.length k2) rfl (by simp [Sn.cells])).set 3 (.int .i64 0) (putS s L 0 []) (rv':=.slice a2 M.length k2) (by simp [putS]) (by simp [Sn.cells,putS])
  have B3:=hidOf (Below.set_own (Below.set_own B2.out H.out.le (j:=1) (.string ⟨L.toArray⟩)) H.out.le (j:=3) (.int .i64 0))
  have R3:=hidOf (R2.out.below (Below.set_own (Below.set_own (Below.refl N w2) H.out.le (j:=1) (.string ⟨L.toArray⟩)) H.out.le (j:=3) (.int .i64 0)))
  clear d1 d3 f1 f3 hcv R1 R2 H2 B2
  generalize (w2.setCell ⟨p,1,none⟩ (.string ⟨L.toArray⟩)).setCell ⟨p,3,none⟩ (.int .i64 0)=w3 at *
  go_loopw [6] (fun ev wr=>∃ (a:Nat) (D:List (Int × List UInt8 × Int)) (tv':Value),a<=L.length/\D.length<=a/\Hid (E=(scanD (L.drop a)).1/\D0=D++(scanD (L.drop a)).2)/\Hid (Sc N p wr (.slice a2 M.length k2) tv' (putS s L a D))/\Hid (Below N w3 wr)) (fun ev wr=>L.length - atOf p wr)
  case atStart=>exact ⟨0,[],tv,by omega,by simp,hidOf ⟨by rw [List.drop_zero,HD.out],by rw [List.drop_zero,HD.out];rfl⟩,H3,hidOf (Below.refl _ _)⟩
  case round=>
   obtain ⟨a,D,tv',ha,hD,HS,HR,HB⟩:=hrel
   have HA:Hid (atOf p wr=a):=by
    have:wr.cell? ⟨p,3,none⟩=some (.int .i64 a):=HR.out.cell 3
    exact hidOf (by unfold atOf;rw [this];rfl)
   have d1:wr.cell? ⟨p,1,none⟩=some (.string ⟨L.toArray⟩):=HR.out.cell 1
   have d3:wr.cell? ⟨p,3,none⟩=some (.int .i64 a):=HR.out.cell 3
   by_cases hlt:a<L.length
   ·
    have hltI:(a:Int)<L.length:=by omega
    obtain ⟨c,R,hR⟩:∃ c R,L.drop a=c::R:=by
     cases hdr:L.drop a with
     | nil=>have:=congrArg List.length hdr;rw [List.length_drop] at this;simp at this;omega
     | cons c R=>exact ⟨c,R,rfl⟩
    have CN:Hid (∀ n,Calls Tryz.prog 73 #[.pointer (some ⟨p,0,none⟩)] (wr.drewN n) fun e w'=>EEnd N p (.slice a2 M.length k2) (wr.drewN n) (pieceP (c::R)).1 (putS s L a D) ((putS s L a D).adv (pieceP (c::R)).2.1 (pieceP (c::R)).2.2) e w'):=fun n=>
     next_any CV N p (wr.drewN n) ((HE.out.below (Below.step B3.out HB.out)).below ⟨rfl,rfl,rfl,Nat.le_refl _,fun _ _=>rfl⟩) _ tv' _ c R (HR.out.drewN n) (by simpa [putS] using hlt) (by simp [putS];omega) (by simp only [putS];omega) (putS_len hT L a D) (by simpa [putS] using hR)
    rw [putS_adv] at CN
    have hpl:=piece_len c R
    have hRl:L.length - a=R.length+1:=by have:=congrArg List.length hR;rw [List.length_drop] at this;simpa using this
    have hdd:∀ n,(c::R).drop n=L.drop (a+n):=fun n=>by rw [<-List.drop_drop,hR]
    have hok:(pieceP (c::R)).1=0->scanD (L.drop a)=((scanD (L.drop (a+(pieceP (c::R)).2.2))).1,(pieceP (c::R)).2.1.toList++(scanD (L.drop (a+(pieceP (c::R)).2.2))).2):=fun h=>by
     have h1:=scanD_ok c R h
     rw [hdd] at h1
     rw [hR]
     exact h1
    have hbad:¬(pieceP (c::R)).1=0->scanD (L.drop a)=((pieceP (c::R)).1,[]):=fun h=>by rw [hR];exact scanD_bad c R h
    have htl:(pieceP (c::R)).2.1.toList.length<=1:=by cases (pieceP (c::R)).2.1 <;> simp
    generalize hq:pieceP (c::R)=q at *
    obtain ⟨x,tk,n⟩:=q
    simp only at CN hpl hok hbad htl
    clear hq hdd
    by_cases hx:x=0
    ·
     subst hx
     have h1:=hpl rfl
     have h2:=hok rfl
     have HS':Hid (E=(scanD (L.drop (a+n))).1/\D0=(D++tk.toList)++(scanD (L.drop (a+n))).2):=⟨by rw [HS.out.1,h2],by rw [HS.out.2,h2,List.append_assoc]⟩
     clear hok hbad hpl h2 HS hR
     go_upto_region 7 with fail
     go_quiet (fail)
     go_wp2_with (go_at_call 73;refine (CN.out nq).mono ?_;rintro e w4 ⟨rfl,q1,q2,q3⟩;obtain ⟨tv4,q1⟩:=q1 (by first | rfl | trivial);have H4:=hidOf q1;have B4:Hid (Below N w3 w4):=Below.step (Below.step HB.out (show Below N wr (wr.drewN nq) from ⟨rfl,rfl,rfl,Nat.le_refl _,fun _ _=>rfl⟩)) q3;clear q1 q2 q3)
     go_roundw
     case rel=>exact ⟨a+n,D++tk.toList,tv4,by omega,by rw [List.length_append];omega,HS',H4,B4⟩
     case measure=>
      have:atOf p w4=a+n:=by
       have:w4.cell? ⟨p,3,none⟩=some (.int .i64 ((a+n:Nat):Int)):=H4.out.cell 3
       unfold atOf;rw [this];rfl
      rw [this,HA.out]
      omega
    ·
     have hx':(x == 0)=false:=by simpa using hx
     have HX:Hid (E=x):=by rw [HS.out.1,hbad hx];exact hidOf rfl
     clear hok hbad hpl HS hR
     go_upto_region 7 with fail
     go_quiet (fail)
     go_wp2_with (go_at_call 73;refine (CN.out nq).mono ?_;rintro e w4 ⟨rfl,q1,⟨tv4,s4,hs4,q2⟩,q3⟩;have H4:=hidOf q2;have B4:Hid (Below N w3 w4):=Below.step (Below.step HB.out (show Below N wr (wr.drewN nq) from ⟨rfl,rfl,rfl,Nat.le_refl _,fun _ _=>rfl⟩)) q3;have HN4:=hidOf hs4;clear q1 q2 q3 hs4)
     go_ret
     have e2:w4.cell? ⟨p,2,none⟩=some (.int .i64 (s4.num:Int)):=H4.out.cell 2
     rw [HN4.out] at e2
     exact ⟨by rw [HX.out];rfl,Below.step B3.out B4.out,e2,fun h0=>absurd (by rw [<-HX.out];exact h0) hx⟩
   ·
    have hltI:¬(a:Int)<L.length:=by omega
    have haL:a=L.length:=by omega
    have HX:Hid (E=0/\D0=D):=by
     have h1:=HS.out
     rw [haL,List.drop_length,scanD_nil] at h1
     exact hidOf ⟨h1.1,by rw [h1.2];simp⟩
    have CA:Hid (∀ n,Calls Tryz.prog 44 #[.pointer (some ⟨p,0,none⟩),.int .i64 5,.string ⟨#[]⟩,.int .u64 0] (wr.drewN n) fun e w'=>(∃ v,e=.returned v)/\SEnd N p (.slice a2 M.length k2) (wr.drewN n) ((putS s L a D).add 5 [] 0) w'):=fun n=>add_any N p _ _ tv' _ 5 [] 0 (HR.out.drewN n) (by simp only [putS];omega) (putS_len hT L a D)
    clear HS
    go_upto_region 7 with fail
    go_quiet (fail)
    go_wp2_with (go_at_call 44;refine (CA.out nq).mono ?_;rintro e w4 ⟨⟨v,rfl⟩,⟨tv4,q2⟩,q3⟩;have H4:=hidOf q2;have B4:Hid (Below N w3 w4):=Below.step (Below.step HB.out (show Below N wr (wr.drewN nq) from ⟨rfl,rfl,rfl,Nat.le_refl _,fun _ _=>rfl⟩)) q3;clear q2 q3)
    go_ret
    have e2:w4.cell? ⟨p,2,none⟩=some (.int .i64 ((s.num+1:Nat):Int)):=H4.out.cell 2
    have e3:(putS s L a D).add 5 [] 0=putS s L a (D++[(5,[],0)]):=putS_adv s L a D (some (5,[],0)) 0
    have h4:=H4.out
    rw [e3] at h4
    exact ⟨by rw [HX.out.1];rfl,Below.step B3.out B4.out,e2,fun _=>⟨a2,k2,tv4,L,a,R3.out.below B4.out,hk2,by rw [HX.out.2];exact h4⟩⟩
 ·
  have hP:lineP L=(51,[]):=by unfold lineP;rw [if_neg h1024]
  rw [hP]
  simp only
  have hbig:(1024:Int)<L.length:=by omega
  have hnI:(s.num:Int)<=500000000:=by omega
  go_enter Tryz.func43,Tryz.ntmps43
  go_upto_region 2 with (go_at_call 72;refine CK.out.mono ?_;rintro e w1 ⟨a1,k1,a2,k2,fd,rfl,r1,r2,hk2,q,rfl⟩;have R1:=hidOf r1;have R2:=hidOf r2;clear r1 r2)
  have B1:Hid (Below N w ((w.alloc (.cells #[.int .u8 10] 5)).drewN q)):=Below.of_out (((Out.refl w).alloc _).drewN q) H.out.base
  have H1:=hidOf ((H.out.out ((Out.refl w).alloc (.cells #[.int .u8 10] 5))).drewN q)
  clear c0 CK
  generalize (w.alloc (.cells #[.int .u8 10] 5)).drewN q=w1 at *
  have d0:w1.cell? ⟨p,0,none⟩=some (.slice ra l.length rc):=H1.out.cell 0
  have d2:w1.cell? ⟨p,2,none⟩=some (.int .i64 s.num):=H1.out.cell 2
  have f0:=H1.out.frozen 0
  have f2:=H1.out.frozen 2
  go_wp2
  go_ret
  have H2:=(H1.out.set 0 (.slice a2 M.length k2) s (rv':=.slice a2 M.length k2) rfl (by simp [Sn.cells])).set 2 (.int .i64 ((s.num:Int)+1)) { s with num:=s.num+1 } (rv':=.slice a2 M.length k2) rfl (by simp [Sn.cells])
  exact ⟨rfl,Below.set_own (Below.set_own B1.out H.out.le _) H.out.le _,H2.cell 2,fun e=>by cases e⟩
end Go.Proofs.YtadneimllbfdnaaGreatDoor.Lx
