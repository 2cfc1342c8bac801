import Derived.Test.YtadneimllbfdnaaGreatDoorGu32
namespace Go.Proofs.YtadneimllbfdnaaGreatDoor
open Go.RowKit
set_option linter.unusedVariables false
set_option linter.unusedSimpArgs false
def RowC (w:World) (a:Option Addr) (cs:List Value):Prop:=cs=[]\/∃ g off,a=some ⟨g,off,none⟩/\∀ k u,cs[k]? = some u->w.cell? ⟨g,off+k,none⟩=some u
theorem RowC.out {w w':World} {a:Option Addr} {cs:List Value} (h:RowC w a cs) (o:Out w w'):RowC w' a cs:=by
 rcases h with h | ⟨g,off,e,h⟩
 · exact .inl h
 · exact .inr ⟨g,off,e,fun k u hu=>cell_later o (h k u hu)⟩
theorem RowC.get {w:World} {a:Option Addr} {cs:List Value} (h:RowC w a cs) {k:Nat} {u:Value} (hu:cs[k]? = some u):∃ g off,a=some ⟨g,off,none⟩/\w.cell? ⟨g,off+k,none⟩=some u:=by
 rcases h with h | ⟨g,off,e,h⟩
 · rw [h] at hu;cases hu
 · exact ⟨g,off,e,h k u hu⟩
theorem strsC_get {N:List (List UInt8)} {k:Nat} {y:List UInt8} (h:N[k]? = some y):(strsC N)[k]? = some (.string ⟨y.toArray⟩):=by simp [strsC,h]
theorem intsC_get {N:List Int} {k:Nat} {y:Int} (h:N[k]? = some y):(intsC N)[k]? = some (.int .i64 y):=by simp [intsC,h]
set_option maxHeartbeats 800000 in
theorem sameT6_any (a b:Option Addr) (c d:Nat) (N:List (List UInt8)) (w:World) (h:RowC w a (strsC N)) (h':RowC w b (strsC N)) (hn:N.length<=20000000000000):Calls Tryz.prog 41 #[.slice a N.length c,.slice b N.length d] w fun e w'=>e=.returned (.bool true)/\∃ m,w'=w.drewN m:=by
 have H:=hidOf h
 have H':=hidOf h'
 have hee:((N.length:Int) != (N.length:Int))=false:=by simp
 clear h h'
 go_enter Tryz.func41,Tryz.ntmps41
 go_wp2
 go_loopw [5] (fun iv wr=>∃ k m:Nat,iv=.int .i64 k/\k<=N.length/\wr=w.drewN m) (fun iv _=>N.length - (intOf iv).toNat)
 case atStart=>exact ⟨0,0,rfl,by omega,rfl⟩
 case round=>
  obtain ⟨k,m,rfl,hk,rfl⟩:=hrel
  by_cases hkN:k<N.length
  ·
   have hlt:(k:Int)<N.length:=by omega
   have h0:(0:Int)<=k:=by omega
   obtain ⟨y,hy⟩:∃ y,N[k]? = some y:=⟨_,List.getElem?_eq_getElem hkN⟩
   obtain ⟨g,off,rfl,q⟩:=H.out.get (strsC_get hy)
   obtain ⟨g',off',rfl,q'⟩:=H'.out.get (strsC_get hy)
   have q1:∀ m,(w.drewN m).cell? ⟨g,off+k,none⟩=some (.string ⟨y.toArray⟩):=fun m=>q
   have q2:∀ m,(w.drewN m).cell? ⟨g',off' + k,none⟩=some (.string ⟨y.toArray⟩):=fun m=>q'
   clear hy q q'
   go_wp2_with (go_quiet (fail))
   go_roundw
   case rel=>exact ⟨k+1,_,by simp,by omega,rfl⟩
   case measure=>simp [intOf];omega
  ·
   have hlt:¬(k:Int)<N.length:=by omega
   go_wp2
   go_ret
   exact ⟨rfl,_,rfl⟩
set_option maxHeartbeats 800000 in
theorem sameI6_any (a b:Option Addr) (c d:Nat) (N:List Int) (w:World) (h:RowC w a (intsC N)) (h':RowC w b (intsC N)) (hn:N.length<=20000000000000):Calls Tryz.prog 42 #[.slice a N.length c,.slice b N.length d] w fun e w'=>e=.returned (.bool true)/\∃ m,w'=w.drewN m:=by
 have H:=hidOf h
 have H':=hidOf h'
 have hee:((N.length:Int) != (N.length:Int))=false:=by simp
 clear h h'
 go_enter Tryz.func42,Tryz.ntmps42
 go_wp2
 go_loopw [5] (fun iv wr=>∃ k m:Nat,iv=.int .i64 k/\k<=N.length/\wr=w.drewN m) (fun iv _=>N.length - (intOf iv).toNat)
 case atStart=>exact ⟨0,0,rfl,by omega,rfl⟩
 case round=>
  obtain ⟨k,m,rfl,hk,rfl⟩:=hrel
  by_cases hkN:k<N.length
  ·
   have hlt:(k:Int)<N.length:=by omega
   have h0:(0:Int)<=k:=by omega
   obtain ⟨y,hy⟩:∃ y,N[k]? = some y:=⟨_,List.getElem?_eq_getElem hkN⟩
   obtain ⟨g,off,rfl,q⟩:=H.out.get (intsC_get hy)
   obtain ⟨g',off',rfl,q'⟩:=H'.out.get (intsC_get hy)
   have q1:∀ m,(w.drewN m).cell? ⟨g,off+k,none⟩=some (.int .i64 y):=fun m=>q
   have q2:∀ m,(w.drewN m).cell? ⟨g',off' + k,none⟩=some (.int .i64 y):=fun m=>q'
   have hyy:(y != y)=false:=by simp
   clear hy q q'
   go_wp2_with (go_quiet (fail))
   go_roundw
   case rel=>exact ⟨k+1,_,by simp,by omega,rfl⟩
   case measure=>simp [intOf];omega
  ·
   have hlt:¬(k:Int)<N.length:=by omega
   go_wp2
   go_ret
   exact ⟨rfl,_,rfl⟩
theorem box2_new {w:World} (o1 o2:Array Value) (t1 t2:TypeId):((w.alloc (.cells o1 t1)).alloc (.cells o2 t2)).heap[w.heap.size]? = some (.cells o1 t1 (0,0))/\((w.alloc (.cells o1 t1)).alloc (.cells o2 t2)).heap[w.heap.size+1]? = some (.cells o2 t2 (0,0)):=by
 have e1:=heap_alloc_new w (.cells o1 t1)
 have o:Out (w.alloc (.cells o1 t1)) ((w.alloc (.cells o1 t1)).alloc (.cells o2 t2)):=(Out.refl _).alloc _
 refine ⟨(o.block _ (by rw [size_alloc];omega)).trans e1, ?_⟩
 have:=heap_alloc_new (w.alloc (.cells o1 t1)) (.cells o2 t2)
 rw [size_alloc] at this
 exact this
set_option maxRecDepth 20000 in
set_option maxHeartbeats 4000000 in
theorem sameSt_any (x:Stm) (aw aw2 an an2:Option Addr) (cw cw2 cn cn2:Nat) (w:World) (h1:RowC w aw (strsC x.ws)) (h2:RowC w aw2 (strsC x.ws)) (h3:RowC w an (intsC x.ns)) (h4:RowC w an2 (intsC x.ns)) (hw:x.ws.length<=20000000000000) (hn:x.ns.length<=20000000000000) :
  Calls Tryz.prog 21 #[.agg #[.int .i64 x.k,.string ⟨x.nm.toArray⟩,.slice aw x.ws.length cw,.slice an x.ns.length cn,.int .i64 x.o,.int .i64 x.d,.int .i64 x.s,.int .i64 x.f,.int .i64 x.i,.string ⟨x.tg.toArray⟩,.int .i64 x.l],.agg #[.int .i64 x.k,.string ⟨x.nm.toArray⟩,.slice aw2 x.ws.length cw2,.slice an2 x.ns.length cn2,.int .i64 x.o,.int .i64 x.d,.int .i64 x.s,.int .i64 x.f,.int .i64 x.i,.string ⟨x.tg.toArray⟩,.int .i64 x.l]] w fun e w'=>e=.returned (.bool true)/\Out w w':=by
 obtain ⟨W,hW⟩:∃ W,W=(w.alloc (.cells #[.int .i64 x.k,.string ⟨x.nm.toArray⟩,.slice aw x.ws.length cw,.slice an x.ns.length cn,.int .i64 x.o,.int .i64 x.d,.int .i64 x.s,.int .i64 x.f,.int .i64 x.i,.string ⟨x.tg.toArray⟩,.int .i64 x.l] 42)).alloc (.cells #[.int .i64 x.k,.string ⟨x.nm.toArray⟩,.slice aw2 x.ws.length cw2,.slice an2 x.ns.length cn2,.int .i64 x.o,.int .i64 x.d,.int .i64 x.s,.int .i64 x.f,.int .i64 x.i,.string ⟨x.tg.toArray⟩,.int .i64 x.l] 42):=⟨_,rfl⟩
 have HO:Hid (Out w W):=hidOf (by rw [hW];exact ((Out.refl w).alloc _).alloc _)
 have hb:W.heap[w.heap.size]? = some (.cells #[.int .i64 x.k,.string ⟨x.nm.toArray⟩,.slice aw x.ws.length cw,.slice an x.ns.length cn,.int .i64 x.o,.int .i64 x.d,.int .i64 x.s,.int .i64 x.f,.int .i64 x.i,.string ⟨x.tg.toArray⟩,.int .i64 x.l] 42 (0,0))/\W.heap[w.heap.size+1]? = some (.cells #[.int .i64 x.k,.string ⟨x.nm.toArray⟩,.slice aw2 x.ws.length cw2,.slice an2 x.ns.length cn2,.int .i64 x.o,.int .i64 x.d,.int .i64 x.s,.int .i64 x.f,.int .i64 x.i,.string ⟨x.tg.toArray⟩,.int .i64 x.l] 42 (0,0)):=by rw [hW];exact box2_new _ _ _ _
 have HK:Hid (∀ wx,Out W wx->wx.cell? ⟨w.heap.size,0,none⟩=some (.int .i64 x.k)/\wx.cell? ⟨w.heap.size,1,none⟩=some (.string ⟨x.nm.toArray⟩)/\wx.cell? ⟨w.heap.size,2,none⟩=some (.slice aw x.ws.length cw)/\wx.cell? ⟨w.heap.size,3,none⟩=some (.slice an x.ns.length cn)/\wx.cell? ⟨w.heap.size,4,none⟩=some (.int .i64 x.o)/\wx.cell? ⟨w.heap.size,5,none⟩=some (.int .i64 x.d)/\wx.cell? ⟨w.heap.size,6,none⟩=some (.int .i64 x.s)/\wx.cell? ⟨w.heap.size,7,none⟩=some (.int .i64 x.f)/\wx.cell? ⟨w.heap.size,8,none⟩=some (.int .i64 x.i)/\wx.cell? ⟨w.heap.size,9,none⟩=some (.string ⟨x.tg.toArray⟩)/\wx.cell? ⟨w.heap.size,10,none⟩=some (.int .i64 x.l)/\wx.cell? ⟨(w.heap.size+1),0,none⟩=some (.int .i64 x.k)/\wx.cell? ⟨(w.heap.size+1),1,none⟩=some (.string ⟨x.nm.toArray⟩)/\wx.cell? ⟨(w.heap.size+1),2,none⟩=some (.slice aw2 x.ws.length cw2)/\wx.cell? ⟨(w.heap.size+1),3,none⟩=some (.slice an2 x.ns.length cn2)/\wx.cell? ⟨(w.heap.size+1),4,none⟩=some (.int .i64 x.o)/\wx.cell? ⟨(w.heap.size+1),5,none⟩=some (.int .i64 x.d)/\wx.cell? ⟨(w.heap.size+1),6,none⟩=some (.int .i64 x.s)/\wx.cell? ⟨(w.heap.size+1),7,none⟩=some (.int .i64 x.f)/\wx.cell? ⟨(w.heap.size+1),8,none⟩=some (.int .i64 x.i)/\wx.cell? ⟨(w.heap.size+1),9,none⟩=some (.string ⟨x.tg.toArray⟩)/\wx.cell? ⟨(w.heap.size+1),10,none⟩=some (.int .i64 x.l)):=hidOf (fun wx o=>by
  obtain ⟨b1,b2⟩:=hb
  exact ⟨cell_later o (by rw [cell_atL b1];rfl),cell_later o (by rw [cell_atL b1];rfl),cell_later o (by rw [cell_atL b1];rfl),cell_later o (by rw [cell_atL b1];rfl),cell_later o (by rw [cell_atL b1];rfl),cell_later o (by rw [cell_atL b1];rfl),cell_later o (by rw [cell_atL b1];rfl),cell_later o (by rw [cell_atL b1];rfl),cell_later o (by rw [cell_atL b1];rfl),cell_later o (by rw [cell_atL b1];rfl),cell_later o (by rw [cell_atL b1];rfl),cell_later o (by rw [cell_atL b2];rfl),cell_later o (by rw [cell_atL b2];rfl),cell_later o (by rw [cell_atL b2];rfl),cell_later o (by rw [cell_atL b2];rfl),cell_later o (by rw [cell_atL b2];rfl),cell_later o (by rw [cell_atL b2];rfl),cell_later o (by rw [cell_atL b2];rfl),cell_later o (by rw [cell_atL b2];rfl),cell_later o (by rw [cell_atL b2];rfl),cell_later o (by rw [cell_atL b2];rfl),cell_later o (by rw [cell_atL b2];rfl)⟩)
 have CT:Hid (∀ wx,Out W wx->Calls Tryz.prog 41 #[.slice aw x.ws.length cw,.slice aw2 x.ws.length cw2] wx fun e w'=>e=.returned (.bool true)/\Out wx w'):=hidOf (fun wx o=>(sameT6_any aw aw2 cw cw2 x.ws wx (h1.out (HO.out.trans o)) (h2.out (HO.out.trans o)) hw).mono (by
  rintro e w' ⟨he,m,rfl⟩
  exact ⟨he,(Out.refl wx).dN m⟩))
 have CI:Hid (∀ wx,Out W wx->Calls Tryz.prog 42 #[.slice an x.ns.length cn,.slice an2 x.ns.length cn2] wx fun e w'=>e=.returned (.bool true)/\Out wx w'):=hidOf (fun wx o=>(sameI6_any an an2 cn cn2 x.ns wx (h3.out (HO.out.trans o)) (h4.out (HO.out.trans o)) hn).mono (by
  rintro e w' ⟨he,m,rfl⟩
  exact ⟨he,(Out.refl wx).dN m⟩))
 have OW:Hid (Out W W):=hidOf (Out.refl W)
 have HW:=hidOf hW
 obtain ⟨nw,hnw⟩:∃ n,n=x.ws.length:=⟨_,rfl⟩
 obtain ⟨nn,hnn⟩:∃ n,n=x.ns.length:=⟨_,rfl⟩
 clear hb h1 h2 h3 h4 hW
 rw [<-hnw] at HK CT HW ⊢
 rw [<-hnn] at HK CI HW ⊢
 clear hnw hnn hw hn
 obtain ⟨xk,xnm,xws,xns,xo,xd,xs,xf,xi,xtg,xl⟩:=x
 simp only at HK HW ⊢
 go_enter Tryz.func21,Tryz.ntmps21
 go_upto_region 1 with fail
 rw [<-HW.out]
 have q:=HK.out W OW.out
 obtain ⟨q0,q1,q2,q3,q4,q5,q6,q7,q8,q9,q10,q11,q12,q13,q14,q15,q16,q17,q18,q19,q20,q21⟩:=q
 go_wp2_with (first | (go_at_call 41;refine (CT.out _ OW.out).mono ?_;rintro e w1 ⟨rfl,hO1⟩;have HO1:=hidOf hO1;clear hO1;obtain ⟨r0,r1,r2,r3,r4,r5,r6,r7,r8,r9,r10,r11,r12,r13,r14,r15,r16,r17,r18,r19,r20,r21⟩:=HK.out _ HO1.out) | (go_at_call 42;refine (CI.out _ HO1.out).mono ?_;rintro e w2 ⟨rfl,hO2⟩;have HO2:=hidOf (Out.trans HO1.out hO2);clear hO2;obtain ⟨s0,s1,s2,s3,s4,s5,s6,s7,s8,s9,s10,s11,s12,s13,s14,s15,s16,s17,s18,s19,s20,s21⟩:=HK.out _ HO2.out))
 go_ret
 exact ⟨rfl,HO.out.trans HO2.out⟩
set_option maxRecDepth 20000 in
set_option maxHeartbeats 4000000 in
theorem lineOf_named (x:Stm) (aw an:Option Addr) (nw cw nn cn:Nat) (w:World) (hpw:Lx.Pow w) (hx:x.nm.length<=140737488355328) (h5:¬x.k=5) (h6:x.k=6) (hne:¬x.nm=[]):Calls Tryz.prog 15 #[.agg #[.int .i64 x.k,.string ⟨x.nm.toArray⟩,.slice aw nw cw,.slice an nn cn,.int .i64 x.o,.int .i64 x.d,.int .i64 x.s,.int .i64 x.f,.int .i64 x.i,.string ⟨x.tg.toArray⟩,.int .i64 x.l]] w fun e w'=>e=.returned (.tuple #[.string ⟨(lnPl x nw nn).1.toArray⟩,.int .i64 (lnPl x nw nn).2])/\Out w w':=by
 have CI:=hidOf (hasInsn_any x aw an nw cw nn cn)
 have CL:=hidOf (hasLists_any x aw an nw cw nn cn)
 have CN:=hidOf (fun wx=>nameLine_any x aw an nw cw nn cn wx hx)
 have CM:Hid (∀ wx,Out w wx->Calls Tryz.prog 31 #[.string ⟨x.nm.toArray⟩] wx fun e w'=>e=.returned (.bool (isNmP x.nm))/\Out wx w'):=hidOf (fun wx o=>isName6_any x.nm hx wx (hpw.out o))
 obtain ⟨X,hX⟩:∃ X,X=lnPl x nw nn:=⟨_,rfl⟩
 rw [<-hX]
 unfold lnPl at hX
 generalize (!insZ x || !x.tg.isEmpty)=b1 at *
 generalize isNmP x.nm=b2 at *
 generalize (decide (0<nw) || decide (0<nn))=b3 at *
 generalize nmLn x=z at *
 have HX:=hidOf hX
 obtain ⟨w1,hw1⟩:∃ w1,w1=w.alloc (.cells #[.int .i64 x.k,.string ⟨x.nm.toArray⟩,.slice aw nw cw,.slice an nn cn,.int .i64 x.o,.int .i64 x.d,.int .i64 x.s,.int .i64 x.f,.int .i64 x.i,.string ⟨x.tg.toArray⟩,.int .i64 x.l] 42):=⟨_,rfl⟩
 have O1:Hid (Out w w1):=hidOf (by rw [hw1];exact (Out.refl w).alloc _)
 have b1':w1.heap[w.heap.size]? = some (.cells #[.int .i64 x.k,.string ⟨x.nm.toArray⟩,.slice aw nw cw,.slice an nn cn,.int .i64 x.o,.int .i64 x.d,.int .i64 x.s,.int .i64 x.f,.int .i64 x.i,.string ⟨x.tg.toArray⟩,.int .i64 x.l] 42 (0,0)):=by rw [hw1];exact heap_alloc_new w _
 have BL:Hid (∀ wx,Out w1 wx->wx.heap[w.heap.size]? = some (.cells #[.int .i64 x.k,.string ⟨x.nm.toArray⟩,.slice aw nw cw,.slice an nn cn,.int .i64 x.o,.int .i64 x.d,.int .i64 x.s,.int .i64 x.f,.int .i64 x.i,.string ⟨x.tg.toArray⟩,.int .i64 x.l] 42 (0,0))):=hidOf (fun wx o=>(o.block _ (Array.getElem?_eq_some_iff.1 b1').1).trans b1')
 have Hw1:=hidOf hw1
 have k5:(x.k == 5)=false:=by simp [h5]
 have k6:(x.k == 6)=true:=by simp [h6]
 have hnE:x.nm.isEmpty=false:=by cases hq:x.nm with | nil=>exact absurd hq hne | cons c r=>rfl
 clear hX hw1 b1' hpw hx h5 h6
 have c0:w1.cell? ⟨w.heap.size,0,none⟩=some (.int .i64 x.k):=by rw [cell_atL (BL.out _ (Out.refl w1))];rfl
 have c1:w1.cell? ⟨w.heap.size,1,none⟩=some (.string ⟨x.nm.toArray⟩):=by rw [cell_atL (BL.out _ (Out.refl w1))];rfl
 have c2:w1.cell? ⟨w.heap.size,2,none⟩=some (.slice aw nw cw):=by rw [cell_atL (BL.out _ (Out.refl w1))];rfl
 have c3:w1.cell? ⟨w.heap.size,3,none⟩=some (.slice an nn cn):=by rw [cell_atL (BL.out _ (Out.refl w1))];rfl
 have c4:w1.cell? ⟨w.heap.size,4,none⟩=some (.int .i64 x.o):=by rw [cell_atL (BL.out _ (Out.refl w1))];rfl
 have c5:w1.cell? ⟨w.heap.size,5,none⟩=some (.int .i64 x.d):=by rw [cell_atL (BL.out _ (Out.refl w1))];rfl
 have c6:w1.cell? ⟨w.heap.size,6,none⟩=some (.int .i64 x.s):=by rw [cell_atL (BL.out _ (Out.refl w1))];rfl
 have c7:w1.cell? ⟨w.heap.size,7,none⟩=some (.int .i64 x.f):=by rw [cell_atL (BL.out _ (Out.refl w1))];rfl
 have c8:w1.cell? ⟨w.heap.size,8,none⟩=some (.int .i64 x.i):=by rw [cell_atL (BL.out _ (Out.refl w1))];rfl
 have c9:w1.cell? ⟨w.heap.size,9,none⟩=some (.string ⟨x.tg.toArray⟩):=by rw [cell_atL (BL.out _ (Out.refl w1))];rfl
 have c10:w1.cell? ⟨w.heap.size,10,none⟩=some (.int .i64 x.l):=by rw [cell_atL (BL.out _ (Out.refl w1))];rfl
 cases b1 with
 | true=>
  have HE:Hid (X=([],60)):=hidOf (by rw [HX.out,if_pos rfl])
  go_enter Tryz.func15,Tryz.ntmps15
  go_upto_region 1 with fail
  rw [<-Hw1.out]
  go_wp2_with (go_at_call 30;refine (CI.out _).mono ?_;rintro e w2 ⟨rfl,ho⟩;have O2:=hidOf ho;clear ho)
  go_ret2
  rw [HE.out]
  exact ⟨rfl,O1.out.trans O2.out⟩
 | false=>
  cases b2 with
  | false=>
   have HE:Hid (X=([],60)):=hidOf (by rw [HX.out,if_neg (by simp),if_pos rfl])
   go_enter Tryz.func15,Tryz.ntmps15
   go_upto_region 1 with fail
   rw [<-Hw1.out]
   go_wp2_with (first | (go_at_call 30;refine (CI.out _).mono ?_;rintro e w2 ⟨rfl,ho⟩;have O2:=hidOf ho;have d1:=(show w2.cell? ⟨w.heap.size,1,none⟩=some (.string ⟨x.nm.toArray⟩) by rw [cell_atL (BL.out _ ho)];rfl);clear ho) | (go_at_call 31;refine (CM.out _ (O1.out.trans O2.out)).mono ?_;rintro e w3 ⟨rfl,ho⟩;have O3:=hidOf ho;clear ho))
   go_ret2
   rw [HE.out]
   exact ⟨rfl,(O1.out.trans O2.out).trans O3.out⟩
  | true=>
   cases b3 with
   | true=>
    have HE:Hid (X=([],60)):=hidOf (by rw [HX.out,if_neg (by simp),if_neg (by simp),if_pos rfl])
    go_enter Tryz.func15,Tryz.ntmps15
    go_upto_region 1 with fail
    rw [<-Hw1.out]
    go_upto_region 5 with (first | (go_at_call 30;refine (CI.out _).mono ?_;rintro e w2 ⟨rfl,ho⟩;have O2:=hidOf ho;have d1:=(show w2.cell? ⟨w.heap.size,1,none⟩=some (.string ⟨x.nm.toArray⟩) by rw [cell_atL (BL.out _ ho)];rfl);clear ho) | (go_at_call 31;refine (CM.out _ (O1.out.trans O2.out)).mono ?_;rintro e w3 ⟨rfl,ho⟩;have O3:=hidOf (O2.out.trans ho);clear ho))
    clear d1 c0 c1 c2 c3 c4 c5 c6 c7 c8 c9 c10
    have e0:w3.cell? ⟨w.heap.size,0,none⟩=some (.int .i64 x.k):=by rw [cell_atL (BL.out _ (O3.out))];rfl
    have e1:w3.cell? ⟨w.heap.size,1,none⟩=some (.string ⟨x.nm.toArray⟩):=by rw [cell_atL (BL.out _ (O3.out))];rfl
    have e2:w3.cell? ⟨w.heap.size,2,none⟩=some (.slice aw nw cw):=by rw [cell_atL (BL.out _ (O3.out))];rfl
    have e3:w3.cell? ⟨w.heap.size,3,none⟩=some (.slice an nn cn):=by rw [cell_atL (BL.out _ (O3.out))];rfl
    have e4:w3.cell? ⟨w.heap.size,4,none⟩=some (.int .i64 x.o):=by rw [cell_atL (BL.out _ (O3.out))];rfl
    have e5:w3.cell? ⟨w.heap.size,5,none⟩=some (.int .i64 x.d):=by rw [cell_atL (BL.out _ (O3.out))];rfl
    have e6:w3.cell? ⟨w.heap.size,6,none⟩=some (.int .i64 x.s):=by rw [cell_atL (BL.out _ (O3.out))];rfl
    have e7:w3.cell? ⟨w.heap.size,7,none⟩=some (.int .i64 x.f):=by rw [cell_atL (BL.out _ (O3.out))];rfl
    have e8:w3.cell? ⟨w.heap.size,8,none⟩=some (.int .i64 x.i):=by rw [cell_atL (BL.out _ (O3.out))];rfl
    have e9:w3.cell? ⟨w.heap.size,9,none⟩=some (.string ⟨x.tg.toArray⟩):=by rw [cell_atL (BL.out _ (O3.out))];rfl
    have e10:w3.cell? ⟨w.heap.size,10,none⟩=some (.int .i64 x.l):=by rw [cell_atL (BL.out _ (O3.out))];rfl
    go_wp2_with (go_at_call 28;refine (CL.out _).mono ?_;rintro e w4 ⟨rfl,ho⟩;have O4:=hidOf (O3.out.trans ho);clear ho)
    go_ret2
    rw [HE.out]
    exact ⟨rfl,O1.out.trans O4.out⟩
   | false=>
    have HE:Hid (X=z):=hidOf (by rw [HX.out,if_neg (by simp),if_neg (by simp),if_neg (by simp)])
    go_enter Tryz.func15,Tryz.ntmps15
    go_upto_region 1 with fail
    rw [<-Hw1.out]
    go_upto_region 5 with (first | (go_at_call 30;refine (CI.out _).mono ?_;rintro e w2 ⟨rfl,ho⟩;have O2:=hidOf ho;have d1:=(show w2.cell? ⟨w.heap.size,1,none⟩=some (.string ⟨x.nm.toArray⟩) by rw [cell_atL (BL.out _ ho)];rfl);clear ho) | (go_at_call 31;refine (CM.out _ (O1.out.trans O2.out)).mono ?_;rintro e w3 ⟨rfl,ho⟩;have O3:=hidOf (O2.out.trans ho);clear ho))
    clear d1 c0 c1 c2 c3 c4 c5 c6 c7 c8 c9 c10
    have e0:w3.cell? ⟨w.heap.size,0,none⟩=some (.int .i64 x.k):=by rw [cell_atL (BL.out _ (O3.out))];rfl
    have e1:w3.cell? ⟨w.heap.size,1,none⟩=some (.string ⟨x.nm.toArray⟩):=by rw [cell_atL (BL.out _ (O3.out))];rfl
    have e2:w3.cell? ⟨w.heap.size,2,none⟩=some (.slice aw nw cw):=by rw [cell_atL (BL.out _ (O3.out))];rfl
    have e3:w3.cell? ⟨w.heap.size,3,none⟩=some (.slice an nn cn):=by rw [cell_atL (BL.out _ (O3.out))];rfl
    have e4:w3.cell? ⟨w.heap.size,4,none⟩=some (.int .i64 x.o):=by rw [cell_atL (BL.out _ (O3.out))];rfl
    have e5:w3.cell? ⟨w.heap.size,5,none⟩=some (.int .i64 x.d):=by rw [cell_atL (BL.out _ (O3.out))];rfl
    have e6:w3.cell? ⟨w.heap.size,6,none⟩=some (.int .i64 x.s):=by rw [cell_atL (BL.out _ (O3.out))];rfl
    have e7:w3.cell? ⟨w.heap.size,7,none⟩=some (.int .i64 x.f):=by rw [cell_atL (BL.out _ (O3.out))];rfl
    have e8:w3.cell? ⟨w.heap.size,8,none⟩=some (.int .i64 x.i):=by rw [cell_atL (BL.out _ (O3.out))];rfl
    have e9:w3.cell? ⟨w.heap.size,9,none⟩=some (.string ⟨x.tg.toArray⟩):=by rw [cell_atL (BL.out _ (O3.out))];rfl
    have e10:w3.cell? ⟨w.heap.size,10,none⟩=some (.int .i64 x.l):=by rw [cell_atL (BL.out _ (O3.out))];rfl
    go_upto_region 9 with (go_at_call 28;refine (CL.out _).mono ?_;rintro e w4 ⟨rfl,ho⟩;have O4:=hidOf (O3.out.trans ho);clear ho)
    clear e0 e1 e2 e3 e4 e5 e6 e7 e8 e9 e10
    have g0:w4.cell? ⟨w.heap.size,0,none⟩=some (.int .i64 x.k):=by rw [cell_atL (BL.out _ (O4.out))];rfl
    have g1:w4.cell? ⟨w.heap.size,1,none⟩=some (.string ⟨x.nm.toArray⟩):=by rw [cell_atL (BL.out _ (O4.out))];rfl
    have g2:w4.cell? ⟨w.heap.size,2,none⟩=some (.slice aw nw cw):=by rw [cell_atL (BL.out _ (O4.out))];rfl
    have g3:w4.cell? ⟨w.heap.size,3,none⟩=some (.slice an nn cn):=by rw [cell_atL (BL.out _ (O4.out))];rfl
    have g4:w4.cell? ⟨w.heap.size,4,none⟩=some (.int .i64 x.o):=by rw [cell_atL (BL.out _ (O4.out))];rfl
    have g5:w4.cell? ⟨w.heap.size,5,none⟩=some (.int .i64 x.d):=by rw [cell_atL (BL.out _ (O4.out))];rfl
    have g6:w4.cell? ⟨w.heap.size,6,none⟩=some (.int .i64 x.s):=by rw [cell_atL (BL.out _ (O4.out))];rfl
    have g7:w4.cell? ⟨w.heap.size,7,none⟩=some (.int .i64 x.f):=by rw [cell_atL (BL.out _ (O4.out))];rfl
    have g8:w4.cell? ⟨w.heap.size,8,none⟩=some (.int .i64 x.i):=by rw [cell_atL (BL.out _ (O4.out))];rfl
    have g9:w4.cell? ⟨w.heap.size,9,none⟩=some (.string ⟨x.tg.toArray⟩):=by rw [cell_atL (BL.out _ (O4.out))];rfl
    have g10:w4.cell? ⟨w.heap.size,10,none⟩=some (.int .i64 x.l):=by rw [cell_atL (BL.out _ (O4.out))];rfl
    go_wp2_with (go_at_call 33;refine (CN.out _).mono ?_;rintro e w5 ⟨rfl,ho⟩;have O5:=hidOf (O4.out.trans ho);clear ho)
    go_ret2
    rw [HE.out]
    exact ⟨rfl,O1.out.trans O5.out⟩
set_option maxRecDepth 20000 in
set_option maxHeartbeats 4000000 in
theorem lineOf_insn (x:Stm) (aw an:Option Addr) (nw cw nn cn:Nat) (w:World) (hE:AEnv w) (hl:(decide (0<nw) || decide (0<nn))=false) (ht:x.tg.length<=140737488355328) (hf:I64 x.f) (hi:I64 x.i):Calls Tryz.prog 15 #[.agg #[.int .i64 6,.string ⟨#[]⟩,.slice aw nw cw,.slice an nn cn,.int .i64 x.o,.int .i64 x.d,.int .i64 x.s,.int .i64 x.f,.int .i64 x.i,.string ⟨x.tg.toArray⟩,.int .i64 x.l]] w fun e w'=>e=.returned (.tuple #[.string ⟨(printP x.o x.d x.s x.f x.i x.tg).1.toArray⟩,.int .i64 (printP x.o x.d x.s x.f x.i x.tg).2])/\Out w w':=by
 have CL:Hid (∀ wx,Calls Tryz.prog 28 #[.agg #[.int .i64 6,.string ⟨#[]⟩,.slice aw nw cw,.slice an nn cn,.int .i64 x.o,.int .i64 x.d,.int .i64 x.s,.int .i64 x.f,.int .i64 x.i,.string ⟨x.tg.toArray⟩,.int .i64 x.l]] wx fun e w'=>e=.returned (.bool (decide (0<nw) || decide (0<nn)))/\Out wx w'):=hidOf (hasLists_any { x with k:=6,nm:=[] } aw an nw cw nn cn)
 have CP:Hid (∀ wx,Out w wx->Calls Tryz.prog 29 #[.agg #[.int .i64 x.o,.int .i64 x.d,.int .i64 x.s,.int .i64 x.f,.int .i64 x.i],.string ⟨x.tg.toArray⟩] wx fun e w'=>e=.returned (.tuple #[.string ⟨(printP x.o x.d x.s x.f x.i x.tg).1.toArray⟩,.int .i64 (printP x.o x.d x.s x.f x.i x.tg).2])/\Out wx w'):=hidOf (fun wx o=>print_any x.o x.d x.s x.f x.i x.tg wx (hE.out o) ht hf hi)
 rw [hl] at CL
 generalize printP x.o x.d x.s x.f x.i x.tg=z at *
 obtain ⟨w1,hw1⟩:∃ w1,w1=w.alloc (.cells #[.int .i64 6,.string ⟨#[]⟩,.slice aw nw cw,.slice an nn cn,.int .i64 x.o,.int .i64 x.d,.int .i64 x.s,.int .i64 x.f,.int .i64 x.i,.string ⟨x.tg.toArray⟩,.int .i64 x.l] 42):=⟨_,rfl⟩
 have O1:Hid (Out w w1):=hidOf (by rw [hw1];exact (Out.refl w).alloc _)
 have b1':w1.heap[w.heap.size]? = some (.cells #[.int .i64 6,.string ⟨#[]⟩,.slice aw nw cw,.slice an nn cn,.int .i64 x.o,.int .i64 x.d,.int .i64 x.s,.int .i64 x.f,.int .i64 x.i,.string ⟨x.tg.toArray⟩,.int .i64 x.l] 42 (0,0)):=by rw [hw1];exact heap_alloc_new w _
 have BL:Hid (∀ wx,Out w1 wx->wx.heap[w.heap.size]? = some (.cells #[.int .i64 6,.string ⟨#[]⟩,.slice aw nw cw,.slice an nn cn,.int .i64 x.o,.int .i64 x.d,.int .i64 x.s,.int .i64 x.f,.int .i64 x.i,.string ⟨x.tg.toArray⟩,.int .i64 x.l] 42 (0,0))):=hidOf (fun wx o=>(o.block _ (Array.getElem?_eq_some_iff.1 b1').1).trans b1')
 have Hw1:=hidOf hw1
 clear hE hl ht hf hi hw1 b1'
 have c0:w1.cell? ⟨w.heap.size,0,none⟩=some (.int .i64 6):=by rw [cell_atL (BL.out _ (Out.refl w1))];rfl
 have c1:w1.cell? ⟨w.heap.size,1,none⟩=some (.string ⟨#[]⟩):=by rw [cell_atL (BL.out _ (Out.refl w1))];rfl
 have c2:w1.cell? ⟨w.heap.size,2,none⟩=some (.slice aw nw cw):=by rw [cell_atL (BL.out _ (Out.refl w1))];rfl
 have c3:w1.cell? ⟨w.heap.size,3,none⟩=some (.slice an nn cn):=by rw [cell_atL (BL.out _ (Out.refl w1))];rfl
 have c4:w1.cell? ⟨w.heap.size,4,none⟩=some (.int .i64 x.o):=by rw [cell_atL (BL.out _ (Out.refl w1))];rfl
 have c5:w1.cell? ⟨w.heap.size,5,none⟩=some (.int .i64 x.d):=by rw [cell_atL (BL.out _ (Out.refl w1))];rfl
 have c6:w1.cell? ⟨w.heap.size,6,none⟩=some (.int .i64 x.s):=by rw [cell_atL (BL.out _ (Out.refl w1))];rfl
 have c7:w1.cell? ⟨w.heap.size,7,none⟩=some (.int .i64 x.f):=by rw [cell_atL (BL.out _ (Out.refl w1))];rfl
 have c8:w1.cell? ⟨w.heap.size,8,none⟩=some (.int .i64 x.i):=by rw [cell_atL (BL.out _ (Out.refl w1))];rfl
 have c9:w1.cell? ⟨w.heap.size,9,none⟩=some (.string ⟨x.tg.toArray⟩):=by rw [cell_atL (BL.out _ (Out.refl w1))];rfl
 have c10:w1.cell? ⟨w.heap.size,10,none⟩=some (.int .i64 x.l):=by rw [cell_atL (BL.out _ (Out.refl w1))];rfl
 go_enter Tryz.func15,Tryz.ntmps15
 go_upto_region 1 with fail
 rw [<-Hw1.out]
 go_upto_region 2 with (go_at_call 28;refine (CL.out _).mono ?_;rintro e w2 ⟨rfl,ho⟩;have O2:=hidOf ho;clear ho)
 clear c0 c1 c2 c3 c4 c5 c6 c7 c8 c9 c10
 have e0:w2.cell? ⟨w.heap.size,0,none⟩=some (.int .i64 6):=by rw [cell_atL (BL.out _ O2.out)];rfl
 have e1:w2.cell? ⟨w.heap.size,1,none⟩=some (.string ⟨#[]⟩):=by rw [cell_atL (BL.out _ O2.out)];rfl
 have e2:w2.cell? ⟨w.heap.size,2,none⟩=some (.slice aw nw cw):=by rw [cell_atL (BL.out _ O2.out)];rfl
 have e3:w2.cell? ⟨w.heap.size,3,none⟩=some (.slice an nn cn):=by rw [cell_atL (BL.out _ O2.out)];rfl
 have e4:w2.cell? ⟨w.heap.size,4,none⟩=some (.int .i64 x.o):=by rw [cell_atL (BL.out _ O2.out)];rfl
 have e5:w2.cell? ⟨w.heap.size,5,none⟩=some (.int .i64 x.d):=by rw [cell_atL (BL.out _ O2.out)];rfl
 have e6:w2.cell? ⟨w.heap.size,6,none⟩=some (.int .i64 x.s):=by rw [cell_atL (BL.out _ O2.out)];rfl
 have e7:w2.cell? ⟨w.heap.size,7,none⟩=some (.int .i64 x.f):=by rw [cell_atL (BL.out _ O2.out)];rfl
 have e8:w2.cell? ⟨w.heap.size,8,none⟩=some (.int .i64 x.i):=by rw [cell_atL (BL.out _ O2.out)];rfl
 have e9:w2.cell? ⟨w.heap.size,9,none⟩=some (.string ⟨x.tg.toArray⟩):=by rw [cell_atL (BL.out _ O2.out)];rfl
 have e10:w2.cell? ⟨w.heap.size,10,none⟩=some (.int .i64 x.l):=by rw [cell_atL (BL.out _ O2.out)];rfl
 go_wp2_with (go_at_call 29;refine (CP.out _ (O1.out.trans O2.out)).mono ?_;rintro e w3 ⟨rfl,ho⟩;have O3:=hidOf (O2.out.trans ho);clear ho)
 go_ret2
 exact ⟨rfl,O1.out.trans O3.out⟩
set_option maxRecDepth 20000 in
set_option maxHeartbeats 4000000 in
theorem lineOf_table (x:Stm) (aw an:Option Addr) (nw cw nn cn:Nat) (w:World) (hpw:Lx.Pow w) (hx:x.nm.length<=140737488355328) (h5:x.k=5) (X:List UInt8 × Int) (CT:isNmP x.nm=true->∀ wx,Out w wx->Calls Tryz.prog 32 #[.agg #[.int .i64 x.k,.string ⟨x.nm.toArray⟩,.slice aw nw cw,.slice an nn cn,.int .i64 x.o,.int .i64 x.d,.int .i64 x.s,.int .i64 x.f,.int .i64 x.i,.string ⟨x.tg.toArray⟩,.int .i64 x.l]] wx fun e w'=>e=.returned (.tuple #[.string ⟨X.1.toArray⟩,.int .i64 X.2])/\Out wx w'):Calls Tryz.prog 15 #[.agg #[.int .i64 x.k,.string ⟨x.nm.toArray⟩,.slice aw nw cw,.slice an nn cn,.int .i64 x.o,.int .i64 x.d,.int .i64 x.s,.int .i64 x.f,.int .i64 x.i,.string ⟨x.tg.toArray⟩,.int .i64 x.l]] w fun e w'=>e=.returned (.tuple #[.string ⟨(if (!insZ x || !x.tg.isEmpty)=true then ([],60) else if isNmP x.nm=false then ([],60) else X:List UInt8 × Int).1.toArray⟩,.int .i64 (if (!insZ x || !x.tg.isEmpty)=true then ([],60) else if isNmP x.nm=false then ([],60) else X:List UInt8 × Int).2])/\Out w w':=by
 have CI:=hidOf (hasInsn_any x aw an nw cw nn cn)
 have CL:=hidOf (hasLists_any x aw an nw cw nn cn)
 have CM:Hid (∀ wx,Out w wx->Calls Tryz.prog 31 #[.string ⟨x.nm.toArray⟩] wx fun e w'=>e=.returned (.bool (isNmP x.nm))/\Out wx w'):=hidOf (fun wx o=>isName6_any x.nm hx wx (hpw.out o))
 obtain ⟨w1,hw1⟩:∃ w1,w1=w.alloc (.cells #[.int .i64 x.k,.string ⟨x.nm.toArray⟩,.slice aw nw cw,.slice an nn cn,.int .i64 x.o,.int .i64 x.d,.int .i64 x.s,.int .i64 x.f,.int .i64 x.i,.string ⟨x.tg.toArray⟩,.int .i64 x.l] 42):=⟨_,rfl⟩
 have O1:Hid (Out w w1):=hidOf (by rw [hw1];exact (Out.refl w).alloc _)
 have b1':w1.heap[w.heap.size]? = some (.cells #[.int .i64 x.k,.string ⟨x.nm.toArray⟩,.slice aw nw cw,.slice an nn cn,.int .i64 x.o,.int .i64 x.d,.int .i64 x.s,.int .i64 x.f,.int .i64 x.i,.string ⟨x.tg.toArray⟩,.int .i64 x.l] 42 (0,0)):=by rw [hw1];exact heap_alloc_new w _
 have BL:Hid (∀ wx,Out w1 wx->wx.heap[w.heap.size]? = some (.cells #[.int .i64 x.k,.string ⟨x.nm.toArray⟩,.slice aw nw cw,.slice an nn cn,.int .i64 x.o,.int .i64 x.d,.int .i64 x.s,.int .i64 x.f,.int .i64 x.i,.string ⟨x.tg.toArray⟩,.int .i64 x.l] 42 (0,0))):=hidOf (fun wx o=>(o.block _ (Array.getElem?_eq_some_iff.1 b1').1).trans b1')
 have Hw1:=hidOf hw1
 have k5:(x.k == 5)=true:=by simp [h5]
 have k6:(x.k == 6)=false:=by rw [h5];rfl
 have CT:=hidOf CT
 generalize (!insZ x || !x.tg.isEmpty)=b1 at *
 generalize isNmP x.nm=b2 at *
 clear h5 hw1 b1' hpw hx
 have c0:w1.cell? ⟨w.heap.size,0,none⟩=some (.int .i64 x.k):=by rw [cell_atL (BL.out _ (Out.refl w1))];rfl
 have c1:w1.cell? ⟨w.heap.size,1,none⟩=some (.string ⟨x.nm.toArray⟩):=by rw [cell_atL (BL.out _ (Out.refl w1))];rfl
 have c2:w1.cell? ⟨w.heap.size,2,none⟩=some (.slice aw nw cw):=by rw [cell_atL (BL.out _ (Out.refl w1))];rfl
 have c3:w1.cell? ⟨w.heap.size,3,none⟩=some (.slice an nn cn):=by rw [cell_atL (BL.out _ (Out.refl w1))];rfl
 have c4:w1.cell? ⟨w.heap.size,4,none⟩=some (.int .i64 x.o):=by rw [cell_atL (BL.out _ (Out.refl w1))];rfl
 have c5:w1.cell? ⟨w.heap.size,5,none⟩=some (.int .i64 x.d):=by rw [cell_atL (BL.out _ (Out.refl w1))];rfl
 have c6:w1.cell? ⟨w.heap.size,6,none⟩=some (.int .i64 x.s):=by rw [cell_atL (BL.out _ (Out.refl w1))];rfl
 have c7:w1.cell? ⟨w.heap.size,7,none⟩=some (.int .i64 x.f):=by rw [cell_atL (BL.out _ (Out.refl w1))];rfl
 have c8:w1.cell? ⟨w.heap.size,8,none⟩=some (.int .i64 x.i):=by rw [cell_atL (BL.out _ (Out.refl w1))];rfl
 have c9:w1.cell? ⟨w.heap.size,9,none⟩=some (.string ⟨x.tg.toArray⟩):=by rw [cell_atL (BL.out _ (Out.refl w1))];rfl
 have c10:w1.cell? ⟨w.heap.size,10,none⟩=some (.int .i64 x.l):=by rw [cell_atL (BL.out _ (Out.refl w1))];rfl
 cases b1 with
 | true=>
  rw [if_pos rfl]
  go_enter Tryz.func15,Tryz.ntmps15
  go_upto_region 1 with fail
  rw [<-Hw1.out]
  go_wp2_with (go_at_call 30;refine (CI.out _).mono ?_;rintro e w2 ⟨rfl,ho⟩;have O2:=hidOf ho;clear ho)
  go_ret2
  exact ⟨rfl,O1.out.trans O2.out⟩
 | false=>
  rw [if_neg (by simp)]
  cases b2 with
  | false=>
   rw [if_pos rfl]
   go_enter Tryz.func15,Tryz.ntmps15
   go_upto_region 1 with fail
   rw [<-Hw1.out]
   go_wp2_with (first | (go_at_call 30;refine (CI.out _).mono ?_;rintro e w2 ⟨rfl,ho⟩;have O2:=hidOf ho;have d1:=(show w2.cell? ⟨w.heap.size,1,none⟩=some (.string ⟨x.nm.toArray⟩) by rw [cell_atL (BL.out _ ho)];rfl);clear ho) | (go_at_call 31;refine (CM.out _ (O1.out.trans O2.out)).mono ?_;rintro e w3 ⟨rfl,ho⟩;have O3:=hidOf ho;clear ho))
   go_ret2
   exact ⟨rfl,(O1.out.trans O2.out).trans O3.out⟩
  | true=>
   rw [if_neg (by simp)]
   have CT2:=hidOf (CT.out rfl)
   clear CT
   go_enter Tryz.func15,Tryz.ntmps15
   go_upto_region 1 with fail
   rw [<-Hw1.out]
   go_upto_region 5 with (first | (go_at_call 30;refine (CI.out _).mono ?_;rintro e w2 ⟨rfl,ho⟩;have O2:=hidOf ho;have d1:=(show w2.cell? ⟨w.heap.size,1,none⟩=some (.string ⟨x.nm.toArray⟩) by rw [cell_atL (BL.out _ ho)];rfl);clear ho) | (go_at_call 31;refine (CM.out _ (O1.out.trans O2.out)).mono ?_;rintro e w3 ⟨rfl,ho⟩;have O3:=hidOf (O2.out.trans ho);clear ho))
   clear d1 c0 c1 c2 c3 c4 c5 c6 c7 c8 c9 c10
   have e0:w3.cell? ⟨w.heap.size,0,none⟩=some (.int .i64 x.k):=by rw [cell_atL (BL.out _ O3.out)];rfl
   have e1:w3.cell? ⟨w.heap.size,1,none⟩=some (.string ⟨x.nm.toArray⟩):=by rw [cell_atL (BL.out _ O3.out)];rfl
   have e2:w3.cell? ⟨w.heap.size,2,none⟩=some (.slice aw nw cw):=by rw [cell_atL (BL.out _ O3.out)];rfl
   have e3:w3.cell? ⟨w.heap.size,3,none⟩=some (.slice an nn cn):=by rw [cell_atL (BL.out _ O3.out)];rfl
   have e4:w3.cell? ⟨w.heap.size,4,none⟩=some (.int .i64 x.o):=by rw [cell_atL (BL.out _ O3.out)];rfl
   have e5:w3.cell? ⟨w.heap.size,5,none⟩=some (.int .i64 x.d):=by rw [cell_atL (BL.out _ O3.out)];rfl
   have e6:w3.cell? ⟨w.heap.size,6,none⟩=some (.int .i64 x.s):=by rw [cell_atL (BL.out _ O3.out)];rfl
   have e7:w3.cell? ⟨w.heap.size,7,none⟩=some (.int .i64 x.f):=by rw [cell_atL (BL.out _ O3.out)];rfl
   have e8:w3.cell? ⟨w.heap.size,8,none⟩=some (.int .i64 x.i):=by rw [cell_atL (BL.out _ O3.out)];rfl
   have e9:w3.cell? ⟨w.heap.size,9,none⟩=some (.string ⟨x.tg.toArray⟩):=by rw [cell_atL (BL.out _ O3.out)];rfl
   have e10:w3.cell? ⟨w.heap.size,10,none⟩=some (.int .i64 x.l):=by rw [cell_atL (BL.out _ O3.out)];rfl
   go_wp2_with (go_at_call 32;refine (CT2.out _ (O1.out.trans O3.out)).mono ?_;rintro e w4 ⟨rfl,ho⟩;have O4:=hidOf (O3.out.trans ho);clear ho)
   go_ret2
   exact ⟨rfl,O1.out.trans O4.out⟩
end Go.Proofs.YtadneimllbfdnaaGreatDoor
