import Derived.Test.YtadneimllbfdnaaGreatDoorGu19
namespace Go.Proofs.YtadneimllbfdnaaGreatDoor
set_option linter.unusedVariables false
def TkL (P:Program) (md:Region.Mode) (ops:Array Oper) (Q:Exit->Act->World->Prop) (S:World->Prop) (is:List Nat) (fuel:Nat) (listed:Array Bool) (a:Act) (w:World):Prop:=wpAnyH P md ops Q S fuel listed a w
theorem tkLB {P:Program} {md:Region.Mode} {ops:Array Oper} {Q:Exit->Act->World->Prop} {S:World->Prop} {fuel:Nat} {listed:Array Bool} {a:Act} {w:World} (is:List Nat) (h:TkL P md ops Q S is fuel listed a w):wpAnyH P md ops Q S fuel listed a w:=h
theorem tkLE {P:Program} {md:Region.Mode} {ops:Array Oper} {Q:Exit->Act->World->Prop} {S:World->Prop} {fuel:Nat} {listed:Array Bool} {a:Act} {w:World} (h:wpAnyH P md ops Q S fuel listed a w):TkL P md ops Q S [] fuel listed a w:=h
theorem tkLC {P:Program} {md:Region.Mode} {ops:Array Oper} {Q:Exit->Act->World->Prop} {S:World->Prop} {i:Nat} {is:List Nat} {oi:Oper} {d:Tmp} {v:Value} {fuel:Nat} {listed:Array Bool} {a:Act} {w:World} (hi:ops[i]? = some oi) (hd:oi.dst=some d) (hs:Region.noSelect ops=true) (hf:Region.free md ops listed i=true) (hr:(Region.ready md ops listed).contains i=true) (hQ:∀ c a w,Q (.panic c) (a.put (some d) v) w->Q (.panic c) a w) (hw:Region.wanted oi (yielded ops a.tmps)=true) (hS:S w) (hy:∀ w,S w->(execOp a.eval oi).run P w=.ok (.value v) w) (h:TkL P md ops Q S is fuel (listed.setIfInBounds i true) (a.put (some d) v) w):TkL P md ops Q S (i::is) (fuel+1) listed a w:=
 wpAnyH_take hi hs hf hr (by rw [hd];exact hQ) (Or.inl ⟨hw,hy⟩) hS (by rw [hd];exact h)
end Go.Proofs.YtadneimllbfdnaaGreatDoor
namespace Go.Proofs.YtadneimllbfdnaaGreatDoor
open Go.RowKit
set_option linter.unusedVariables false
set_option linter.unusedSimpArgs false
def RB (w:World) (p:Nat) (tv mv sv:Value):Prop:=w.heap[p]? = some (.cells #[tv,mv,sv] 74 (0,0))
def TkR (w:World) (g off:Nat) (ts:List Lx.Tk):Prop:=∀ k x,ts[k]? = some x->w.cell? ⟨g,off+k*4,none⟩=some (.int .i64 x.k)/\w.cell? ⟨g,off+k*4+1,none⟩=some (.string ⟨x.t.toArray⟩)/\w.cell? ⟨g,off+k*4+2,none⟩=some (.int .u64 x.n)/\w.cell? ⟨g,off+k*4+3,none⟩=some (.int .i64 x.l)
theorem TkR.tail {w:World} {g off:Nat} {t:Lx.Tk} {r:List Lx.Tk} (h:TkR w g off (t::r)):TkR w g (off+4) r:=fun k x hx=>by
 have:=h (k+1) x (by simpa using hx)
 have e:off+(k+1)*4=off+4+k*4:=by omega
 rw [e] at this
 exact this
theorem TkR.chg {S:Nat->Prop} {w w':World} {g off:Nat} {ts:List Lx.Tk} (h:TkR w g off ts) (c:Chg S w w') (hg:¬S g):TkR w' g off ts:=fun k x hx=>by
 obtain ⟨h0,h1,h2,h3⟩:=h k x hx
 exact ⟨c.cell h0 hg,c.cell h1 hg,c.cell h2 hg,c.cell h3 hg⟩
def KQ (B:Nat) (w:World) (b:Nat):Prop:=B<=b/\∃ cs t fr,w.heap[b]? = some (.cells cs t fr)/\(t = 74\/t = 42)
theorem KQ.chain {B:Nat} {a b c:World} (h:Chg (KQ B a) a b) (k:Chg (KQ B b) b c):Chg (KQ B a) a c:=h.trans k (fun x hx hlt=>by
 by_cases hn:KQ B a x
 · exact hn
 ·
  have e:=h.block x hlt hn
  obtain ⟨h1,cs,t,fr,h2,h3⟩:=hx
  exact ⟨h1,cs,t,fr,by rw [<-e];exact h2,h3⟩)
theorem KQ.out {B:Nat} {w0 w w':World} (h:Chg (KQ B w) w w') (o:Out w0 w) (hB:w0.heap.size<=B):Out w0 w':=Chg.out h o (fun k hk=>Nat.le_trans hB hk.1)
theorem KQ.kind {B:Nat} {w w':World} (c:Chg (KQ B w) w w') {b:Nat} {cs:Array Value} {t:TypeId} {fr:Nat × Nat} (h:w.heap[b]? = some (.cells cs t fr)) (h1:¬t = 74) (h2:¬t = 42):w'.heap[b]? = some (.cells cs t fr):=by
 refine (c.block b (Array.getElem?_eq_some_iff.1 h).1 (fun hk=>?_)).trans h
 obtain ⟨_,cs',t',fr',e,ht⟩:=hk
 rw [h] at e
 simp at e
 rcases ht with ht | ht
 · exact h1 (e.2.1.trans ht)
 · exact h2 (e.2.1.trans ht)
structure PS (B:Nat) (w:World) (p g mb:Nat) (sv:Value) (ts:List Lx.Tk):Prop where
 st:∃ off cap,RB w p (.slice (some ⟨g,off,none⟩) ts.length cap) (.map (some mb)) sv/\TkR w g off ts/\ts.length<=cap
 gk:∃ cs fr,w.heap[g]? = some (.cells cs 77 fr)
 pB:B<=p
theorem RB.out {w w':World} {p:Nat} {tv mv sv:Value} (h:RB w p tv mv sv) (o:Out w w'):RB w' p tv mv sv:=(o.block p (Array.getElem?_eq_some_iff.1 h).1).trans h
theorem PS.gp {B:Nat} {w:World} {p g mb:Nat} {sv:Value} {ts:List Lx.Tk} (h:PS B w p g mb sv ts):¬g=p:=fun e=>by
 obtain ⟨off,cap,h1,_⟩:=h.st
 obtain ⟨cs,fr,h2⟩:=h.gk
 rw [e,show w.heap[p]? = _ from h1] at h2
 simp at h2
theorem PS.out {B:Nat} {w w':World} {p g mb:Nat} {sv:Value} {ts:List Lx.Tk} (h:PS B w p g mb sv ts) (o:Out w w'):PS B w' p g mb sv ts:=by
 obtain ⟨off,cap,h1,h2,h3⟩:=h.st
 obtain ⟨cs,fr,h4⟩:=h.gk
 exact ⟨⟨off,cap,h1.out o,h2.chg (S:=fun _=>False) (Chg.of_out o) (fun h=>h),h3⟩,⟨cs,fr,(o.block g (Array.getElem?_eq_some_iff.1 h4).1).trans h4⟩,h.pB⟩
theorem PS.tokens {B:Nat} {w w':World} {p g mb:Nat} {sv:Value} {ts ts':List Lx.Tk} (h:PS B w p g mb sv ts) (c:Chg (fun b=>b=p) w w') {off cap:Nat} (hR:RB w' p (.slice (some ⟨g,off,none⟩) ts'.length cap) (.map (some mb)) sv) (hT:TkR w g off ts') (hc:ts'.length<=cap):PS B w' p g mb sv ts':=by
 obtain ⟨cs,fr,h4⟩:=h.gk
 exact ⟨⟨off,cap,hR,hT.chg c h.gp,hc⟩,⟨cs,fr,(c.block g (Array.getElem?_eq_some_iff.1 h4).1 h.gp).trans h4⟩,h.pB⟩
theorem Chg.then2 {S:Nat->Prop} {a b c:World} (h:Chg S a b) (k:Chg S b c):Chg S a c:=h.trans k (fun _ hx _=>hx)
theorem PS.kq {B:Nat} {w:World} {p g mb:Nat} {sv:Value} {ts:List Lx.Tk} (h:PS B w p g mb sv ts):KQ B w p:=by
 obtain ⟨off,cap,h1,_⟩:=h.st
 exact ⟨h.pB,_,_,_,h1,.inl rfl⟩
def pnc (c:Int):Ending:=.panicked [{ v:=.iface 32 (.int .i64 c),recovered:=false }]
def REnd {α:Type} (enc:α->Value) (x:RE α) (B:Nat) (w:World) (p g mb:Nat) (sv:Value) (e:Ending) (w':World):Prop:=
 match x with
 | .ok a ts=>e=.returned (enc a)/\PS B w' p g mb sv ts/\Chg (fun b=>b=p) w w'
 | .no c ts=>e=pnc c/\PS B w' p g mb sv ts/\Chg (fun b=>b=p) w w'
def tkE (t:Lx.Tk):Value:=.agg #[.int .i64 t.k,.string ⟨t.t.toArray⟩,.int .u64 t.n,.int .i64 t.l]
def txE (l:List UInt8):Value:=.string ⟨l.toArray⟩
theorem Lw.two {ts:List Lx.Tk} (h:Lw ts):∃ t u r,ts=t::u::r:=by
 obtain ⟨t,r,rfl⟩:=h.ne
 by_cases hk:t.k=5
 ·
  obtain ⟨u,r',rfl⟩:=(h.pass hk).ne
  exact ⟨t,u,r',rfl⟩
 ·
  obtain ⟨u,r',rfl⟩:=(h.next hk).ne
  exact ⟨t,u,r',rfl⟩
theorem size4T:(Tryz.prog.info? 77).map (·.size)=some 4:=by kernel_rfl
set_option maxRecDepth 20000 in
set_option maxHeartbeats 2000000 in
theorem take_any (B:Nat) (w:World) (p g mb:Nat) (sv:Value) (ts:List Lx.Tk) (k:Int) (h:PS B w p g mb sv ts) (hl:Lw ts):Calls Tryz.prog 52 #[.pointer (some ⟨p,0,none⟩),.int .i64 k] w (REnd tkE (tkQ k ts) B w p g mb sv):=by
 obtain ⟨t,u,r,rfl⟩:=hl.two
 obtain ⟨off,cap,hR,hT,hc⟩:=h.st
 have hgp:=h.gp
 have hpg:¬p=g:=fun e=>hgp e.symm
 obtain ⟨q0,q1,q2,q3⟩:=hT 0 t rfl
 simp only [Nat.zero_mul,Nat.add_zero] at q0 q1 q2 q3
 obtain ⟨n,hn⟩:∃ n,n=(t::u::r).length:=⟨_,rfl⟩
 have hn2:2<=n:=by rw [hn];simp
 rw [<-hn] at hR hc
 have c0:w.cell? ⟨p,0,none⟩=some (.slice (some ⟨g,off,none⟩) n cap):=by rw [cell_atL hR];rfl
 have f0:w.frozen? ⟨p,0,none⟩=false:=frozen_atL hR 0
 have HR:=hidOf hR
 have HT:=hidOf hT
 have HP:=hidOf h
 have Hn:=hidOf hn
 have hcI:(n:Int)<=cap:=by omega
 have hnI:(2:Int)<=n:=by omega
 have hc1:¬cap=1:=by omega
 clear h hR hT hl hn
 obtain ⟨Z,hZ⟩:∃ Z:Obj,Z=.cells #[.int .i64 0,.string ⟨#[]⟩,.int .u64 0,.int .i64 0] 77 (0,0):=⟨_,rfl⟩
 obtain ⟨w1,hw1⟩:∃ w1,w1=w.alloc Z:=⟨_,rfl⟩
 have o1:Out w w1:=by rw [hw1];exact (Out.refl w).alloc _
 have b1:w1.heap[w.heap.size]? = some Z:=by rw [hw1];exact heap_alloc_new w _
 have z1:w1.heap.size=w.heap.size+1:=by rw [hw1];exact size_alloc _ _
 have d0:=cell_later o1 c0
 have e0:=cell_later o1 q0
 have e1:=cell_later o1 q1
 have e2:=cell_later o1 q2
 have e3:=cell_later o1 q3
 have n0:=World.new_ne w1 ⟨p,0,none⟩ d0
 have hpl:p<w.heap.size:=(Array.getElem?_eq_some_iff.1 HR.out).1
 have O1:=hidOf o1
 have B1:=hidOf (show w1.heap[w.heap.size]? = some (.cells #[.int .i64 0,.string ⟨#[]⟩,.int .u64 0,.int .i64 0] 77 (0,0)) by rw [b1,hZ])
 have Z1:=hidOf z1
 have Hw1:=hidOf (show w.alloc (.cells #[.int .i64 0,.string ⟨#[]⟩,.int .u64 0,.int .i64 0] 77)=w1 by rw [hw1,hZ])
 have f1:w1.frozen? ⟨p,0,none⟩=false:=frozen_atL (HR.out.out o1) 0
 clear c0 q0 q1 q2 q3 f0 hZ hw1 o1 b1 z1
 by_cases hk:t.k=k
 ·
  have hkb:(t.k != k)=false:=by simp [hk]
  have Hq:Hid (tkQ k (t::u::r)=.ok t (u::r)):=hidOf (by
   show (if t.k=k then RE.ok t (u::r) else RE.no 60 (t::u::r))=_
   rw [if_pos hk])
  clear hk
  go_enter Tryz.func52,Tryz.ntmps52
  go_upto_region 1 with fail
  rw [Hw1.out]
  go_upto_region 4 with fail
  obtain ⟨w2,hw2⟩:∃ w2,w2=w1.alloc (.cells #[.int .i64 t.k,.string ⟨t.t.toArray⟩,.int .u64 t.n,.int .i64 t.l] 77):=⟨_,rfl⟩
  rw [<-hw2]
  have o2:Out w1 w2:=by rw [hw2];exact (Out.refl w1).alloc _
  have x2:w2.heap[w1.heap.size]? = some (.cells #[.int .i64 t.k,.string ⟨t.t.toArray⟩,.int .u64 t.n,.int .i64 t.l] 77 (0,0)):=by rw [hw2];exact heap_alloc_new w1 _
  have y2:w2.heap[w.heap.size]? = some (.cells #[.int .i64 0,.string ⟨#[]⟩,.int .u64 0,.int .i64 0] 77 (0,0)):=(o2.block _ (by rw [Z1.out];omega)).trans B1.out
  have g0:=cell_later o2 d0
  have gf:=frozen_atL ((HR.out.out O1.out).out o2) 0
  have hR2:=(HR.out.out O1.out).out o2
  obtain ⟨w3,hw3⟩:∃ w3,w3=w2.setCell ⟨p,0,none⟩ (.slice (some ⟨g,off+4,none⟩) (n - 1) (cap - 1)):=⟨_,rfl⟩
  have hp3:RB w3 p (.slice (some ⟨g,off+4,none⟩) (n - 1) (cap - 1)) (.map (some mb)) sv:=by
   unfold RB
   rw [hw3,set_atL hR2]
   rfl
  have c3:Chg (fun b=>b=p) w2 w3:=by rw [hw3];exact Chg.setCell (S:=fun b=>b=p) (Chg.refl _ w2) (p:=⟨p,0,none⟩) rfl _
  have x3:w3.heap[w1.heap.size]? = _:=(c3.block _ (Array.getElem?_eq_some_iff.1 x2).1 (fun e=>by have:=Z1.out;omega)).trans x2
  have y3:w3.heap[w.heap.size]? = _:=(c3.block _ (Array.getElem?_eq_some_iff.1 y2).1 (fun e=>by have:=Z1.out;omega)).trans y2
  have m0:w3.cell? ⟨w1.heap.size,0,none⟩=some (.int .i64 t.k):=by rw [cell_atL x3];rfl
  have m1:w3.cell? ⟨w1.heap.size,1,none⟩=some (.string ⟨t.t.toArray⟩):=by rw [cell_atL x3];rfl
  have m2:w3.cell? ⟨w1.heap.size,2,none⟩=some (.int .u64 t.n):=by rw [cell_atL x3];rfl
  have m3:w3.cell? ⟨w1.heap.size,3,none⟩=some (.int .i64 t.l):=by rw [cell_atL x3];rfl
  have k0:w3.cell? ⟨w.heap.size,0,none⟩=some (.int .i64 0):=by rw [cell_atL y3];rfl
  have k1:w3.cell? ⟨w.heap.size,1,none⟩=some (.string ⟨#[]⟩):=by rw [cell_atL y3];rfl
  have k2:w3.cell? ⟨w.heap.size,2,none⟩=some (.int .u64 0):=by rw [cell_atL y3];rfl
  have k3:w3.cell? ⟨w.heap.size,3,none⟩=some (.int .i64 0):=by rw [cell_atL y3];rfl
  have j0:=frozen_atL y3 0
  have j1:=frozen_atL y3 1
  have j2:=frozen_atL y3 2
  have j3:=frozen_atL y3 3
  have O2:=hidOf (O1.out.trans o2)
  have HP3:=hidOf hp3
  have C3:=hidOf c3
  have Y3:=hidOf y3
  have Hw3:=hidOf hw3
  clear hw2 o2 x2 y2 hR2 hp3 c3 x3 y3 hw3 d0 e0 e1 e2 e3 n0 f1
  go_upto_region 5 with fail
  rw [<-Hw3.out]
  clear g0 gf Hw3
  go_wp2
  refine bodyPost_ret (results_cell_row rfl _ _ w.heap.size 77 #[.int .i64 t.k,.string ⟨t.t.toArray⟩,.int .u64 t.n,.int .i64 t.l] (0,0) _ rfl ?_ Tryz.underlying77 rfl size4T) rfl ?_
  ·
   rw [set_atL (set_atL (set_atL (set_atL Y3.out 0 _) 1 _) 2 _) 3 _]
   rfl
  ·
   have hP:=HP.out.out O2.out
   have hc':Chg (fun b=>b=p) w w3:=Chg.then2 (Chg.of_out O2.out) C3.out
   have ht:TkR w g (off+4) (u::r):=HT.out.tail
   have hl1:(u::r).length=n - 1:=by rw [Hn.out];simp
   obtain ⟨w4,hw4⟩:∃ w4,w4=(((w3.setCell ⟨w.heap.size,0,none⟩ (.int .i64 t.k)).setCell ⟨w.heap.size,1,none⟩ (.string ⟨t.t.toArray⟩)).setCell ⟨w.heap.size,2,none⟩ (.int .u64 t.n)).setCell ⟨w.heap.size,3,none⟩ (.int .i64 t.l):=⟨_,rfl⟩
   have cS:Chg (fun b=>b=w.heap.size) w3 w4:=by
    rw [hw4]
    exact ((((Chg.refl (fun b=>b=w.heap.size) w3).setCell (p:=⟨w.heap.size,0,none⟩) rfl _).setCell (p:=⟨w.heap.size,1,none⟩) rfl _).setCell (p:=⟨w.heap.size,2,none⟩) rfl _).setCell (p:=⟨w.heap.size,3,none⟩) rfl _
   rw [<-hw4]
   have c4:Chg (fun b=>b=p) w w4:=hc'.trans cS (fun x hx hlt=>by omega)
   have r4:RB w4 p (.slice (some ⟨g,off+4,none⟩) (n - 1) (cap - 1)) (.map (some mb)) sv:=(cS.block p (Array.getElem?_eq_some_iff.1 HP3.out).1 (fun e=>by omega)).trans HP3.out
   unfold REnd
   rw [Hq.out]
   exact ⟨rfl,HP.out.tokens c4 (by rw [hl1];exact r4) ht (by rw [hl1];omega),c4⟩
 ·
  have hkb:(t.k != k)=true:=by simp [hk]
  have Hq:Hid (tkQ k (t::u::r)=.no 60 (t::u::r)):=hidOf (by
   show (if t.k=k then RE.ok t (u::r) else RE.no 60 (t::u::r))=_
   rw [if_neg hk])
  clear hk
  go_enter Tryz.func52,Tryz.ntmps52
  go_upto_region 1 with fail
  rw [Hw1.out]
  go_wp2
  refine ⟨rfl, ?_⟩
  unfold REnd
  rw [Hq.out]
  exact ⟨rfl,HP.out.out (O1.out.alloc _),Chg.of_out (O1.out.alloc _)⟩
theorem fldT1 (a b c d:Value) (w:World):(Instr.field 77 (.agg #[a,b,c,d]) 1).run Tryz.prog w=.ok b w:=by kernel_rfl
theorem fldT2 (a b c d:Value) (w:World):(Instr.field 77 (.agg #[a,b,c,d]) 2).run Tryz.prog w=.ok c w:=by kernel_rfl
theorem isTableKind_any (x:List UInt8) (w:World):Calls Tryz.prog 61 #[.string ⟨x.toArray⟩] w fun e w'=>e=.returned (.bool (tknQ x))/\w'=w:=by
 have e1:(arrB:List UInt8)=[97,114,114,97,121]:=rfl
 have e2:(hashB:List UInt8)=[104,97,115,104]:=rfl
 unfold tknQ
 rw [e1,e2]
 clear e1 e2
 cases h1:(x == [97,114,114,97,121])
 all_goals cases h2:(x == [104,97,115,104])
 all_goals go_enter Tryz.func61,Tryz.ntmps61
 all_goals go_wp2
 all_goals go_ret
 all_goals exact ⟨rfl,rfl⟩
theorem isColon_any (t:Lx.Tk) (w:World):Calls Tryz.prog 48 #[tkE t] w fun e w'=>e=.returned (.bool (colQ t))/\Out w w':=by
 unfold tkE colQ
 cases h1:(t.k == 4)
 all_goals cases h2:(t.t == [58])
 all_goals go_enter Tryz.func48,Tryz.ntmps48
 all_goals go_wp2
 all_goals go_ret
 all_goals exact ⟨rfl,(Out.refl w).alloc _⟩
set_option maxRecDepth 20000 in
theorem word_any (B:Nat) (w:World) (p g mb:Nat) (sv:Value) (ts:List Lx.Tk) (h:PS B w p g mb sv ts) (hl:Lw ts):Calls Tryz.prog 51 #[.pointer (some ⟨p,0,none⟩)] w (REnd txE (wdQ ts) B w p g mb sv):=by
 have C:=hidOf (take_any B w p g mb sv ts 1 h hl)
 unfold wdQ
 cases hq:tkQ 1 ts with
 | ok t r=>
  rw [hq] at C
  unfold REnd at C
  simp only at C
  unfold REnd RE.bind
  simp only
  clear h hl hq
  unfold tkE at C
  have hfl:=fldT1
  go_enter Tryz.func51,Tryz.ntmps51
  go_wp2_with (go_at_call 52;refine C.out.mono ?_;rintro e w1 ⟨rfl,hp,hc⟩;have P1:=hidOf hp;have C1:=hidOf hc;clear hp hc)
  go_ret
  exact ⟨rfl,P1.out,C1.out⟩
 | no c r=>
  rw [hq] at C
  unfold REnd at C
  simp only at C
  unfold REnd RE.bind
  simp only
  clear h hl hq
  unfold pnc at C
  go_enter Tryz.func51,Tryz.ntmps51
  go_wp2_with (go_at_call 52;refine C.out.mono ?_;rintro e w1 ⟨rfl,hp,hc⟩;have P1:=hidOf hp;have C1:=hidOf hc;clear hp hc)
  exact ⟨rfl,rfl,P1.out,C1.out⟩
theorem bind_ok {α β:Type} (a:α) (ts:List Lx.Tk) (f:α->List Lx.Tk->RE β):(RE.ok a ts).bind f=f a ts:=rfl
theorem bind_no {α β:Type} (c:Int) (ts:List Lx.Tk) (f:α->List Lx.Tk->RE β):(RE.no c ts:RE α).bind f=.no c ts:=rfl
set_option maxRecDepth 20000 in
theorem tableKind_any (B:Nat) (w:World) (p g mb:Nat) (sv:Value) (ts:List Lx.Tk) (h:PS B w p g mb sv ts) (hl:Lw ts):Calls Tryz.prog 75 #[.pointer (some ⟨p,0,none⟩)] w (REnd txE (tdQ ts) B w p g mb sv):=by
 have C:=hidOf (word_any B w p g mb sv ts h hl)
 unfold tdQ
 cases hq:wdQ ts with
 | ok x r=>
  have C:Hid (Calls Tryz.prog 51 #[.pointer (some ⟨p,0,none⟩)] w fun e w'=>e=.returned (.string ⟨x.toArray⟩)/\PS B w' p g mb sv r/\Chg (fun b=>b=p) w w'):=hidOf (by have:=C.out;rw [hq] at this;exact this)
  have CK:=hidOf (isTableKind_any x)
  rw [bind_ok]
  clear h hl hq
  cases hx:tknQ x
  ·
   rw [hx] at CK
   rw [if_neg (by simp)]
   clear hx
   go_enter Tryz.func75,Tryz.ntmps75
   go_wp2_with (first | (go_at_call 51;refine C.out.mono ?_;rintro e w1 ⟨rfl,hp,hc⟩;have P1:=hidOf hp;have C1:=hidOf hc;clear hp hc) | (go_at_call 61;refine (CK.out _).mono ?_;rintro e wk ⟨rfl,hw⟩;subst hw))
   exact ⟨rfl,rfl,P1.out,C1.out⟩
  ·
   rw [hx] at CK
   rw [if_pos rfl]
   clear hx
   go_enter Tryz.func75,Tryz.ntmps75
   go_wp2_with (first | (go_at_call 51;refine C.out.mono ?_;rintro e w1 ⟨rfl,hp,hc⟩;have P1:=hidOf hp;have C1:=hidOf hc;clear hp hc) | (go_at_call 61;refine (CK.out _).mono ?_;rintro e wk ⟨rfl,hw⟩;subst hw))
   go_ret
   exact ⟨rfl,P1.out,C1.out⟩
 | no c r=>
  have C:Hid (Calls Tryz.prog 51 #[.pointer (some ⟨p,0,none⟩)] w fun e w'=>e=.panicked [{ v:=.iface 32 (.int .i64 c),recovered:=false }]/\PS B w' p g mb sv r/\Chg (fun b=>b=p) w w'):=hidOf (by have:=C.out;rw [hq] at this;exact this)
  rw [bind_no]
  clear h hl hq
  go_enter Tryz.func75,Tryz.ntmps75
  go_wp2_with (go_at_call 51;refine C.out.mono ?_;rintro e w1 ⟨rfl,hp,hc⟩;have P1:=hidOf hp;have C1:=hidOf hc;clear hp hc)
  exact ⟨rfl,rfl,P1.out,C1.out⟩
def inE (n:Int):Value:=.int .i64 n
set_option maxRecDepth 20000 in
theorem number6_any (B:Nat) (w:World) (p g mb:Nat) (sv:Value) (ts:List Lx.Tk) (h:PS B w p g mb sv ts) (hl:Lw ts) (hN:TkOk ts):Calls Tryz.prog 76 #[.pointer (some ⟨p,0,none⟩)] w (REnd inE (nuQ ts) B w p g mb sv):=by
 have C:=hidOf (take_any B w p g mb sv ts 3 h hl)
 unfold nuQ
 cases hq:tkQ 3 ts with
 | ok t r=>
  have ht:t ∈ ts:=by
   obtain ⟨t',r',rfl⟩:=hl.ne
   have hq':(if t'.k=3 then RE.ok t' r' else RE.no 60 (t'::r'))=RE.ok t r:=hq
   by_cases e:t'.k=3
   · rw [if_pos e] at hq';cases hq';simp
   · rw [if_neg e] at hq';cases hq'
  obtain ⟨n0,n1, -⟩:=hN t ht
  have C:Hid (Calls Tryz.prog 52 #[.pointer (some ⟨p,0,none⟩),.int .i64 3] w fun e w'=>e=.returned (.agg #[.int .i64 t.k,.string ⟨t.t.toArray⟩,.int .u64 t.n,.int .i64 t.l])/\PS B w' p g mb sv r/\Chg (fun b=>b=p) w w'):=hidOf (by have:=C.out;rw [hq] at this;exact this)
  rw [bind_ok]
  clear h hl hq hN ht
  have hfl:=fldT2
  by_cases hx:t.n<=2147483647
  ·
   rw [if_pos hx]
   have hb:¬(2147483647:Int)<t.n:=by omega
   go_enter Tryz.func76,Tryz.ntmps76
   go_wp2_with (go_at_call 52;refine C.out.mono ?_;rintro e w1 ⟨rfl,hp,hc⟩;have P1:=hidOf hp;have C1:=hidOf hc;clear hp hc)
   go_ret
   exact ⟨rfl,P1.out,C1.out⟩
  ·
   rw [if_neg hx]
   have hb:(2147483647:Int)<t.n:=by omega
   go_enter Tryz.func76,Tryz.ntmps76
   go_wp2_with (go_at_call 52;refine C.out.mono ?_;rintro e w1 ⟨rfl,hp,hc⟩;have P1:=hidOf hp;have C1:=hidOf hc;clear hp hc)
   exact ⟨rfl,rfl,P1.out,C1.out⟩
 | no c r=>
  have C:Hid (Calls Tryz.prog 52 #[.pointer (some ⟨p,0,none⟩),.int .i64 3] w fun e w'=>e=.panicked [{ v:=.iface 32 (.int .i64 c),recovered:=false }]/\PS B w' p g mb sv r/\Chg (fun b=>b=p) w w'):=hidOf (by have:=C.out;rw [hq] at this;exact this)
  rw [bind_no]
  clear h hl hq hN
  go_enter Tryz.func76,Tryz.ntmps76
  go_wp2_with (go_at_call 52;refine C.out.mono ?_;rintro e w1 ⟨rfl,hp,hc⟩;have P1:=hidOf hp;have C1:=hidOf hc;clear hp hc)
  exact ⟨rfl,rfl,P1.out,C1.out⟩
def stE (x:Stm) (wv nv:Value):Value:=.agg #[.int .i64 x.k,.string ⟨x.nm.toArray⟩,wv,nv,.int .i64 x.o,.int .i64 x.d,.int .i64 x.s,.int .i64 x.f,.int .i64 x.i,.string ⟨x.tg.toArray⟩,.int .i64 x.l]
def strsC (l:List (List UInt8)):List Value:=l.map (fun x=>.string ⟨x.toArray⟩)
def intsC (l:List Int):List Value:=l.map (fun x=>.int .i64 x)
def LsOk (B:Nat) (w:World) (x:Stm) (wv nv:Value):Prop:=w.ownsRow B 9 1 wv x.ws.length (strsC x.ws)/\w.ownsRow B 3 1 nv x.ns.length (intsC x.ns)
theorem LsOk.out {B:Nat} {w w':World} {x:Stm} {wv nv:Value} (h:LsOk B w x wv nv) (o:Out w w'):LsOk B w' x wv nv:=⟨owns_chg (S:=fun _=>False) h.1 (fun _ _ h=>h) (Chg.of_out o),owns_chg (S:=fun _=>False) h.2 (fun _ _ h=>h) (Chg.of_out o)⟩
theorem LsOk.atp {B p:Nat} {w w':World} {x:Stm} {wv nv tv mv sv:Value} (h:LsOk B w x wv nv) (hR:RB w p tv mv sv) (c:Chg (fun b=>b=p) w w'):LsOk B w' x wv nv:=
 ⟨owns_chg h.1 (fun k hk e=>own_kind h.1 hR (by decide) (by rw [<-e];exact hk)) c,owns_chg h.2 (fun k hk e=>own_kind h.2 hR (by decide) (by rw [<-e];exact hk)) c⟩
def REndS (x:RE Stm) (B:Nat) (w:World) (p g mb:Nat) (sv:Value) (e:Ending) (w':World):Prop:=
 match x with
 | .ok s ts=>∃ wv nv,e=.returned (stE s wv nv)/\LsOk B w' s wv nv/\PS B w' p g mb sv ts/\Chg (fun b=>b=p) w w'
 | .no c ts=>e=pnc c/\PS B w' p g mb sv ts/\Chg (fun b=>b=p) w w'
set_option maxHeartbeats 1000000 in
theorem set11_heap {w:World} {q:Nat} {t:TypeId} {a0 a1 a2 a3 a4 a5 a6 a7 a8 a9 a10 u0 u1 u2 u3 u4 u5 u6 u7 u8 u9 u10:Value} (h:w.heap[q]? = some (.cells #[u0,u1,u2,u3,u4,u5,u6,u7,u8,u9,u10] t (0,0))):(((((((((((w.setCell ⟨q,0,none⟩ a0).setCell ⟨q,1,none⟩ a1).setCell ⟨q,2,none⟩ a2).setCell ⟨q,3,none⟩ a3).setCell ⟨q,4,none⟩ a4).setCell ⟨q,5,none⟩ a5).setCell ⟨q,6,none⟩ a6).setCell ⟨q,7,none⟩ a7).setCell ⟨q,8,none⟩ a8).setCell ⟨q,9,none⟩ a9).setCell ⟨q,10,none⟩ a10).heap[q]? = some (.cells #[a0,a1,a2,a3,a4,a5,a6,a7,a8,a9,a10] t (0,0)):=by
 simp [World.setCell,Array.getElem?_modify,h]
theorem set11_chg (w:World) (q:Nat) (a0 a1 a2 a3 a4 a5 a6 a7 a8 a9 a10:Value):Chg (fun b=>b=q) w (((((((((((w.setCell ⟨q,0,none⟩ a0).setCell ⟨q,1,none⟩ a1).setCell ⟨q,2,none⟩ a2).setCell ⟨q,3,none⟩ a3).setCell ⟨q,4,none⟩ a4).setCell ⟨q,5,none⟩ a5).setCell ⟨q,6,none⟩ a6).setCell ⟨q,7,none⟩ a7).setCell ⟨q,8,none⟩ a8).setCell ⟨q,9,none⟩ a9).setCell ⟨q,10,none⟩ a10):=((((((((((((Chg.refl (fun b=>b=q) w).setCell (p:=⟨q,0,none⟩) rfl a0).setCell (p:=⟨q,1,none⟩) rfl a1).setCell (p:=⟨q,2,none⟩) rfl a2).setCell (p:=⟨q,3,none⟩) rfl a3).setCell (p:=⟨q,4,none⟩) rfl a4).setCell (p:=⟨q,5,none⟩) rfl a5).setCell (p:=⟨q,6,none⟩) rfl a6).setCell (p:=⟨q,7,none⟩) rfl a7).setCell (p:=⟨q,8,none⟩) rfl a8).setCell (p:=⟨q,9,none⟩) rfl a9).setCell (p:=⟨q,10,none⟩) rfl a10)
theorem LsOk.nil (B:Nat) (w:World) (x:Stm) (hw:x.ws=[]) (hn:x.ns=[]):LsOk B w x (.slice none 0 0) (.slice none 0 0):=by
 unfold LsOk
 rw [hw,hn]
 exact ⟨World.ownsRow_nil _ _ _ _,World.ownsRow_nil _ _ _ _⟩
theorem PS.setq {B:Nat} {w w':World} {p g mb q:Nat} {sv:Value} {ts:List Lx.Tk} (h:PS B w p g mb sv ts) (c:Chg (fun b=>b=q) w w') (h1:¬p=q) (h2:¬g=q):PS B w' p g mb sv ts:=by
 obtain ⟨off,cap,hr,ht,hc⟩:=h.st
 obtain ⟨cs,fr,h4⟩:=h.gk
 exact ⟨⟨off,cap,(c.block p (Array.getElem?_eq_some_iff.1 hr).1 h1).trans hr,ht.chg c h2,hc⟩,⟨cs,fr,(c.block g (Array.getElem?_eq_some_iff.1 h4).1 h2).trans h4⟩,h.pB⟩
theorem PS.gl {B:Nat} {w:World} {p g mb:Nat} {sv:Value} {ts:List Lx.Tk} (h:PS B w p g mb sv ts):p<w.heap.size/\g<w.heap.size:=by
 obtain ⟨off,cap,hr,_⟩:=h.st
 obtain ⟨cs,fr,h4⟩:=h.gk
 exact ⟨(Array.getElem?_eq_some_iff.1 hr).1,(Array.getElem?_eq_some_iff.1 h4).1⟩
theorem size11:(Tryz.prog.info? 42).map (·.size)=some 11:=by kernel_rfl
set_option maxRecDepth 20000 in
set_option maxHeartbeats 4000000 in
theorem named1_any (B:Nat) (w:World) (p g mb:Nat) (sv:Value) (ts:List Lx.Tk) (kb:Nat) (kd:Int) (h:PS B w p g mb sv ts) (hl:Lw ts) (hk:w.heap[kb]? = some (.cells #[.int .i64 kd] 3 (0,0))) (hB:B<=w.heap.size):Calls Tryz.prog 74 #[.pointer (some ⟨p,0,none⟩),.pointer (some ⟨kb,0,none⟩)] w (REndS (nmQ kd ts) B w p g mb sv):=by
 unfold nmQ
 obtain ⟨w1,hw1⟩:∃ w1,w1=w.alloc (.cells #[.int .i64 0,.string ⟨#[]⟩,.slice none 0 0,.slice none 0 0,.int .i64 0,.int .i64 0,.int .i64 0,.int .i64 0,.int .i64 0,.string ⟨#[]⟩,.int .i64 0] 42):=⟨_,rfl⟩
 have o1:Out w w1:=by rw [hw1];exact (Out.refl w).alloc _
 have b1:w1.heap[w.heap.size]? = some (.cells #[.int .i64 0,.string ⟨#[]⟩,.slice none 0 0,.slice none 0 0,.int .i64 0,.int .i64 0,.int .i64 0,.int .i64 0,.int .i64 0,.string ⟨#[]⟩,.int .i64 0] 42 (0,0)):=by rw [hw1];exact heap_alloc_new w _
 have C:=hidOf (fun m=>word_any B (w1.drewN m) p g mb sv ts (h.out (o1.dN m)) hl)
 have k1:w1.heap[kb]? = _:=(o1.block kb (Array.getElem?_eq_some_iff.1 hk).1).trans hk
 have q1:w1.cell? ⟨kb,0,none⟩=some (.int .i64 kd):=by rw [cell_atL k1];rfl
 have Hkp:Hid (¬kb=p):=hidOf (fun e=>by
  obtain ⟨off,cap,hr,_⟩:=h.st
  rw [e,show w.heap[p]? = _ from hr] at hk
  simp at hk)
 have Hpl:Hid (p<w.heap.size):=hidOf (by
  obtain ⟨off,cap,hr,_⟩:=h.st
  exact (Array.getElem?_eq_some_iff.1 hr).1)
 have Hgl:Hid (g<w.heap.size):=hidOf h.gl.2
 have Hkl:Hid (kb<w.heap.size):=hidOf (Array.getElem?_eq_some_iff.1 hk).1
 have K1:=hidOf k1
 have B1:=hidOf b1
 have O1:=hidOf o1
 have Hw1:=hidOf hw1
 clear h hk k1 b1 o1 hw1
 cases hq:wdQ ts with
 | ok x r=>
  rw [bind_ok]
  have C:Hid (∀ m,Calls Tryz.prog 51 #[.pointer (some ⟨p,0,none⟩)] (w1.drewN m) fun e w'=>e=.returned (.string ⟨x.toArray⟩)/\PS B w' p g mb sv r/\Chg (fun b=>b=p) (w1.drewN m) w'):=hidOf (fun m=>by have:=C.out m;rw [hq] at this;exact this)
  clear hq hl
  go_enter Tryz.func74,Tryz.ntmps74
  go_upto_region 1 with fail
  rw [<-Hw1.out]
  refine wp_region_held_drew (S:=(fun w'=>w'.cell? ⟨kb,0,none⟩=some (.int .i64 kd))) (by kernel_rfl) ?_ (fun hHeld=>?_)
  · exact q1
  refine tkLB [0,1] ?_
  iterate 2 (refine tkLC (v:=?_) rfl rfl (by kernel_rfl) (by kernel_rfl) (by kernel_rfl) (fun _ _ _ h=>h) (by rfl) (by assumption) ?_ ?_;rotate_left;(· (intro w hSw;(try dsimp only at hSw);go_simp;(try with_reducible rfl)));simp only [Act.put,List.setIfInBounds_toArray,List.set_cons_zero,List.set_cons_succ])
  refine tkLE ?_
  refine wpAnyH_ready (rs:=[2]) (by kernel_rfl) (by simp) ?_
  refine AllReadyH.cons rfl (fun K hK=>?_) AllReadyH.nil
  rw [if_pos (by rfl)]
  go_simp
  go_at_call 51
  refine (C.out 1).mono ?_
  rintro e w2 ⟨rfl,hp,hc⟩
  have P2:=hidOf hp
  have C2:=hidOf (Chg.then2 (Chg.of_out ((Out.refl w1).dN 1)) hc)
  clear hp hc
  have hpk:¬kb=p:=Hkp.out
  have k2:w2.heap[kb]? = _:=(C2.out.block kb (Array.getElem?_eq_some_iff.1 K1.out).1 hpk).trans K1.out
  have b2:w2.heap[w.heap.size]? = _:=(C2.out.block w.heap.size (Array.getElem?_eq_some_iff.1 B1.out).1 (fun e=>by have:=Hpl.out;omega)).trans B1.out
  have q2:w2.cell? ⟨kb,0,none⟩=some (.int .i64 kd):=by rw [cell_atL k2];rfl
  refine hK.out _ _ q2 (fun hHeld=>?_)
  refine tkLB [3] ?_
  iterate 1 (refine tkLC (v:=?_) rfl rfl (by kernel_rfl) (by kernel_rfl) (by kernel_rfl) (fun _ _ _ h=>h) (by rfl) (by assumption) ?_ ?_;rotate_left;(· (intro w hSw;(try dsimp only at hSw);go_simp;(try with_reducible rfl)));simp only [Act.put,List.setIfInBounds_toArray,List.set_cons_zero,List.set_cons_succ])
  refine tkLE ?_
  refine wpAnyH_ready (rs:=[4]) (by kernel_rfl) (by simp) ?_
  refine AllReadyH.cons rfl (fun K2 hK2=>?_) AllReadyH.nil
  rw [if_pos (by rfl)]
  have z0:w2.cell? ⟨w.heap.size,0,none⟩=some (.int .i64 0):=by rw [cell_atL b2];rfl
  have z1:w2.cell? ⟨w.heap.size,1,none⟩=some (.string ⟨#[]⟩):=by rw [cell_atL b2];rfl
  have z2:w2.cell? ⟨w.heap.size,2,none⟩=some (.slice none 0 0):=by rw [cell_atL b2];rfl
  have z3:w2.cell? ⟨w.heap.size,3,none⟩=some (.slice none 0 0):=by rw [cell_atL b2];rfl
  have z4:w2.cell? ⟨w.heap.size,4,none⟩=some (.int .i64 0):=by rw [cell_atL b2];rfl
  have z5:w2.cell? ⟨w.heap.size,5,none⟩=some (.int .i64 0):=by rw [cell_atL b2];rfl
  have z6:w2.cell? ⟨w.heap.size,6,none⟩=some (.int .i64 0):=by rw [cell_atL b2];rfl
  have z7:w2.cell? ⟨w.heap.size,7,none⟩=some (.int .i64 0):=by rw [cell_atL b2];rfl
  have z8:w2.cell? ⟨w.heap.size,8,none⟩=some (.int .i64 0):=by rw [cell_atL b2];rfl
  have z9:w2.cell? ⟨w.heap.size,9,none⟩=some (.string ⟨#[]⟩):=by rw [cell_atL b2];rfl
  have z10:w2.cell? ⟨w.heap.size,10,none⟩=some (.int .i64 0):=by rw [cell_atL b2];rfl
  have f0:=frozen_atL b2 0
  have f1:=frozen_atL b2 1
  have f2:=frozen_atL b2 2
  have f3:=frozen_atL b2 3
  have f4:=frozen_atL b2 4
  have f5:=frozen_atL b2 5
  have f6:=frozen_atL b2 6
  have f7:=frozen_atL b2 7
  have f8:=frozen_atL b2 8
  have f9:=frozen_atL b2 9
  have f10:=frozen_atL b2 10
  have Hb2:=hidOf b2
  clear b2 k2
  go_simp
  have c3:=set11_chg w2 w.heap.size (.int .i64 kd) (.string ⟨x.toArray⟩) (.slice none 0 0) (.slice none 0 0) (.int .i64 0) (.int .i64 0) (.int .i64 0) (.int .i64 0) (.int .i64 0) (.string ⟨#[]⟩) (.int .i64 0)
  have b3:=set11_heap (a0:=.int .i64 kd) (a1:=.string ⟨x.toArray⟩) (a2:=.slice none 0 0) (a3:=.slice none 0 0) (a4:=.int .i64 0) (a5:=.int .i64 0) (a6:=.int .i64 0) (a7:=.int .i64 0) (a8:=.int .i64 0) (a9:=.string ⟨#[]⟩) (a10:=.int .i64 0) Hb2.out
  refine hK2.out _ _ (c3.cell q2 (fun e=>by have:=Hkl.out;have e':kb=w.heap.size:=e;omega)) (fun hHeld=>?_)
  have B3:=hidOf b3
  have C3:=hidOf c3
  clear b3 c3 z0 z1 z2 z3 z4 z5 z6 z7 z8 z9 z10 f0 f1 f2 f3 f4 f5 f6 f7 f8 f9 f10 Hb2
  refine wpAnyH_done (by kernel_rfl) ?_ _
  go_wp2
  refine bodyPost_ret (results_cell_row rfl _ _ w.heap.size 42 _ (0,0) _ rfl B3.out Tryz.underlying42 rfl size11) rfl ?_
  have hl2:=P2.out.gl
  refine ⟨_,_,rfl,LsOk.nil B _ (nmS kd x) rfl rfl,P2.out.setq C3.out (fun e=>by have:=Hpl.out;omega) (fun e=>by have:=Hgl.out;omega),(Chg.then2 (Chg.of_out O1.out) C2.out).trans C3.out (fun x hx hlt=>by omega)⟩
 | no c r=>
  rw [bind_no]
  have C:Hid (∀ m,Calls Tryz.prog 51 #[.pointer (some ⟨p,0,none⟩)] (w1.drewN m) fun e w'=>e=.panicked [{ v:=.iface 32 (.int .i64 c),recovered:=false }]/\PS B w' p g mb sv r/\Chg (fun b=>b=p) (w1.drewN m) w'):=hidOf (fun m=>by have:=C.out m;rw [hq] at this;exact this)
  clear hq hl
  go_enter Tryz.func74,Tryz.ntmps74
  go_upto_region 1 with fail
  rw [<-Hw1.out]
  refine wp_region_held_drew (S:=(fun w'=>w'.cell? ⟨kb,0,none⟩=some (.int .i64 kd))) (by kernel_rfl) ?_ (fun hHeld=>?_)
  · exact q1
  refine tkLB [0,1] ?_
  iterate 2 (refine tkLC (v:=?_) rfl rfl (by kernel_rfl) (by kernel_rfl) (by kernel_rfl) (fun _ _ _ h=>h) (by rfl) (by assumption) ?_ ?_;rotate_left;(· (intro w hSw;(try dsimp only at hSw);go_simp;(try with_reducible rfl)));simp only [Act.put,List.setIfInBounds_toArray,List.set_cons_zero,List.set_cons_succ])
  refine tkLE ?_
  refine wpAnyH_ready (rs:=[2]) (by kernel_rfl) (by simp) ?_
  refine AllReadyH.cons rfl (fun K hK=>?_) AllReadyH.nil
  rw [if_pos (by rfl)]
  go_simp
  go_at_call 51
  refine (C.out 1).mono ?_
  rintro e w2 ⟨rfl,hp,hc⟩
  have P2:=hidOf hp
  have C2:=hidOf (Chg.then2 (Chg.of_out ((Out.refl w1).dN 1)) hc)
  clear hp hc
  exact ⟨rfl,rfl,P2.out,Chg.then2 (Chg.of_out O1.out) C2.out⟩
end Go.Proofs.YtadneimllbfdnaaGreatDoor
