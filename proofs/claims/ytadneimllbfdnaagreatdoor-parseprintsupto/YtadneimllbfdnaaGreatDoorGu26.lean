import Derived.Test.YtadneimllbfdnaaGreatDoorGu25
import Derived.Deep.DeepCutAuto
namespace Go.Proofs.YtadneimllbfdnaaGreatDoor
open Go.RowKit
set_option linter.unusedVariables false
set_option linter.unusedSimpArgs false
def stL (x:Stm) (wv nv:Value):List Value:=[.int .i64 x.k,.string ⟨x.nm.toArray⟩,wv,nv,.int .i64 x.o,.int .i64 x.d,.int .i64 x.s,.int .i64 x.f,.int .i64 x.i,.string ⟨x.tg.toArray⟩,.int .i64 x.l]
def stC (Y:List (Stm × Value × Value)):List Value:=Y.flatMap fun y=>stL y.1 y.2.1 y.2.2
theorem stC_snoc (Y:List (Stm × Value × Value)) (y:Stm × Value × Value):stC (Y++[y])=stC Y++stL y.1 y.2.1 y.2.2:=by simp [stC]
structure OwQ (B:Nat) (sv:Value) (L:List Stm) (w:World):Prop where
 ex:∃ Y:List (Stm × Value × Value),Y.map (fun y=>y.1)=L/\w.ownsRow B 42 11 sv L.length (stC Y)/\∀ y ∈ Y,LsOk B w y.1 y.2.1 y.2.2
theorem OwQ.atp {B p:Nat} {sv tv mv sv':Value} {L:List Stm} {w w':World} (h:OwQ B sv L w) (hR:RB w p tv mv sv') (c:Chg (fun b=>b=p) w w'):OwQ B sv L w':=by
 obtain ⟨Y,h1,h2,h3⟩:=h.ex
 exact ⟨Y,h1,owns_chg h2 (fun k hk e=>own_kind h2 hR (by decide) (by rw [<-e];exact hk)) c,fun y hy=>(h3 y hy).atp hR c⟩
theorem OwQ.nil (B:Nat) (w:World):OwQ B (.slice none 0 0) [] w:=⟨[],rfl,World.ownsRow_nil _ _ _ _,fun y hy=>by cases hy⟩
theorem infoSt:(Tryz.prog.info? 42).map (fun i=>(i.zero,i.size,i.bytes))=some (some (.agg #[.int .i64 0,.string ⟨#[]⟩,.slice none 0 0,.slice none 0 0,.int .i64 0,.int .i64 0,.int .i64 0,.int .i64 0,.int .i64 0,.string ⟨#[]⟩,.int .i64 0]),11,136):=by kernel_rfl
theorem PS.rb {B:Nat} {w:World} {p g mb:Nat} {sv:Value} {ts:List Lx.Tk} (h:PS B w p g mb sv ts):∃ tv,RB w p tv (.map (some mb)) sv:=by
 obtain ⟨off,cap,hr,_⟩:=h.st
 exact ⟨_,hr⟩
theorem PS.push {B:Nat} {w wA w8:World} {p g mb n cap gs:Nat} {sv:Value} {ts:List Lx.Tk} {L:List Stm} {x:Stm} {wv nv:Value} (h:PS B w p g mb sv ts) (ho:OwQ B sv L w) (hx:LsOk B w x wv nv) (k_:Out w wA) (hg:wA.grownBy w8 sv.ownBlock) (hn:L.length=n) (Y:List (Stm × Value × Value)) (hY:Y.map (fun y=>y.1)=L/\w.ownsRow B 42 11 sv L.length (stC Y)/\∀ y ∈ Y,LsOk B w y.1 y.2.1 y.2.2) (hown:w8.ownsRow B 42 11 (.slice (some ⟨gs,0,none⟩) (n+1) cap) (n+1) (stC Y++stL x wv nv)) :
  PS B (w8.setCell ⟨p,2,none⟩ (.slice (some ⟨gs,0,none⟩) (n+1) cap)) p g mb (.slice (some ⟨gs,0,none⟩) (n+1) cap) ts/\OwQ B (.slice (some ⟨gs,0,none⟩) (n+1) cap) (L++[x]) (w8.setCell ⟨p,2,none⟩ (.slice (some ⟨gs,0,none⟩) (n+1) cap))/\Chg (KQ B w) w (w8.setCell ⟨p,2,none⟩ (.slice (some ⟨gs,0,none⟩) (n+1) cap)):=by
 obtain ⟨hY1,hY2,hY3⟩:=hY
 have hA:=h.out k_
 obtain ⟨off,cp,hr,ht,hc⟩:=hA.st
 obtain ⟨cs,fr,h4⟩:=hA.gk
 have hYA:=owns_chg (S:=fun _=>False) hY2 (fun _ _ h=>h) (Chg.of_out k_)
 have c8:Chg (fun b=>sv.ownBlock=some b) wA w8:=Chg.of_grown hg (fun k h=>h)
 have hp8:RB w8 p (.slice (some ⟨g,off,none⟩) ts.length cp) (.map (some mb)) sv:=(c8.block p (Array.getElem?_eq_some_iff.1 hr).1 (fun e=>own_kind hYA hr (by decide) e)).trans hr
 have hgs:¬sv.ownBlock=some g:=own_kind hYA h4 (by decide)
 have hg8:w8.heap[g]? = some (.cells cs 77 fr):=(c8.block g (Array.getElem?_eq_some_iff.1 h4).1 hgs).trans h4
 have ht8:=ht.chg c8 hgs
 have hls:∀ y wv nv,LsOk B wA y wv nv->LsOk B w8 y wv nv:=fun y wv nv hl=>by
  refine ⟨owns_chg hl.1 (fun k hk e=>?_) c8,owns_chg hl.2 (fun k hk e=>?_) c8⟩
  ·
   obtain ⟨_,_,_⟩:=hl
   rcases hYA.2 with ⟨hv,_⟩ | ⟨g3,cap3,cur3,hv,_,hg3,_⟩
   · rw [hv] at e;cases e
   · rw [hv] at e;simp [Value.ownBlock] at e;subst e;exact own_kind (by assumption) hg3 (by decide) hk
  ·
   obtain ⟨_,hl2⟩:=hl
   rcases hYA.2 with ⟨hv,_⟩ | ⟨g3,cap3,cur3,hv,_,hg3,_⟩
   · rw [hv] at e;cases e
   · rw [hv] at e;simp [Value.ownBlock] at e;subst e;exact own_kind hl2 hg3 (by decide) hk
 have cS:Chg (fun b=>b=p) w8 (w8.setCell ⟨p,2,none⟩ (.slice (some ⟨gs,0,none⟩) (n+1) cap)):=Chg.setCell (S:=fun b=>b=p) (Chg.refl _ w8) (p:=⟨p,2,none⟩) rfl _
 have hgp:¬g=p:=hA.gp
 refine ⟨⟨⟨off,cp, ?_,ht8.chg cS hgp,hc⟩,⟨cs,fr,(cS.block g (Array.getElem?_eq_some_iff.1 hg8).1 hgp).trans hg8⟩,h.pB⟩,⟨Y++[(x,wv,nv)],by simp [hY1], ?_,fun y hy=>?_⟩, ?_⟩
 ·
  unfold RB
  rw [set_atL hp8]
  rfl
 ·
  rw [stC_snoc,List.length_append,List.length_singleton,hn]
  exact owns_chg hown (fun k hk e=>own_kind hown hp8 (by decide) (by rw [<-e];exact hk)) cS
 ·
  have key:LsOk B w8 y.1 y.2.1 y.2.2:=by
   rcases List.mem_append.1 hy with hy | hy
   · exact hls _ _ _ ((hY3 y hy).out k_)
   ·
    rw [List.mem_singleton.1 hy]
    exact hls _ _ _ (hx.out k_)
  exact key.atp hp8 cS
 ·
  refine ((Chg.of_out k_).trans c8 (fun b hb hlt=>?_)).trans cS (fun b hb hlt=>?_)
  ·
   rcases hY2.2 with ⟨hv,_⟩ | ⟨g3,cap3,cur3,hv,hB3,hg3,_⟩
   · rw [hv] at hb;cases hb
   · rw [hv] at hb;simp [Value.ownBlock] at hb;subst hb;exact ⟨hB3,_,_,_,hg3,.inr rfl⟩
  · rw [hb];exact h.kq
set_option maxRecDepth 20000 in
set_option maxHeartbeats 4000000 in
theorem add6_any (B:Nat) (w:World) (p g mb:Nat) (sv:Value) (t:Lx.Tk) (r:List Lx.Tk) (L:List Stm) (x:Stm) (wv nv:Value) (h:PS B w p g mb sv (t::r)) (ho:OwQ B sv L w) (hx:LsOk B w x wv nv) (hL:L.length<=100000000000) (hB:B<=w.heap.size) :
  Calls Tryz.prog 50 #[.pointer (some ⟨p,0,none⟩),stE x wv nv] w fun e w'=>(∃ q,e=.returned q)/\∃ sv',PS B w' p g mb sv' (t::r)/\OwQ B sv' (L++[{ x with l:=t.l }]) w'/\Chg (KQ B w) w w':=by
 obtain ⟨aw,cw,rfl⟩:=own_form hx.1
 obtain ⟨an,cn,rfl⟩:=own_form hx.2
 obtain ⟨nw,hnw⟩:∃ nw,nw=x.ws.length:=⟨_,rfl⟩
 obtain ⟨nn,hnn⟩:∃ nn,nn=x.ns.length:=⟨_,rfl⟩
 obtain ⟨Y,hY⟩:=ho.ex
 have hY2:=hY.2.1
 obtain ⟨as_,cs_,rfl⟩:=own_form hY2
 obtain ⟨n,hn⟩:∃ n,L.length=n:=⟨_,rfl⟩
 obtain ⟨off,cap,hR,hT,hc⟩:=h.st
 obtain ⟨q0,q1,q2,q3⟩:=hT 0 t rfl
 simp only [Nat.zero_mul,Nat.add_zero] at q0 q1 q2 q3
 obtain ⟨m,hm⟩:∃ m,m=(t::r).length:=⟨_,rfl⟩
 have hm1:(1:Int)<=m:=by rw [hm];simp;omega
 rw [<-hm] at hR
 rw [hn] at hR
 have hpl:=h.gl.1
 unfold stE
 rw [<-hnw, <-hnn]
 obtain ⟨q,hq⟩:∃ q,q=w.heap.size:=⟨_,rfl⟩
 obtain ⟨w1,hw1⟩:∃ w1,w1=w.alloc (.cells #[.int .i64 x.k,.string ⟨x.nm.toArray⟩,.slice aw nw cw,.slice an nn cn,.int .i64 x.o,.int .i64 x.d,.int .i64 x.s,.int .i64 x.f,.int .i64 x.i,.string ⟨x.tg.toArray⟩,.int .i64 x.l] 42):=⟨_,rfl⟩
 have o1:Out w w1:=by rw [hw1];exact (Out.refl w).alloc _
 have b1:w1.heap[q]? = some (.cells #[.int .i64 x.k,.string ⟨x.nm.toArray⟩,.slice aw nw cw,.slice an nn cn,.int .i64 x.o,.int .i64 x.d,.int .i64 x.s,.int .i64 x.f,.int .i64 x.i,.string ⟨x.tg.toArray⟩,.int .i64 x.l] 42 (0,0)):=by rw [hw1,hq];exact heap_alloc_new w _
 have e0:w1.cell? ⟨p,0,none⟩=some (.slice (some ⟨g,off,none⟩) m cap):=cell_later o1 (by rw [cell_atL hR];rfl)
 have e3:=cell_later o1 q3
 have e10:w1.cell? ⟨q,10,none⟩=some (.int .i64 x.l):=by rw [cell_atL b1];rfl
 have f10:=frozen_atL b1 10
 have HP:=hidOf h
 have HO:=hidOf ho
 have HX:Hid (LsOk B w { x with l:=t.l } (.slice aw nw cw) (.slice an nn cn)):=hidOf (by rw [hnw,hnn];exact hx)
 have HY:Hid (Y.map (fun y=>y.1)=L/\w.ownsRow B 42 11 (.slice as_ n cs_) L.length (stC Y)/\∀ y ∈ Y,LsOk B w y.1 y.2.1 y.2.2):=hidOf (by rw [<-hn];exact hY)
 have Hn:=hidOf hn
 have B1:=hidOf b1
 have O1:=hidOf o1
 have Hq:=hidOf hq
 have Hw1:=hidOf hw1
 have HR:=hidOf hR
 rw [hn] at HP HO
 clear h ho hx hY hY2 hnw hnn hR hT hc q0 q1 q2 q3 b1 o1 hq hw1 hm
 go_enter Tryz.func50,Tryz.ntmps50
 go_upto_region 1 with fail
 rw [<-Hw1.out, <-Hq.out]
 go_upto_region 2 with fail
 obtain ⟨wC,hwC⟩:∃ wC,wC=w1.setCell ⟨q,10,none⟩ (.int .i64 t.l):=⟨_,rfl⟩
 rw [<-hwC]
 have hC:wC.heap[q]? = some (.cells #[.int .i64 x.k,.string ⟨x.nm.toArray⟩,.slice aw nw cw,.slice an nn cn,.int .i64 x.o,.int .i64 x.d,.int .i64 x.s,.int .i64 x.f,.int .i64 x.i,.string ⟨x.tg.toArray⟩,.int .i64 t.l] 42 (0,0)):=by rw [hwC,set_atL B1.out];rfl
 have oC:Out w wC:=by rw [hwC];exact Out.setCell O1.out (by rw [Hq.out];exact Nat.le_refl _) _
 have HC:=hidOf hC
 have OC:=hidOf oC
 have hpb:wC.heap[p]? = _:=(oC.block p hpl).trans HR.out
 have hown:wC.ownsRow B 42 11 (.slice as_ n cs_) n (stC Y):=owns_chg (S:=fun _=>False) (by have:=HY.out.2.1;rw [Hn.out] at this;exact this) (fun _ _ h=>h) (Chg.of_out oC)
 obtain ⟨i0,hi,hz0,hz1,hz2⟩:=info_parts infoSt
 have pD:wC.drew.cell? ⟨p,2,none⟩=some (.slice as_ n cs_):=by rw [cell_atL (show wC.drew.heap[p]? = _ from hpb)];rfl
 have d0:wC.drew.cell? ⟨q,0,none⟩=some (.int .i64 x.k):=by rw [cell_atL (show wC.drew.heap[q]? = _ from hC)];rfl
 have d1:wC.drew.cell? ⟨q,1,none⟩=some (.string ⟨x.nm.toArray⟩):=by rw [cell_atL (show wC.drew.heap[q]? = _ from hC)];rfl
 have d2:wC.drew.cell? ⟨q,2,none⟩=some (.slice aw nw cw):=by rw [cell_atL (show wC.drew.heap[q]? = _ from hC)];rfl
 have d3:wC.drew.cell? ⟨q,3,none⟩=some (.slice an nn cn):=by rw [cell_atL (show wC.drew.heap[q]? = _ from hC)];rfl
 have d4:wC.drew.cell? ⟨q,4,none⟩=some (.int .i64 x.o):=by rw [cell_atL (show wC.drew.heap[q]? = _ from hC)];rfl
 have d5:wC.drew.cell? ⟨q,5,none⟩=some (.int .i64 x.d):=by rw [cell_atL (show wC.drew.heap[q]? = _ from hC)];rfl
 have d6:wC.drew.cell? ⟨q,6,none⟩=some (.int .i64 x.s):=by rw [cell_atL (show wC.drew.heap[q]? = _ from hC)];rfl
 have d7:wC.drew.cell? ⟨q,7,none⟩=some (.int .i64 x.f):=by rw [cell_atL (show wC.drew.heap[q]? = _ from hC)];rfl
 have d8:wC.drew.cell? ⟨q,8,none⟩=some (.int .i64 x.i):=by rw [cell_atL (show wC.drew.heap[q]? = _ from hC)];rfl
 have d9:wC.drew.cell? ⟨q,9,none⟩=some (.string ⟨x.tg.toArray⟩):=by rw [cell_atL (show wC.drew.heap[q]? = _ from hC)];rfl
 have d10:wC.drew.cell? ⟨q,10,none⟩=some (.int .i64 t.l):=by rw [cell_atL (show wC.drew.heap[q]? = _ from hC)];rfl
 have pDa:(wC.alloc (.cells #[.int .i64 x.k,.string ⟨x.nm.toArray⟩,.slice aw nw cw,.slice an nn cn,.int .i64 x.o,.int .i64 x.d,.int .i64 x.s,.int .i64 x.f,.int .i64 x.i,.string ⟨x.tg.toArray⟩,.int .i64 t.l] 42)).cell? ⟨p,2,none⟩=some (.slice as_ n cs_):=cell_later (((Out.refl wC)).alloc _) (show wC.cell? ⟨p,2,none⟩=_ from pD)
 have RX:Hid (∀ O,(wC.alloc O).drew.ownsRow B 42 11 (.slice as_ n cs_) n (stC Y)):=hidOf (fun O=>owns_chg (S:=fun _=>False) hown (fun _ _ h=>h) (Chg.of_out (((Out.refl wC).alloc O).drew)))
 have HPw:Hid (∀ O w8,(wC.alloc O).drew.grownBy w8 (Value.slice as_ n cs_).ownBlock->w8.cell? ⟨p,2,none⟩=some (.slice as_ n cs_)/\w8.frozen? ⟨p,2,none⟩=false):=hidOf (fun O w8 hg=>by
  have hA:(wC.alloc O).drew.heap[p]? = _:=((((Out.refl wC).alloc O).drew).block p (Array.getElem?_eq_some_iff.1 hpb).1).trans hpb
  have hs:w8.heap[p]? = _:=(hg.block p (Array.getElem?_eq_some_iff.1 hA).1 (fun e=>own_kind (RX.out O) hA (by decide) e.symm)).trans hA
  exact ⟨by rw [cell_atL hs];rfl,frozen_atL hs 2⟩)
 have hbase:Hid (∀ O,B<=(wC.alloc O).drew.heap.size):=hidOf (fun O=>Nat.le_trans hB ((oC.alloc O).drew.size))
 have hnn3:n<=100000000000:=by have:=Hn.out;omega
 clear hwC hC oC hpb hown e0 e3 e10 f10
 go_region_law (first | (refine step_append_lies _ rfl (.tmp 16) (.tmp 18) 24 rfl B 42 i0 _ 11 136 Tryz.underlying24 hi hz0 hz1 hz2 rfl (by decide) (.slice as_ n cs_) n (stC Y) rfl (RX.out _) ⟨wC.heap.size,0,none⟩ 1 1 (#[.int .i64 x.k,.string ⟨x.nm.toArray⟩,.slice aw nw cw,.slice an nn cn,.int .i64 x.o,.int .i64 x.d,.int .i64 x.s,.int .i64 x.f,.int .i64 x.i,.string ⟨x.tg.toArray⟩,.int .i64 t.l]).toList rfl rfl (fun j u hu=>cell_later ((Out.refl _).drew) (news_new wC _ _ _ rfl j u hu)) (by intro u hu;simp at hu;rcases hu with h | h | h | h | h | h | h | h | h | h | h <;> subst h <;> rfl) (by decide) (by unfold maxLen;omega) (by omega) (hbase.out _) _ rfl ?_;intro g9 cap9 w9 hown9 hgrow9 hg9 hlt9;obtain ⟨q9,f9⟩:=HPw.out _ w9 hgrow9;have W9:=hidOf hown9;have G9:=hidOf hgrow9;clear hown9 hgrow9 hg9 hlt9))
 all_goals
  go_end0
  have hP:=PS.push (x:={ x with l:=t.l }) HP.out HO.out HX.out (OC.out.trans (((Out.refl wC).alloc _).drew)) G9.out Hn.out Y HY.out W9.out
  exact ⟨⟨_,rfl⟩,_,hP.1,hP.2.1,hP.2.2⟩
def atlB:List Lx.Tk->Bool
 | t::u::_=>t.k == 1 && colQ u
 | _=>false
set_option maxRecDepth 20000 in
theorem atLabel_any (B:Nat) (w:World) (p g mb:Nat) (sv:Value) (ts:List Lx.Tk) (h:PS B w p g mb sv ts) (hl:Lw ts):Calls Tryz.prog 49 #[.pointer (some ⟨p,0,none⟩)] w fun e w'=>e=.returned (.bool (atlB ts))/\Out w w':=by
 obtain ⟨t,u,r,rfl⟩:=hl.two
 obtain ⟨off,cap,hR,hT,hc⟩:=h.st
 obtain ⟨q0, -, -, -⟩:=hT 0 t rfl
 obtain ⟨u0,u1,u2,u3⟩:=hT 1 u rfl
 simp only [Nat.zero_mul,Nat.add_zero,Nat.one_mul] at q0 u0 u1 u2 u3
 obtain ⟨n,hn⟩:∃ n,n=(t::u::r).length:=⟨_,rfl⟩
 have hnI:(2:Int)<=n:=by rw [hn];simp;omega
 rw [<-hn] at hR hc
 have c0:w.cell? ⟨p,0,none⟩=some (.slice (some ⟨g,off,none⟩) n cap):=by rw [cell_atL hR];rfl
 have CC:=hidOf (isColon_any u)
 show Calls _ _ _ _ fun e w'=>e=.returned (.bool (t.k == 1 && colQ u))/\Out w w'
 generalize colQ u=b at *
 unfold tkE at CC
 clear h hl hT hR hn
 cases hk:(t.k == 1)
 all_goals cases b
 all_goals go_enter Tryz.func49,Tryz.ntmps49
 all_goals go_wp2_with (go_at_call 48;refine (CC.out _).mono ?_;rintro e w1 ⟨rfl,ho⟩;have O1:=hidOf ho;clear ho)
 all_goals go_ret
 all_goals first | exact ⟨rfl,O1.out⟩ | exact ⟨rfl,Out.refl _⟩
set_option maxRecDepth 20000 in
set_option maxHeartbeats 1000000 in
theorem byte6_any (B b:Nat) (bs:List Value) (c:Int) (w:World) (h:Lib.IsBuilder 56 5 B b bs w) (hlen:bs.length<=1000000000000) (hBw:B<=w.heap.size) :
  Calls Tryz.prog 35 #[.pointer (some ⟨b,0,none⟩),.int .u8 c] w fun e w'=>(∃ v,e=.returned v)/\Lib.IsBuilder 56 5 B b (bs++[.int .u8 c]) w'/\Below B w w':=by
 obtain ⟨i0,hi,hz0,hz1,hz2⟩:=info_parts (show (Tryz.prog.info? 5).map (fun i=>(i.zero,i.size,i.bytes))=some (some (.int .u8 0),1,1) from Tryz.Builder_Extra_169.infoByte)
 have CK:=hidOf (chk_any B b bs w h)
 clear h
 go_enter Tryz.func35,Tryz.ntmps35
 go_upto_region 2 with (go_at_call 62;refine CK.out.mono ?_;rintro e w1 ⟨rfl,hbd,hb1⟩;have HBD:=hidOf hbd;have HB1:=hidOf hb1;clear hbd hb1)
 obtain ⟨hB,v,hbk,hown,hne⟩:=HBD.out
 have hsz:=HB1.out.size
 have hlt:b<w1.heap.size:=(Array.getElem?_eq_some_iff.1 hbk).1
 obtain ⟨av,cv,rfl⟩:=own_form hown
 have c1:w1.cell? ⟨b,1,none⟩=some (.slice av bs.length cv):=by rw [Lib.cell_of_heap hbk];rfl
 have RX:Hid (∀ O,(w1.alloc O).ownsRow B 5 1 (.slice av bs.length cv) bs.length bs):=hidOf (fun O=>owns_chg (S:=fun _=>False) hown (fun _ _ h=>h) (Chg.of_out ((Out.refl w1).alloc O)))
 have HP:Hid (∀ O w8,(w1.alloc O).grownBy w8 (Value.slice av bs.length cv).ownBlock->w8.heap[b]? = some (.cells #[.pointer (some ⟨b,0,none⟩),.slice av bs.length cv] 56 (0,0))):=hidOf (fun O w8 hg=>by
  have hA:(w1.alloc O).heap[b]? = _:=(((Out.refl w1).alloc O).block b hlt).trans hbk
  exact (hg.block b (Array.getElem?_eq_some_iff.1 hA).1 (fun e=>hne e.symm)).trans hA)
 have Hown:=hidOf hown
 clear hbk hown hne HBD CK
 go_upto_region 3 with (at_builtin;refine wpList_append_lies _ rfl (.tmp 11) (.tmp 13) 35 rfl B 5 i0 _ 1 1 Tryz.underlying35 hi hz0 hz1 hz2 rfl (by decide) (.slice av bs.length cv) bs.length bs rfl (RX.out _) ⟨w1.heap.size,0,none⟩ 1 1 [.int .u8 c] rfl rfl (news_new w1 _ _ _ rfl) (by intro u hu;simp at hu;subst hu;rfl) (by decide) (by unfold maxLen;omega) (by omega) (by rw [size_alloc];omega) _ rfl ?_;intro g8 cap8 w8 hown8 hgrow8 hg8 hlt8;have b8:=HP.out _ w8 hgrow8;have q8:w8.cell? ⟨b,1,none⟩=some (.slice av bs.length cv):=(by rw [Lib.cell_of_heap b8];rfl);have f8:w8.frozen? ⟨b,1,none⟩=false:=Lib.frozen_of_heap b8 1;have W8:=hidOf hown8;have G8:=hidOf hgrow8;have B8:=hidOf b8;clear hown8 hgrow8 hg8 hlt8 b8)
 go_wp2
 go_ret
 refine ⟨⟨_,rfl⟩,.inr (Lib.BuilderAt.put (T:=56) (e:=5) hB B8.out (bs':=bs++[.int .u8 c]) (by rw [List.length_append];exact W8.out) (by decide)), ?_⟩
 exact (((HB1.out.alloc (by omega) _).grown G8.out (by rw [size_alloc];omega) (fun k hk=>(World.ownsRow.lt Hown.out k hk).1)).setCell (p:=⟨b,1,none⟩) hB _)
set_option maxRecDepth 20000 in
set_option maxHeartbeats 2000000 in
theorem tokenText_any (w0:World) (B:Nat) (hB0:w0.heap.size<=B) (hpw:Lx.Pow w0) (w:World) (hw:Out w0 w) (p g mb:Nat) (sv:Value) (t u:Lx.Tk) (r:List Lx.Tk) (h:PS B w p g mb sv (t::u::r)) (hl:Lw (t::u::r)) (hN:TkOk (t::u::r)) :
  Calls Tryz.prog 109 #[.pointer (some ⟨p,0,none⟩)] w fun e w'=>e=.returned (.string ⟨(ttQ t).toArray⟩)/\PS B w' p g mb sv (u::r)/\Chg (fun b=>b=p) w w':=by
 obtain ⟨off,cap,hR,hT,hc⟩:=h.st
 obtain ⟨q0, -, -, -⟩:=hT 0 t rfl
 simp only [Nat.zero_mul,Nat.add_zero] at q0
 obtain ⟨n0,n1,n2⟩:=hN t (by simp)
 obtain ⟨n,hn⟩:∃ n,n=(t::u::r).length:=⟨_,rfl⟩
 have hnI:(2:Int)<=n:=by rw [hn];simp;omega
 rw [<-hn] at hR hc
 have c0:w.cell? ⟨p,0,none⟩=some (.slice (some ⟨g,off,none⟩) n cap):=by rw [cell_atL hR];rfl
 have C:Hid (Calls Tryz.prog 52 #[.pointer (some ⟨p,0,none⟩),.int .i64 t.k] w fun e w'=>e=.returned (.agg #[.int .i64 t.k,.string ⟨t.t.toArray⟩,.int .u64 t.n,.int .i64 t.l])/\PS B w' p g mb sv (u::r)/\Chg (fun b=>b=p) w w'):=hidOf (by
  have:=take_any B w p g mb sv (t::u::r) t.k h hl
  have e:tkQ t.k (t::u::r)=.ok t (u::r):=by
   show (if t.k=t.k then RE.ok t (u::r) else RE.no 60 (t::u::r))=_
   rw [if_pos rfl]
  rw [e] at this
  exact this)
 have hpB:=h.pB
 have CF:Hid (∀ wx,Out w0 wx->Calls Tryz.prog 124 #[.int .u64 t.n,.int .i64 10] wx fun e w'=>e=.returned (.string ⟨(Lib.decDigits t.n.toNat).toArray⟩)/\Out wx w'):=hidOf (fun wx o=>by
  have:=Lx.fmt_any t.n.toNat (by omega) wx (hpw.out o)
  rw [show ((t.n.toNat:Nat):Int)=t.n by omega] at this
  exact this)
 have Hw:=hidOf hw
 clear h hl hN hR hT hc hn hw hpw
 by_cases hk:t.k=3
 ·
  have hkb:(t.k == 3)=true:=by simp [hk]
  have HE:Hid (ttQ t=Lib.decDigits t.n.toNat):=hidOf (by unfold ttQ;rw [if_pos hk])
  rw [HE.out]
  clear hk
  go_enter Tryz.func109,Tryz.ntmps109
  go_upto_region 2 with (go_at_call 52;refine C.out.mono ?_;rintro e w1 ⟨rfl,hp,hcg⟩;have P1:=hidOf hp;have C1:=hidOf hcg;clear hp hcg)
  obtain ⟨w2,hw2⟩:∃ w2,w2=w1.alloc (.cells #[.int .i64 t.k,.string ⟨t.t.toArray⟩,.int .u64 t.n,.int .i64 t.l] 77):=⟨_,rfl⟩
  have o2:Out w1 w2:=by rw [hw2];exact (Out.refl w1).alloc _
  have b2:w2.heap[w1.heap.size]? = some (.cells #[.int .i64 t.k,.string ⟨t.t.toArray⟩,.int .u64 t.n,.int .i64 t.l] 77 (0,0)):=by rw [hw2];exact heap_alloc_new w1 _
  rw [<-hw2]
  have m0:w2.cell? ⟨w1.heap.size,0,none⟩=some (.int .i64 t.k):=by rw [cell_atL b2];rfl
  have m2:w2.cell? ⟨w1.heap.size,2,none⟩=some (.int .u64 t.n):=by rw [cell_atL b2];rfl
  have OW:Hid (Out w0 w2):=hidOf ((Chg.out C1.out Hw.out (fun k hk=>by rw [hk];omega)).trans o2)
  have O2:=hidOf o2
  clear hw2 o2 b2 c0 q0
  go_wp2_with (go_at_call 124;refine (CF.out _ OW.out).mono ?_;rintro e w3 ⟨rfl,ho⟩;have O3:=hidOf ho;clear ho)
  go_ret
  exact ⟨rfl,(P1.out.out O2.out).out O3.out,Chg.then2 C1.out (Chg.of_out (O2.out.trans O3.out))⟩
 ·
  have hkb:(t.k == 3)=false:=by simp [hk]
  have HE:Hid (ttQ t=t.t):=hidOf (by unfold ttQ;rw [if_neg hk])
  rw [HE.out]
  clear hk
  go_enter Tryz.func109,Tryz.ntmps109
  go_upto_region 2 with (go_at_call 52;refine C.out.mono ?_;rintro e w1 ⟨rfl,hp,hcg⟩;have P1:=hidOf hp;have C1:=hidOf hcg;clear hp hcg)
  obtain ⟨w2,hw2⟩:∃ w2,w2=w1.alloc (.cells #[.int .i64 t.k,.string ⟨t.t.toArray⟩,.int .u64 t.n,.int .i64 t.l] 77):=⟨_,rfl⟩
  have o2:Out w1 w2:=by rw [hw2];exact (Out.refl w1).alloc _
  have b2:w2.heap[w1.heap.size]? = some (.cells #[.int .i64 t.k,.string ⟨t.t.toArray⟩,.int .u64 t.n,.int .i64 t.l] 77 (0,0)):=by rw [hw2];exact heap_alloc_new w1 _
  rw [<-hw2]
  have m0:w2.cell? ⟨w1.heap.size,0,none⟩=some (.int .i64 t.k):=by rw [cell_atL b2];rfl
  have m1:w2.cell? ⟨w1.heap.size,1,none⟩=some (.string ⟨t.t.toArray⟩):=by rw [cell_atL b2];rfl
  have O2:=hidOf o2
  clear hw2 o2 b2 c0 q0
  go_wp2
  go_ret
  exact ⟨rfl,P1.out.out O2.out,Chg.then2 C1.out (Chg.of_out O2.out)⟩
theorem dec_len:∀ (n u:Nat),0<n->u<10 ^ n->(Lib.decDigits u).length<=n
 | 0,u,h,_=>absurd h (by omega)
 | n+1,u,_,h=>by
  rw [Lib.decDigits]
  by_cases hu:u<10
  · rw [dif_pos hu];simp
  ·
   rw [dif_neg hu,List.length_append]
   have hn:0<n:=by
    rcases Nat.eq_zero_or_pos n with e | e
    · subst e;simp at h;omega
    · exact e
   have:=dec_len n (u / 10) hn (by rw [Nat.pow_succ] at h;omega)
   simp
   omega
theorem ttQ_len {t:Lx.Tk} (h:0<=t.n/\t.n<18446744073709551616/\t.t.length<=70):(ttQ t).length<=70:=by
 unfold ttQ
 by_cases hk:t.k=3
 ·
  rw [if_pos hk]
  have:=dec_len 20 t.n.toNat (by omega) (by have:=h.2.1;omega)
  omega
 · rw [if_neg hk];exact h.2.2
def leftOf (p:Nat) (w:World):Nat:=match w.cell? ⟨p,0,none⟩ with | some (.slice _ n _)=>n | _=>0
theorem PS.left {B:Nat} {w:World} {p g mb:Nat} {sv:Value} {ts:List Lx.Tk} (h:PS B w p g mb sv ts):leftOf p w=ts.length:=by
 obtain ⟨off,cap,hR,_⟩:=h.st
 unfold leftOf
 rw [cell_atL hR]
 rfl
theorem PS.low {B N:Nat} {w w':World} {p g mb:Nat} {sv:Value} {ts:List Lx.Tk} (h:PS B w p g mb sv ts) (b:Below N w w') (hp:p<N) (hg:g<N):PS B w' p g mb sv ts:=by
 obtain ⟨off,cap,hR,hT,hc⟩:=h.st
 obtain ⟨cs,fr,h4⟩:=h.gk
 refine ⟨⟨off,cap,(b.block p hp).trans hR,fun k x hx=>?_,hc⟩,⟨cs,fr,(b.block g hg).trans h4⟩,h.pB⟩
 obtain ⟨h0,h1,h2,h3⟩:=hT k x hx
 exact ⟨(Below.cell b hg).trans h0,(Below.cell b hg).trans h1,(Below.cell b hg).trans h2,(Below.cell b hg).trans h3⟩
theorem bld_chg {N b p:Nat} {bs:List Value} {w w':World} (h:Lib.IsBuilder 56 5 N b bs w) (c:Chg (fun x=>x=p) w w') (hp:p<N):Lib.IsBuilder 56 5 N b bs w':=by
 have key:∀ q,Lib.BuilderAt 56 5 N b q bs w->Lib.BuilderAt 56 5 N b q bs w':=fun q hh=>by
  obtain ⟨hB,v,hb,ho,hne⟩:=hh
  exact ⟨hB,v,(c.block b (Array.getElem?_eq_some_iff.1 hb).1 (fun e=>by omega)).trans hb,owns_chg ho (fun k hk e=>by have:=(World.ownsRow.lt ho k hk).1;omega) c,hne⟩
 exact h.elim (fun x=>.inl (key _ x)) (fun x=>.inr (key _ x))
theorem ix_step {acc:List UInt8} {t:Lx.Tk} {r:List Lx.Tk} (hk:¬t.k=5):ixQ acc (t::r)=ixQ ((if acc.isEmpty then acc else acc++[32])++ttQ t) r:=by
 conv=>lhs;unfold ixQ
 rw [if_neg hk]
theorem ix_stop {acc:List UInt8} {t:Lx.Tk} {r:List Lx.Tk} (hk:t.k=5):ixQ acc (t::r)=(acc,t::r):=by
 unfold ixQ
 rw [if_pos hk]
set_option maxRecDepth 20000 in
set_option maxHeartbeats 4000000 in
theorem instructionText_any (w0:World) (B:Nat) (hB0:w0.heap.size<=B) (hpw:Lx.Pow w0) (w:World) (hw:Out w0 w) (p g mb:Nat) (sv:Value) (ts:List Lx.Tk) (h:PS B w p g mb sv ts) (hl:Lw ts) (hN:TkOk ts) (hlen:ts.length<=1000000000) :
  Calls Tryz.prog 78 #[.pointer (some ⟨p,0,none⟩)] w fun e w'=>e=.returned (.string ⟨(ixQ [] ts).1.toArray⟩)/\PS B w' p g mb sv (ixQ [] ts).2/\Chg (fun b=>b=p) w w':=by
 obtain ⟨X,hX⟩:∃ X,X=ixQ [] ts:=⟨_,rfl⟩
 rw [<-hX]
 have hpl:=h.gl.1
 have hgl:=h.gl.2
 have hpB:=h.pB
 obtain ⟨N,hNN⟩:∃ N,N=w.heap.size:=⟨_,rfl⟩
 obtain ⟨w1,hw1⟩:∃ w1,w1=w.alloc (.cells #[.pointer none,.slice none 0 0] 56):=⟨_,rfl⟩
 have o1:Out w w1:=by rw [hw1];exact (Out.refl w).alloc _
 have b1:Lib.IsBuilder 56 5 N N (Lib.byteCells []) w1:=.inl ⟨Nat.le_refl _,.slice none 0 0,by rw [hw1,hNN];exact heap_alloc_new w _,World.ownsRow_nil _ _ _ _,by simp [Value.ownBlock]⟩
 have HP1:=hidOf (h.out o1)
 have HB1:=hidOf b1
 have HO1:=hidOf o1
 have Hw1:=hidOf hw1
 have HNN:=hidOf hNN
 have Hw:=hidOf hw
 have HX:=hidOf hX
 have HL:=hidOf hl
 have HK:=hidOf hN
 have Hpw:=hidOf hpw
 rw [<-hNN] at hpl hgl
 clear h hw1 o1 b1 hNN hw hX hl hN hpw
 go_enter Tryz.func78,Tryz.ntmps78
 go_upto_region 2 with fail
 rw [<-Hw1.out, <-HNN.out]
 go_loopw [] (fun wr=>∃ (A:List UInt8) (r:List Lx.Tk),Hid (PS B wr p g mb sv r)/\Hid (Lw r)/\Hid (TkOk r)/\Hid (X=ixQ A r)/\Hid (Lib.IsBuilder 56 5 N N (Lib.byteCells A) wr)/\Hid (Chg (fun b=>b=p) w wr)/\A.length+71*r.length<=71*ts.length/\r.length<=ts.length) (fun wr=>leftOf p wr)
 case atStart=>exact ⟨[],ts,HP1,HL,HK,HX,HB1,hidOf (Chg.of_out HO1.out),by simp,by omega⟩
 case round=>
  clear HP1 HL HK HX HB1
  obtain ⟨A,r,HP,HL,HK,HX,HB,HC,hA,hr⟩:=hrel
  obtain ⟨t,u,r',rfl⟩:=HL.out.two
  obtain ⟨off,cap,hR,hT,hc⟩:=HP.out.st
  obtain ⟨q0, -, -, -⟩:=hT 0 t rfl
  simp only [Nat.zero_mul,Nat.add_zero] at q0
  obtain ⟨n,hn⟩:∃ n,n=(t::u::r').length:=⟨_,rfl⟩
  have hnI:(2:Int)<=n:=by rw [hn];simp;omega
  rw [<-hn] at hR hA hr
  have c0:wr.cell? ⟨p,0,none⟩=some (.slice (some ⟨g,off,none⟩) n cap):=by rw [cell_atL hR];rfl
  have Hn:=hidOf hn
  have HNw:Hid (N<=wr.heap.size):=hidOf (by rw [HNN.out];exact HC.out.size)
  clear hR hT hc hn
  by_cases hk:t.k=5
  ·
   have hkb:(t.k != 5)=false:=by simp [hk]
   have HE:Hid (X=(A,t::u::r')):=hidOf (by rw [HX.out,ix_stop hk])
   have CS:=hidOf (Tryz.Builder_String_any N N A wr HB.out HNw.out)
   clear hk
   go_wp2_with (go_at_call 17;refine CS.out.mono ?_;rintro e w2 ⟨rfl,hb⟩;have B2:=hidOf hb;clear hb)
   go_ret
   rw [HE.out]
   exact ⟨rfl,HP.out.low B2.out hpl hgl,HC.out.trans (T:=fun b=>N<=b) ⟨B2.out.os,B2.out.tape,B2.out.output,B2.out.size,fun k hk hs=>B2.out.block k (by omega)⟩ (fun x hx hlt=>by have:=HNN.out;omega)⟩
  ·
   have hkb:(t.k != 5)=true:=by simp [hk]
   have HE:=hidOf (show X=_ from HX.out.trans (ix_step hk))
   have hL1:=HL.out.next hk
   have hK1:TkOk (u::r'):=tkOk_clo _ _ HK.out
   have htl:=ttQ_len (HK.out t (by simp))
   have CT:Hid (∀ wx,Out w0 wx->PS B wx p g mb sv (t::u::r')->Calls Tryz.prog 109 #[.pointer (some ⟨p,0,none⟩)] wx fun e w'=>e=.returned (.string ⟨(ttQ t).toArray⟩)/\PS B w' p g mb sv (u::r')/\Chg (fun b=>b=p) wx w'):=hidOf (fun wx o hp=>tokenText_any w0 B hB0 Hpw.out wx o p g mb sv t u r' hp HL.out HK.out)
   have CL:=hidOf (Tryz.Builder_Len N N (Lib.byteCells A) wr HB.out)
   rw [Lib.byteCells_length] at CL
   have HL1:=hidOf hL1
   have HK1:=hidOf hK1
   generalize ttQ t=z at *
   have HOr:Hid (Out w0 wr):=hidOf (Chg.out HC.out Hw.out (fun k hk=>by rw [hk];omega))
   have hnl:n<=1000000000:=by omega
   clear hk hL1 hK1
   by_cases hA0:A=[]
   ·
    subst hA0
    have HE2:Hid (X=ixQ z (u::r')):=hidOf (by rw [HE.out];rfl)
    have e0:(([]:List UInt8).length:Int)=0:=rfl
    go_upto_region 5 with (go_at_call 108;refine CL.out.mono ?_;rintro e wl ⟨rfl,hwl⟩;subst hwl)
    clear c0 q0
    go_wp2_with (first | (go_at_call 109;refine (CT.out _ HOr.out HP.out).mono ?_;rintro e w3 ⟨rfl,hp,hc⟩;have P3:=hidOf hp;have C3:=hidOf hc;have B3:=hidOf (bld_chg HB.out hc hpl);have N3:=hidOf (Nat.le_trans HNw.out hc.size);clear hp hc) | (go_at_call 34;refine (write_any N N _ ⟨z.toArray⟩ w3 B3.out (by simp [Lib.byteCells,mk_size];omega) N3.out).mono ?_;rintro e w4 ⟨⟨v4,rfl⟩,hb,hbl⟩;have B4:=hidOf hb;have L4:=hidOf hbl;clear hb hbl))
    go_roundw
    case rel=>
     have hP4:=P3.out.low L4.out hpl hgl
     refine ⟨z,u::r',hidOf hP4,HL1,HK1,HE2,hidOf (by have:=B4.out;simpa [Lib.byteCells,Lib.strCells] using this),hidOf ((Chg.then2 HC.out C3.out).trans (T:=fun b=>N<=b) ⟨L4.out.os,L4.out.tape,L4.out.output,L4.out.size,fun k hk hs=>L4.out.block k (by omega)⟩ (fun x hx hlt=>by have:=HNN.out;omega)), ?_, ?_⟩
     · have:=Hn.out;simp at this hA ⊢;omega
     · have:=Hn.out;simp at this ⊢;omega
    case measure=>
     rw [(P3.out.low L4.out hpl hgl).left,HP.out.left]
     simp
   ·
    have hAp:0<A.length:=List.length_pos_iff.2 hA0
    have hAI:(0:Int)<A.length:=by omega
    have HE2:Hid (X=ixQ ((A++[32])++z) (u::r')):=hidOf (by
     rw [HE.out,show A.isEmpty=false by cases A with | nil=>exact absurd rfl hA0 | cons=>rfl]
     rfl)
    have CB:=hidOf (byte6_any N N (Lib.byteCells A) 32 wr HB.out (by rw [Lib.byteCells_length];omega) HNw.out)
    clear hA0
    go_upto_region 5 with (first | (go_at_call 108;refine CL.out.mono ?_;rintro e wl ⟨rfl,hwl⟩;subst hwl) | (go_at_call 35;refine CB.out.mono ?_;rintro e w2 ⟨⟨v2,rfl⟩,hb,hbl⟩;have B2:=hidOf hb;have L2:=hidOf hbl;clear hb hbl))
    clear c0 q0
    have P2:=hidOf (HP.out.low L2.out hpl hgl)
    have HO2:Hid (Out w0 w2):=hidOf (Below.trans HOr.out (L2.out.mono (by have:=Hw.out.size;have:=HNN.out;omega)))
    have N2:=hidOf (Nat.le_trans HNw.out L2.out.size)
    go_wp2_with (first | (go_at_call 109;refine (CT.out _ HO2.out P2.out).mono ?_;rintro e w3 ⟨rfl,hp,hc⟩;have P3:=hidOf hp;have C3:=hidOf hc;have B3:=hidOf (bld_chg B2.out hc hpl);have N3:=hidOf (Nat.le_trans N2.out hc.size);clear hp hc) | (go_at_call 34;refine (write_any N N _ ⟨z.toArray⟩ w3 B3.out (by simp [Lib.byteCells,mk_size];omega) N3.out).mono ?_;rintro e w4 ⟨⟨v4,rfl⟩,hb,hbl⟩;have B4:=hidOf hb;have L4:=hidOf hbl;clear hb hbl))
    go_roundw
    case rel=>
     have hP4:=P3.out.low L4.out hpl hgl
     have c2:Chg (fun b=>b=p) w w2:=HC.out.trans (T:=fun b=>N<=b) ⟨L2.out.os,L2.out.tape,L2.out.output,L2.out.size,fun k hk hs=>L2.out.block k (by omega)⟩ (fun x hx hlt=>by have:=HNN.out;omega)
     refine ⟨(A++[32])++z,u::r',hidOf hP4,HL1,HK1,HE2,hidOf (by have:=B4.out;simpa [Lib.byteCells,Lib.strCells] using this),hidOf ((Chg.then2 c2 C3.out).trans (T:=fun b=>N<=b) ⟨L4.out.os,L4.out.tape,L4.out.output,L4.out.size,fun k hk hs=>L4.out.block k (by omega)⟩ (fun x hx hlt=>by have:=HNN.out;omega)), ?_, ?_⟩
     · have:=Hn.out;simp at this hA ⊢;omega
     · have:=Hn.out;simp at this ⊢;omega
    case measure=>
     rw [(P3.out.low L4.out hpl hgl).left,HP.out.left]
     simp
end Go.Proofs.YtadneimllbfdnaaGreatDoor
