import Derived.Test.YtadneimllbfdnaaGreatDoorGu48
namespace Go.Proofs.YtadneimllbfdnaaGreatDoor
open Go.RowKit
set_option linter.unusedVariables false
set_option linter.unusedSimpArgs false
theorem Rk.kindP {w0 w:World} {p:Nat} {lv wv nv:Value} {M:List StV} {W N:List In} (h:Rk w0 w p lv wv nv M W N) {cur:Array Value} {u:TypeId} (hh:w.heap[p]? = some (.cells cur u (0,0))):u = 28:=by
 rw [h.at_] at hh
 simp only [Option.some.injEq,Obj.cells.injEq] at hh
 exact hh.2.1.symm
theorem Rk.own3 {w0 w:World} {p:Nat} {lv wv nv:Value} {M:List StV} {W N:List In} (h:Rk w0 w p lv wv nv M W N) (j:Nat) (u:Value) (lv' wv' nv':Value) (M':List StV) (W' N':List In) (e:(#[lv,wv,nv]:Array Value).setIfInBounds j u = #[lv',wv',nv']) (hL:(lv'=.slice none 0 0/\M'=[])\/∃ g,lv'=.slice (some ⟨g,0,none⟩) M'.length M'.length/\w0.heap.size<=g/\RowY w g M') (hW:Ir w0.heap.size 37 9 w wv' W') (hN:Ir w0.heap.size 38 3 w nv' N'):Rk w0 (w.setCell ⟨p,j,none⟩ u) p lv' wv' nv' M' W' N':=by
 have hc:Chg (fun k=>k=p) w (w.setCell ⟨p,j,none⟩ u):=Chg.setCell (S:=fun k=>k=p) (Chg.refl _ w) (p:=⟨p,j,none⟩) rfl _
 refine ⟨Chg.out hc h.o (fun k hk=>by subst hk;exact h.hp),h.hp, ?_,hL.imp id (fun ⟨g,h1,h2,h3⟩=>⟨g,h1,h2,h3.same (hc.block g h3.lt (fun e=>kind_ne (show w.heap[g]? = _ from h3) h.at_ (by decide) e))⟩),hW.keep hc (fun k cur u hk h9=>by subst hk;rw [h.kindP h9];decide),hN.keep hc (fun k cur u hk h9=>by subst hk;rw [h.kindP h9];decide)⟩
 rw [<-e]
 exact set_atL h.at_ j u
theorem Rk.listMade {w0 w:World} {p:Nat} {lv wv nv:Value} {M:List StV} {W N:List In} (h:Rk w0 w p lv wv nv M W N) (M':List StV):Rk w0 ((w.alloc (.cells (stC M').toArray 42)).setCell ⟨p,0,none⟩ (.slice (some ⟨w.heap.size,0,none⟩) M'.length M'.length)) p (.slice (some ⟨w.heap.size,0,none⟩) M'.length M'.length) wv nv M' W N:=
 have h1:=h.out ((Out.refl w).alloc (.cells (stC M').toArray 42))
 h1.own3 0 _ _ _ _ M' W N rfl (.inr ⟨w.heap.size,rfl,h.o.size,heap_alloc_new w _⟩) h1.wo h1.no
theorem Rk.wordsGrown {w0 w wA w4:World} {p:Nat} {lv wv nv v4:Value} {M:List StV} {W N:List In} (h:Rk w0 w p lv wv nv M W N) (o:Out w wA) (hg:wA.grownBy w4 wv.ownBlock) (hown:w4.ownsRow w0.heap.size 37 1 v4 (W.length+1) (W.map inV++[.slice none 0 0])):Rk w0 (w4.setCell ⟨p,1,none⟩ v4) p lv v4 nv M (W++[(0,[])]) N:=by
 have hA:=h.out o
 have hc:Chg (fun k=>wv.ownBlock=some k) wA w4:=Chg.of_grown hg (fun k h=>h)
 have hk:∀ k cur u,wv.ownBlock=some k->wA.heap[k]? = some (.cells cur u (0,0))->u = 37:=fun k cur u hk h9=>by
  obtain ⟨_,cur2,hr⟩:=hA.wo.row hk
  rw [hr] at h9
  simp only [Option.some.injEq,Obj.cells.injEq] at h9
  exact h9.2.1.symm
 have at4:w4.heap[p]? = some (.cells #[lv,wv,nv] 28 (0,0)):=(hc.block p hA.lt (fun e=>by have:=hk p _ _ e hA.at_;revert this;decide)).trans hA.at_
 have hW4:=h.wo.grown (by decide) o hg hown
 have hN4:=hA.no.keep hc (fun k cur u e h9=>by rw [hk k cur u e h9];decide)
 have hL4:(lv=.slice none 0 0/\M=[])\/∃ g,lv=.slice (some ⟨g,0,none⟩) M.length M.length/\w0.heap.size<=g/\RowY w4 g M:=hA.li.imp id (fun ⟨g,h1,h2,h3⟩=>⟨g,h1,h2,h3.same (hc.block g h3.lt (fun e=>by have:=hk g _ _ e (show wA.heap[g]? = _ from h3);revert this;decide))⟩)
 have o4:Out w0 w4:=Chg.out hc hA.o (fun k hk=>(hA.wo.row hk).1)
 have hc5:Chg (fun k=>k=p) w4 (w4.setCell ⟨p,1,none⟩ v4):=Chg.setCell (S:=fun k=>k=p) (Chg.refl _ w4) (p:=⟨p,1,none⟩) rfl _
 have hp9:∀ k cur u,k=p->w4.heap[k]? = some (.cells cur u (0,0))->u = 28:=fun k cur u e h9=>by
  subst e
  rw [at4] at h9
  simp only [Option.some.injEq,Obj.cells.injEq] at h9
  exact h9.2.1.symm
 exact ⟨Chg.out hc5 o4 (fun k hk=>by subst hk;exact h.hp),h.hp,set_atL at4 1 v4,hL4.imp id (fun ⟨g,h1,h2,h3⟩=>⟨g,h1,h2,h3.same (hc5.block g h3.lt (fun e=>kind_ne (show w4.heap[g]? = _ from h3) at4 (by decide) e))⟩),hW4.keep hc5 (fun k cur u e h9=>by rw [hp9 k cur u e h9];decide),hN4.keep hc5 (fun k cur u e h9=>by rw [hp9 k cur u e h9];decide)⟩
theorem Rk.numbersGrown {w0 w wA w4:World} {p:Nat} {lv wv nv v4:Value} {M:List StV} {W N:List In} (h:Rk w0 w p lv wv nv M W N) (o:Out w wA) (hg:wA.grownBy w4 nv.ownBlock) (hown:w4.ownsRow w0.heap.size 38 1 v4 (N.length+1) (N.map inV++[.slice none 0 0])):Rk w0 (w4.setCell ⟨p,2,none⟩ v4) p lv wv v4 M W (N++[(0,[])]):=by
 have hA:=h.out o
 have hc:Chg (fun k=>nv.ownBlock=some k) wA w4:=Chg.of_grown hg (fun k h=>h)
 have hk:∀ k cur u,nv.ownBlock=some k->wA.heap[k]? = some (.cells cur u (0,0))->u = 38:=fun k cur u hk h9=>by
  obtain ⟨_,cur2,hr⟩:=hA.no.row hk
  rw [hr] at h9
  simp only [Option.some.injEq,Obj.cells.injEq] at h9
  exact h9.2.1.symm
 have at4:w4.heap[p]? = some (.cells #[lv,wv,nv] 28 (0,0)):=(hc.block p hA.lt (fun e=>by have:=hk p _ _ e hA.at_;revert this;decide)).trans hA.at_
 have hN4:=h.no.grown (by decide) o hg hown
 have hW4:=hA.wo.keep hc (fun k cur u e h9=>by rw [hk k cur u e h9];decide)
 have hL4:(lv=.slice none 0 0/\M=[])\/∃ g,lv=.slice (some ⟨g,0,none⟩) M.length M.length/\w0.heap.size<=g/\RowY w4 g M:=hA.li.imp id (fun ⟨g,h1,h2,h3⟩=>⟨g,h1,h2,h3.same (hc.block g h3.lt (fun e=>by have:=hk g _ _ e (show wA.heap[g]? = _ from h3);revert this;decide))⟩)
 have o4:Out w0 w4:=Chg.out hc hA.o (fun k hk=>(hA.no.row hk).1)
 have hc5:Chg (fun k=>k=p) w4 (w4.setCell ⟨p,2,none⟩ v4):=Chg.setCell (S:=fun k=>k=p) (Chg.refl _ w4) (p:=⟨p,2,none⟩) rfl _
 have hp9:∀ k cur u,k=p->w4.heap[k]? = some (.cells cur u (0,0))->u = 28:=fun k cur u e h9=>by
  subst e
  rw [at4] at h9
  simp only [Option.some.injEq,Obj.cells.injEq] at h9
  exact h9.2.1.symm
 exact ⟨Chg.out hc5 o4 (fun k hk=>by subst hk;exact h.hp),h.hp,set_atL at4 2 v4,hL4.imp id (fun ⟨g,h1,h2,h3⟩=>⟨g,h1,h2,h3.same (hc5.block g h3.lt (fun e=>kind_ne (show w4.heap[g]? = _ from h3) at4 (by decide) e))⟩),hW4.keep hc5 (fun k cur u e h9=>by rw [hp9 k cur u e h9];decide),hN4.keep hc5 (fun k cur u e h9=>by rw [hp9 k cur u e h9];decide)⟩
theorem Rk.wordsMade {w0 w:World} {p g cap:Nat} {lv nv:Value} {M:List StV} {W N:List In} (h:Rk w0 w p lv (.slice (some ⟨g,0,none⟩) W.length cap) nv M W N) {i:Nat} (hi:i<W.length) (cs:List Value) (hcs:¬cs=[]):Rk w0 ((w.alloc (.cells cs.toArray 9)).setCell ⟨g,i,none⟩ (.slice (some ⟨w.heap.size,0,none⟩) cs.length cs.length)) p lv (.slice (some ⟨g,0,none⟩) W.length cap) nv M (W.set i (w.heap.size,cs)) N:=by
 have h1:=h.out ((Out.refl w).alloc (.cells cs.toArray 9))
 obtain ⟨hgB,cur,hr⟩:=h1.wo.row rfl
 have hc:Chg (fun k=>k=g) (w.alloc (.cells cs.toArray 9)) ((w.alloc (.cells cs.toArray 9)).setCell ⟨g,i,none⟩ (.slice (some ⟨w.heap.size,0,none⟩) cs.length cs.length)):=Chg.setCell (S:=fun k=>k=g) (Chg.refl _ _) (p:=⟨g,i,none⟩) rfl _
 refine ⟨Chg.out hc h1.o (fun k hk=>by subst hk;exact hgB),h.hp,(hc.block p h1.lt (fun e=>kind_ne h1.at_ hr (by decide) e)).trans h1.at_,h1.li.imp id (fun ⟨g',a1,a2,a3⟩=>⟨g',a1,a2,a3.same (hc.block g' a3.lt (fun e=>kind_ne (a3) hr (by decide) e))⟩),h.wo.made (by decide) h.o.size hi cs hcs,h1.no.keep hc (fun k cur2 u e h9=>?_)⟩
 subst e
 rw [hr] at h9
 simp only [Option.some.injEq,Obj.cells.injEq] at h9
 rw [<-h9.2.1]
 decide
theorem Rk.numbersMade {w0 w:World} {p g cap:Nat} {lv wv:Value} {M:List StV} {W N:List In} (h:Rk w0 w p lv wv (.slice (some ⟨g,0,none⟩) N.length cap) M W N) {i:Nat} (hi:i<N.length) (cs:List Value) (hcs:¬cs=[]):Rk w0 ((w.alloc (.cells cs.toArray 3)).setCell ⟨g,i,none⟩ (.slice (some ⟨w.heap.size,0,none⟩) cs.length cs.length)) p lv wv (.slice (some ⟨g,0,none⟩) N.length cap) M W (N.set i (w.heap.size,cs)):=by
 have h1:=h.out ((Out.refl w).alloc (.cells cs.toArray 3))
 obtain ⟨hgB,cur,hr⟩:=h1.no.row rfl
 have hc:Chg (fun k=>k=g) (w.alloc (.cells cs.toArray 3)) ((w.alloc (.cells cs.toArray 3)).setCell ⟨g,i,none⟩ (.slice (some ⟨w.heap.size,0,none⟩) cs.length cs.length)):=Chg.setCell (S:=fun k=>k=g) (Chg.refl _ _) (p:=⟨g,i,none⟩) rfl _
 refine ⟨Chg.out hc h1.o (fun k hk=>by subst hk;exact hgB),h.hp,(hc.block p h1.lt (fun e=>kind_ne h1.at_ hr (by decide) e)).trans h1.at_,h1.li.imp id (fun ⟨g',a1,a2,a3⟩=>⟨g',a1,a2,a3.same (hc.block g' a3.lt (fun e=>kind_ne (a3) hr (by decide) e))⟩),h1.wo.keep hc (fun k cur2 u e h9=>?_),h.no.made (by decide) h.o.size hi cs hcs⟩
 subst e
 rw [hr] at h9
 simp only [Option.some.injEq,Obj.cells.injEq] at h9
 rw [<-h9.2.1]
 decide
def inA (y:In):Option Addr:=if y.2=[] then none else some ⟨y.1,0,none⟩
theorem inV_eq (y:In):inV y=.slice (inA y) y.2.length y.2.length:=by
 unfold inV inA
 by_cases h:y.2=[]
 · rw [if_pos h,if_pos h,h];rfl
 · rw [if_neg h,if_neg h]
theorem Ir.outer {B:Nat} {tu t:TypeId} {w:World} {v:Value} {W:List In} (h:Ir B tu t w v W) {i:Nat} {y:In} (hi:W[i]? = some y):∃ g c,v=.slice (some ⟨g,0,none⟩) W.length c/\W.length<=c/\w.cell? ⟨g,i,none⟩=some (.slice (inA y) y.2.length y.2.length)/\w.frozen? ⟨g,i,none⟩=false:=by
 have hl:=(List.getElem?_eq_some_iff.1 hi).1
 rcases h.own.2 with ⟨_,h0⟩ | ⟨g,cap,cur,rfl,hb,hg,hc,_⟩
 · omega
 ·
  refine ⟨g,cap,rfl,hc, ?_,World.ownsRow.frozenAt h.own i⟩
  rw [World.ownsRow.cellAt h.own i (by omega),List.getElem?_map,hi,Option.map_some,inV_eq]
def behS:Value:=.string ⟨#[98,101,104,105,110,100]⟩
def bhN (j:Nat):Value:=.int .i64 (-7 - (j:Int))
def bhNs (a k:Nat):List Value:=(List.range' a k).map bhN
theorem bhNs_len (a k:Nat):(bhNs a k).length=k:=by simp [bhNs]
theorem bhNs_get {a k j:Nat} (h:j<k):(bhNs a k)[j]? = some (bhN (a+j)):=by
 unfold bhNs
 rw [List.getElem?_map,List.getElem?_range' h]
 simp
theorem ovY_zero {α:Type} (T L:List α):ovY 0 T L=L:=by simp [ovY]
theorem ovY_all {α:Type} {T L:List α} {k:Nat} (h:k=T.length) (h2:T.length=L.length):ovY k T L=T:=by
 subst h
 unfold ovY
 rw [List.take_length,List.drop_of_length_le (by omega),List.append_nil]
theorem ovY_rep {T:List Value} {L:Nat} (x:Value):ovY T.length T (List.replicate L x)=T++List.replicate (L - T.length) x:=by simp [ovY]
theorem ovY_bh {T:List Value} {L:Nat} (h:T.length<=L):ovY T.length T (bhNs 0 L)=T++bhNs T.length (L - T.length):=by
 unfold ovY bhNs
 rw [List.take_length, <-List.map_drop,List.drop_range']
 simp
def BdI (W:List In):Prop:=∀ (i:Nat) (y:In),W[i]? = some y->y.2.length<=3000000
theorem BdI.set {W:List In} (h:BdI W) (i:Nat) {z:In} (hz:z.2.length<=3000000):BdI (W.set i z):=fun k y hy=>by
 rcases get_set hy with ⟨_,rfl⟩ | ⟨_,h2⟩
 · exact hz
 · exact h k y h2
theorem BdI.snoc {W:List In} (h:BdI W):BdI (W++[(0,[])]):=fun k y hy=>by
 by_cases hl:k<W.length
 · rw [List.getElem?_append_left hl] at hy;exact h k y hy
 ·
  rw [List.getElem?_append_right (by omega)] at hy
  rw [List.mem_singleton.1 (List.mem_of_getElem? hy)]
  simp
theorem set_at {α:Type} {W:List α} {j:Nat} (h:j<W.length) (z:α):(W.set j z)[j]? = some z:=by
 rw [List.getElem?_set,if_pos rfl,if_pos h]
theorem set_off {α:Type} {W:List α} {i j:Nat} (h:¬i=j) (z:α):(W.set i z)[j]? = W[j]?:=by
 rw [List.getElem?_set,if_neg h]
theorem set_same {α:Type} {W:List α} {j:Nat} {y:α} (h:W[j]? = some y):W.set j y=W:=by
 apply List.ext_getElem?
 intro k
 rw [List.getElem?_set]
 by_cases e:j=k
 ·
  subst e
  rw [if_pos rfl,if_pos (List.getElem?_eq_some_iff.1 h).1,h]
 · rw [if_neg e]
structure Lent (Y:List StV) (j:Nat) (M:List StV) (W N:List In):Prop where
 one:∀ (i:Nat) (y:StV),i<j->Y[i]? = some y->∃ gw kw gn kn,W[i]? = some (gw,strsC y.1.ws++List.replicate (kw+5) behS)/\N[i]? = some (gn,intsC y.1.ns++bhNs y.1.ns.length (kn+5))/\M[i]? = some (y.1,.slice (some ⟨gw,0,none⟩) y.1.ws.length (y.1.ws.length+(kw+5)),.slice (some ⟨gn,0,none⟩) y.1.ns.length (y.1.ns.length+(kn+5)))
 beh:∀ i,j<=i->i<M.length->M[i]? = some (behY i)
theorem Lent.step {Y:List StV} {j:Nat} {M:List StV} {W N:List In} (h:Lent Y j M W N) {y:StV} (hy:Y[j]? = some y) (hM:j<M.length) (hW:j<W.length) (hN:j<N.length) (gw kw gn kn:Nat) :
  Lent Y (j+1) (M.set j (y.1,.slice (some ⟨gw,0,none⟩) y.1.ws.length (y.1.ws.length+(kw+5)),.slice (some ⟨gn,0,none⟩) y.1.ns.length (y.1.ns.length+(kn+5)))) (W.set j (gw,strsC y.1.ws++List.replicate (kw+5) behS)) (N.set j (gn,intsC y.1.ns++bhNs y.1.ns.length (kn+5))):=by
 refine ⟨fun i z hi hz=>?_,fun i hi hl=>?_⟩
 ·
  by_cases e:j=i
  ·
   subst e
   rw [hy] at hz
   obtain rfl:=Option.some.inj hz
   exact ⟨gw,kw,gn,kn,set_at hW _,set_at hN _,set_at hM _⟩
  ·
   obtain ⟨a,b,c,d,h1,h2,h3⟩:=h.one i z (by omega) hz
   exact ⟨a,b,c,d,by rw [set_off e];exact h1,by rw [set_off e];exact h2,by rw [set_off e];exact h3⟩
 ·
  rw [List.length_set] at hl
  rw [set_off (by omega)]
  exact h.beh i (by omega) hl
theorem Rk.atW {w0 w:World} {p gw lw wc:Nat} {lv nv:Value} {M:List StV} {W N:List In} (h:Rk w0 w p lv (.slice (some ⟨gw,0,none⟩) lw wc) nv M W N) {j:Nat} {y:In} (hj:W[j]? = some y):w.cell? ⟨gw,j,none⟩=some (.slice (inA y) y.2.length y.2.length)/\w.frozen? ⟨gw,j,none⟩=false/\lw=W.length:=by
 obtain ⟨g,c,e,_,h1,h2⟩:=h.wo.outer hj
 simp only [Value.slice.injEq,Option.some.injEq,Addr.mk.injEq,and_true] at e
 obtain ⟨rfl,rfl,rfl⟩:=e
 exact ⟨h1,h2,rfl⟩
theorem Rk.atN {w0 w:World} {p gn ln nc:Nat} {lv wv:Value} {M:List StV} {W N:List In} (h:Rk w0 w p lv wv (.slice (some ⟨gn,0,none⟩) ln nc) M W N) {j:Nat} {y:In} (hj:N[j]? = some y):w.cell? ⟨gn,j,none⟩=some (.slice (inA y) y.2.length y.2.length)/\w.frozen? ⟨gn,j,none⟩=false/\ln=N.length:=by
 obtain ⟨g,c,e,_,h1,h2⟩:=h.no.outer hj
 simp only [Value.slice.injEq,Option.some.injEq,Addr.mk.injEq,and_true] at e
 obtain ⟨rfl,rfl,rfl⟩:=e
 exact ⟨h1,h2,rfl⟩
theorem inA_some {g:Nat} {cs:List Value} (h:0<cs.length):inA (g,cs)=some ⟨g,0,none⟩:=by
 unfold inA
 rw [if_neg]
 intro e
 simp only at e
 rw [e] at h
 simp at h
theorem Rk.inW {w0 w:World} {p:Nat} {lv wv nv:Value} {M:List StV} {W N:List In} (h:Rk w0 w p lv wv nv M W N) {j g:Nat} {cs:List Value} (hj:W[j]? = some (g,cs)) {t:Nat} {u:Value} (hu:cs[t]? = some u):w.cell? ⟨g,t,none⟩=some u/\w.frozen? ⟨g,t,none⟩=false:=by
 have hn:¬(g,cs).2=[]:=fun e=>by simp only at e;rw [e] at hu;simp at hu
 obtain ⟨_,hb⟩:=h.wo.blk j _ hj hn
 refine ⟨?_,frozen_atL hb t⟩
 rw [cell_atL hb,List.getElem?_toArray]
 exact hu
theorem Rk.inN {w0 w:World} {p:Nat} {lv wv nv:Value} {M:List StV} {W N:List In} (h:Rk w0 w p lv wv nv M W N) {j g:Nat} {cs:List Value} (hj:N[j]? = some (g,cs)) {t:Nat} {u:Value} (hu:cs[t]? = some u):w.cell? ⟨g,t,none⟩=some u/\w.frozen? ⟨g,t,none⟩=false:=by
 have hn:¬(g,cs).2=[]:=fun e=>by simp only at e;rw [e] at hu;simp at hu
 obtain ⟨_,hb⟩:=h.no.blk j _ hj hn
 refine ⟨?_,frozen_atL hb t⟩
 rw [cell_atL hb,List.getElem?_toArray]
 exact hu
theorem Rk.stW {w0 w:World} {p:Nat} {lv wv nv:Value} {M:List StV} {W N:List In} {j g t:Nat} {cs:List Value} (h:Rk w0 w p lv wv nv M (W.set j (g,cs)) N) (hj:j<W.length) (hn:0<cs.length) (u:Value):Rk w0 (w.setCell ⟨g,t,none⟩ u) p lv wv nv M (W.set j (g,cs.set t u)) N:=by
 have:=h.setW (set_at hj _) (by intro e;simp only at e;rw [e] at hn;simp at hn) t u
 rw [List.set_set] at this
 exact this
theorem Rk.stN {w0 w:World} {p:Nat} {lv wv nv:Value} {M:List StV} {W N:List In} {j g t:Nat} {cs:List Value} (h:Rk w0 w p lv wv nv M W (N.set j (g,cs))) (hj:j<N.length) (hn:0<cs.length) (u:Value):Rk w0 (w.setCell ⟨g,t,none⟩ u) p lv wv nv M W (N.set j (g,cs.set t u)):=by
 have:=h.setN (set_at hj _) (by intro e;simp only at e;rw [e] at hn;simp at hn) t u
 rw [List.set_set] at this
 exact this
theorem Rk.box {w0 w:World} {p gl m b:Nat} {wv nv:Value} {M:List StV} {W N:List In} (h:Rk w0 w p (.slice (some ⟨gl,0,none⟩) m m) wv nv M W N) {cur:Array Value} (hb:w.heap[b]? = some (.cells cur 42 (0,0))) (hn:¬b=gl) (h0:w0.heap.size<=b) (j:Nat) (u:Value):Rk w0 (w.setCell ⟨b,j,none⟩ u) p (.slice (some ⟨gl,0,none⟩) m m) wv nv M W N:=by
 have hc:Chg (fun k=>k=b) w (w.setCell ⟨b,j,none⟩ u):=Chg.setCell (S:=fun k=>k=b) (Chg.refl _ w) (p:=⟨b,j,none⟩) rfl _
 have hk:∀ k cur2 u2,k=b->w.heap[k]? = some (.cells cur2 u2 (0,0))->u2 = 42:=fun k cur2 u2 e h9=>by
  subst e
  rw [hb] at h9
  simp only [Option.some.injEq,Obj.cells.injEq] at h9
  exact h9.2.1.symm
 refine ⟨Chg.out hc h.o (fun k e=>by subst e;exact h0),h.hp,(hc.block p h.lt (fun e=>kind_ne h.at_ hb (by decide) e)).trans h.at_, ?_,h.wo.keep hc (fun k cur2 u2 e h9=>by rw [hk k cur2 u2 e h9];decide),h.no.keep hc (fun k cur2 u2 e h9=>by rw [hk k cur2 u2 e h9];decide)⟩
 rcases h.li with ⟨e,_⟩ | ⟨g',e,hb2,hg⟩
 · cases e
 ·
  refine .inr ⟨g',e,hb2,hg.same (hc.block g' hg.lt (fun e2=>hn ?_))⟩
  simp only [Value.slice.injEq,Option.some.injEq,Addr.mk.injEq,and_true] at e
  rw [<-e2,e.1]
theorem infoSt6:(Tryz.prog.info? 42).map (fun i=>(i.zero,i.size,i.bytes))=some (some (.agg #[.int .i64 0,.string ⟨#[]⟩,.slice none 0 0,.slice none 0 0,.int .i64 0,.int .i64 0,.int .i64 0,.int .i64 0,.int .i64 0,.string ⟨#[]⟩,.int .i64 0]),11,136):=by kernel_rfl
theorem run_make_sts (n:Nat) (hn:136*n<=140737488355328) (w:World):(Instr.makeSlice 24 (.int .i64 (n:Int)) (.int .i64 (n:Int))).run Tryz.prog w=.ok (.slice (some ⟨w.heap.size,0,none⟩) n n) (w.alloc (.cells (stC (List.replicate n zeroY)).toArray 42)):=by
 obtain ⟨i0,hi,hz0,hz1,hz2⟩:=info_parts infoSt6
 have h:=run_make (P:=Tryz.prog) w 24 42 i0 _ Tryz.underlying24 hi hz0 .i64 .i64 (n:Int) (n:Int) (by omega) (Int.le_refl _) (by rw [hz2];omega) (by omega)
 rw [hz1] at h
 simp only [Int.toNat_natCast,Value.cells] at h
 rw [made_sts] at h
 exact h
theorem RowY.cells11 {w:World} {g:Nat} {L:List StV} (h:RowY w g L) {i:Nat} {z:StV} (hz:L[i]? = some z):w.cell? ⟨g,i*11,none⟩=some (.int .i64 z.1.k)/\w.cell? ⟨g,i*11+1,none⟩=some (.string ⟨z.1.nm.toArray⟩)/\w.cell? ⟨g,i*11+2,none⟩=some (z.2.1)/\w.cell? ⟨g,i*11+3,none⟩=some (z.2.2)/\w.cell? ⟨g,i*11+4,none⟩=some (.int .i64 z.1.o)/\w.cell? ⟨g,i*11+5,none⟩=some (.int .i64 z.1.d)/\w.cell? ⟨g,i*11+6,none⟩=some (.int .i64 z.1.s)/\w.cell? ⟨g,i*11+7,none⟩=some (.int .i64 z.1.f)/\w.cell? ⟨g,i*11+8,none⟩=some (.int .i64 z.1.i)/\w.cell? ⟨g,i*11+9,none⟩=some (.string ⟨z.1.tg.toArray⟩)/\w.cell? ⟨g,i*11+10,none⟩=some (.int .i64 z.1.l):=
 ⟨h.cells hz 0 _ rfl,h.cells hz 1 _ rfl,h.cells hz 2 _ rfl,h.cells hz 3 _ rfl,h.cells hz 4 _ rfl,h.cells hz 5 _ rfl,h.cells hz 6 _ rfl,h.cells hz 7 _ rfl,h.cells hz 8 _ rfl,h.cells hz 9 _ rfl,h.cells hz 10 _ rfl⟩
theorem RowY.frozen11 {w:World} {g:Nat} {L:List StV} (h:RowY w g L) (i:Nat):w.frozen? ⟨g,i*11,none⟩=false/\w.frozen? ⟨g,i*11+1,none⟩=false/\w.frozen? ⟨g,i*11+2,none⟩=false/\w.frozen? ⟨g,i*11+3,none⟩=false/\w.frozen? ⟨g,i*11+4,none⟩=false/\w.frozen? ⟨g,i*11+5,none⟩=false/\w.frozen? ⟨g,i*11+6,none⟩=false/\w.frozen? ⟨g,i*11+7,none⟩=false/\w.frozen? ⟨g,i*11+8,none⟩=false/\w.frozen? ⟨g,i*11+9,none⟩=false/\w.frozen? ⟨g,i*11+10,none⟩=false:=
 ⟨h.frozen _,h.frozen _,h.frozen _,h.frozen _,h.frozen _,h.frozen _,h.frozen _,h.frozen _,h.frozen _,h.frozen _,h.frozen _⟩
def wlen (w:World) (p:Nat):Nat:=match w.cell? ⟨p,1,none⟩ with | some (.slice _ n _)=>n | _=>0
theorem wlen_of {w:World} {p n c:Nat} {a:Option Addr} (h:w.cell? ⟨p,1,none⟩=some (.slice a n c)):wlen w p=n:=by unfold wlen;rw [h]
theorem Rk.at4W {w0 w wA w4:World} {p:Nat} {lv wv nv:Value} {M:List StV} {W N:List In} (h:Rk w0 w p lv wv nv M W N) (o:Out w wA) (hg:wA.grownBy w4 wv.ownBlock):w4.heap[p]? = some (.cells #[lv,wv,nv] 28 (0,0)):=by
 have hA:=h.out o
 refine (hg.block p hA.lt (fun e=>?_)).trans hA.at_
 obtain ⟨_,cur,hr⟩:=hA.wo.row e.symm
 exact kind_ne hr hA.at_ (by decide) rfl
theorem Rk.at4N {w0 w wA w4:World} {p:Nat} {lv wv nv:Value} {M:List StV} {W N:List In} (h:Rk w0 w p lv wv nv M W N) (o:Out w wA) (hg:wA.grownBy w4 nv.ownBlock):w4.heap[p]? = some (.cells #[lv,wv,nv] 28 (0,0)):=by
 have hA:=h.out o
 refine (hg.block p hA.lt (fun e=>?_)).trans hA.at_
 obtain ⟨_,cur,hr⟩:=hA.no.row e.symm
 exact kind_ne hr hA.at_ (by decide) rfl
theorem infoW6:(Tryz.prog.info? 37).map (fun i=>(i.zero,i.size,i.bytes))=some (some (.slice none 0 0),1,24):=by kernel_rfl
theorem infoN6:(Tryz.prog.info? 38).map (fun i=>(i.zero,i.size,i.bytes))=some (some (.slice none 0 0),1,24):=by kernel_rfl
theorem Rk.row {w0 w:World} {p g m:Nat} {wv nv:Value} {M:List StV} {W N:List In} (h:Rk w0 w p (.slice (some ⟨g,0,none⟩) m m) wv nv M W N):M.length=m/\w0.heap.size<=g/\RowY w g M/\¬g=p:=by
 rcases h.li with ⟨e,_⟩ | ⟨g',e,hb,hg⟩
 · cases e
 ·
  simp only [Value.slice.injEq,Option.some.injEq,Addr.mk.injEq,and_true] at e
  obtain ⟨rfl,hm,_⟩:=e
  exact ⟨hm.symm,hb,hg,kind_ne (show w.heap[g]? = _ from hg) h.at_ (by decide)⟩
theorem made_one (v:Value) (N:Nat):madeCells #[v] (N*1)=(List.replicate N v).toArray:=by
 apply Array.ext_getElem?
 intro j
 simp only [madeCells,Array.getElem?_map,List.getElem?_toArray,Nat.mul_one,List.getElem?_replicate,Array.getElem?_range]
 by_cases hj:j<N
 · rw [if_pos hj,if_pos hj];simp [Nat.mod_one]
 · rw [if_neg hj,if_neg hj];rfl
theorem run_make_strs (n:Nat) (hn:16*n<=140737488355328) (w:World):(Instr.makeSlice 37 (.int .i64 (n:Int)) (.int .i64 (n:Int))).run Tryz.prog w=.ok (.slice (some ⟨w.heap.size,0,none⟩) n n) (w.alloc (.cells (List.replicate n (.string ⟨#[]⟩)).toArray 9)):=by
 obtain ⟨i0,hi,hz0,hz1,hz2⟩:=info_parts infoS6
 have h:=run_make (P:=Tryz.prog) w 37 9 i0 _ Tryz.underlying37 hi hz0 .i64 .i64 (n:Int) (n:Int) (by omega) (Int.le_refl _) (by rw [hz2];omega) (by omega)
 rw [hz1] at h
 simp only [Int.toNat_natCast,Value.cells] at h
 rw [made_one] at h
 exact h
theorem run_make_nums (n:Nat) (hn:8*n<=140737488355328) (w:World):(Instr.makeSlice 38 (.int .i64 (n:Int)) (.int .i64 (n:Int))).run Tryz.prog w=.ok (.slice (some ⟨w.heap.size,0,none⟩) n n) (w.alloc (.cells (List.replicate n (.int .i64 0)).toArray 3)):=by
 obtain ⟨i0,hi,hz0,hz1,hz2⟩:=info_parts infoI6
 have h:=run_make (P:=Tryz.prog) w 38 3 i0 _ Tryz.underlying38 hi hz0 .i64 .i64 (n:Int) (n:Int) (by omega) (Int.le_refl _) (by rw [hz2];omega) (by omega)
 rw [hz1] at h
 simp only [Int.toNat_natCast,Value.cells] at h
 rw [made_one] at h
 exact h
theorem RowY.there {w:World} {g:Nat} {M:List StV} (h:RowY w g M) {i:Nat} (hi:i<M.length):w.there g (i*11) 11:=fun j hj=>by
 refine ⟨?_,h.frozen _⟩
 rw [cell_atL (show w.heap[g]? = _ from h),List.getElem?_toArray,List.getElem?_eq_getElem (by rw [stC_len];omega)]
 rfl
def Rok (w0 w:World) (p:Nat):Prop:=∃ (la:Option Addr) (lc:Nat) (wv nv:Value) (M:List StV) (W N:List In),Rk w0 w p (.slice la M.length lc) wv nv M W N/\N.length=W.length/\W.length<=2000000/\M.length<=3000000/\BdI W/\BdI N
def Rln (w0 w:World) (p gl m:Nat) (Y:List StV):Prop:=∃ (wv nv:Value) (M:List StV) (W N:List In),Rk w0 w p (.slice (some ⟨gl,0,none⟩) m m) wv nv M W N/\M.length=m/\N.length=W.length/\W.length<=2000000/\m<=3000000/\BdI W/\BdI N/\Y.length<=W.length/\Y.length<m/\Lent Y Y.length M W N
theorem Lent.zero {Y:List StV} {m:Nat} {M M':List StV} {W N:List In} (h:M=ovY m (behsY 0 m) M') (hm:m=M'.length):M.length=m/\Lent Y 0 M W N:=by
 have e:M=behsY 0 m:=by rw [h,ovY_all (by rw [behsY_len]) (by rw [behsY_len];exact hm)]
 refine ⟨by rw [e,behsY_len],fun i y hi=>by omega,fun i _ hi=>?_⟩
 rw [e] at hi ⊢
 rw [behsY_len] at hi
 rw [behsY_get hi,Nat.zero_add]
end Go.Proofs.YtadneimllbfdnaaGreatDoor
