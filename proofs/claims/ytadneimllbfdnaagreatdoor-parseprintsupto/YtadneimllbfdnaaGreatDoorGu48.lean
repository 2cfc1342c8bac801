import Derived.Test.YtadneimllbfdnaaGreatDoorGu47
import Derived.Laws.OwnMore
namespace Go.Proofs.YtadneimllbfdnaaGreatDoor
open Go.RowKit
set_option linter.unusedVariables false
set_option linter.unusedSimpArgs false
abbrev StV:=Stm × Value × Value
def RowY (w:World) (g:Nat) (L:List StV):Prop:=w.heap[g]? = some (.cells (stC L).toArray 42 (0,0))
theorem RowY.lt {w:World} {g:Nat} {L:List StV} (h:RowY w g L):g<w.heap.size:=(Array.getElem?_eq_some_iff.1 h).1
theorem RowY.same {w w':World} {g:Nat} {L:List StV} (h:RowY w g L) (e:w'.heap[g]? = w.heap[g]?):RowY w' g L:=e.trans h
theorem RowY.out {w w':World} {g:Nat} {L:List StV} (h:RowY w g L) (o:Out w w'):RowY w' g L:=h.same (o.block g h.lt)
theorem RowY.cells {w:World} {g:Nat} {L:List StV} (h:RowY w g L) {i:Nat} {y:StV} (hy:L[i]? = some y) (j:Nat) (u:Value) (hu:(stL y.1 y.2.1 y.2.2)[j]? = some u):w.cell? ⟨g,i*11+j,none⟩=some u:=by
 have hj:j<11:=by have:=(List.getElem?_eq_some_iff.1 hu).1;simpa [stL] using this
 rw [cell_atL (show w.heap[g]? = _ from h),List.getElem?_toArray,stC_get L i y j hy hj]
 exact hu
theorem RowY.frozen {w:World} {g:Nat} {L:List StV} (h:RowY w g L) (j:Nat):w.frozen? ⟨g,j,none⟩=false:=frozen_atL (show w.heap[g]? = _ from h) j
theorem stC_app (A B:List StV):stC (A++B)=stC A++stC B:=by simp [stC]
theorem stC_cons (y:StV) (B:List StV):stC (y::B)=stL y.1 y.2.1 y.2.2++stC B:=by simp [stC]
theorem stC_len:∀ L:List StV,(stC L).length=L.length*11
 | []=>rfl
 | y::L=>by rw [stC_cons,List.length_append,stC_len L,List.length_cons];simp [stL];omega
theorem put11_list (A C:List Value) (y0 y1 y2 y3 y4 y5 y6 y7 y8 y9 y10 x0 x1 x2 x3 x4 x5 x6 x7 x8 x9 x10:Value) (k:Nat) (hk:A.length=k):((((((((((((A++([y0,y1,y2,y3,y4,y5,y6,y7,y8,y9,y10]++C))).set (k) x0).set (k+1) x1).set (k+2) x2).set (k+3) x3).set (k+4) x4).set (k+5) x5).set (k+6) x6).set (k+7) x7).set (k+8) x8).set (k+9) x9).set (k+10) x10=A++([x0,x1,x2,x3,x4,x5,x6,x7,x8,x9,x10]++C):=by
 subst hk
 simp [List.set_append]
def put11 (w:World) (g o:Nat) (y:StV):World:=(((((((((((w).setCell ⟨g,o,none⟩ (.int .i64 y.1.k)).setCell ⟨g,o+1,none⟩ (.string ⟨y.1.nm.toArray⟩)).setCell ⟨g,o+2,none⟩ (y.2.1)).setCell ⟨g,o+3,none⟩ (y.2.2)).setCell ⟨g,o+4,none⟩ (.int .i64 y.1.o)).setCell ⟨g,o+5,none⟩ (.int .i64 y.1.d)).setCell ⟨g,o+6,none⟩ (.int .i64 y.1.s)).setCell ⟨g,o+7,none⟩ (.int .i64 y.1.f)).setCell ⟨g,o+8,none⟩ (.int .i64 y.1.i)).setCell ⟨g,o+9,none⟩ (.string ⟨y.1.tg.toArray⟩)).setCell ⟨g,o+10,none⟩ (.int .i64 y.1.l)
theorem stC_split (L:List StV) (i:Nat) (y:StV) (h:L[i]? = some y):stC L=stC (L.take i)++(stL y.1 y.2.1 y.2.2++stC (L.drop (i+1))):=by
 have hk:i<L.length:=(List.getElem?_eq_some_iff.1 h).1
 have hd:=List.drop_eq_getElem_cons hk
 have hx':L[i]=y:=by rw [List.getElem?_eq_getElem hk] at h;exact Option.some.inj h
 rw [hx'] at hd
 rw [<-stC_cons, <-hd, <-stC_app,List.take_append_drop]
theorem stC_setAt (L:List StV) (i:Nat) (y:StV) (hi:i<L.length):stC (L.set i y)=stC (L.take i)++(stL y.1 y.2.1 y.2.2++stC (L.drop (i+1))):=by
 rw [List.set_eq_take_append_cons_drop,if_pos hi,stC_app,stC_cons]
theorem stC_takeLen (L:List StV) (i:Nat) (hi:i<L.length):(stC (L.take i)).length=i*11:=by rw [stC_len,List.length_take,Nat.min_eq_left (by omega)]
theorem RowY.set {w:World} {g:Nat} {L:List StV} (h:RowY w g L) {i:Nat} (hi:i<L.length) (y:StV):RowY (put11 w g (i*11) y) g (L.set i y):=by
 have h4:=set_atL (set_atL (set_atL (set_atL (set_atL (set_atL (set_atL (set_atL (set_atL (set_atL (set_atL (show w.heap[g]? = _ from h) (i*11) (.int .i64 y.1.k)) (i*11+1) (.string ⟨y.1.nm.toArray⟩)) (i*11+2) (y.2.1)) (i*11+3) (y.2.2)) (i*11+4) (.int .i64 y.1.o)) (i*11+5) (.int .i64 y.1.d)) (i*11+6) (.int .i64 y.1.s)) (i*11+7) (.int .i64 y.1.f)) (i*11+8) (.int .i64 y.1.i)) (i*11+9) (.string ⟨y.1.tg.toArray⟩)) (i*11+10) (.int .i64 y.1.l)
 unfold RowY put11
 rw [h4]
 simp only [List.setIfInBounds_toArray]
 obtain ⟨x,hx⟩:∃ x,L[i]? = some x:=⟨_,List.getElem?_eq_getElem hi⟩
 rw [stC_split L i x hx,stC_setAt L i y hi]
 unfold stL
 rw [put11_list _ _ _ _ _ _ _ _ _ _ _ _ _ _ _ _ _ _ _ _ _ _ _ _ (i*11) (stC_takeLen L i hi)]
theorem put11_other {w:World} {p g o:Nat} {y:StV} (h:¬p=g):(put11 w g o y).heap[p]? = w.heap[p]?:=by
 unfold put11
 rw [Below.heap_setCell _ _ _ _ h,Below.heap_setCell _ _ _ _ h,Below.heap_setCell _ _ _ _ h,Below.heap_setCell _ _ _ _ h,Below.heap_setCell _ _ _ _ h,Below.heap_setCell _ _ _ _ h,Below.heap_setCell _ _ _ _ h,Below.heap_setCell _ _ _ _ h,Below.heap_setCell _ _ _ _ h,Below.heap_setCell _ _ _ _ h,Below.heap_setCell _ _ _ _ h]
theorem chg11 {g:Nat} {W w:World} (h:Chg (fun k=>k=g) W w) (o:Nat) (y:StV):Chg (fun k=>k=g) W (put11 w g o y):=(((((((((((h).setCell (p:=⟨g,o,none⟩) rfl _).setCell (p:=⟨g,o+1,none⟩) rfl _).setCell (p:=⟨g,o+2,none⟩) rfl _).setCell (p:=⟨g,o+3,none⟩) rfl _).setCell (p:=⟨g,o+4,none⟩) rfl _).setCell (p:=⟨g,o+5,none⟩) rfl _).setCell (p:=⟨g,o+6,none⟩) rfl _).setCell (p:=⟨g,o+7,none⟩) rfl _).setCell (p:=⟨g,o+8,none⟩) rfl _).setCell (p:=⟨g,o+9,none⟩) rfl _).setCell (p:=⟨g,o+10,none⟩) rfl _
def zeroY:StV:=(⟨0,[],[],[],0,0,0,0,0,[],0⟩,.slice none 0 0,.slice none 0 0)
theorem made_sts (N:Nat):madeCells #[.int .i64 0,.string ⟨#[]⟩,.slice none 0 0,.slice none 0 0,.int .i64 0,.int .i64 0,.int .i64 0,.int .i64 0,.int .i64 0,.string ⟨#[]⟩,.int .i64 0] (N*11)=(stC (List.replicate N zeroY)).toArray:=by
 apply Array.ext_getElem?
 intro j
 simp only [madeCells,Array.getElem?_map,List.getElem?_toArray]
 by_cases hj:j<N*11
 ·
  rw [Array.getElem?_range,if_pos hj]
  have h4:j % 11<11:=Nat.mod_lt _ (by omega)
  have hg:=stC_get (List.replicate N zeroY) (j / 11) zeroY (j % 11) (by rw [List.getElem?_replicate,if_pos (by omega)]) h4
  rw [show j / 11*11+j % 11=j by omega] at hg
  rw [hg]
  have:∀ k,k<11->some ((#[.int .i64 0,.string ⟨#[]⟩,.slice none 0 0,.slice none 0 0,.int .i64 0,.int .i64 0,.int .i64 0,.int .i64 0,.int .i64 0,.string ⟨#[]⟩,.int .i64 0]:Array Value)[k]!)=(stL zeroY.1 zeroY.2.1 zeroY.2.2)[k]?:=by
   intro k hk
   match k,hk with
   | 0,_=>rfl
   | 1,_=>rfl
   | 2,_=>rfl
   | 3,_=>rfl
   | 4,_=>rfl
   | 5,_=>rfl
   | 6,_=>rfl
   | 7,_=>rfl
   | 8,_=>rfl
   | 9,_=>rfl
   | 10,_=>rfl
  exact this _ h4
 · rw [Array.getElem?_range,if_neg hj,List.getElem?_eq_none (by rw [stC_len,List.length_replicate];omega)];rfl
def behY (i:Nat):StV:=(⟨50+(i:Int),[98,101,104,105,110,100],[],[],0,0,0,0,0,[],0⟩,.slice none 0 0,.slice none 0 0)
def mineY:StV:=(⟨49,[],[],[],0,0,0,0,0,[],0⟩,.slice none 0 0,.slice none 0 0)
def behsY (a k:Nat):List StV:=(List.range' a k).map behY
theorem behsY_len (a k:Nat):(behsY a k).length=k:=by simp [behsY]
theorem behsY_get {n k j:Nat} (h:j<k):(behsY n k)[j]? = some (behY (n+j)):=by
 unfold behsY
 rw [List.getElem?_map,List.getElem?_range' h]
 simp
def ovY {α:Type} (j:Nat) (T L:List α):List α:=T.take j++L.drop j
theorem ovY_len {α:Type} {j:Nat} {T L:List α} (h:j<=T.length) (h2:T.length<=L.length):(ovY j T L).length=L.length:=by simp [ovY];omega
theorem ovY_set {α:Type} {j:Nat} {T L:List α} {x:α} (h:T[j]? = some x) (h2:T.length<=L.length):(ovY j T L).set j x=ovY (j+1) T L:=by
 have hj:=(List.getElem?_eq_some_iff.1 h).1
 unfold ovY
 have hl:(T.take j).length=j:=by rw [List.length_take];omega
 rw [List.set_append_right _ _ (by omega),hl,Nat.sub_self,List.drop_eq_getElem_cons (by omega:j<L.length),List.set_cons_zero,List.take_add_one,h]
 simp
theorem sizeSt6:(Tryz.prog.info? 42).map (·.size)=some 11:=by kernel_rfl
set_option maxRecDepth 4000 in
theorem behind_any (i:Nat) (hi:i<=1000000000000) (w:World):Calls Tryz.prog 19 #[.int .i64 i] w fun e w'=>e=.returned (stE (behY i).1 (behY i).2.1 (behY i).2.2)/\Out w w':=by
 go_enter Tryz.func19,Tryz.ntmps19
 go_wp2
 refine bodyPost_ret (results_cell_row rfl _ _ w.heap.size 42 _ (0,0) _ rfl (heap_alloc_new _ _) Tryz.underlying42 rfl sizeSt6) rfl ?_
 exact ⟨rfl,(Out.refl w).alloc _⟩
theorem kind_ne {w:World} {a b:Nat} {x y:Array Value} {t u:TypeId} {f g:Nat × Nat} (h:w.heap[a]? = some (.cells x t f)) (h2:w.heap[b]? = some (.cells y u g)) (hn:¬t=u):¬a=b:=by
 rintro rfl
 rw [h] at h2
 simp only [Option.some.injEq,Obj.cells.injEq] at h2
 exact hn h2.2.1
abbrev In:=Nat × List Value
def inV (y:In):Value:=if y.2=[] then .slice none 0 0 else .slice (some ⟨y.1,0,none⟩) y.2.length y.2.length
structure Ir (B:Nat) (tu t:TypeId) (w:World) (v:Value) (W:List In):Prop where
 own:w.ownsRow B tu 1 v W.length (W.map inV)
 blk:∀ (i:Nat) (y:In),W[i]? = some y->¬y.2=[]->B<=y.1/\w.heap[y.1]? = some (.cells y.2.toArray t (0,0))
 dst:∀ (i j:Nat) (y z:In),W[i]? = some y->W[j]? = some z->¬i=j->¬y.2=[]->¬z.2=[]->¬y.1=z.1
theorem Ir.nil (B:Nat) (tu t:TypeId) (w:World):Ir B tu t w (.slice none 0 0) []:=
 ⟨World.ownsRow_nil _ _ _ _,fun i y h=>by simp at h,fun i j y z h=>by simp at h⟩
theorem Ir.row {B:Nat} {tu t:TypeId} {w:World} {v:Value} {W:List In} (h:Ir B tu t w v W) {k:Nat} (hk:v.ownBlock=some k):B<=k/\∃ cur,w.heap[k]? = some (.cells cur tu (0,0)):=by
 rcases h.own.2 with ⟨rfl,_⟩ | ⟨g,cap,cur,rfl,hb,hg,_⟩
 · cases hk
 ·
  simp only [Value.ownBlock,Option.some.injEq] at hk
  subst hk
  exact ⟨hb,cur,hg⟩
theorem Ir.keep {B:Nat} {tu t:TypeId} {w w':World} {v:Value} {W:List In} (h:Ir B tu t w v W) {S:Nat->Prop} (hc:Chg S w w') (hs:∀ k cur u,S k->w.heap[k]? = some (.cells cur u (0,0))->¬u=tu/\¬u=t):Ir B tu t w' v W:=by
 refine ⟨owns_chg h.own (fun k hk sk=>?_) hc,fun i y hi hn=>?_,h.dst⟩
 ·
  obtain ⟨_,cur,hg⟩:=h.row hk
  exact (hs k cur tu sk hg).1 rfl
 ·
  obtain ⟨h1,h2⟩:=h.blk i y hi hn
  exact ⟨h1,(hc.block y.1 (Array.getElem?_eq_some_iff.1 h2).1 (fun sk=>(hs _ _ t sk h2).2 rfl)).trans h2⟩
theorem Ir.out {B:Nat} {tu t:TypeId} {w w':World} {v:Value} {W:List In} (h:Ir B tu t w v W) (o:Out w w'):Ir B tu t w' v W:=
 h.keep (S:=fun _=>False) (Chg.of_out o) (fun _ _ _ h _=>h.elim)
theorem inV_set {W:List In} {i:Nat} {y z:In} (h:W[i]? = some y) (he:inV z=inV y):(W.set i z).map inV=W.map inV:=by
 apply List.ext_getElem?
 intro k
 rw [List.getElem?_map,List.getElem?_map,List.getElem?_set]
 by_cases hk:i=k
 ·
  subst hk
  rw [if_pos rfl,if_pos (List.getElem?_eq_some_iff.1 h).1,h]
  simp [he]
 · rw [if_neg hk]
theorem get_set {W:List In} {i j:Nat} {x z:In} (h:(W.set i z)[j]? = some x):(i=j/\x=z)\/(¬i=j/\W[j]? = some x):=by
 rw [List.getElem?_set] at h
 by_cases hk:i=j
 ·
  rw [if_pos hk] at h
  by_cases hl:i<W.length
  · rw [if_pos hl] at h;exact .inl ⟨hk,(Option.some.inj h).symm⟩
  · rw [if_neg hl] at h;cases h
 · rw [if_neg hk] at h;exact .inr ⟨hk,h⟩
theorem Ir.setI {B:Nat} {tu t:TypeId} {w:World} {v:Value} {W:List In} (h:Ir B tu t w v W) (hk:¬tu=t) {i:Nat} {y:In} (hi:W[i]? = some y) (hn:¬y.2=[]) (j:Nat) (u:Value):Ir B tu t (w.setCell ⟨y.1,j,none⟩ u) v (W.set i (y.1,y.2.set j u)):=by
 obtain ⟨hb,hg⟩:=h.blk i y hi hn
 have hn2:¬y.2.set j u=[]:=by simpa using hn
 have hc:Chg (fun k=>k=y.1) w (w.setCell ⟨y.1,j,none⟩ u):=Chg.setCell (S:=fun k=>k=y.1) (Chg.refl _ w) (p:=⟨y.1,j,none⟩) rfl _
 refine ⟨?_,fun a z ha hz=>?_,fun a b z x ha hb2 hab hz hx=>?_⟩
 ·
  rw [List.length_set,inV_set hi (by unfold inV;rw [if_neg hn,if_neg hn2,List.length_set])]
  refine owns_chg h.own (fun k hk2 e=>?_) hc
  obtain ⟨_,cur,hr⟩:=h.row hk2
  exact kind_ne hr hg hk e
 ·
  rcases get_set ha with ⟨rfl,rfl⟩ | ⟨hne,hz2⟩
  ·
   refine ⟨hb, ?_⟩
   have:=set_atL hg j u
   rw [this]
   simp only [List.setIfInBounds_toArray]
  ·
   obtain ⟨h1,h2⟩:=h.blk a z hz2 hz
   exact ⟨h1,(hc.block z.1 (Array.getElem?_eq_some_iff.1 h2).1 (fun e=>h.dst i a y z hi hz2 hne hn hz e.symm)).trans h2⟩
 ·
  rcases get_set ha with ⟨rfl,rfl⟩ | ⟨hne,hz2⟩ <;> rcases get_set hb2 with ⟨rfl,rfl⟩ | ⟨hne2,hx2⟩
  · exact absurd rfl hab
  · exact h.dst i b y x hi hx2 hab hn hx
  · exact h.dst a i z y hz2 hi hab hz hn
  · exact h.dst a b z x hz2 hx2 hab hz hx
theorem Ir.made {B:Nat} {tu t:TypeId} {w:World} {g cap:Nat} {W:List In} (h:Ir B tu t w (.slice (some ⟨g,0,none⟩) W.length cap) W) (hk:¬tu=t) (hB:B<=w.heap.size) {i:Nat} (hi:i<W.length) (cs:List Value) (hcs:¬cs=[]):Ir B tu t ((w.alloc (.cells cs.toArray t)).setCell ⟨g,i,none⟩ (.slice (some ⟨w.heap.size,0,none⟩) cs.length cs.length)) (.slice (some ⟨g,0,none⟩) W.length cap) (W.set i (w.heap.size,cs)):=by
 have h1:Ir B tu t (w.alloc (.cells cs.toArray t)) (.slice (some ⟨g,0,none⟩) W.length cap) W:=h.out ((Out.refl w).alloc _)
 obtain ⟨_,cur,hr⟩:=h1.row rfl
 have hnew:=heap_alloc_new w (.cells cs.toArray t)
 have hc:Chg (fun k=>k=g) (w.alloc (.cells cs.toArray t)) ((w.alloc (.cells cs.toArray t)).setCell ⟨g,i,none⟩ (.slice (some ⟨w.heap.size,0,none⟩) cs.length cs.length)):=Chg.setCell (S:=fun k=>k=g) (Chg.refl _ _) (p:=⟨g,i,none⟩) rfl _
 have hlt:∀ (a:Nat) (z:In),W[a]? = some z->¬z.2=[]->z.1<w.heap.size:=fun a z ha hz=>(Array.getElem?_eq_some_iff.1 (h.blk a z ha hz).2).1
 refine ⟨?_,fun a z ha hz=>?_,fun a b z x ha hb2 hab hz hx=>?_⟩
 ·
  have:=World.ownsRow.stored h1.own i (.slice (some ⟨w.heap.size,0,none⟩) cs.length cs.length)
  rw [List.length_set,List.map_set]
  rw [show inV (w.heap.size,cs)=.slice (some ⟨w.heap.size,0,none⟩) cs.length cs.length by unfold inV;rw [if_neg hcs]]
  exact this.1
 ·
  rcases get_set ha with ⟨rfl,rfl⟩ | ⟨hne,hz2⟩
  · exact ⟨hB,(hc.block _ (by rw [Lx.size_alloc];exact Nat.lt_succ_self _) (fun e=>kind_ne hr hnew hk e.symm)).trans hnew⟩
  ·
   obtain ⟨h2,h3⟩:=h1.blk a z hz2 hz
   exact ⟨h2,(hc.block z.1 (Array.getElem?_eq_some_iff.1 h3).1 (fun e=>kind_ne hr h3 hk e.symm)).trans h3⟩
 ·
  rcases get_set ha with ⟨rfl,rfl⟩ | ⟨hne,hz2⟩ <;> rcases get_set hb2 with ⟨rfl,rfl⟩ | ⟨hne2,hx2⟩
  · exact absurd rfl hab
  · have:=hlt b x hx2 hx;simp only;omega
  · have:=hlt a z hz2 hz;simp only;omega
  · exact h.dst a b z x hz2 hx2 hab hz hx
theorem Ir.grown {B:Nat} {tu t:TypeId} {w wA w4:World} {v v4:Value} {W:List In} (h:Ir B tu t w v W) (hk:¬tu=t) (o:Out w wA) (hg:wA.grownBy w4 v.ownBlock) (hown:w4.ownsRow B tu 1 v4 (W.length+1) (W.map inV++[.slice none 0 0])):Ir B tu t w4 v4 (W++[(0,[])]):=by
 have h1:=h.out o
 have hget:∀ (a:Nat) (z:In),(W++[((0,[]):In)])[a]? = some z->¬z.2=[]->W[a]? = some z:=fun a z ha hz=>by
  by_cases hl:a<W.length
  · rwa [List.getElem?_append_left hl] at ha
  ·
   rw [List.getElem?_append_right (by omega)] at ha
   have:=List.mem_of_getElem? ha
   rw [List.mem_singleton.1 this] at hz
   exact absurd rfl hz
 refine ⟨?_,fun a z ha hz=>?_,fun a b z x ha hb hab hz hx=>h.dst a b z x (hget a z ha hz) (hget b x hb hx) hab hz hx⟩
 ·
  rw [List.length_append,List.map_append]
  exact hown
 ·
  obtain ⟨h2,h3⟩:=h1.blk a z (hget a z ha hz) hz
  refine ⟨h2,(hg.block z.1 (Array.getElem?_eq_some_iff.1 h3).1 (fun e=>?_)).trans h3⟩
  obtain ⟨_,cur,hr⟩:=h1.row e.symm
  exact kind_ne hr h3 hk rfl
structure Rk (w0 w:World) (p:Nat) (lv wv nv:Value) (M:List StV) (W N:List In):Prop where
 o:Out w0 w
 hp:w0.heap.size<=p
 at_:w.heap[p]? = some (.cells #[lv,wv,nv] 28 (0,0))
 li:(lv=.slice none 0 0/\M=[])\/∃ g,lv=.slice (some ⟨g,0,none⟩) M.length M.length/\w0.heap.size<=g/\RowY w g M
 wo:Ir w0.heap.size 37 9 w wv W
 no:Ir w0.heap.size 38 3 w nv N
theorem Rk.lt {w0 w:World} {p:Nat} {lv wv nv:Value} {M:List StV} {W N:List In} (h:Rk w0 w p lv wv nv M W N):p<w.heap.size:=(Array.getElem?_eq_some_iff.1 h.at_).1
theorem Rk.cell {w0 w:World} {p:Nat} {lv wv nv:Value} {M:List StV} {W N:List In} (h:Rk w0 w p lv wv nv M W N) (j:Nat):w.cell? ⟨p,j,none⟩ = #[lv,wv,nv][j]?:=cell_atL h.at_ j
theorem Rk.frozen {w0 w:World} {p:Nat} {lv wv nv:Value} {M:List StV} {W N:List In} (h:Rk w0 w p lv wv nv M W N) (j:Nat):w.frozen? ⟨p,j,none⟩=false:=frozen_atL h.at_ j
theorem Rk.out {w0 w w':World} {p:Nat} {lv wv nv:Value} {M:List StV} {W N:List In} (h:Rk w0 w p lv wv nv M W N) (o:Out w w'):Rk w0 w' p lv wv nv M W N:=
 ⟨h.o.trans o,h.hp,(o.block p h.lt).trans h.at_,h.li.imp id (fun ⟨g,h1,h2,h3⟩=>⟨g,h1,h2,h3.out o⟩),h.wo.out o,h.no.out o⟩
theorem Rk.setW {w0 w:World} {p:Nat} {lv wv nv:Value} {M:List StV} {W N:List In} (h:Rk w0 w p lv wv nv M W N) {i:Nat} {y:In} (hi:W[i]? = some y) (hn:¬y.2=[]) (j:Nat) (u:Value):Rk w0 (w.setCell ⟨y.1,j,none⟩ u) p lv wv nv M (W.set i (y.1,y.2.set j u)) N:=by
 obtain ⟨hb,hg⟩:=h.wo.blk i y hi hn
 have hc:Chg (fun k=>k=y.1) w (w.setCell ⟨y.1,j,none⟩ u):=Chg.setCell (S:=fun k=>k=y.1) (Chg.refl _ w) (p:=⟨y.1,j,none⟩) rfl _
 refine ⟨Chg.out hc h.o (fun k hk=>by subst hk;exact hb),h.hp,(hc.block p h.lt (fun e=>kind_ne h.at_ hg (by decide) e)).trans h.at_,h.li.imp id (fun ⟨g,h1,h2,h3⟩=>⟨g,h1,h2,h3.same (hc.block g h3.lt (fun e=>kind_ne (show w.heap[g]? = _ from h3) hg (by decide) e))⟩),h.wo.setI (by decide) hi hn j u,h.no.keep hc (fun k cur u hk hh=>?_)⟩
 subst hk
 rw [hg] at hh
 simp only [Option.some.injEq,Obj.cells.injEq] at hh
 rw [<-hh.2.1]
 decide
theorem Rk.setN {w0 w:World} {p:Nat} {lv wv nv:Value} {M:List StV} {W N:List In} (h:Rk w0 w p lv wv nv M W N) {i:Nat} {y:In} (hi:N[i]? = some y) (hn:¬y.2=[]) (j:Nat) (u:Value):Rk w0 (w.setCell ⟨y.1,j,none⟩ u) p lv wv nv M W (N.set i (y.1,y.2.set j u)):=by
 obtain ⟨hb,hg⟩:=h.no.blk i y hi hn
 have hc:Chg (fun k=>k=y.1) w (w.setCell ⟨y.1,j,none⟩ u):=Chg.setCell (S:=fun k=>k=y.1) (Chg.refl _ w) (p:=⟨y.1,j,none⟩) rfl _
 refine ⟨Chg.out hc h.o (fun k hk=>by subst hk;exact hb),h.hp,(hc.block p h.lt (fun e=>kind_ne h.at_ hg (by decide) e)).trans h.at_,h.li.imp id (fun ⟨g,h1,h2,h3⟩=>⟨g,h1,h2,h3.same (hc.block g h3.lt (fun e=>kind_ne (show w.heap[g]? = _ from h3) hg (by decide) e))⟩),h.wo.keep hc (fun k cur u hk hh=>?_),h.no.setI (by decide) hi hn j u⟩
 subst hk
 rw [hg] at hh
 simp only [Option.some.injEq,Obj.cells.injEq] at hh
 rw [<-hh.2.1]
 decide
theorem Rk.putL {w0 w:World} {p g m:Nat} {wv nv:Value} {M:List StV} {W N:List In} (h:Rk w0 w p (.slice (some ⟨g,0,none⟩) m m) wv nv M W N) {i:Nat} (hi:i<M.length) (y:StV):Rk w0 (put11 w g (i*11) y) p (.slice (some ⟨g,0,none⟩) m m) wv nv (M.set i y) W N:=by
 rcases h.li with ⟨e,_⟩ | ⟨g',e,hb,hg⟩
 · cases e
 ·
  cases e
  have hc:=chg11 (Chg.refl (fun k=>k=g) w) (i*11) y
  have hh:∀ k cur u,k=g->w.heap[k]? = some (.cells cur u (0,0))->u = 42:=fun k cur u hk h9=>by
   subst hk
   rw [show w.heap[k]? = _ from hg] at h9
   simp only [Option.some.injEq,Obj.cells.injEq] at h9
   exact h9.2.1.symm
  refine ⟨Chg.out hc h.o (fun k hk=>by subst hk;exact hb),h.hp,(hc.block p h.lt (fun e=>kind_ne h.at_ (show w.heap[g]? = _ from hg) (by decide) e)).trans h.at_,.inr ⟨g,by rw [List.length_set],hb,hg.set hi y⟩,h.wo.keep hc (fun k cur u hk h9=>by rw [hh k cur u hk h9];decide),h.no.keep hc (fun k cur u hk h9=>by rw [hh k cur u hk h9];decide)⟩
end Go.Proofs.YtadneimllbfdnaaGreatDoor
