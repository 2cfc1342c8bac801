import Derived.Test.YtadneimllbfdnaaGreatDoorGu15
import Derived.Test.YtadneimllbfdnaaGreatDoorGu19
namespace Go.Proofs.YtadneimllbfdnaaGreatDoor
open Go.RowKit Go.Shelf
set_option linter.unusedVariables false
set_option linter.unusedSimpArgs false
attribute [local go_sem] Oper.semAt_some
theorem KC.put (W:World) (l:Nat) (o o':Obj) (h:W.heap[l]? = some o) (hc:o.isCells=false):KC W (W.putObj l o'):=by
 refine ⟨by simp [World.putObj],fun b cs t fr hb=>?_⟩
 by_cases e:b=l
 · subst e;rw [h] at hb;cases hb;simp [Obj.isCells] at hc
 ·
  simp only [World.putObj,Array.set!_eq_setIfInBounds]
  rw [Array.getElem?_setIfInBounds_ne (fun h=>e h.symm)];exact hb
theorem blk_kept {W W':World} {row:Option Nat} {b:Nat} {cs:Array Value} {t:TypeId} {fr:Nat × Nat} (h:W.heap[b]? = some (.cells cs t fr)) (hg:W.grownBy W' row) (hr:∀ r,row=some r->∃ o:Obj,W.heap[r]? = some o/\o.isCells=false):W'.heap[b]? = some (.cells cs t fr):=
 (hg.block b (Array.getElem?_eq_some_iff.1 h).1 (fun e=>by obtain ⟨o,ho,hc⟩:=hr b e.symm;rw [h] at ho;cases ho;simp [Obj.isCells] at hc)).trans h
theorem blk_alloc {W:World} {b:Nat} {cs:Array Value} {t:TypeId} {fr:Nat × Nat} (h:W.heap[b]? = some (.cells cs t fr)) (o:Obj):(W.alloc o).heap[b]? = some (.cells cs t fr):=(Below.heap_alloc W o b (Array.getElem?_eq_some_iff.1 h).1).trans h
theorem blk_at {w:World} {b:Nat} {cs:Array Value} {t:TypeId} (h:w.heap[b]? = some (.cells cs t (0,0))) (j:Nat):w.cell? ⟨b,j,none⟩=cs[j]?/\w.frozen? ⟨b,j,none⟩=false:=by
 constructor
 · simp [World.cell?,h]
 · simp [World.frozen?,h]
def mnC (m:Mn):Array Value:=#[.int .u8 m.1,.int .u8 m.2.1,.int .u8 m.2.2.1,.int .u8 m.2.2.2]
def MBox (w:World) (W:World) (t:List UInt8) (m:Mn) (q:Bool):Prop:=(W.heap[w.heap.size]? = some (.cells #[.string ⟨t.toArray⟩] 9 (0,0))/\W.heap[w.heap.size+1]? = some (.cells (mnC m) 153 (0,0))/\W.heap[w.heap.size+2]? = some (.cells #[.bool q] 4 (0,0)))/\Below w.heap.size w W
theorem MBox.set5 {w W:World} {t:List UInt8} {m:Mn} {q:Bool} (h:MBox w W t m q) (o s f i:Int) (q':Bool):MBox w (((((W.setCell ⟨w.heap.size+1,0,none⟩ (.int .u8 o)).setCell ⟨w.heap.size+1,1,none⟩ (.int .u8 s)).setCell ⟨w.heap.size+1,2,none⟩ (.int .u8 f)).setCell ⟨w.heap.size+1,3,none⟩ (.int .u8 i)).setCell ⟨w.heap.size+1+1,0,none⟩ (.bool q')) t (o,s,f,i) q':=by
 obtain ⟨⟨h0,h1,h2⟩,hB⟩:=h
 refine ⟨⟨?_, ?_, ?_⟩, ?_⟩
 · simp [World.setCell,Array.getElem?_modify,h0];try omega
 · simp [World.setCell,Array.getElem?_modify,h1,mnC]
 · simp [World.setCell,Array.getElem?_modify,h2]
 · exact ((((hB.setCell (p:=⟨w.heap.size+1,0,none⟩) (by simp) _).setCell (p:=⟨w.heap.size+1,1,none⟩) (by simp) _).setCell (p:=⟨w.heap.size+1,2,none⟩) (by simp) _).setCell (p:=⟨w.heap.size+1,3,none⟩) (by simp) _).setCell (p:=⟨w.heap.size+1+1,0,none⟩) (by simp;omega) _
theorem keeps5 (W:World) (a b c d e:Addr) (u v x y z:Value):KeepsOthers W (((((W.setCell a u).setCell b v).setCell c x).setCell d y).setCell e z):=
 ((((KeepsOthers.setCell W a u).trans (KeepsOthers.setCell _ b v)).trans (KeepsOthers.setCell _ c x)).trans (KeepsOthers.setCell _ d y)).trans (KeepsOthers.setCell _ e z)
def MI (w:World) (t:List UInt8) (pre:List (List UInt8 × Mn)) (W:World):Prop:=(∀ x ∈ pre,x.1 ≠ t)/\MBox w W t (0,0,0,0) false
def MX (w:World) (t:List UInt8) (c:Code) (pre:List (List UInt8 × Mn)) (W:World):Prop:=∃ x,(c=.ret/\x ∈ pre/\x.1=t)/\MBox w W t x.2 true
theorem MBox.own {β:Type} (w:World) (t:List UInt8) (m:Mn) (q:Bool) (B:Nat) (hB:w.heap.size<=B):OwnFrom B (fun (_:β) W=>MBox w W t m q):=fun s X Y row hs hg hr=>
 ⟨⟨blk_kept hs.1.1 hg (fun r e=>(hr r e).2),blk_kept hs.1.2.1 hg (fun r e=>(hr r e).2),blk_kept hs.1.2.2 hg (fun r e=>(hr r e).2)⟩,ownFrom_below (β:=β) (Nat.le_refl _) hB s X Y row hs.2 hg hr⟩
theorem MBox.put {w W:World} {t:List UInt8} {m:Mn} {q:Bool} (h:MBox w W t m q) {D:Nat} (hD:w.heap.size<=D) (hK:W.heap[D]? = some (.deferred (some []))):MBox w (W.putObj D (.deferred none)) t m q:=
 MBox.own (β:=Unit) w t m q w.heap.size (Nat.le_refl _) () W _ (some D) h (grownBy_putObj' _ D _) (fun r e=>by cases e;exact ⟨hD,_,hK,rfl⟩)
theorem MBox.res {w W:World} {t:List UInt8} {m:Mn} {q:Bool} (h:MBox w W t m q) (tmps:Array Value) (h2:tmps[2]?.getD undef=.pointer (some ⟨w.heap.size+1,0,none⟩)) (h3:tmps[3]?.getD undef=.pointer (some ⟨w.heap.size+1+1,0,none⟩)) :
  (results Tryz.f104 tmps).run Tryz.prog W=.ok (.tuple #[mnV m,.bool q]) W:=by
 have c5:W.cell? ⟨w.heap.size+1+1,0,none⟩=some (.bool q):=(blk_at h.1.2.2 0).1
 have k0:W.cell? ⟨w.heap.size+1,0,none⟩=some (.int .u8 m.1):=(blk_at h.1.2.1 0).1
 have k1:W.cell? ⟨w.heap.size+1,1,none⟩=some (.int .u8 m.2.1):=(blk_at h.1.2.1 1).1
 have k2:W.cell? ⟨w.heap.size+1,2,none⟩=some (.int .u8 m.2.2.1):=(blk_at h.1.2.1 2).1
 have k3:W.cell? ⟨w.heap.size+1,3,none⟩=some (.int .u8 m.2.2.2):=(blk_at h.1.2.1 3).1
 simp [results,Tryz.f104,asAddr,h2,h3,go_sem,k0,k1,k2,k3,c5,Sem.run_bind,Result.andThen,mnV]
set_option maxRecDepth 40000 in
set_option maxHeartbeats 4000000 in
theorem meaning_in (F:Fence) (hd:F.depth=none) (hro:F.round=none) (h66:F.fn 143) (h105:F.fn 168) (hm:F.fn 104) (n N:Nat) (hn:3<=n) (w:World) (t:List UInt8)
  (hseq:∀ w0:World,Below w.heap.size w w0->SeqStopsK F (n - 1) Tryz.prog 143 #[] encM KC (fun ys=>ys=live mnAll) (fun pre=>pre <+: live mnAll) N w0) :
  CallsIn F n Tryz.prog 104 #[.string ⟨t.toArray⟩] w fun e W'=>((∃ x,x ∈ live mnAll/\x.1=t/\e=.returned (.tuple #[mnV x.2,.bool true]))\/((∀ x ∈ live mnAll,x.1 ≠ t)/\e=.returned (.tuple #[mnV (0,0,0,0),.bool false])))/\Below w.heap.size w W':=by
 have h1:1<=n:=by omega
 refine callsIn_of_wp_marks Tryz.func104 rfl hm ?_ hro
 simp only [Tryz.ntmps104,List.size_toArray,List.length_cons,List.length_nil,Nat.reduceAdd,Nat.reduceSub,Array.replicate_succ,Array.replicate_zero,List.push_toArray,List.append_toArray,List.nil_append,List.cons_append]
 gi_wp2
 obtain ⟨W0,hW0⟩:∃ W0,((w.alloc (.cells #[.string ⟨t.toArray⟩] 9)).alloc (.cells #[.int .u8 0,.int .u8 0,.int .u8 0,.int .u8 0] 153)).alloc (.cells #[.bool false] 4)=W0:=⟨_,rfl⟩
 have hB0:Below w.heap.size w W0:=by rw [<-hW0];exact (((Below.refl _ w).alloc (Nat.le_refl _) _).alloc (by simp) _).alloc (by simp;omega) _
 have hsz:W0.heap.size=w.heap.size+3:=by rw [<-hW0];simp
 have hM0:MBox w W0 t (0,0,0,0) false:=by
  refine ⟨⟨?_, ?_, ?_⟩,hB0⟩
  · rw [<-hW0];exact blk_alloc (blk_alloc (heap_alloc_new w _) _) _
  · rw [<-hW0];have:=heap_alloc_new (w.alloc (.cells #[.string ⟨t.toArray⟩] 9)) (.cells #[.int .u8 0,.int .u8 0,.int .u8 0,.int .u8 0] 153);rw [World.size_alloc] at this;exact blk_alloc this _
  · rw [<-hW0];have:=heap_alloc_new ((w.alloc (.cells #[.string ⟨t.toArray⟩] 9)).alloc (.cells #[.int .u8 0,.int .u8 0,.int .u8 0,.int .u8 0] 153)) (.cells #[.bool false] 4);rw [World.size_alloc,World.size_alloc] at this;exact this
 rw [hW0]
 clear hW0
 refine wpIn_rangeFunc_ownH hro h1 (gf:=143) (lb:=#[]) rfl h66 (enters_of Tryz.func143 (by kernel_rfl) rfl)
  (hseq W0 hB0) KC.trans (fun W l o o' _ h hc _=>KC.put W l o o' h hc) (Below.refl _ _) (fun _=>rfl)
  (MI w t) (MX w t)
  (OwnFrom.and (ownFrom_pure _ _) (MBox.own w t _ _ _ (by omega)))
  (fun c s X Y row hs hg hr=>by obtain ⟨x,hx,hm⟩:=hs;exact ⟨x,hx,MBox.own w t x.2 true _ (by omega) s X Y row hm hg hr⟩)
  ⟨by simp,hM0⟩
  (fun x a' W=>∃ Bx,w.heap.size+2<Bx/\W.heap[Bx]? = some (.cells (mnC x.2) 153 (0,0))/\a' = { tmps:=#[.string ⟨t.toArray⟩,.pointer (some ⟨w.heap.size,0,none⟩),.pointer (some ⟨w.heap.size+1,0,none⟩),.pointer (some ⟨w.heap.size+1+1,0,none⟩),.string ⟨x.1.toArray⟩,.pointer (some ⟨Bx,0,none⟩),.string ⟨x.1.toArray⟩,mnV x.2,undef,undef,undef,undef,undef],defers:=[] })
  (fun x a' _ X Y row hs hg hr=>by obtain ⟨Bx,e1,e2,e3⟩:=hs;exact ⟨Bx,e1,blk_kept e2 hg (fun r e=>(hr r e).2),e3⟩)
  ?assign ?body ?done ?stop
 case assign=>
  rintro l pre ⟨k,o,s,f,i⟩ W K ⟨hp,hM⟩ hK
  simp only [encM,mnV]
  gi_wp2
  exact hK _ _ ((KeepsOthers.alloc _ _).from _) (KC.alloc _ _) ⟨hp,⟨blk_alloc hM.1.1 _,blk_alloc hM.1.2.1 _,blk_alloc hM.1.2.2 _⟩,hM.2.alloc hM.2.size _⟩ ⟨W.heap.size,(Array.getElem?_eq_some_iff.1 hM.1.2.2).1,heap_alloc_new W _,rfl⟩
 case body=>
  rintro l pre ⟨k,o,s,f,i⟩ a' W hl ⟨r,hr⟩ ⟨hp,hM⟩ ⟨Bx,hBx,bX,rfl⟩ hlt
  have cw:W.cell? ⟨w.heap.size,0,none⟩=some (.string ⟨t.toArray⟩):=(blk_at hM.1.1 0).1
  have x0:W.cell? ⟨Bx,0,none⟩=some (.int .u8 o):=(blk_at bX 0).1
  have x1:W.cell? ⟨Bx,1,none⟩=some (.int .u8 s):=(blk_at bX 1).1
  have x2:W.cell? ⟨Bx,2,none⟩=some (.int .u8 f):=(blk_at bX 2).1
  have x3:W.cell? ⟨Bx,3,none⟩=some (.int .u8 i):=(blk_at bX 3).1
  have c0:W.cell? ⟨w.heap.size+1,0,none⟩=some (.int .u8 0):=(blk_at hM.1.2.1 0).1
  have c1:W.cell? ⟨w.heap.size+1,1,none⟩=some (.int .u8 0):=(blk_at hM.1.2.1 1).1
  have c2:W.cell? ⟨w.heap.size+1,2,none⟩=some (.int .u8 0):=(blk_at hM.1.2.1 2).1
  have c3:W.cell? ⟨w.heap.size+1,3,none⟩=some (.int .u8 0):=(blk_at hM.1.2.1 3).1
  have f0:=(blk_at hM.1.2.1 0).2
  have f1:=(blk_at hM.1.2.1 1).2
  have f2:=(blk_at hM.1.2.1 2).2
  have f3:=(blk_at hM.1.2.1 3).2
  have cb:W.cell? ⟨w.heap.size+1+1,0,none⟩=some (.bool false):=(blk_at hM.1.2.2 0).1
  have fb:W.frozen? ⟨w.heap.size+1+1,0,none⟩=false:=(blk_at hM.1.2.2 0).2
  gi_wp2
  ·
   rename_i hkt
   exact ⟨(keeps5 _ _ _ _ _ _ _ _ _ _ _).from _,(k,o,s,f,i),⟨rfl,List.mem_append.2 (.inr (by simp)),eq_of_beq hkt⟩,hM.set5 o s f i true⟩
  ·
   rename_i hkt
   exact ⟨KeepsFrom.refl _ _,KC.refl _,fun y hy=>(List.mem_append.1 hy).elim (hp y) (fun e e'=>by simp at e;subst e;simp at hkt;exact hkt e'),hM⟩
 case done=>
  rintro D zs W hD rfl ⟨hp,hM⟩ hK
  have c0:W.cell? ⟨w.heap.size+1,0,none⟩=some (.int .u8 0):=(blk_at hM.1.2.1 0).1
  have c1:W.cell? ⟨w.heap.size+1,1,none⟩=some (.int .u8 0):=(blk_at hM.1.2.1 1).1
  have c2:W.cell? ⟨w.heap.size+1,2,none⟩=some (.int .u8 0):=(blk_at hM.1.2.1 2).1
  have c3:W.cell? ⟨w.heap.size+1,3,none⟩=some (.int .u8 0):=(blk_at hM.1.2.1 3).1
  have f0:=(blk_at hM.1.2.1 0).2
  have f1:=(blk_at hM.1.2.1 1).2
  have f2:=(blk_at hM.1.2.1 2).2
  have f3:=(blk_at hM.1.2.1 3).2
  have cb:W.cell? ⟨w.heap.size+1+1,0,none⟩=some (.bool false):=(blk_at hM.1.2.2 0).1
  have fb:W.frozen? ⟨w.heap.size+1+1,0,none⟩=false:=(blk_at hM.1.2.2 0).2
  gi_wp2
  have hM':=hM.set5 0 0 0 0 false
  have hK':=(keeps5 W ⟨w.heap.size+1,0,none⟩ ⟨w.heap.size+1,1,none⟩ ⟨w.heap.size+1,2,none⟩ ⟨w.heap.size+1,3,none⟩ ⟨w.heap.size+1+1,0,none⟩ (.int .u8 0) (.int .u8 0) (.int .u8 0) (.int .u8 0) (.bool false)).same D _ hK rfl
  have hP:=hM'.put (D:=D) (by omega) hK'
  refine ⟨by simp,.inl ⟨_,_,rfl,run_takeDeferred hK', ?_⟩⟩
  exact ⟨_,hP.res _ rfl rfl,.inr ⟨hp,rfl⟩,hP.2⟩
 case stop=>
  rintro D c pre W hD hpre ⟨x,⟨rfl,hx,hxt⟩,hM⟩ hK
  gi_wp2
  have hP:=hM.put (D:=D) (by omega) hK
  refine ⟨by simp,.inl ⟨_,_,rfl,run_takeDeferred hK, ?_⟩⟩
  exact ⟨_,hP.res _ rfl rfl,.inl ⟨x,hpre.subset hx,hxt,rfl⟩,hP.2⟩
end Go.Proofs.YtadneimllbfdnaaGreatDoor
namespace Go.Proofs.YtadneimllbfdnaaGreatDoor
open Go.RowKit
set_option linter.unusedVariables false
set_option linter.unusedSimpArgs false
theorem find_at {α:Type} (p:α->Bool):∀ (l:List α) (k:Nat) (x:α),l[k]? = some x->p x=true->(∀ j y,j<k->l[j]? = some y->p y=false)->l.find? p=some x
 | [],k,x,h,_,_=>by simp at h
 | y::l,0,x,h,hp,_=>by
  simp at h
  subst h
  simp [hp]
 | y::l,k+1,x,h,hp,hno=>by
  have h0:p y=false:=hno 0 y (by omega) (by simp)
  rw [List.find?_cons,h0]
  exact find_at p l k x (by simpa using h) hp (fun j z hj hz=>hno (j+1) z (by omega) (by simpa using hz))
theorem find_no {α:Type} (p:α->Bool) (l:List α) (h:∀ j y,j<l.length->l[j]? = some y->p y=false):l.find? p=none:=by
 rw [List.find?_eq_none]
 intro y hy
 obtain ⟨j,hj,e⟩:=List.getElem_of_mem hy
 have:=h j y hj (by rw [List.getElem?_eq_getElem hj,e])
 simp [this]
theorem rangeAt_out {w w':World} {b o:Nat} {cs:List Value} (h:w.rangeAt b o cs) (u:Out w w'):w'.rangeAt b o cs:=fun j v hv=>cell_later u (h j v hv)
def immCs:List Value:=immT.flatMap (fun r=>[.int .u8 r.1,.int .u8 r.2.1,.string ⟨r.2.2.toArray⟩])
def ImmTb (w:World):Prop:=w.rangeAt 7 0 immCs
theorem immT_len:immT.length=29:=rfl
def immA (k:Nat):Int:=match immT[k]? with | some r=>r.1 | none=>0
def immB (k:Nat):Int:=match immT[k]? with | some r=>r.2.1 | none=>0
def immS3 (k:Nat):List UInt8:=match immT[k]? with | some r=>r.2.2 | none=>[]
theorem immT_bd:∀ r ∈ immT,0<=r.1/\r.1<256/\0<=r.2.1/\r.2.1<256:=by decide
theorem imm_row (k:Nat) (hk:k<29):immT[k]? = some (immA k,immB k,immS3 k)/\0<=immA k/\immA k<256/\0<=immB k/\immB k<256:=by
 obtain ⟨r,hr⟩:∃ r,immT[k]? = some r:=⟨_,List.getElem?_eq_getElem (by rw [immT_len];exact hk)⟩
 have hb:=immT_bd r (List.mem_of_getElem? hr)
 unfold immA immB immS3
 rw [hr]
 exact ⟨rfl,hb⟩
set_option maxRecDepth 20000 in
theorem imm_idx (k:Nat) (hk:k<29) (w:World):(Instr.index 191 (.agg immCs.toArray) (.int .i64 k)).run Tryz.prog w=.ok (.agg #[.int .u8 (immA k),.int .u8 (immB k),.string ⟨(immS3 k).toArray⟩]) w:=by
 rcases (show k=0\/k=1\/k=2\/k=3\/k=4\/k=5\/k=6\/k=7\/k=8\/k=9\/k=10\/k=11\/k=12\/k=13\/k=14\/k=15\/k=16\/k=17\/k=18\/k=19\/k=20\/k=21\/k=22\/k=23\/k=24\/k=25\/k=26\/k=27\/k=28 from by omega) with rfl | rfl | rfl | rfl | rfl | rfl | rfl | rfl | rfl | rfl | rfl | rfl | rfl | rfl | rfl | rfl | rfl | rfl | rfl | rfl | rfl | rfl | rfl | rfl | rfl | rfl | rfl | rfl | rfl <;> kernel_rfl
theorem imm_hit (o x:Int) (k:Nat) (hk:k<29) (h:(o == (immA k) && x == immB k)=true) (hno:∀ j,j<k->(o == (immA j) && x == immB j)=false):wImm o x=immS3 k:=by
 unfold wImm
 rw [find_at (fun r:Int × Int × List UInt8=>o == r.1 && x == r.2.1) immT k _ (imm_row k hk).1 h (fun j y hj hy=>by
  rw [(imm_row j (by omega)).1] at hy
  simp only [Option.some.injEq] at hy
  subst hy
  exact hno j hj)]
theorem imm_miss (o x:Int) (hno:∀ j,j<29->(o == (immA j) && x == immB j)=false):wImm o x=[]:=by
 unfold wImm
 rw [find_no (fun r:Int × Int × List UInt8=>o == r.1 && x == r.2.1) immT (fun j y hj hy=>by
  rw [immT_len] at hj
  rw [(imm_row j hj).1] at hy
  simp only [Option.some.injEq] at hy
  subst hy
  exact hno j hj)]
set_option maxRecDepth 20000 in
set_option maxHeartbeats 1600000 in
theorem immWord_any (o d s f i:Int) (w:World) (hT:ImmTb w):Calls Tryz.prog 119 #[.agg #[.int .i64 o,.int .i64 d,.int .i64 s,.int .i64 f,.int .i64 i]] w fun e w'=>e=.returned (.string ⟨(wImm o i).toArray⟩)/\Out w w':=by
 have HH:=hidOf (imm_hit o i)
 have HM:=hidOf (imm_miss o i)
 obtain ⟨A,HA⟩:∃ A:Nat->Int,Hid (A=immA):=⟨_,hidOf rfl⟩
 obtain ⟨B,HB⟩:∃ B:Nat->Int,Hid (B=immB):=⟨_,hidOf rfl⟩
 obtain ⟨T,HT⟩:∃ T:Nat->List UInt8,Hid (T=immS3):=⟨_,hidOf rfl⟩
 obtain ⟨cs,hcs⟩:∃ cs,cs=immCs:=⟨_,rfl⟩
 rw [<-HA.out, <-HB.out] at HH HM
 rw [<-HT.out] at HH
 generalize wImm o i=R at *
 have HAB:Hid (∀ k:Nat,k<29->0<=A k/\A k<256/\0<=B k/\B k<256):=by rw [HA.out,HB.out];exact fun k hk=>(imm_row k hk).2
 have hix:∀ (k:Nat),(k:Int)<29->∀ w:World,(Instr.index 191 (.agg cs.toArray) (.int .i64 k)).run Tryz.prog w=.ok (.agg #[.int .u8 (A k),.int .u8 (B k),.string ⟨(T k).toArray⟩]) w:=fun k hk w=>by
  rw [hcs,imm_idx k (by omega) w,HA.out,HB.out,HT.out]
 have HRg:Hid ((w.alloc (.cells #[.int .i64 o,.int .i64 d,.int .i64 s,.int .i64 f,.int .i64 i] 40)).rangeAt 7 0 cs):=by rw [hcs];exact rangeAt_out hT ((Out.refl w).alloc _)
 have HSz:Hid ((Tryz.prog.info? 191).map (·.size)=some cs.length):=by
  rw [hcs]
  exact (show (Tryz.prog.info? 191).map (·.size)=some immCs.length by kernel_rfl)
 clear hT hcs
 go_enter Tryz.func119,Tryz.ntmps119
 go_wp2
 refine wp_load_mid 191 (.global 7) rfl 7 0 rfl cs _ HRg.out Tryz.underlying191 rfl HSz.out ?_
 go_wp2
 go_loopw [6] (fun iv wr=>∃ k:Nat,k<=29/\iv=.int .i64 k/\Hid (∀ j,j<k->(o == (A j) && i == B j)=false)/\Out (w.alloc (.cells #[.int .i64 o,.int .i64 d,.int .i64 s,.int .i64 f,.int .i64 i] 40)) wr) (fun iv _=>29 - (intOf iv).toNat)
 case atStart=>exact ⟨0,by omega,rfl,fun j hj=>by omega,Out.refl _⟩
 case round=>
  obtain ⟨k,hk,rfl,Hno,ho⟩:=hrel
  have q0:∀ O,(wr.alloc O).cell? ⟨w.heap.size,0,none⟩=some (.int .i64 o):=fun O=>cell_later (ho.alloc O) (new_cell w _ _ 0)
  have q4:∀ O,(wr.alloc O).cell? ⟨w.heap.size,4,none⟩=some (.int .i64 i):=fun O=>cell_later (ho.alloc O) (new_cell w _ _ 4)
  have Ho:=hidOf ho
  clear ho
  by_cases hkN:k<29
  ·
   have hlt:(k:Int)<29:=by omega
   obtain ⟨b1,b2,b3,b4⟩:=HAB.out k hkN
   cases h1:(o == (A k))
   ·
    have Hno':Hid (∀ j,j<k+1->(o == (A j) && i == B j)=false):=fun j hj=>by
     by_cases z:j=k
     · subst z;rw [h1];rfl
     · exact Hno.out j (by omega)
    go_wp2
    go_roundw
    case rel=>exact ⟨k+1,by omega,by simp,Hno',Ho.out.alloc _⟩
    case measure=>simp [intOf];omega
   ·
    cases h2:(i == B k)
    ·
     have Hno':Hid (∀ j,j<k+1->(o == (A j) && i == B j)=false):=fun j hj=>by
      by_cases z:j=k
      · subst z;rw [h2];simp
      · exact Hno.out j (by omega)
     go_wp2
     go_roundw
     case rel=>exact ⟨k+1,by omega,by simp,Hno',Ho.out.alloc _⟩
     case measure=>simp [intOf];omega
    ·
     have HRes:Hid (R=T k):=HH.out k hkN (by rw [h1,h2];rfl) Hno.out
     go_wp2
     go_ret
     exact ⟨by rw [HRes.out];rfl,Out.trans ((Out.refl w).alloc _) (Ho.out.alloc _)⟩
  ·
   have hlt:¬(k:Int)<29:=by omega
   obtain rfl:k=29:=by omega
   have HRes:Hid (R=[]):=HM.out Hno.out
   go_wp2
   go_ret
   exact ⟨by rw [HRes.out];rfl,Out.trans ((Out.refl w).alloc _) Ho.out⟩
def offCs:List Value:=offT.flatMap (fun r=>[.int .u8 r.1,.int .u8 r.2.1,.string ⟨r.2.2.toArray⟩])
def OffTb (w:World):Prop:=w.rangeAt 6 0 offCs
theorem offT_len:offT.length=9:=rfl
def offA (k:Nat):Int:=match offT[k]? with | some r=>r.1 | none=>0
def offB (k:Nat):Int:=match offT[k]? with | some r=>r.2.1 | none=>0
def offS3 (k:Nat):List UInt8:=match offT[k]? with | some r=>r.2.2 | none=>[]
theorem offT_bd:∀ r ∈ offT,0<=r.1/\r.1<256/\0<=r.2.1/\r.2.1<256:=by decide
theorem off_row (k:Nat) (hk:k<9):offT[k]? = some (offA k,offB k,offS3 k)/\0<=offA k/\offA k<256/\0<=offB k/\offB k<256:=by
 obtain ⟨r,hr⟩:∃ r,offT[k]? = some r:=⟨_,List.getElem?_eq_getElem (by rw [offT_len];exact hk)⟩
 have hb:=offT_bd r (List.mem_of_getElem? hr)
 unfold offA offB offS3
 rw [hr]
 exact ⟨rfl,hb⟩
set_option maxRecDepth 20000 in
theorem off_idx (k:Nat) (hk:k<9) (w:World):(Instr.index 189 (.agg offCs.toArray) (.int .i64 k)).run Tryz.prog w=.ok (.agg #[.int .u8 (offA k),.int .u8 (offB k),.string ⟨(offS3 k).toArray⟩]) w:=by
 rcases (show k=0\/k=1\/k=2\/k=3\/k=4\/k=5\/k=6\/k=7\/k=8 from by omega) with rfl | rfl | rfl | rfl | rfl | rfl | rfl | rfl | rfl <;> kernel_rfl
theorem off_hit (o x:Int) (k:Nat) (hk:k<9) (h:(bits .or .i64 o 8 == bits .or .i64 (offA k) 8 && x == offB k)=true) (hno:∀ j,j<k->(bits .or .i64 o 8 == bits .or .i64 (offA j) 8 && x == offB j)=false):wOff o x=offS3 k:=by
 unfold wOff
 rw [find_at (fun r:Int × Int × List UInt8=>bits .or .i64 o 8 == bits .or .i64 r.1 8 && x == r.2.1) offT k _ (off_row k hk).1 h (fun j y hj hy=>by
  rw [(off_row j (by omega)).1] at hy
  simp only [Option.some.injEq] at hy
  subst hy
  exact hno j hj)]
theorem off_miss (o x:Int) (hno:∀ j,j<9->(bits .or .i64 o 8 == bits .or .i64 (offA j) 8 && x == offB j)=false):wOff o x=[]:=by
 unfold wOff
 rw [find_no (fun r:Int × Int × List UInt8=>bits .or .i64 o 8 == bits .or .i64 r.1 8 && x == r.2.1) offT (fun j y hj hy=>by
  rw [offT_len] at hj
  rw [(off_row j hj).1] at hy
  simp only [Option.some.injEq] at hy
  subst hy
  exact hno j hj)]
set_option maxRecDepth 20000 in
set_option maxHeartbeats 1600000 in
theorem offWord_any (o d s f i:Int) (w:World) (hT:OffTb w):Calls Tryz.prog 118 #[.agg #[.int .i64 o,.int .i64 d,.int .i64 s,.int .i64 f,.int .i64 i]] w fun e w'=>e=.returned (.string ⟨(wOff o f).toArray⟩)/\Out w w':=by
 have HH:=hidOf (off_hit o f)
 have HM:=hidOf (off_miss o f)
 obtain ⟨A,HA⟩:∃ A:Nat->Int,Hid (A=offA):=⟨_,hidOf rfl⟩
 obtain ⟨B,HB⟩:∃ B:Nat->Int,Hid (B=offB):=⟨_,hidOf rfl⟩
 obtain ⟨T,HT⟩:∃ T:Nat->List UInt8,Hid (T=offS3):=⟨_,hidOf rfl⟩
 obtain ⟨cs,hcs⟩:∃ cs,cs=offCs:=⟨_,rfl⟩
 rw [<-HA.out, <-HB.out] at HH HM
 rw [<-HT.out] at HH
 generalize wOff o f=R at *
 have HAB:Hid (∀ k:Nat,k<9->0<=A k/\A k<256/\0<=B k/\B k<256):=by rw [HA.out,HB.out];exact fun k hk=>(off_row k hk).2
 have hix:∀ (k:Nat),(k:Int)<9->∀ w:World,(Instr.index 189 (.agg cs.toArray) (.int .i64 k)).run Tryz.prog w=.ok (.agg #[.int .u8 (A k),.int .u8 (B k),.string ⟨(T k).toArray⟩]) w:=fun k hk w=>by
  rw [hcs,off_idx k (by omega) w,HA.out,HB.out,HT.out]
 have HRg:Hid ((w.alloc (.cells #[.int .i64 o,.int .i64 d,.int .i64 s,.int .i64 f,.int .i64 i] 40)).rangeAt 6 0 cs):=by rw [hcs];exact rangeAt_out hT ((Out.refl w).alloc _)
 have HSz:Hid ((Tryz.prog.info? 189).map (·.size)=some cs.length):=by
  rw [hcs]
  exact (show (Tryz.prog.info? 189).map (·.size)=some offCs.length by kernel_rfl)
 clear hT hcs
 go_enter Tryz.func118,Tryz.ntmps118
 go_wp2_with (refine wpList_load_mid rfl 189 (.global 6) rfl 6 0 rfl cs _ HRg.out Tryz.underlying189 rfl HSz.out ?_)
 go_loopw [6] (fun iv wr=>∃ k:Nat,k<=9/\iv=.int .i64 k/\Hid (∀ j,j<k->(bits .or .i64 o 8 == bits .or .i64 (A j) 8 && f == B j)=false)/\Out (w.alloc (.cells #[.int .i64 o,.int .i64 d,.int .i64 s,.int .i64 f,.int .i64 i] 40)) wr) (fun iv _=>9 - (intOf iv).toNat)
 case atStart=>exact ⟨0,by omega,rfl,fun j hj=>by omega,Out.refl _⟩
 case round=>
  obtain ⟨k,hk,rfl,Hno,ho⟩:=hrel
  have q0:∀ O,(wr.alloc O).cell? ⟨w.heap.size,0,none⟩=some (.int .i64 o):=fun O=>cell_later (ho.alloc O) (new_cell w _ _ 0)
  have q4:∀ O,(wr.alloc O).cell? ⟨w.heap.size,3,none⟩=some (.int .i64 f):=fun O=>cell_later (ho.alloc O) (new_cell w _ _ 3)
  have Ho:=hidOf ho
  clear ho
  by_cases hkN:k<9
  ·
   have hlt:(k:Int)<9:=by omega
   obtain ⟨b1,b2,b3,b4⟩:=HAB.out k hkN
   cases h1:(bits .or .i64 o 8 == bits .or .i64 (A k) 8)
   ·
    have Hno':Hid (∀ j,j<k+1->(bits .or .i64 o 8 == bits .or .i64 (A j) 8 && f == B j)=false):=fun j hj=>by
     by_cases z:j=k
     · subst z;rw [h1];rfl
     · exact Hno.out j (by omega)
    go_wp2
    go_roundw
    case rel=>exact ⟨k+1,by omega,by simp,Hno',Ho.out.alloc _⟩
    case measure=>simp [intOf];omega
   ·
    cases h2:(f == B k)
    ·
     have Hno':Hid (∀ j,j<k+1->(bits .or .i64 o 8 == bits .or .i64 (A j) 8 && f == B j)=false):=fun j hj=>by
      by_cases z:j=k
      · subst z;rw [h2];simp
      · exact Hno.out j (by omega)
     go_wp2
     go_roundw
     case rel=>exact ⟨k+1,by omega,by simp,Hno',Ho.out.alloc _⟩
     case measure=>simp [intOf];omega
    ·
     have HRes:Hid (R=T k):=HH.out k hkN (by rw [h1,h2];rfl) Hno.out
     go_wp2
     go_ret
     exact ⟨by rw [HRes.out];rfl,Out.trans ((Out.refl w).alloc _) (Ho.out.alloc _)⟩
  ·
   have hlt:¬(k:Int)<9:=by omega
   obtain rfl:k=9:=by omega
   have HRes:Hid (R=[]):=HM.out Hno.out
   go_wp2
   go_ret
   exact ⟨by rw [HRes.out];rfl,Out.trans ((Out.refl w).alloc _) Ho.out⟩
end Go.Proofs.YtadneimllbfdnaaGreatDoor
namespace Go.Proofs.YtadneimllbfdnaaGreatDoor
open Go.RowKit
open Go.Maps (Keyed)
set_option linter.unusedVariables false
set_option linter.unusedSimpArgs false
def reckCs:List Value:=reckT.flatMap (fun r=>[.string ⟨r.1.toArray⟩,.string ⟨r.2.toArray⟩])
def ReckTb (w:World):Prop:=w.rangeAt 3 0 reckCs
def reckA (k:Nat):List UInt8:=match reckT[k]? with | some r=>r.1 | none=>[]
def reckB (k:Nat):List UInt8:=match reckT[k]? with | some r=>r.2 | none=>[]
theorem reck_row (k:Nat) (hk:k<13):reckT[k]? = some (reckA k,reckB k):=by
 obtain ⟨r,hr⟩:∃ r,reckT[k]? = some r:=⟨_,List.getElem?_eq_getElem (show k<reckT.length from hk)⟩
 unfold reckA reckB
 rw [hr]
theorem reck_ent (k:Nat) (hk:k<13) (x y:Int):entA reckT x y k=[(reckA k,(k*16+x,0,0,0)),(reckB k,(k*16+y,0,0,0))]:=by
 unfold entA
 rw [reck_row k hk]
set_option maxRecDepth 20000 in
theorem reck_idx (k:Nat) (hk:k<13) (w:World):(Instr.index 162 (.agg reckCs.toArray) (.int .i64 k)).run Tryz.prog w=.ok (.agg #[.string ⟨(reckA k).toArray⟩,.string ⟨(reckB k).toArray⟩]) w:=by
 rcases (show k=0\/k=1\/k=2\/k=3\/k=4\/k=5\/k=6\/k=7\/k=8\/k=9\/k=10\/k=11\/k=12 from by omega) with rfl | rfl | rfl | rfl | rfl | rfl | rfl | rfl | rfl | rfl | rfl | rfl | rfl <;> kernel_rfl
def jumpCs:List Value:=jumpT.flatMap (fun r=>[.string ⟨r.1.toArray⟩,.string ⟨r.2.toArray⟩])
def JumpTb (w:World):Prop:=w.rangeAt 1 0 jumpCs
def jumpA (k:Nat):List UInt8:=match jumpT[k]? with | some r=>r.1 | none=>[]
def jumpB (k:Nat):List UInt8:=match jumpT[k]? with | some r=>r.2 | none=>[]
theorem jump_row (k:Nat) (hk:k<14):jumpT[k]? = some (jumpA k,jumpB k):=by
 obtain ⟨r,hr⟩:∃ r,jumpT[k]? = some r:=⟨_,List.getElem?_eq_getElem (show k<jumpT.length from hk)⟩
 unfold jumpA jumpB
 rw [hr]
theorem jump_ent (k:Nat) (hk:k<14) (x y:Int):entA jumpT x y k=[(jumpA k,(k*16+x,0,0,0)),(jumpB k,(k*16+y,0,0,0))]:=by
 unfold entA
 rw [jump_row k hk]
set_option maxRecDepth 20000 in
theorem jump_idx (k:Nat) (hk:k<14) (w:World):(Instr.index 131 (.agg jumpCs.toArray) (.int .i64 k)).run Tryz.prog w=.ok (.agg #[.string ⟨(jumpA k).toArray⟩,.string ⟨(jumpB k).toArray⟩]) w:=by
 rcases (show k=0\/k=1\/k=2\/k=3\/k=4\/k=5\/k=6\/k=7\/k=8\/k=9\/k=10\/k=11\/k=12\/k=13 from by omega) with rfl | rfl | rfl | rfl | rfl | rfl | rfl | rfl | rfl | rfl | rfl | rfl | rfl | rfl <;> kernel_rfl
def memCs:List Value:=memT.flatMap (fun r=>.int .u8 r.1::r.2.map (fun l=>.string ⟨l.toArray⟩))
def MemTb (w:World):Prop:=w.rangeAt 4 0 memCs
def memA (k:Nat):Int:=match memT[k]? with | some r=>r.1 | none=>0
def memW (k j:Nat):List UInt8:=match memT[k]? with | some r=>r.2.getD j [] | none=>[]
set_option maxRecDepth 20000 in
theorem mem_idx (k:Nat) (hk:k<4) (w:World):(Instr.index 165 (.agg memCs.toArray) (.int .i64 k)).run Tryz.prog w=.ok (.agg #[.int .u8 (memA k),.string ⟨(memW k 0).toArray⟩,.string ⟨(memW k 1).toArray⟩,.string ⟨(memW k 2).toArray⟩,.string ⟨(memW k 3).toArray⟩]) w:=by
 rcases (show k=0\/k=1\/k=2\/k=3 from by omega) with rfl | rfl | rfl | rfl <;> kernel_rfl
theorem idx4s (s:Nat->Value) (k:Nat) (hk:k<4) (w:World):(Instr.index 163 (.agg #[s 0,s 1,s 2,s 3]) (.int .i64 k)).run Tryz.prog w=.ok (s k) w:=by
 rcases (show k=0\/k=1\/k=2\/k=3 from by omega) with rfl | rfl | rfl | rfl <;> kernel_rfl
theorem mem_all:∀ k:Fin 4,∀ j:Fin 4,entM k.val j.val=[(memW k.val j.val,(memA k.val+(j.val:Int)*8,0,0,0))]/\(memW k.val j.val).length<=1000/\bits .or .u8 (memA k.val) ((j.val:Int)*8)=memA k.val+(j.val:Int)*8/\0<=memA k.val/\memA k.val<256:=by decide +kernel
theorem off_ent (k:Nat) (hk:k<9):entO k=[(offS3 k,(offA k,0,offB k,0))]:=by
 unfold entO
 rw [(off_row k hk).1]
theorem imm_ent (k:Nat) (hk:k<29):entI k=[(immS3 k,(immA k,0,0,immB k))]:=by
 unfold entI
 rw [(imm_row k hk).1]
def WTabs (w:World):Prop:=ReckTb w/\JumpTb w/\MemTb w/\OffTb w/\ImmTb w
theorem WTabs.out {w w':World} (h:WTabs w) (o:Out w w'):WTabs w':=⟨rangeAt_out h.1 o,rangeAt_out h.2.1 o,rangeAt_out h.2.2.1 o,rangeAt_out h.2.2.2.1 o,rangeAt_out h.2.2.2.2 o⟩
end Go.Proofs.YtadneimllbfdnaaGreatDoor
namespace Go.Proofs.YtadneimllbfdnaaGreatDoor
open Go.RowKit Go.Shelf
set_option linter.unusedVariables false
set_option linter.unusedSimpArgs false
theorem pR:∀ k,k<=13->mnR k <+: mnAll:=fun k hk=>(show ∀ k:Fin 14,mnR k.val <+: mnAll by decide +kernel) ⟨k,by omega⟩
theorem pJ:∀ k,k<=14->mnJ k <+: mnAll:=fun k hk=>(show ∀ k:Fin 15,mnJ k.val <+: mnAll by decide +kernel) ⟨k,by omega⟩
theorem pM:∀ k j,k<4->j<=4->mnM k j <+: mnAll:=fun k j hk hj=>(show ∀ k:Fin 4,∀ j:Fin 5,mnM k.val j.val <+: mnAll by decide +kernel) ⟨k,by omega⟩ ⟨j,by omega⟩
theorem pO:∀ k,k<=9->mnO k <+: mnAll:=fun k hk=>(show ∀ k:Fin 10,mnO k.val <+: mnAll by decide +kernel) ⟨k,by omega⟩
theorem pI:∀ k,k<=29->mnI k <+: mnAll:=fun k hk=>(show ∀ k:Fin 30,mnI k.val <+: mnAll by decide +kernel) ⟨k,by omega⟩
theorem mnAll_len:mnAll.length<111:=by decide +kernel
theorem live_mean:∀ x ∈ live mnAll,meanOf x.1=some x.2:=by decide +kernel
theorem live_none (t:List UInt8) (h:∀ x ∈ live mnAll,x.1 ≠ t):meanOf t=none:=by
 unfold meanOf
 by_cases ht:t=[]
 · rw [if_pos ht]
 ·
  rw [if_neg ht]
  unfold lastAt
  rw [Option.map_eq_none_iff,List.find?_eq_none]
  intro x hx e
  have he:x.1=t:=eq_of_beq e
  refine h x (List.mem_filter.2 ⟨List.mem_reverse.1 hx, ?_⟩) he
  rw [he]
  cases t with
  | nil=>exact absurd rfl ht
  | cons a b=>rfl
theorem each_seq (F:Fence) (hd:F.depth=none) (hro:F.round=none) (h66:F.fn 143) (h105:F.fn 168) (n:Nat) (w0:World) (hT:WTabs w0) :
  SeqStopsK F n Tryz.prog 143 #[] encM KC (fun ys=>ys=live mnAll) (fun pre=>pre <+: live mnAll) 111 w0:=fun l J Jx W hW hJ hJx hY h0=>by
 have hT:=hT.out hW
 exact each_in F hd hro h66 h105 n l 111 mnAll_len J Jx W hJ hJx (fun m pre x W1 h1 hl=>yield_any hd m (hY pre x W1 h1 hl)) h0
  reckCs hT.1 (show (Tryz.prog.info? 162).map (·.size)=some reckCs.length by kernel_rfl) reckA reckB (fun k hk w=>reck_idx k (by omega) w) (fun k hk=>by rw [mnR_step,reck_ent k hk,List.append_assoc];rfl) pR
  jumpCs hT.2.1 (show (Tryz.prog.info? 131).map (·.size)=some jumpCs.length by kernel_rfl) jumpA jumpB (fun k hk w=>jump_idx k (by omega) w) (fun k hk=>by rw [mnJ_step,jump_ent k hk,List.append_assoc];rfl) pJ
  memCs hT.2.2.1 (show (Tryz.prog.info? 165).map (·.size)=some memCs.length by kernel_rfl) memA memW (fun k hk w=>mem_idx k (by omega) w) (fun k j hj w=>idx4s (fun j=>.string ⟨(memW k j).toArray⟩) j (by omega) w)
  (fun k j hk hj=>(mem_all ⟨k,hk⟩ ⟨j,hj⟩).2.2.1) (fun k j hk hj=>by rw [mnM_step,(mem_all ⟨k,hk⟩ ⟨j,hj⟩).1]) pM
  offCs hT.2.2.2.1 (show (Tryz.prog.info? 189).map (·.size)=some offCs.length by kernel_rfl) offA offB offS3 (fun k hk w=>off_idx k (by omega) w) (fun k hk=>by rw [mnO_step,off_ent k hk]) pO
  immCs hT.2.2.2.2 (show (Tryz.prog.info? 191).map (·.size)=some immCs.length by kernel_rfl) immA immB immS3 (fun k hk w=>imm_idx k (by omega) w) (fun k hk=>by rw [mnI_step,imm_ent k hk]) pI
theorem meaning_any (w:World) (t:List UInt8) (hT:WTabs w):Calls Tryz.prog 104 #[.string ⟨t.toArray⟩] w fun e w'=>e=.returned (.tuple #[mnV ((meanOf t).getD (0,0,0,0)),.bool (meanOf t).isSome])/\Out w w':=by
 refine (callsIn_wide (n:=5)).1 ?_
 refine (meaning_in Fence.wide rfl rfl trivial trivial trivial 5 111 (by omega) w t (fun w0 hB=>each_seq Fence.wide rfl rfl trivial trivial 4 w0 (hT.out hB))).mono ?_
 rintro e W' ⟨⟨x,hx,rfl,rfl⟩ | ⟨hn,rfl⟩,hB⟩
 · rw [live_mean x hx];exact ⟨rfl,hB⟩
 · rw [live_none t hn];exact ⟨rfl,hB⟩
end Go.Proofs.YtadneimllbfdnaaGreatDoor
namespace Go.Proofs.YtadneimllbfdnaaGreatDoor
open Go.RowKit
open Go.Maps (Keyed)
set_option linter.unusedVariables false
set_option linter.unusedSimpArgs false
theorem size5:(Tryz.prog.info? 40).map (·.size)=some 5:=by kernel_rfl
theorem insn_any (o s f i:Int) (w:World) (h:(0<=o/\o<256)/\(0<=s/\s<256)/\(0<=f/\f<256)/\(0<=i/\i<256)):Calls Tryz.prog 105 #[.agg #[.int .u8 o,.int .u8 s,.int .u8 f,.int .u8 i]] w fun e w'=>e=.returned (.agg #[.int .i64 o,.int .i64 0,.int .i64 s,.int .i64 f,.int .i64 i])/\Out w w':=by
 obtain ⟨⟨o1,o2⟩,⟨s1,s2⟩,⟨f1,f2⟩,⟨i1,i2⟩⟩:=h
 go_enter Tryz.func105,Tryz.ntmps105
 go_wp2
 refine bodyPost_ret (results_cell_row rfl _ _ (w.heap.size+1) 40 #[.int .i64 o,.int .i64 0,.int .i64 s,.int .i64 f,.int .i64 i] (0,0) _ rfl (by rw [<-size_alloc w (.cells #[.int .u8 o,.int .u8 s,.int .u8 f,.int .u8 i] 153)];exact heap_alloc_new _ _) Tryz.underlying40 rfl size5) rfl ?_
 exact ⟨rfl,((Out.refl w).alloc _).alloc _⟩
theorem mean_bd (l:List UInt8) (m:Mn) (h:meanOf l=some m):(0<=m.1/\m.1<256)/\(0<=m.2.1/\m.2.1<256)/\(0<=m.2.2.1/\m.2.2.1<256)/\(0<=m.2.2.2/\m.2.2.2<256):=by
 obtain ⟨x,hx,_,rfl⟩:=mean_mem l m h
 exact (show ∀ x ∈ mnAll,(0<=x.2.1/\x.2.1<256)/\(0<=x.2.2.1/\x.2.2.1<256)/\(0<=x.2.2.2.1/\x.2.2.2.1<256)/\(0<=x.2.2.2.2/\x.2.2.2.2<256) by decide +kernel) x hx
theorem results_row_tmp2 {P:Program} {fn:Func} {p u v:Tmp} {ty:TypeId} (h:fn.results = #[.cell p ty,.tmp u,.tmp v]) (tmps:Array Value) (w:World) (g:Nat) (t:TypeId) (cs:Array Value) (fr:Nat × Nat) (d:TypeDesc)
  (hp:tmps.getD p undef=.pointer (some ⟨g,0,none⟩)) (hg:w.heap[g]? = some (.cells cs t fr))
  (hu:P.underlying ty=some d) (hd:(match d with | .struct _ | .array _ _=>true | _=>false)=true) (hi:(P.info? ty).map (·.size)=some cs.size) :
  (results fn tmps).run P w=.ok (.tuple #[.agg cs,tmps.getD u undef,tmps.getD v undef]) w:=by
 have hp':tmps[p]?.getD undef=.pointer (some ⟨g,0,none⟩):=by simpa using hp
 simp [results,h,hp',asAddr,run_loadVar_row w g t ty cs fr d hg hu hd hi,Sem.run_bind,Result.andThen]
end Go.Proofs.YtadneimllbfdnaaGreatDoor
