import Derived.Test.YtadneimllbfdnaaGreatDoorGu13
import Derived.RangeFuncNested
import Derived.RangeFuncBound
import Derived.RangeFuncCalls
import Derived.RangeFuncLeaves
import Derived.Shelf.Abstract
import Derived.Shelf.RegionOpen
import Derived.OwnWalkIn
import Derived.TacticsInMore
import Derived.LoopNIn
import Derived.LoopIn
import Derived.Deep.MidRow
namespace Go.Proofs.YtadneimllbfdnaaGreatDoor
open Go.RowKit Go.Shelf
set_option linter.unusedVariables false
set_option linter.unusedSimpArgs false
attribute [local go_sem] Oper.semAt_some
theorem room_of_none {F:Fence} (hd:F.depth=none) (k:Nat):F.room k:=fun d h=>by rw [hd] at h;cases h
theorem round_any {F:Fence} (hd:F.depth=none) {m m':Nat} {P:Program} {l:Nat} {f:FuncId} {tmps:Array Value} {assign body:Code} {w:World} {R:Ending->World->Prop} (h:RoundIn F m P l f tmps assign body w R):RoundIn F m' P l f tmps assign body w R:=⟨h.1,fun c cs _=>h.2 c cs (room_of_none hd _)⟩
theorem yield_any {F:Fence} (hd:F.depth=none) {m:Nat} (m':Nat) {P:Program} {l:Nat} {args:Array Value} {W:World} {R:Ending->World->Prop} (h:YieldAt F m P l args W R):YieldAt F m' P l args W R:=by
 obtain ⟨fn,tmps,assign,body,hy,hR⟩:=h
 exact ⟨fn,tmps,assign,body,hy,round_any hd hR⟩
theorem tell_nil (F:Fence) (hf:F.fn 168) (hro:F.round=none) (n:Nat) (m:Value) (o s f i:Int) (hm:m=.agg #[.int .u8 o,.int .u8 s,.int .u8 f,.int .u8 i]) (q:Value) (W:World) :
  CallsIn F n Tryz.prog 168 #[.string ⟨#[]⟩,m,q] W fun e W'=>e=.returned (.bool true)/\W'=W.alloc (.cells #[.int .u8 o,.int .u8 s,.int .u8 f,.int .u8 i] 153):=by
 subst hm
 refine callsIn_of_wp Tryz.func168 rfl hf ?_ hro
 simp only [Tryz.ntmps168,List.size_toArray,List.length_cons,List.length_nil,Nat.reduceAdd,Nat.reduceSub,Array.replicate_succ,Array.replicate_zero,List.push_toArray,List.append_toArray,List.nil_append,List.cons_append]
 gi_wp2
 refine ⟨fun _ h=>(by cases h), ?_⟩
 gi_wp2
 go_ret
 exact ⟨rfl,rfl⟩
theorem tell_some (F:Fence) (hd:F.depth=none) (hf:F.fn 168) (hro:F.round=none) (n l Bq:Nat) (t:List UInt8) (ht:t.isEmpty=false) (o s f i:Int) (W:World) (hB:W.cell? ⟨Bq,0,none⟩=some (.func (.yield l) #[] #[])) (A B:World->Prop)
  (hY:YieldAt F (n - 1) Tryz.prog l #[.string ⟨t.toArray⟩,.agg #[.int .u8 o,.int .u8 s,.int .u8 f,.int .u8 i]] (W.alloc (.cells #[.int .u8 o,.int .u8 s,.int .u8 f,.int .u8 i] 153)) fun e W'=>(e=.returned (.bool true)/\A W')\/(e=.returned (.bool false)/\B W')) :
  CallsIn F n Tryz.prog 168 #[.string ⟨t.toArray⟩,.agg #[.int .u8 o,.int .u8 s,.int .u8 f,.int .u8 i],.pointer (some ⟨Bq,0,none⟩)] W fun e W'=>(e=.returned (.bool true)/\A W')\/(e=.returned (.bool false)/\B W'):=by
 have hdd:∀ k:Nat,(F.depth.isSome=true->1<=k):=fun k h=>by rw [hd] at h;cases h
 obtain ⟨fn,tmps,assign,body,hy,hR⟩:=hY
 refine callsIn_of_wp Tryz.func168 rfl hf ?_ hro
 simp only [Tryz.ntmps168,List.size_toArray,List.length_cons,List.length_nil,Nat.reduceAdd,Nat.reduceSub,Array.replicate_succ,Array.replicate_zero,List.push_toArray,List.append_toArray,List.nil_append,List.cons_append]
 have hB2:(W.alloc (.cells #[.int .u8 o,.int .u8 s,.int .u8 f,.int .u8 i] 153)).cell? ⟨Bq,0,none⟩=some (.func (.yield l) #[] #[]):=cell_kept hB (World.grownBy_alloc W _ none) (by simp)
 gi_wp2_with ((try refine ⟨hdd _, ?_⟩);refine hR.mono ?_;clear hR;rintro e W2 (⟨rfl,hA⟩ | ⟨rfl,hBb⟩))
 ·
  go_ret
  exact .inl ⟨rfl,hA⟩
 ·
  go_ret
  exact .inr ⟨rfl,hBb⟩
attribute [local go_sem] Oper.semAt_some
theorem wpListIn_load_mid {F:Fence} {n:Nat} {P:Program} {ops:Array Oper} {rest:List Oper} {op:Oper} {a:Act} {w:World} {Q:Exit->Act->World->Prop} (hgd:op.guard=none) (ty:TypeId) (x:Operand) (ho:op.op=.load ty x)
  (b o:Nat) (hx:a.eval x=.pointer (some ⟨b,o,none⟩)) (cs:List Value) (d:TypeDesc) (hc:w.rangeAt b o cs)
  (hu:P.underlying ty=some d) (hd:d.isRow=true) (hi:(P.info? ty).map (·.size)=some cs.length)
  (h:wpListIn F n P ops Q rest (a.put op.dst (.agg cs.toArray)) w):wpListIn F n P ops Q (op::rest) a w:=by
 refine wpListIn_plain hgd fun K hK=>?_
 unfold Oper.wpIn
 refine ⟨?_, ?_⟩
 · simp [Oper.about,ho]
 ·
  rw [Oper.semAt_plain F _ _ (by rw [ho];intro c hc';cases hc')]
  simp only [execOp,ho,hx,Instr.loadAt,Instr.sureAddr,Sem.run_bind,Sem.run_pure,Result.andThen_ok,run_loadVar_mid w b o ty cs d hc hu hd hi]
  exact hK _ _ h
def KC (W W':World):Prop:=W.heap.size<=W'.heap.size/\∀ (b:Nat) (cs:Array Value) (t:TypeId) (fr:Nat × Nat),W.heap[b]? = some (Obj.cells cs t fr)->W'.heap[b]? = some (Obj.cells cs t fr)
theorem KC.refl (W:World):KC W W:=⟨Nat.le_refl _,fun _ _ _ _ h=>h⟩
theorem KC.trans {A B C:World} (h:KC A B) (k:KC B C):KC A C:=⟨Nat.le_trans h.1 k.1,fun b cs t fr hb=>k.2 b cs t fr (h.2 b cs t fr hb)⟩
theorem KC.alloc (W:World) (o:Obj):KC W (W.alloc o):=⟨by simp,fun b cs t fr hb=>(Below.heap_alloc W o b (Array.getElem?_eq_some_iff.1 hb).1).trans hb⟩
theorem KC.cell {W W':World} (h:KC W W') {b j:Nat} {v:Value} (hc:W.cell? ⟨b,j,none⟩=some v):W'.cell? ⟨b,j,none⟩=some v:=by
 unfold World.cell? at hc ⊢
 cases hb:W.heap[b]? with
 | none=>simp [hb] at hc
 | some o=>
  cases o with
  | cells cs t fr=>rw [hb] at hc;rw [h.2 b cs t fr hb];exact hc
  | _=>simp [hb] at hc
theorem KC.range {W W':World} (h:KC W W') {b:Nat} {cs:List Value} (hr:W.rangeAt b 0 cs):W'.rangeAt b 0 cs:=fun j v hj=>h.cell (hr j v hj)
def live (L:List (List UInt8 × Mn)):List (List UInt8 × Mn):=L.filter (fun x=>!x.1.isEmpty)
def encM (x:List UInt8 × Mn):Array Value:=#[.string ⟨x.1.toArray⟩,mnV x.2]
theorem tell_any (F:Fence) (hd:F.depth=none) (hro:F.round=none) (h105:F.fn 168) (n l Bq N0 N:Nat) (J Jx:List (List UInt8 × Mn)->World->Prop) (hJ:AbidesFrom N0 J)
  (hY:∀ m pre x W1,J pre W1->pre.length<N->YieldAt F m Tryz.prog l (encM x) W1 fun e W'=>(e=.returned (.bool true)/\J (pre++[x]) W'/\KC W1 W')\/(e=.returned (.bool false)/\Jx (pre++[x]) W'))
  (t:List UInt8) (o s f i:Int) (pre:List (List UInt8 × Mn)) (W:World) (hB:W.cell? ⟨Bq,0,none⟩=some (.func (.yield l) #[] #[])) (hp:J pre W) (hlen:pre.length<N) :
  CallsIn F n Tryz.prog 168 #[.string ⟨t.toArray⟩,.agg #[.int .u8 o,.int .u8 s,.int .u8 f,.int .u8 i],.pointer (some ⟨Bq,0,none⟩)] W fun e W'=>(e=.returned (.bool true)/\J (pre++live [(t,(o,s,f,i))]) W'/\KC W W')\/(e=.returned (.bool false)/\Jx (pre++live [(t,(o,s,f,i))]) W'):=by
 have hA:=hJ pre W (W.alloc (.cells #[.int .u8 o,.int .u8 s,.int .u8 f,.int .u8 i] 153)) none hp (World.grownBy_alloc W _ none) (fun r e=>by cases e)
 have hk:=KC.alloc W (.cells #[.int .u8 o,.int .u8 s,.int .u8 f,.int .u8 i] 153)
 cases t with
 | nil=>
  refine (tell_nil F h105 hro n _ o s f i rfl _ W).mono ?_
  rintro e W' ⟨rfl,rfl⟩
  exact .inl ⟨rfl,by simpa [live] using hA,hk⟩
 | cons c r=>
  have hl:live [(c::r,(o,s,f,i))]=[(c::r,(o,s,f,i))]:=rfl
  rw [hl]
  refine (tell_some F hd h105 hro n l Bq (c::r) rfl o s f i W hB (fun W'=>J (pre++[(c::r,(o,s,f,i))]) W'/\KC W W') (fun W'=>Jx (pre++[(c::r,(o,s,f,i))]) W') ?_)
  exact YieldAt.mono (hY (n - 1) pre (c::r,(o,s,f,i)) _ hA hlen) (fun e W' h=>h.elim (fun ⟨h1,h2,h3⟩=>.inl ⟨h1,h2,hk.trans h3⟩) .inr)
theorem lenp {a:List (List UInt8 × Mn)} {N:Nat} (h:a <+: mnAll) (hN:mnAll.length<N):(live a).length<N:=by
 have h1:=(h.filter (fun x=>!x.1.isEmpty)).length_le
 have h2:=List.length_filter_le (fun x:List UInt8 × Mn=>!x.1.isEmpty) mnAll
 unfold live
 omega
theorem lenp2 {a b:List (List UInt8 × Mn)} {x y:List UInt8 × Mn} {N:Nat} (st:b=(a++[x])++[y]) (h:b <+: mnAll) (hN:mnAll.length<N):(live a++live [x]).length<N:=by
 have:=lenp (a:=a++[x]) (((List.prefix_append _ _).trans (by rw [<-st];exact List.prefix_refl _)).trans h) hN
 unfold live at this ⊢
 rwa [List.filter_append] at this
theorem or_of (x:Int) (k:Nat) (hk:k<14) (hx:∀ k:Fin 14,bits BinOp.or IntKind.u8 ((k.val:Int)*16) x=(k.val:Int)*16+x):bits BinOp.or IntKind.u8 ((k:Int)*16) x=(k:Int)*16+x:=hx ⟨k,hk⟩
set_option maxRecDepth 40000 in
set_option maxHeartbeats 4000000 in
theorem each_in (F:Fence) (hd:F.depth=none) (hro:F.round=none) (h66:F.fn 143) (h105:F.fn 168) (n l N:Nat) (hN:mnAll.length<N) (J Jx:List (List UInt8 × Mn)->World->Prop) (W:World) (hJ:AbidesFrom W.heap.size J) (hJx:AbidesFrom W.heap.size Jx)
  (hY:∀ m pre x W1,J pre W1->pre.length<N->YieldAt F m Tryz.prog l (encM x) W1 fun e W'=>(e=.returned (.bool true)/\J (pre++[x]) W'/\KC W1 W')\/(e=.returned (.bool false)/\Jx (pre++[x]) W')) (h0:J [] W)
  (c1:List Value) (r1:W.rangeAt 3 0 c1) (s1:(Tryz.prog.info? 162).map (·.size)=some c1.length) (A1 B1:Nat->List UInt8)
  (hix1:∀ (k:Nat),(k:Int)<13->∀ w:World,(Instr.index 162 (.agg c1.toArray) (.int .i64 k)).run Tryz.prog w=.ok (.agg #[.string ⟨(A1 k).toArray⟩,.string ⟨(B1 k).toArray⟩]) w)
  (e1:∀ k,k<13->mnR (k+1)=(mnR k++[(A1 k,((k:Int)*16+7,0,0,0))])++[(B1 k,((k:Int)*16+4,0,0,0))]) (p1:∀ k,k<=13->mnR k <+: mnAll)
  (c2:List Value) (r2:W.rangeAt 1 0 c2) (s2:(Tryz.prog.info? 131).map (·.size)=some c2.length) (A2 B2:Nat->List UInt8)
  (hix2:∀ (k:Nat),(k:Int)<14->∀ w:World,(Instr.index 131 (.agg c2.toArray) (.int .i64 k)).run Tryz.prog w=.ok (.agg #[.string ⟨(A2 k).toArray⟩,.string ⟨(B2 k).toArray⟩]) w)
  (e2:∀ k,k<14->mnJ (k+1)=(mnJ k++[(A2 k,((k:Int)*16+5,0,0,0))])++[(B2 k,((k:Int)*16+6,0,0,0))]) (p2:∀ k,k<=14->mnJ k <+: mnAll)
  (c3:List Value) (r3:W.rangeAt 4 0 c3) (s3:(Tryz.prog.info? 165).map (·.size)=some c3.length) (A3:Nat->Int) (W3:Nat->Nat->List UInt8)
  (hix3:∀ (k:Nat),(k:Int)<4->∀ w:World,(Instr.index 165 (.agg c3.toArray) (.int .i64 k)).run Tryz.prog w=.ok (.agg #[.int .u8 (A3 k),.string ⟨(W3 k 0).toArray⟩,.string ⟨(W3 k 1).toArray⟩,.string ⟨(W3 k 2).toArray⟩,.string ⟨(W3 k 3).toArray⟩]) w)
  (hix3':∀ (k j:Nat),(j:Int)<4->∀ w:World,(Instr.index 163 (.agg #[.string ⟨(W3 k 0).toArray⟩,.string ⟨(W3 k 1).toArray⟩,.string ⟨(W3 k 2).toArray⟩,.string ⟨(W3 k 3).toArray⟩]) (.int .i64 j)).run Tryz.prog w=.ok (.string ⟨(W3 k j).toArray⟩) w)
  (o3:∀ k j:Nat,k<4->j<4->bits BinOp.or IntKind.u8 (A3 k) ((j:Int)*8)=A3 k+(j:Int)*8) (e3:∀ k j:Nat,k<4->j<4->mnM k (j+1)=mnM k j++[(W3 k j,(A3 k+(j:Int)*8,0,0,0))]) (p3:∀ k j,k<4->j<=4->mnM k j <+: mnAll)
  (c4:List Value) (r4:W.rangeAt 6 0 c4) (s4:(Tryz.prog.info? 189).map (·.size)=some c4.length) (A4 B4:Nat->Int) (T4:Nat->List UInt8)
  (hix4:∀ (k:Nat),(k:Int)<9->∀ w:World,(Instr.index 189 (.agg c4.toArray) (.int .i64 k)).run Tryz.prog w=.ok (.agg #[.int .u8 (A4 k),.int .u8 (B4 k),.string ⟨(T4 k).toArray⟩]) w)
  (e4:∀ k,k<9->mnO (k+1)=mnO k++[(T4 k,(A4 k,0,B4 k,0))]) (p4:∀ k,k<=9->mnO k <+: mnAll)
  (c5:List Value) (r5:W.rangeAt 7 0 c5) (s5:(Tryz.prog.info? 191).map (·.size)=some c5.length) (A5 B5:Nat->Int) (T5:Nat->List UInt8)
  (hix5:∀ (k:Nat),(k:Int)<29->∀ w:World,(Instr.index 191 (.agg c5.toArray) (.int .i64 k)).run Tryz.prog w=.ok (.agg #[.int .u8 (A5 k),.int .u8 (B5 k),.string ⟨(T5 k).toArray⟩]) w)
  (e5:∀ k,k<29->mnI (k+1)=mnI k++[(T5 k,(A5 k,0,0,B5 k))]) (p5:∀ k,k<=29->mnI k <+: mnAll) :
  CallsIn F n Tryz.prog 143 #[.func (.yield l) #[] #[]] W fun e W'=>(∃ v,e=.returned v)/\((∃ ys,ys=live mnAll/\J ys W')\/(∃ pre,pre <+: live mnAll/\Jx pre W')):=by
 have hdd:∀ k:Nat,(F.depth.isSome=true->1<=k):=fun k h=>by rw [hd] at h;cases h
 refine callsIn_of_wp Tryz.func143 rfl h66 ?_ hro
 simp only [Tryz.ntmps143,List.size_toArray,List.length_cons,List.length_nil,Nat.reduceAdd,Nat.reduceSub,Array.replicate_succ,Array.replicate_zero,List.push_toArray,List.append_toArray,List.nil_append,List.cons_append]
 have hKb:=KC.alloc W (.cells #[.func (.yield l) #[] #[]] 211)
 have r1:=hKb.range r1
 have r2:=hKb.range r2
 have r3:=hKb.range r3
 have r4:=hKb.range r4
 have r5:=hKb.range r5
 gi_wp2_with (refine wpListIn_load_mid rfl 162 (.global 3) rfl 3 0 rfl c1 _ r1 Tryz.underlying162 rfl s1 ?_)
 have hBq:(W.alloc (.cells #[.func (.yield l) #[] #[]] 211)).cell? ⟨W.heap.size,0,none⟩=some (.func (.yield l) #[] #[]):=by
  rw [World.cell?,show (W.alloc (.cells #[.func (.yield l) #[] #[]] 211)).heap[W.heap.size]? = some (.cells #[.func (.yield l) #[] #[]] 211) from heap_alloc_new W _];rfl
 have hJ1:=hJ [] W (W.alloc (.cells #[.func (.yield l) #[] #[]] 211)) none h0 (World.grownBy_alloc W _ none) (fun r e=>by cases e)
 clear hKb
 generalize W.alloc (.cells #[.func (.yield l) #[] #[]] 211)=Wb at *
 have hK:=KC.refl Wb
 gi_loopw [19] (fun iv wr=>∃ k:Nat,k<=13/\iv=.int .i64 k/\J (live (mnR k)) wr/\KC Wb wr) (fun iv _=>13 - (intOf iv).toNat)
 case atStart=>exact ⟨0,by omega,rfl,hJ1,hK⟩
 case round=>
  clear hK
  obtain ⟨k,hk,rfl,hJk,hK⟩:=hrel
  by_cases hkN:k<13
  ·
   have hlt:(k:Int)<13:=by omega
   have ho1:=or_of 7 k (by omega) (by decide +kernel)
   have ho2:=or_of 4 k (by omega) (by decide +kernel)
   have hBk:=hK.cell hBq
   have hkA:=KC.alloc wr (.cells #[.string ⟨(A1 k).toArray⟩,.string ⟨(B1 k).toArray⟩] 130)
   have hJa:=hJ _ wr (wr.alloc (.cells #[.string ⟨(A1 k).toArray⟩,.string ⟨(B1 k).toArray⟩] 130)) none hJk (World.grownBy_alloc wr _ none) (fun r e=>by cases e)
   have hnw:(wr.alloc (.cells #[.string ⟨(A1 k).toArray⟩,.string ⟨(B1 k).toArray⟩] 130)).cell? ⟨wr.heap.size,1,none⟩=some (.string ⟨(B1 k).toArray⟩):=by rw [World.cell?,show (wr.alloc (.cells #[.string ⟨(A1 k).toArray⟩,.string ⟨(B1 k).toArray⟩] 130)).heap[wr.heap.size]? = _ from heap_alloc_new wr _];rfl
   have ct1:=(tell_any F hd hro h105 (n - 1) l W.heap.size W.heap.size N J Jx hJ hY (A1 k) ((k:Int)*16+7) 0 0 0 (live (mnR k)) (wr.alloc (.cells #[.string ⟨(A1 k).toArray⟩,.string ⟨(B1 k).toArray⟩] 130)) (hkA.cell hBk) hJa (lenp (p1 k hk) hN))
   have st:=e1 k hkN
   have hpr:=p1 (k+1) (by omega)
   have hlv:live (mnR (k+1))=(live (mnR k)++live [(A1 k,((k:Int)*16+7,0,0,0))])++live [(B1 k,((k:Int)*16+4,0,0,0))]:=by rw [st];unfold live;rw [List.filter_append,List.filter_append]
   have hpl:live (mnR (k+1)) <+: live mnAll:=hpr.filter _
   gi_wp2_with (first | ((try refine ⟨hdd _, ?_⟩);gi_at_call 168;refine ct1.mono ?_;clear ct1;rintro e W1 (⟨rfl,hJ1,hK1⟩ | ⟨rfl,hX⟩);(first | (have qw:=hK1.cell hnw) | skip)) | ((try refine ⟨hdd _, ?_⟩);gi_at_call 168;refine (tell_any F hd hro h105 (n - 1) l W.heap.size W.heap.size N J Jx hJ hY (B1 k) ((k:Int)*16+4) 0 0 0 _ W1 (hK1.cell (hkA.cell hBk)) hJ1 (lenp2 st hpr hN)).mono ?_;rintro e W2 (⟨rfl,hJ2,hK2⟩ | ⟨rfl,hX2⟩)))
   ·
    go_roundw
    case rel=>exact ⟨k+1,by omega,by simp,by rw [hlv];exact hJ2,((hK.trans hkA).trans hK1).trans hK2⟩
    case measure=>simp [intOf];omega
   ·
    refine bodyPost_ret (results_none rfl _ _ _) rfl ?_
    exact ⟨⟨_,rfl⟩,.inr ⟨_,by rw [<-hlv];exact hpl,hX2⟩⟩
   ·
    refine ⟨fun _ h=>(by cases h), ?_⟩
    gi_wp2
    refine bodyPost_ret (results_none rfl _ _ _) rfl ?_
    exact ⟨⟨_,rfl⟩,.inr ⟨_,(by rw [hlv] at hpl;exact (List.prefix_append _ _).trans hpl),hX⟩⟩
  ·
   have hlt:¬(k:Int)<13:=by omega
   obtain rfl:k=13:=by omega
   gi_wp2_with (refine wpListIn_load_mid rfl 131 (.global 1) rfl 1 0 rfl c2 _ (hK.range r2) Tryz.underlying131 rfl s2 ?_)
   gi_loopw [46] (fun iv wr=>∃ k:Nat,k<=14/\iv=.int .i64 k/\J (live (mnJ k)) wr/\KC Wb wr) (fun iv _=>14 - (intOf iv).toNat)
   case atStart=>exact ⟨0,by omega,rfl,by rw [mnJ_0];exact hJk,hK⟩
   case round=>
    clear hK
    obtain ⟨k,hk,rfl,hJk,hK⟩:=hrel
    by_cases hkN:k<14
    ·
     have hlt:(k:Int)<14:=by omega
     have ho1:=or_of 5 k (by omega) (by decide +kernel)
     have ho2:=or_of 6 k (by omega) (by decide +kernel)
     have hBk:=hK.cell hBq
     have hkA:=KC.alloc wr (.cells #[.string ⟨(A2 k).toArray⟩,.string ⟨(B2 k).toArray⟩] 130)
     have hJa:=hJ _ wr (wr.alloc (.cells #[.string ⟨(A2 k).toArray⟩,.string ⟨(B2 k).toArray⟩] 130)) none hJk (World.grownBy_alloc wr _ none) (fun r e=>by cases e)
     have hnw:(wr.alloc (.cells #[.string ⟨(A2 k).toArray⟩,.string ⟨(B2 k).toArray⟩] 130)).cell? ⟨wr.heap.size,1,none⟩=some (.string ⟨(B2 k).toArray⟩):=by rw [World.cell?,show (wr.alloc (.cells #[.string ⟨(A2 k).toArray⟩,.string ⟨(B2 k).toArray⟩] 130)).heap[wr.heap.size]? = _ from heap_alloc_new wr _];rfl
     have ct1:=(tell_any F hd hro h105 (n - 1) l W.heap.size W.heap.size N J Jx hJ hY (A2 k) ((k:Int)*16+5) 0 0 0 (live (mnJ k)) (wr.alloc (.cells #[.string ⟨(A2 k).toArray⟩,.string ⟨(B2 k).toArray⟩] 130)) (hkA.cell hBk) hJa (lenp (p2 k hk) hN))
     have st:=e2 k hkN
     have hpr:=p2 (k+1) (by omega)
     have hlv:live (mnJ (k+1))=(live (mnJ k)++live [(A2 k,((k:Int)*16+5,0,0,0))])++live [(B2 k,((k:Int)*16+6,0,0,0))]:=by rw [st];unfold live;rw [List.filter_append,List.filter_append]
     have hpl:live (mnJ (k+1)) <+: live mnAll:=hpr.filter _
     gi_wp2_with (first | ((try refine ⟨hdd _, ?_⟩);gi_at_call 168;refine ct1.mono ?_;clear ct1;rintro e W1 (⟨rfl,hJ1,hK1⟩ | ⟨rfl,hX⟩);(first | (have qw:=hK1.cell hnw) | skip)) | ((try refine ⟨hdd _, ?_⟩);gi_at_call 168;refine (tell_any F hd hro h105 (n - 1) l W.heap.size W.heap.size N J Jx hJ hY (B2 k) ((k:Int)*16+6) 0 0 0 _ W1 (hK1.cell (hkA.cell hBk)) hJ1 (lenp2 st hpr hN)).mono ?_;rintro e W2 (⟨rfl,hJ2,hK2⟩ | ⟨rfl,hX2⟩)))
     ·
      go_roundw
      case rel=>exact ⟨k+1,by omega,by simp,by rw [hlv];exact hJ2,((hK.trans hkA).trans hK1).trans hK2⟩
      case measure=>simp [intOf];omega
     ·
      refine bodyPost_ret (results_none rfl _ _ _) rfl ?_
      exact ⟨⟨_,rfl⟩,.inr ⟨_,by rw [<-hlv];exact hpl,hX2⟩⟩
     ·
      refine ⟨fun _ h=>(by cases h), ?_⟩
      gi_wp2
      refine bodyPost_ret (results_none rfl _ _ _) rfl ?_
      exact ⟨⟨_,rfl⟩,.inr ⟨_,(by rw [hlv] at hpl;exact (List.prefix_append _ _).trans hpl),hX⟩⟩
    ·
     have hlt:¬(k:Int)<14:=by omega
     obtain rfl:k=14:=by omega
     gi_wp2_with (refine wpListIn_load_mid rfl 165 (.global 4) rfl 4 0 rfl c3 _ (hK.range r3) Tryz.underlying165 rfl s3 ?_)
     gi_loopw [73] (fun iv wr=>∃ k:Nat,k<=4/\iv=.int .i64 k/\J (live (mnM k 0)) wr/\KC Wb wr) (fun iv _=>4 - (intOf iv).toNat)
     case atStart=>exact ⟨0,by omega,rfl,by rw [mnM_0];exact hJk,hK⟩
     case round=>
      clear hK
      obtain ⟨k,hk,rfl,hJk,hK⟩:=hrel
      by_cases hkN:k<4
      ·
       have hlt:(k:Int)<4:=by omega
       have hkA:=KC.alloc wr (.cells #[.int .u8 (A3 k),.string ⟨(W3 k 0).toArray⟩,.string ⟨(W3 k 1).toArray⟩,.string ⟨(W3 k 2).toArray⟩,.string ⟨(W3 k 3).toArray⟩] 164)
       have hJa:=hJ _ wr (wr.alloc (.cells #[.int .u8 (A3 k),.string ⟨(W3 k 0).toArray⟩,.string ⟨(W3 k 1).toArray⟩,.string ⟨(W3 k 2).toArray⟩,.string ⟨(W3 k 3).toArray⟩] 164)) none hJk (World.grownBy_alloc wr _ none) (fun r e=>by cases e)
       have hnw:(wr.alloc (.cells #[.int .u8 (A3 k),.string ⟨(W3 k 0).toArray⟩,.string ⟨(W3 k 1).toArray⟩,.string ⟨(W3 k 2).toArray⟩,.string ⟨(W3 k 3).toArray⟩] 164)).cell? ⟨wr.heap.size,0,none⟩=some (.int .u8 (A3 k)):=by rw [World.cell?,show (wr.alloc (.cells #[.int .u8 (A3 k),.string ⟨(W3 k 0).toArray⟩,.string ⟨(W3 k 1).toArray⟩,.string ⟨(W3 k 2).toArray⟩,.string ⟨(W3 k 3).toArray⟩] 164)).heap[wr.heap.size]? = _ from heap_alloc_new wr _];rfl
       have hKo:=hK.trans hkA
       gi_wp2
       obtain ⟨w3,hw3⟩:∃ w3,w3=wr:=⟨_,rfl⟩
       rw [<-hw3] at hKo hkA hJa hnw ⊢
       generalize hWo:w3.alloc (.cells #[.int .u8 (A3 k),.string ⟨(W3 k 0).toArray⟩,.string ⟨(W3 k 1).toArray⟩,.string ⟨(W3 k 2).toArray⟩,.string ⟨(W3 k 3).toArray⟩] 164)=Wo at *
       generalize w3.heap.size=Br at *
       clear hJk hK hw3
       gi_loopw [78] (fun iv wr=>∃ j:Nat,j<=4/\iv=.int .i64 j/\J (live (mnM k j)) wr/\KC Wo wr) (fun iv _=>4 - (intOf iv).toNat)
       case atStart=>exact ⟨0,by omega,rfl,hJa,KC.refl _⟩
       case round=>
        obtain ⟨j,hj,rfl,hJk,hKj⟩:=hrel
        have hKw:=hKo.trans hKj
        by_cases hjN:j<4
        ·
         have hltj:(j:Int)<4:=by omega
         have hBk:=hKw.cell hBq
         have hrw:=hKj.cell hnw
         have ho3:=o3 k j hkN hjN
         have ct1:=(tell_any F hd hro h105 (n - 1) l W.heap.size W.heap.size N J Jx hJ hY (W3 k j) (A3 k+(j:Int)*8) 0 0 0 (live (mnM k j)) wr hBk hJk (lenp (p3 k j hkN hj) hN))
         have st:=e3 k j hkN hjN
         have hpr:=p3 k (j+1) hkN (by omega)
         have hlv:live (mnM k (j+1))=live (mnM k j)++live [(W3 k j,(A3 k+(j:Int)*8,0,0,0))]:=by rw [st];unfold live;rw [List.filter_append]
         have hpl:live (mnM k (j+1)) <+: live mnAll:=hpr.filter _
         gi_wp2_with ((try refine ⟨hdd _, ?_⟩);gi_at_call 168;refine ct1.mono ?_;clear ct1;rintro e W1 (⟨rfl,hJ1,hK1⟩ | ⟨rfl,hX⟩))
         ·
          go_roundw
          case rel=>exact ⟨j+1,by omega,by simp,by rw [hlv];exact hJ1,hKj.trans hK1⟩
          case measure=>simp [intOf];omega
         ·
          refine bodyPost_ret (results_none rfl _ _ _) rfl ?_
          exact ⟨⟨_,rfl⟩,.inr ⟨_,by rw [<-hlv];exact hpl,hX⟩⟩
        ·
         have hltj:¬(j:Int)<4:=by omega
         obtain rfl:j=4:=by omega
         gi_wp2
         go_roundw
         case rel=>exact ⟨k+1,by omega,by simp,by rw [mnM_next];exact hJk,hKw⟩
         case measure=>simp [intOf];omega
      ·
       have hlt:¬(k:Int)<4:=by omega
       obtain rfl:k=4:=by omega
       gi_wp2_with (refine wpListIn_load_mid rfl 189 (.global 6) rfl 6 0 rfl c4 _ (hK.range r4) Tryz.underlying189 rfl s4 ?_)
       gi_loopw [96] (fun iv wr=>∃ k:Nat,k<=9/\iv=.int .i64 k/\J (live (mnO k)) wr/\KC Wb wr) (fun iv _=>9 - (intOf iv).toNat)
       case atStart=>exact ⟨0,by omega,rfl,by rw [mnO_0];exact hJk,hK⟩
       case round=>
        clear hK
        obtain ⟨k,hk,rfl,hJk,hK⟩:=hrel
        by_cases hkN:k<9
        ·
         have hlt:(k:Int)<9:=by omega
         have hBk:=hK.cell hBq
         have hkA:=KC.alloc wr (.cells #[.int .u8 (A4 k),.int .u8 (B4 k),.string ⟨(T4 k).toArray⟩] 188)
         have hJa:=hJ _ wr (wr.alloc (.cells #[.int .u8 (A4 k),.int .u8 (B4 k),.string ⟨(T4 k).toArray⟩] 188)) none hJk (World.grownBy_alloc wr _ none) (fun r e=>by cases e)
         have ct1:=(tell_any F hd hro h105 (n - 1) l W.heap.size W.heap.size N J Jx hJ hY (T4 k) (A4 k) 0 (B4 k) 0 (live (mnO k)) (wr.alloc (.cells #[.int .u8 (A4 k),.int .u8 (B4 k),.string ⟨(T4 k).toArray⟩] 188)) (hkA.cell hBk) hJa (lenp (p4 k hk) hN))
         have st:=e4 k hkN
         have hpr:=p4 (k+1) (by omega)
         have hlv:live (mnO (k+1))=live (mnO k)++live [(T4 k,((A4 k),0,(B4 k),0))]:=by rw [st];unfold live;rw [List.filter_append]
         have hpl:live (mnO (k+1)) <+: live mnAll:=hpr.filter _
         gi_wp2_with ((try refine ⟨hdd _, ?_⟩);gi_at_call 168;refine ct1.mono ?_;clear ct1;rintro e W1 (⟨rfl,hJ1,hK1⟩ | ⟨rfl,hX⟩))
         ·
          go_roundw
          case rel=>exact ⟨k+1,by omega,by simp,by rw [hlv];exact hJ1,(hK.trans hkA).trans hK1⟩
          case measure=>simp [intOf];omega
         ·
          refine bodyPost_ret (results_none rfl _ _ _) rfl ?_
          exact ⟨⟨_,rfl⟩,.inr ⟨_,by rw [<-hlv];exact hpl,hX⟩⟩
        ·
         have hlt:¬(k:Int)<9:=by omega
         obtain rfl:k=9:=by omega
         gi_wp2_with (refine wpListIn_load_mid rfl 191 (.global 7) rfl 7 0 rfl c5 _ (hK.range r5) Tryz.underlying191 rfl s5 ?_)
         gi_loopw [111] (fun iv wr=>∃ k:Nat,k<=29/\iv=.int .i64 k/\J (live (mnI k)) wr/\KC Wb wr) (fun iv _=>29 - (intOf iv).toNat)
         case atStart=>exact ⟨0,by omega,rfl,by rw [mnI_0];exact hJk,hK⟩
         case round=>
          clear hK
          obtain ⟨k,hk,rfl,hJk,hK⟩:=hrel
          by_cases hkN:k<29
          ·
           have hlt:(k:Int)<29:=by omega
           have hBk:=hK.cell hBq
           have hkA:=KC.alloc wr (.cells #[.int .u8 (A5 k),.int .u8 (B5 k),.string ⟨(T5 k).toArray⟩] 190)
           have hJa:=hJ _ wr (wr.alloc (.cells #[.int .u8 (A5 k),.int .u8 (B5 k),.string ⟨(T5 k).toArray⟩] 190)) none hJk (World.grownBy_alloc wr _ none) (fun r e=>by cases e)
           have ct1:=(tell_any F hd hro h105 (n - 1) l W.heap.size W.heap.size N J Jx hJ hY (T5 k) (A5 k) 0 0 (B5 k) (live (mnI k)) (wr.alloc (.cells #[.int .u8 (A5 k),.int .u8 (B5 k),.string ⟨(T5 k).toArray⟩] 190)) (hkA.cell hBk) hJa (lenp (p5 k hk) hN))
           have st:=e5 k hkN
           have hpr:=p5 (k+1) (by omega)
           have hlv:live (mnI (k+1))=live (mnI k)++live [(T5 k,((A5 k),0,0,(B5 k)))]:=by rw [st];unfold live;rw [List.filter_append]
           have hpl:live (mnI (k+1)) <+: live mnAll:=hpr.filter _
           gi_wp2_with ((try refine ⟨hdd _, ?_⟩);gi_at_call 168;refine ct1.mono ?_;clear ct1;rintro e W1 (⟨rfl,hJ1,hK1⟩ | ⟨rfl,hX⟩))
           ·
            go_roundw
            case rel=>exact ⟨k+1,by omega,by simp,by rw [hlv];exact hJ1,(hK.trans hkA).trans hK1⟩
            case measure=>simp [intOf];omega
           ·
            refine bodyPost_ret (results_none rfl _ _ _) rfl ?_
            exact ⟨⟨_,rfl⟩,.inr ⟨_,by rw [<-hlv];exact hpl,hX⟩⟩
          ·
           have hlt:¬(k:Int)<29:=by omega
           obtain rfl:k=29:=by omega
           have hBk:=hK.cell hBq
           have ct1:=(tell_any F hd hro h105 (n - 1) l W.heap.size W.heap.size N J Jx hJ hY [108,100,100,119] 24 0 0 0 (live (mnI 29)) wr hBk hJk (lenp (p5 29 (by omega)) hN))
           have hmA:mnAll=(mnI 29++[([108,100,100,119],(24,0,0,0))])++[([108,100,109,97,112],(24,1,0,0))]:=by unfold mnAll;rw [List.append_assoc];rfl
           have hl1:live mnAll=(live (mnI 29)++live [([108,100,100,119],(24,0,0,0))])++live [([108,100,109,97,112],(24,1,0,0))]:=by
            rw [hmA]
            unfold live
            rw [List.filter_append,List.filter_append]
           gi_wp2_with (first | ((try refine ⟨hdd _, ?_⟩);gi_at_call 168;refine ct1.mono ?_;clear ct1;rintro e W1 (⟨rfl,hJ1,hK1⟩ | ⟨rfl,hX⟩)) | ((try refine ⟨hdd _, ?_⟩);gi_at_call 168;refine (tell_any F hd hro h105 (n - 1) l W.heap.size W.heap.size N J Jx hJ hY [108,100,109,97,112] 24 1 0 0 _ W1 (hK1.cell hBk) hJ1 (lenp2 hmA (List.prefix_refl _) hN)).mono ?_;rintro e W2 (⟨rfl,hJ2,hK2⟩ | ⟨rfl,hX2⟩)))
           ·
            refine bodyPost_end (results_none rfl _ _ _) rfl ?_
            exact ⟨⟨_,rfl⟩,.inl ⟨_,rfl,by rw [hl1];exact hJ2⟩⟩
           ·
            refine bodyPost_end (results_none rfl _ _ _) rfl ?_
            exact ⟨⟨_,rfl⟩,.inr ⟨_,by rw [hl1];exact List.prefix_refl _,hX2⟩⟩
           ·
            refine bodyPost_end (results_none rfl _ _ _) rfl ?_
            exact ⟨⟨_,rfl⟩,.inr ⟨_,by rw [hl1];exact List.prefix_append _ _,hX⟩⟩
end Go.Proofs.YtadneimllbfdnaaGreatDoor
