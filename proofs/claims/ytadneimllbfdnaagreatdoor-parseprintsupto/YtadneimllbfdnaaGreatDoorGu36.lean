import Derived.Test.YtadneimllbfdnaaGreatDoorGu20
import Derived.Deep.CutBlock
namespace Go.Proofs.YtadneimllbfdnaaGreatDoor
open Go.RowKit
set_option linter.unusedVariables false
set_option linter.unusedSimpArgs false
def Rw.cs (r:Rw):List Value:=[.string ⟨r.w.toArray⟩,.int .i64 r.sh,.int .i64 r.op,.int .i64 r.off,.int .i64 r.imm]
def rowsC (R:List Rw):List Value:=R.flatMap Rw.cs
theorem rowsC_app (A B:List Rw):rowsC (A++B)=rowsC A++rowsC B:=by simp [rowsC]
theorem rowsC_len (R:List Rw):(rowsC R).length=R.length*5:=by
 induction R with
 | nil=>rfl
 | cons x r ih=>show (x.cs++rowsC r).length=_;rw [List.length_append,ih];simp [Rw.cs];omega
theorem infoRw:(Tryz.prog.info? 111).map (fun i=>(i.zero,i.size,i.bytes))=some (some (.agg #[.string ⟨#[]⟩,.int .i64 0,.int .i64 0,.int .i64 0,.int .i64 0]),5,48):=by kernel_rfl
def FrK (w w':World):Prop:=∀ (k:Nat) (cs:Array Value) (t:TypeId) (fr:Nat × Nat),w.heap[k]? = some (.cells cs t fr)->¬t = 111->¬t = 144->w'.heap[k]? = some (.cells cs t fr)
theorem FrK.trans {a b c:World} (h:FrK a b) (k:FrK b c):FrK a c:=fun i cs t fr h1 h2 h3=>k i cs t fr (h i cs t fr h1 h2 h3) h2 h3
theorem FrK.out {w w':World} (o:Out w w'):FrK w w':=fun k cs t fr h _ _=>(o.block k (Array.getElem?_eq_some_iff.1 h).1).trans h
theorem FrK.chg {S:Nat->Prop} {w w':World} (c:Chg S w w') (hS:∀ k,S k->∃ (cs:Array Value) (t:TypeId) (fr:Nat × Nat),w.heap[k]? = some (.cells cs t fr)/\(t = 111\/t = 144)):FrK w w':=fun k cs t fr h h2 h3=>by
 refine (c.block k (Array.getElem?_eq_some_iff.1 h).1 (fun hs=>?_)).trans h
 obtain ⟨cs',t',fr',h4,h5⟩:=hS k hs
 rw [h] at h4
 simp at h4
 rcases h5 with e | e
 · exact h2 (h4.2.1.trans e)
 · exact h3 (h4.2.1.trans e)
structure Pk (w0 w:World) (pb:Nat) (R:List Rw) (o:Int) (W0:List UInt8):Prop where
 st:∃ a c,w.heap[pb]? = some (.cells #[.slice a R.length c,.bool false,.int .i64 o,.string ⟨W0.toArray⟩] 144 (0,0))/\w.ownsRow w0.heap.size 111 5 (.slice a R.length c) R.length (rowsC R)
 pB:w0.heap.size<=pb
 out:Out w0 w
theorem Pk.on {w0 w w':World} {pb:Nat} {R:List Rw} {o:Int} {W0:List UInt8} (h:Pk w0 w pb R o W0) (k:Out w w'):Pk w0 w' pb R o W0:=by
 obtain ⟨a,c,h1,h2⟩:=h.st
 exact ⟨⟨a,c,(k.block pb (Array.getElem?_eq_some_iff.1 h1).1).trans h1,owns_chg (S:=fun _=>False) h2 (fun _ _ h=>h) (Chg.of_out k)⟩,h.pB,h.out.trans k⟩
theorem Pk.push {w0 w wA w8:World} {pb g cap n:Nat} {R:List Rw} {o:Int} {W0:List UInt8} {a:Option Addr} {c:Nat} {r:Rw} (h1:w.heap[pb]? = some (.cells #[.slice a R.length c,.bool false,.int .i64 o,.string ⟨W0.toArray⟩] 144 (0,0))) (h2:w.ownsRow w0.heap.size 111 5 (.slice a R.length c) R.length (rowsC R)) (hp:w0.heap.size<=pb) (ho:Out w0 w) (k_:Out w wA) (hg:wA.grownBy w8 (Value.slice a R.length c).ownBlock) (hn:R.length+1=n) (hown:w8.ownsRow w0.heap.size 111 5 (.slice (some ⟨g,0,none⟩) n cap) n (rowsC R++r.cs)):Pk w0 (w8.setCell ⟨pb,0,none⟩ (.slice (some ⟨g,0,none⟩) n cap)) pb (R++[r]) o W0/\FrK w (w8.setCell ⟨pb,0,none⟩ (.slice (some ⟨g,0,none⟩) n cap)):=by
 have hA:wA.heap[pb]? = _:=(k_.block pb (Array.getElem?_eq_some_iff.1 h1).1).trans h1
 have c8:Chg (fun b=>(Value.slice a R.length c).ownBlock=some b) wA w8:=Chg.of_grown hg (fun k h=>h)
 have h8:w8.heap[pb]? = _:=(c8.block pb (Array.getElem?_eq_some_iff.1 hA).1 (fun e=>own_kind h2 h1 (by decide) e)).trans hA
 have e1:R.length+1=(R++[r]).length:=by simp
 have e2:rowsC (R++[r])=rowsC R++r.cs:=by simp [rowsC]
 have o8:Out w0 w8:=Chg.out c8 (ho.trans k_) (fun k hk=>(World.ownsRow.lt h2 k hk).1)
 subst hn
 have fr1:FrK wA w8:=FrK.chg c8 (fun k hk=>by
  have h2':=owns_chg (S:=fun _=>False) h2 (fun _ _ h=>h) (Chg.of_out k_)
  rcases h2'.2 with ⟨hv,_⟩ | ⟨g3,cap3,cur3,hv,_,hg3,_⟩
  · rw [hv] at hk;cases hk
  · rw [hv] at hk;simp [Value.ownBlock] at hk;subst hk;exact ⟨_,_,_,hg3,.inl rfl⟩)
 have fr2:FrK w8 (w8.setCell ⟨pb,0,none⟩ (.slice (some ⟨g,0,none⟩) (R.length+1) cap)):=FrK.chg (Chg.setCell (S:=fun k=>k=pb) (Chg.refl _ w8) (p:=⟨pb,0,none⟩) rfl _) (fun k hk=>by rw [hk];exact ⟨_,_,_,h8,.inr rfl⟩)
 refine ⟨⟨⟨some ⟨g,0,none⟩,cap, ?_, ?_⟩,hp,Out.setCell o8 hp _⟩,((FrK.out k_).trans fr1).trans fr2⟩
 · rw [set_atL h8, <-e1];rfl
 ·
  rw [<-e1,e2]
  exact owns_chg hown (fun k hk e=>own_kind hown h8 (by decide) (by rw [hk,e])) (Chg.setCell (S:=fun k=>k=pb) (Chg.refl _ w8) (p:=⟨pb,0,none⟩) rfl _)
set_option maxRecDepth 20000 in
set_option maxHeartbeats 2000000 in
theorem add4_no (w0 w:World) (pb:Nat) (R:List Rw) (o:Int) (h:Pk w0 w pb R o []) (hR:R.length<=1000) (A B:List UInt8) (hA:0<A.length) (hA2:A.length<=100) (hB2:B.length<=100) (sh op off imm:Int) (op0:0<=op) (op1:op<=1000) (hw:opR ⟨[],sh,op,off,imm⟩ o=false) :
  Calls Tryz.prog 160 #[.pointer (some ⟨pb,0,none⟩),.string ⟨A.toArray⟩,.string ⟨B.toArray⟩,.int .i64 sh,.int .i64 op,.int .i64 off,.int .i64 imm] w fun e w'=>(∃ q,e=.returned q)/\Pk w0 w' pb (R) o []/\FrK w w':=by
 obtain ⟨a,c,st,own⟩:=h.st
 obtain ⟨n,hn⟩:∃ n,R.length=n:=⟨_,rfl⟩
 have c1:w.cell? ⟨pb,1,none⟩=some (.bool false):=by rw [cell_atL st];rfl
 have c2:w.cell? ⟨pb,2,none⟩=some (.int .i64 o):=by rw [cell_atL st];rfl
 have c3:w.cell? ⟨pb,3,none⟩=some (.string ⟨#[]⟩):=by rw [cell_atL st];rfl
 have c0:w.cell? ⟨pb,0,none⟩=some (.slice a n c):=by rw [cell_atL st, <-hn];rfl
 have HP:=hidOf h
 have ST:=hidOf st
 have OW:=hidOf own
 have Hn:=hidOf hn
 have CO:=hidOf (fun wx=>op4_any [] sh op off imm o op0 op1 wx)
 rw [hw] at CO
 have hne:((0:Int) == (A.length:Int)+(B.length:Int))=false:=by simp;omega
 have hAI:(A.length:Int)<=100:=by omega
 have hBI:(B.length:Int)<=100:=by omega
 have hnn:n<=1000:=by omega
 clear h st own hn hw
 go_enter Tryz.func160,Tryz.ntmps160
 go_upto_region 1 with fail
 obtain ⟨q,hq⟩:∃ q,q=w.heap.size:=⟨_,rfl⟩
 obtain ⟨wB,hwB⟩:∃ wB,wB=w.alloc (.cells #[.string ⟨#[]⟩,.int .i64 sh,.int .i64 op,.int .i64 off,.int .i64 imm] 111):=⟨_,rfl⟩
 have hB3:wB.heap[q]? = some (.cells #[.string ⟨#[]⟩,.int .i64 sh,.int .i64 op,.int .i64 off,.int .i64 imm] 111 (0,0)):=by rw [hwB,hq];exact heap_alloc_new w _
 have oB:Out w wB:=by rw [hwB];exact (Out.refl w).alloc _
 rw [<-hwB, <-hq]
 have OB:=hidOf oB
 have HB3:=hidOf hB3
 have b0:=cell_later oB c0
 have b1:=cell_later oB c1
 have b2:=cell_later oB c2
 have b3:=cell_later oB c3
 have d0:wB.cell? ⟨q,0,none⟩=some (.string ⟨#[]⟩):=by rw [cell_atL hB3];rfl
 have d1:wB.cell? ⟨q,1,none⟩=some (.int .i64 sh):=by rw [cell_atL hB3];rfl
 have d2:wB.cell? ⟨q,2,none⟩=some (.int .i64 op):=by rw [cell_atL hB3];rfl
 have d3:wB.cell? ⟨q,3,none⟩=some (.int .i64 off):=by rw [cell_atL hB3];rfl
 have d4:wB.cell? ⟨q,4,none⟩=some (.int .i64 imm):=by rw [cell_atL hB3];rfl
 have Hq:=hidOf hq
 clear hq hwB hB3 oB c0 c1 c2 c3
 go_upto_region 3 with fail
 refine wp_region_held_drew (S:=(fun w'=>w'.cell? ⟨pb,1,none⟩=some (.bool false)/\w'.cell? ⟨pb,2,none⟩=some (.int .i64 o)/\w'.cell? ⟨pb,3,none⟩=some (.string ⟨#[]⟩)/\w'.cell? ⟨q,0,none⟩=some (.string ⟨#[]⟩)/\w'.cell? ⟨q,1,none⟩=some (.int .i64 sh)/\w'.cell? ⟨q,2,none⟩=some (.int .i64 op)/\w'.cell? ⟨q,3,none⟩=some (.int .i64 off)/\w'.cell? ⟨q,4,none⟩=some (.int .i64 imm))) (by kernel_rfl) ?_ (fun hHeld=>?_)
 · exact ⟨b1,b2,b3,d0,d1,d2,d3,d4⟩
 refine tkLB [0,1,2,3,4,5,6,7,8,9,10,11,12,13,14,15] ?_
 iterate 16 (refine tkLC (v:=?_) rfl rfl (by kernel_rfl) (by kernel_rfl) (by kernel_rfl) (fun _ _ _ h=>h) (by rfl) (by assumption) ?_ ?_;rotate_left;(· (intro w hSw;(try dsimp only at hSw);go_simp;(try with_reducible rfl)));simp only [Act.put,List.setIfInBounds_toArray,List.set_cons_zero,List.set_cons_succ])
 refine tkLE ?_
 refine wpAnyH_ready (rs:=[16]) (by kernel_rfl) (by simp) ?_
 refine AllReadyH.cons rfl (fun K hK=>?_) AllReadyH.nil
 rw [if_pos (by rfl)]
 go_simp
 go_at_call 129
 refine (CO.out _).mono ?_
 rintro e w2 ⟨rfl,h2⟩
 have O2:=hidOf (Out.trans ((Out.refl wB).dN 1) h2)
 refine hK.out _ _ ⟨cell_later O2.out b1,cell_later O2.out b2,cell_later O2.out b3,cell_later O2.out d0,cell_later O2.out d1,cell_later O2.out d2,cell_later O2.out d3,cell_later O2.out d4⟩ (fun hHeld=>?_)
 clear h2
 refine tkLB [17,18,19,20,21,22,23,24,25] ?_
 iterate 9 (refine tkLC (v:=?_) rfl rfl (by kernel_rfl) (by kernel_rfl) (by kernel_rfl) (fun _ _ _ h=>h) (by rfl) (by assumption) ?_ ?_;rotate_left;(· (intro w hSw;(try dsimp only at hSw);go_simp;(try with_reducible rfl)));simp only [Act.put,List.setIfInBounds_toArray,List.set_cons_zero,List.set_cons_succ])
 refine tkLE ?_
 refine wpAnyH_take (i:=26) (v:=undef) rfl (by kernel_rfl) (by kernel_rfl) (by kernel_rfl) (fun _ _ _ h=>h) (Or.inr ⟨by rfl,rfl⟩) (by assumption) ?_
 show wpAnyH _ _ _ _ _ _ _ (Act.put _ (some 80) _) _
 simp only [Act.put,List.setIfInBounds_toArray,List.set_cons_zero,List.set_cons_succ]
 refine tkLB [27,28] ?_
 iterate 2 (refine tkLC (v:=?_) rfl rfl (by kernel_rfl) (by kernel_rfl) (by kernel_rfl) (fun _ _ _ h=>h) (by rfl) (by assumption) ?_ ?_;rotate_left;(· (intro w hSw;(try dsimp only at hSw);go_simp;(try with_reducible rfl)));simp only [Act.put,List.setIfInBounds_toArray,List.set_cons_zero,List.set_cons_succ])
 refine tkLE ?_
 refine wpAnyH_done (by kernel_rfl) ?_ _
 go_wp2
 go_end0
 exact ⟨⟨_,rfl⟩,HP.out.on (OB.out.trans O2.out),FrK.out (OB.out.trans O2.out)⟩
set_option maxRecDepth 20000 in
set_option maxHeartbeats 2000000 in
theorem add4_yes (w0 w:World) (pb:Nat) (R:List Rw) (o:Int) (h:Pk w0 w pb R o []) (hR:R.length<=1000) (A B:List UInt8) (hA:0<A.length) (hA2:A.length<=100) (hB2:B.length<=100) (sh op off imm:Int) (op0:0<=op) (op1:op<=1000) (Z:List UInt8) (hZ:Z=A++B) (hw:opR ⟨[],sh,op,off,imm⟩ o=true) :
  Calls Tryz.prog 160 #[.pointer (some ⟨pb,0,none⟩),.string ⟨A.toArray⟩,.string ⟨B.toArray⟩,.int .i64 sh,.int .i64 op,.int .i64 off,.int .i64 imm] w fun e w'=>(∃ q,e=.returned q)/\Pk w0 w' pb (R++[⟨Z,sh,op,off,imm⟩]) o []/\FrK w w':=by
 obtain ⟨a,c,st,own⟩:=h.st
 obtain ⟨n,hn⟩:∃ n,R.length=n:=⟨_,rfl⟩
 have c1:w.cell? ⟨pb,1,none⟩=some (.bool false):=by rw [cell_atL st];rfl
 have c2:w.cell? ⟨pb,2,none⟩=some (.int .i64 o):=by rw [cell_atL st];rfl
 have c3:w.cell? ⟨pb,3,none⟩=some (.string ⟨#[]⟩):=by rw [cell_atL st];rfl
 have c0:w.cell? ⟨pb,0,none⟩=some (.slice a n c):=by rw [cell_atL st, <-hn];rfl
 have HP:=hidOf h
 have ST:=hidOf st
 have OW:=hidOf own
 have Hn:=hidOf hn
 have CO:=hidOf (fun wx=>op4_any [] sh op off imm o op0 op1 wx)
 rw [hw] at CO
 have hne:((0:Int) == (A.length:Int)+(B.length:Int))=false:=by simp;omega
 have hAI:(A.length:Int)<=100:=by omega
 have hBI:(B.length:Int)<=100:=by omega
 have hnn:n<=1000:=by omega
 have HZ:=hidOf hZ
 clear h st own hn hw hZ
 go_enter Tryz.func160,Tryz.ntmps160
 go_upto_region 1 with fail
 obtain ⟨q,hq⟩:∃ q,q=w.heap.size:=⟨_,rfl⟩
 obtain ⟨wB,hwB⟩:∃ wB,wB=w.alloc (.cells #[.string ⟨#[]⟩,.int .i64 sh,.int .i64 op,.int .i64 off,.int .i64 imm] 111):=⟨_,rfl⟩
 have hB3:wB.heap[q]? = some (.cells #[.string ⟨#[]⟩,.int .i64 sh,.int .i64 op,.int .i64 off,.int .i64 imm] 111 (0,0)):=by rw [hwB,hq];exact heap_alloc_new w _
 have oB:Out w wB:=by rw [hwB];exact (Out.refl w).alloc _
 rw [<-hwB, <-hq]
 have OB:=hidOf oB
 have HB3:=hidOf hB3
 have b0:=cell_later oB c0
 have b1:=cell_later oB c1
 have b2:=cell_later oB c2
 have b3:=cell_later oB c3
 have d0:wB.cell? ⟨q,0,none⟩=some (.string ⟨#[]⟩):=by rw [cell_atL hB3];rfl
 have d1:wB.cell? ⟨q,1,none⟩=some (.int .i64 sh):=by rw [cell_atL hB3];rfl
 have d2:wB.cell? ⟨q,2,none⟩=some (.int .i64 op):=by rw [cell_atL hB3];rfl
 have d3:wB.cell? ⟨q,3,none⟩=some (.int .i64 off):=by rw [cell_atL hB3];rfl
 have d4:wB.cell? ⟨q,4,none⟩=some (.int .i64 imm):=by rw [cell_atL hB3];rfl
 have Hq:=hidOf hq
 clear hq hwB hB3 oB c0 c1 c2 c3
 go_upto_region 3 with fail
 refine wp_region_held_drew (S:=(fun w'=>w'.cell? ⟨pb,1,none⟩=some (.bool false)/\w'.cell? ⟨pb,2,none⟩=some (.int .i64 o)/\w'.cell? ⟨pb,3,none⟩=some (.string ⟨#[]⟩)/\w'.cell? ⟨q,0,none⟩=some (.string ⟨#[]⟩)/\w'.cell? ⟨q,1,none⟩=some (.int .i64 sh)/\w'.cell? ⟨q,2,none⟩=some (.int .i64 op)/\w'.cell? ⟨q,3,none⟩=some (.int .i64 off)/\w'.cell? ⟨q,4,none⟩=some (.int .i64 imm))) (by kernel_rfl) ?_ (fun hHeld=>?_)
 · exact ⟨b1,b2,b3,d0,d1,d2,d3,d4⟩
 refine tkLB [0,1,2,3,4,5,6,7,8,9,10,11,12,13,14,15] ?_
 iterate 16 (refine tkLC (v:=?_) rfl rfl (by kernel_rfl) (by kernel_rfl) (by kernel_rfl) (fun _ _ _ h=>h) (by rfl) (by assumption) ?_ ?_;rotate_left;(· (intro w hSw;(try dsimp only at hSw);go_simp;(try with_reducible rfl)));simp only [Act.put,List.setIfInBounds_toArray,List.set_cons_zero,List.set_cons_succ])
 refine tkLE ?_
 refine wpAnyH_ready (rs:=[16]) (by kernel_rfl) (by simp) ?_
 refine AllReadyH.cons rfl (fun K hK=>?_) AllReadyH.nil
 rw [if_pos (by rfl)]
 go_simp
 go_at_call 129
 refine (CO.out _).mono ?_
 rintro e w2 ⟨rfl,h2⟩
 have O2:=hidOf (Out.trans ((Out.refl wB).dN 1) h2)
 refine hK.out _ _ ⟨cell_later O2.out b1,cell_later O2.out b2,cell_later O2.out b3,cell_later O2.out d0,cell_later O2.out d1,cell_later O2.out d2,cell_later O2.out d3,cell_later O2.out d4⟩ (fun hHeld=>?_)
 clear h2
 refine tkLB [17,18,19] ?_
 iterate 3 (refine tkLC (v:=?_) rfl rfl (by kernel_rfl) (by kernel_rfl) (by kernel_rfl) (fun _ _ _ h=>h) (by rfl) (by assumption) ?_ ?_;rotate_left;(· (intro w hSw;(try dsimp only at hSw);go_simp;(try with_reducible rfl)));simp only [Act.put,List.setIfInBounds_toArray,List.set_cons_zero,List.set_cons_succ])
 refine tkLE ?_
 refine wpAnyH_take (i:=20) (v:=undef) rfl (by kernel_rfl) (by kernel_rfl) (by kernel_rfl) (fun _ _ _ h=>h) (Or.inr ⟨by rfl,rfl⟩) (by assumption) ?_
 show wpAnyH _ _ _ _ _ _ _ (Act.put _ (some 74) _) _
 simp only [Act.put,List.setIfInBounds_toArray,List.set_cons_zero,List.set_cons_succ]
 refine wpAnyH_take (i:=21) (v:=undef) rfl (by kernel_rfl) (by kernel_rfl) (by kernel_rfl) (fun _ _ _ h=>h) (Or.inr ⟨by rfl,rfl⟩) (by assumption) ?_
 show wpAnyH _ _ _ _ _ _ _ (Act.put _ (some 75) _) _
 simp only [Act.put,List.setIfInBounds_toArray,List.set_cons_zero,List.set_cons_succ]
 refine wpAnyH_take (i:=22) (v:=undef) rfl (by kernel_rfl) (by kernel_rfl) (by kernel_rfl) (fun _ _ _ h=>h) (Or.inr ⟨by rfl,rfl⟩) (by assumption) ?_
 show wpAnyH _ _ _ _ _ _ _ (Act.put _ (some 76) _) _
 simp only [Act.put,List.setIfInBounds_toArray,List.set_cons_zero,List.set_cons_succ]
 refine wpAnyH_take (i:=23) (v:=undef) rfl (by kernel_rfl) (by kernel_rfl) (by kernel_rfl) (fun _ _ _ h=>h) (Or.inr ⟨by rfl,rfl⟩) (by assumption) ?_
 show wpAnyH _ _ _ _ _ _ _ (Act.put _ (some 77) _) _
 simp only [Act.put,List.setIfInBounds_toArray,List.set_cons_zero,List.set_cons_succ]
 refine wpAnyH_take (i:=24) (v:=undef) rfl (by kernel_rfl) (by kernel_rfl) (by kernel_rfl) (fun _ _ _ h=>h) (Or.inr ⟨by rfl,rfl⟩) (by assumption) ?_
 show wpAnyH _ _ _ _ _ _ _ (Act.put _ (some 78) _) _
 simp only [Act.put,List.setIfInBounds_toArray,List.set_cons_zero,List.set_cons_succ]
 refine wpAnyH_take (i:=25) (v:=undef) rfl (by kernel_rfl) (by kernel_rfl) (by kernel_rfl) (fun _ _ _ h=>h) (Or.inr ⟨by rfl,rfl⟩) (by assumption) ?_
 show wpAnyH _ _ _ _ _ _ _ (Act.put _ (some 79) _) _
 simp only [Act.put,List.setIfInBounds_toArray,List.set_cons_zero,List.set_cons_succ]
 refine wpAnyH_take (i:=26) (v:=undef) rfl (by kernel_rfl) (by kernel_rfl) (by kernel_rfl) (fun _ _ _ h=>h) (Or.inr ⟨by rfl,rfl⟩) (by assumption) ?_
 show wpAnyH _ _ _ _ _ _ _ (Act.put _ (some 80) _) _
 simp only [Act.put,List.setIfInBounds_toArray,List.set_cons_zero,List.set_cons_succ]
 refine wpAnyH_take (i:=27) (v:=undef) rfl (by kernel_rfl) (by kernel_rfl) (by kernel_rfl) (fun _ _ _ h=>h) (Or.inr ⟨by rfl,rfl⟩) (by assumption) ?_
 show wpAnyH _ _ _ _ _ _ _ (Act.put _ (some 81) _) _
 simp only [Act.put,List.setIfInBounds_toArray,List.set_cons_zero,List.set_cons_succ]
 refine tkLB [28] ?_
 iterate 1 (refine tkLC (v:=?_) rfl rfl (by kernel_rfl) (by kernel_rfl) (by kernel_rfl) (fun _ _ _ h=>h) (by rfl) (by assumption) ?_ ?_;rotate_left;(· (intro w hSw;(try dsimp only at hSw);go_simp;(try with_reducible rfl)));simp only [Act.put,List.setIfInBounds_toArray,List.set_cons_zero,List.set_cons_succ])
 refine tkLE ?_
 refine wpAnyH_done (by kernel_rfl) ?_ _
 have a1:∀ w,(Op.stringOp .add ⟨A.toArray⟩ ⟨B.toArray⟩).run Tryz.prog w=.ok (.string ⟨Z.toArray⟩) w:=add_l4 A B Z HZ.out (by omega)
 have hB2:w2.heap[q]? = some (.cells #[.string ⟨#[]⟩,.int .i64 sh,.int .i64 op,.int .i64 off,.int .i64 imm] 111 (0,0)):=(O2.out.block q (Array.getElem?_eq_some_iff.1 HB3.out).1).trans HB3.out
 have e0:w2.cell? ⟨q,0,none⟩=some (.string ⟨#[]⟩):=by rw [cell_atL hB2];rfl
 have f0:w2.frozen? ⟨q,0,none⟩=false:=frozen_atL hB2 0
 have HB2:=hidOf hB2
 have p0:=cell_later O2.out b0
 clear hB2 b0 b1 b2 b3 d0 d1 d2 d3 d4 hHeld
 go_upto_region 5 with fail
 clear e0 f0 p0 a1
 obtain ⟨wC,hwC⟩:∃ wC,wC=w2.setCell ⟨q,0,none⟩ (.string ⟨Z.toArray⟩):=⟨_,rfl⟩
 rw [<-hwC]
 have hC:wC.heap[q]? = some (.cells #[.string ⟨Z.toArray⟩,.int .i64 sh,.int .i64 op,.int .i64 off,.int .i64 imm] 111 (0,0)):=by rw [hwC,set_atL HB2.out];rfl
 have oW:Out w w2:=OB.out.trans O2.out
 have oC:Out w wC:=by rw [hwC];exact Out.setCell oW (by rw [Hq.out];exact Nat.le_refl _) _
 have hpb:wC.heap[pb]? = _:=(oC.block pb (Array.getElem?_eq_some_iff.1 ST.out).1).trans ST.out
 have hown:wC.ownsRow w0.heap.size 111 5 (.slice a R.length c) R.length (rowsC R):=owns_chg (S:=fun _=>False) OW.out (fun _ _ h=>h) (Chg.of_out oC)
 have HC:=hidOf hC
 have OC:=hidOf oC
 have HPB:=hidOf hpb
 have HOW:=hidOf hown
 obtain ⟨i0,hi,hz0,hz1,hz2⟩:=info_parts infoRw
 have pD:wC.drew.cell? ⟨pb,0,none⟩=some (.slice a n c):=by rw [cell_atL (show wC.drew.heap[pb]? = _ from hpb), <-Hn.out];rfl
 have d0:wC.drew.cell? ⟨q,0,none⟩=some (.string ⟨Z.toArray⟩):=by rw [cell_atL (show wC.drew.heap[q]? = _ from hC)];rfl
 have d1:wC.drew.cell? ⟨q,1,none⟩=some (.int .i64 sh):=by rw [cell_atL (show wC.drew.heap[q]? = _ from hC)];rfl
 have d2:wC.drew.cell? ⟨q,2,none⟩=some (.int .i64 op):=by rw [cell_atL (show wC.drew.heap[q]? = _ from hC)];rfl
 have d3:wC.drew.cell? ⟨q,3,none⟩=some (.int .i64 off):=by rw [cell_atL (show wC.drew.heap[q]? = _ from hC)];rfl
 have d4:wC.drew.cell? ⟨q,4,none⟩=some (.int .i64 imm):=by rw [cell_atL (show wC.drew.heap[q]? = _ from hC)];rfl
 have pDa:(wC.alloc (.cells #[.string ⟨Z.toArray⟩,.int .i64 sh,.int .i64 op,.int .i64 off,.int .i64 imm] 111)).cell? ⟨pb,0,none⟩=some (.slice a n c):=cell_later (((Out.refl wC)).alloc _) (show wC.cell? ⟨pb,0,none⟩=_ from pD)
 have RX:Hid (∀ O,(wC.alloc O).drew.ownsRow w0.heap.size 111 5 (.slice a n c) n (rowsC R)):=hidOf (fun O=>by
  have:=owns_chg (S:=fun _=>False) hown (fun _ _ h=>h) (Chg.of_out (((Out.refl wC).alloc O).drew))
  rw [Hn.out] at this;exact this)
 have HPw:Hid (∀ O w8,(wC.alloc O).drew.grownBy w8 (Value.slice a n c).ownBlock->w8.cell? ⟨pb,0,none⟩=some (.slice a n c)/\w8.frozen? ⟨pb,0,none⟩=false):=hidOf (fun O w8 hg=>by
  have hA:(wC.alloc O).drew.heap[pb]? = _:=((((Out.refl wC).alloc O).drew).block pb (Array.getElem?_eq_some_iff.1 hpb).1).trans hpb
  have hs:w8.heap[pb]? = _:=(hg.block pb (Array.getElem?_eq_some_iff.1 hA).1 (fun e=>own_kind (RX.out O) hA (by decide) e.symm)).trans hA
  exact ⟨by rw [cell_atL hs, <-Hn.out];rfl,frozen_atL hs 0⟩)
 have hbase:Hid (∀ O,w0.heap.size<=(wC.alloc O).drew.heap.size):=hidOf (fun O=>((HP.out.out.trans oC).alloc O).drew.size)
 have FC:Hid (FrK w wC):=hidOf (by rw [hwC];exact (FrK.out oW).trans (FrK.chg (Chg.setCell (S:=fun k=>k=q) (Chg.refl _ w2) (p:=⟨q,0,none⟩) rfl _) (fun k hk=>by rw [hk];exact ⟨_,_,_,HB2.out,.inl rfl⟩)))
 clear hwC hC oW oC hpb hown HB2 HB3 OB O2 hHeld
 go_region_law (first | (refine step_append_lies _ rfl (.tmp 91) (.tmp 93) 141 rfl w0.heap.size 111 i0 _ 5 48 Tryz.underlying141 hi hz0 hz1 hz2 rfl (by decide) (.slice a n c) n (rowsC R) rfl (RX.out _) ⟨wC.heap.size,0,none⟩ 1 1 [.string ⟨Z.toArray⟩,.int .i64 sh,.int .i64 op,.int .i64 off,.int .i64 imm] rfl rfl (fun j u hu=>cell_later ((Out.refl _).drew) (news_new wC _ _ _ rfl j u hu)) (by intro u hu;simp at hu;rcases hu with h | h | h | h | h <;> subst h <;> rfl) (by decide) (by unfold maxLen;omega) (by omega) (hbase.out _) _ rfl ?_;intro g9 cap9 w9 hown9 hgrow9 hg9 hlt9;obtain ⟨q9,f9⟩:=HPw.out _ w9 hgrow9;have W9:=hidOf hown9;have G9:=hidOf hgrow9;clear hown9 hgrow9 hg9 hlt9))
 all_goals
  go_end0
  have hP:=Pk.push (r:=⟨Z,sh,op,off,imm⟩) HPB.out HOW.out HP.out.pB (HP.out.out.trans OC.out) (((Out.refl wC).alloc _).drew) (by rw [Hn.out];exact G9.out) (by rw [Hn.out]) W9.out
  exact ⟨⟨_,rfl⟩,hP.1,FC.out.trans hP.2⟩
end Go.Proofs.YtadneimllbfdnaaGreatDoor
