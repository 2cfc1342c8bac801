import Derived.Test.YtadneimllbfdnaaGreatDoorRows
import Derived.WalkKit
import Derived.WalkLawsBesides
import Derived.Outline
import Derived.LoopTactic
import Derived.Below
import Derived.Deep.LoopGhost
import Derived.WalkSpells
import Derived.LaidMore
import Derived.Deep.Light
import Derived.Laws.Rows
import Derived.Laws.ResultCell
import Derived.Deep.OwnRows
import Derived.ProofKit
import Derived.OpenShut
import Derived.Lib.LaidTab
import Derived.Test.YtadneimllbfdnaaGreatDoorTie
namespace Go.Proofs.YtadneimllbfdnaaGreatDoor
open Go.RowKit
set_option linter.unusedVariables false
set_option linter.unusedSimpArgs false
theorem idx10 (f:Nat->Int) (k:Nat) (hk:(k:Int)<10) (w:World):(Instr.index 221 (.agg #[.int .u8 (f 0),.int .u8 (f 1),.int .u8 (f 2),.int .u8 (f 3),.int .u8 (f 4),.int .u8 (f 5),.int .u8 (f 6),.int .u8 (f 7),.int .u8 (f 8),.int .u8 (f 9)]) (.int .i64 k)).run Tryz.prog w=.ok (.int .u8 (f k)) w:=by
 rcases (show k=0\/k=1\/k=2\/k=3\/k=4\/k=5\/k=6\/k=7\/k=8\/k=9 from by omega) with rfl | rfl | rfl | rfl | rfl | rfl | rfl | rfl | rfl | rfl <;> kernel_rfl
theorem idx11 (s:Nat->Value) (k:Nat) (hk:(k:Int)<11) (w:World):(Instr.index 185 (.agg #[s 0,s 1,s 2,s 3,s 4,s 5,s 6,s 7,s 8,s 9,s 10]) (.int .i64 k)).run Tryz.prog w=.ok (s k) w:=by
 rcases (show k=0\/k=1\/k=2\/k=3\/k=4\/k=5\/k=6\/k=7\/k=8\/k=9\/k=10 from by omega) with rfl | rfl | rfl | rfl | rfl | rfl | rfl | rfl | rfl | rfl | rfl <;> kernel_rfl
set_option maxRecDepth 20000 in
theorem atomic_walk (n:Int) (w:World) (f:Nat->Int) (r:Bool) (hb:∀ k,0<=f k/\f k<256) (hl:∀ k,k<10->w.cell? ⟨9,k,none⟩=some (.int .u8 (f k)))
  (h1:Hid (∀ k,k<10->f k=n->r=true)) (h2:Hid ((∀ k,k<10->f k ≠ n)->r=false)) :
  Calls Tryz.prog 151 #[.int .i64 n] w fun e w'=>e=.returned (.bool r)/\w=w':=by
 have hix:=idx10 f
 go_enter Tryz.func151,Tryz.ntmps151
 go_wp2
 go_loop [6] (fun i=>∃ k:Nat,k<=10/\i=.int .i64 k/\Hid (∀ j,j<k->f j ≠ n)) (fun i=>10 - (intOf i).toNat)
 case atStart=>exact ⟨0,by omega,rfl,fun j hj=>by omega⟩
 case round=>
  obtain ⟨k,hk,rfl,hno⟩:=hrel
  obtain ⟨b0,b1⟩:=hb k
  go_wp2
  ·
   have e:(f k == n)=true:=by assumption
   have:=h1.out k (by omega) (by simpa using e)
   subst this
   go_ret
   exact ⟨rfl,rfl⟩
  ·
   have e:(f k == n)=false:=by assumption
   refine ⟨⟨k+1,by omega,by simp,fun j hj=>?_⟩,by simp [intOf];omega⟩
   by_cases z:j=k
   · subst z;simpa using e
   · exact hno.out j (by omega)
  ·
   obtain rfl:k=10:=by omega
   have:=h2.out hno.out
   subst this
   go_ret
   exact ⟨rfl,rfl⟩
set_option maxRecDepth 20000 in
theorem formOf_walk (op r:Int) (w:World) (s:Nat->Value) (n:Nat->Nat) (f:Nat->Nat->Int) (hb:∀ k j,0<=f k j/\f k j<256) (hl:∀ k,k<11->w.cell? ⟨5,k,none⟩=some (s k)) (hn:∀ k,n k<=100)
  (hs:∀ k,k<11->(s k=.slice none 0 0/\n k=0)\/∃ b o c,s k=.slice (some ⟨b,o,none⟩) (n k) c/\∀ j,j<n k->w.cell? ⟨b,o+j,none⟩=some (.int .u8 (f k j)))
  (h1:Hid (∀ k j,k<11->j<n k->f k j=op->r=k)) (h2:Hid ((∀ k j,k<11->j<n k->f k j ≠ op)->r=0)) :
  Calls Tryz.prog 110 #[.int .i64 op] w fun e w'=>e=.returned (.int .i64 r)/\w=w':=by
 have hix:=idx11 s
 go_enter Tryz.func110,Tryz.ntmps110
 go_wp2
 go_loop [8] (fun i=>∃ k:Nat,k<=11/\i=.int .i64 k/\Hid (∀ k' j,k' < k->j<n k'->f k' j ≠ op)) (fun i=>11 - (intOf i).toNat)
 case atStart=>exact ⟨0,by omega,rfl,fun k' j hk'=>by omega⟩
 case round=>
  obtain ⟨k,hk,rfl,hno⟩:=hrel
  by_cases z:k=11
  ·
   subst z
   have:=h2.out (fun k j hk hj=>hno.out k j hk hj)
   subst this
   go_wp2
   go_ret
   exact ⟨rfl,rfl⟩
  have hkl:(k:Int)<11:=by omega
  rcases hs k (by omega) with ⟨e,en⟩ | ⟨b,o,c,e,hc⟩
  ·
   clear hs
   go_wp2
   refine wp_loop_rounds 1 ?_
   rw [rounds_succ]
   go_wp2
   refine ⟨⟨k+1,by omega,by simp,fun k' j hk' hj=>?_⟩,by simp [intOf];omega⟩
   by_cases y:k'=k
   · subst y;omega
   · exact hno.out k' j (by omega) hj
  ·
   clear hs
   have hnk:=hn k
   go_wp2
   go_loop [14] (fun i=>∃ j:Nat,j<=n k/\i=.int .i64 j/\Hid (∀ j',j' < j->f k j' ≠ op)) (fun i=>n k - (intOf i).toNat)
   case atStart=>exact ⟨0,by omega,rfl,fun j hj=>by omega⟩
   case round=>
    obtain ⟨j,hj,rfl,hnj⟩:=hrel
    obtain ⟨b0,b1⟩:=hb k j
    go_wp2
    ·
     have e:(f k j == op)=true:=by assumption
     have:=h1.out k j (by omega) (by omega) (by simpa using e)
     subst this
     go_ret
     exact ⟨rfl,rfl⟩
    ·
     have e:(f k j == op)=false:=by assumption
     refine ⟨⟨j+1,by omega,by simp,fun j' hj'=>?_⟩,by simp [intOf];omega⟩
     by_cases y:j'=j
     · subst y;simpa using e
     · exact hnj.out j' (by omega)
    ·
     refine ⟨⟨k+1,by omega,by simp,fun k' j' hk' hj'=>?_⟩,by simp [intOf];omega⟩
     by_cases y:k'=k
     · subst y;exact hnj.out j' (by omega)
     · exact hno.out k' j' (by omega) hj'
def Out (w w':World):Prop:=Below w.heap.size w w'
theorem Out.refl (w:World):Out w w:=Below.refl _ _
theorem Out.alloc {w w':World} (h:Out w w') (o:Obj):Out w (w'.alloc o):=Below.alloc h h.size o
theorem Out.drew {w w':World} (h:Out w w'):Out w w'.drew:=Below.drew h
theorem Out.trans {a b c:World} (h:Out a b) (k:Out b c):Out a c:=Below.trans h (Below.mono k h.size)
theorem Out.size {w w':World} (h:Out w w'):w.heap.size<=w'.heap.size:=Below.size h
def opsT:List (List Int):=[[],[149],[132,135,212,220,215],
 [7,23,39,55,71,87,103,119,151,167,183,199,15,31,47,63,79,95,111,127,159,175,191,207,4,20,36,52,68,84,100,116,148,164,180,196,12,28,44,60,76,92,108,124,156,172,188,204],
 [113,105,97,121,145,137,129],[114,106,98,122,115,107,99,123],[219,195],[5,6],
 [21,37,53,69,85,101,117,165,181,197,213,29,45,61,77,93,109,125,173,189,205,221,22,38,54,70,86,102,118,166,182,198,214,30,46,62,78,94,110,126,174,190,206,222],
 [133],[24]]
def immsT:List Int:=[0,64,80,160,1,65,81,161,225,241]
def opsL (k:Nat):List Int:=opsT.getD k []
def formIn (op:Int):List (List Int)->Int->Int
 | [],_=>0
 | l::r,k=>if l.contains op then k else formIn op r (k+1)
def formP (op:Int):Int:=formIn op opsT 0
def atomP (n:Int):Bool:=immsT.contains n
theorem getD_lt {α:Type} (l:List α) (d:α) (j:Nat) (h:j<l.length):l.getD j d=l[j]:=by
 rw [List.getD,List.getElem?_eq_getElem h];rfl
theorem ops_len:∀ k,(opsL k).length<=100:=by
 intro k
 by_cases h:k<11
 · exact (show ∀ k,k<11->(opsL k).length<=100 by decide +kernel) k h
 ·
  have:opsL k=[]:=by simp [opsL,List.getD,List.getElem?_eq_none (show opsT.length<=k by simp [opsT];omega)]
  rw [this];simp
theorem ops_bd (k j:Nat):0<=(opsL k).getD j 0/\(opsL k).getD j 0<256:=by
 by_cases h:k<11
 ·
  by_cases g:j<(opsL k).length
  · exact (show ∀ k,k<11->∀ j,j<(opsL k).length->0<=(opsL k).getD j 0/\(opsL k).getD j 0<256 by decide +kernel) k h j g
  · simp [List.getD,List.getElem?_eq_none (show (opsL k).length<=j by omega)]
 ·
  have:opsL k=[]:=by simp [opsL,List.getD,List.getElem?_eq_none (show opsT.length<=k by simp [opsT];omega)]
  rw [this];simp
theorem form_at:∀ k,k<11->∀ j,j<(opsL k).length->formP ((opsL k).getD j 0)=k:=by decide +kernel
theorem formIn_none (op:Int):∀ (l:List (List Int)) (k:Int),(∀ x ∈ l,op ∉ x)->formIn op l k=0
 | [],_,_=>rfl
 | x::r,k,h=>by
  have:x.contains op=false:=by simpa using h x (by simp)
  simp only [formIn,this]
  exact formIn_none op r (k+1) (fun y hy=>h y (by simp [hy]))
theorem form_none (op:Int) (h:∀ k j,k<11->j<(opsL k).length->(opsL k).getD j 0 ≠ op):formP op=0:=by
 refine formIn_none op opsT 0 ?_
 intro x hx hop
 obtain ⟨k,hk,ek⟩:=List.getElem_of_mem hx
 obtain ⟨j,hj,e⟩:=List.getElem_of_mem hop
 have ek2:opsL k=x:=(getD_lt opsT [] k hk).trans ek
 refine h k j (by simpa [opsT] using hk) (by rw [ek2];exact hj) ?_
 rw [ek2]
 exact (getD_lt x 0 j hj).trans e
theorem atom_at (n:Int) (k:Nat) (h:k<10) (p:immsT.getD k 0=n):atomP n=true:=by
 subst p
 exact (show ∀ k,k<10->atomP (immsT.getD k 0)=true by decide +kernel) k h
theorem atom_not (n:Int) (p:∀ k,k<10->immsT.getD k 0 ≠ n):atomP n=false:=by
 simp only [atomP,List.contains_eq_mem,decide_eq_false_iff_not]
 intro hx
 obtain ⟨j,hj,e⟩:=List.getElem_of_mem hx
 refine p j (by simpa [immsT] using hj) ?_
 rw [getD_lt _ _ j hj];exact e
theorem imms_bd (k:Nat):0<=immsT.getD k 0/\immsT.getD k 0<256:=by
 by_cases h:k<10
 · exact (show ∀ k,k<10->0<=immsT.getD k 0/\immsT.getD k 0<256 by decide +kernel) k h
 · simp [List.getD,List.getElem?_eq_none (show immsT.length<=k by simp [immsT];omega)]
def TabO (w:World):Prop:=∃ s:Nat->Value,(∀ k,k<11->w.cell? ⟨5,k,none⟩=some (s k)) /\
 ∀ k,k<11->(s k=.slice none 0 0/\(opsL k).length=0)\/∃ b o c,s k=.slice (some ⟨b,o,none⟩) (opsL k).length c/\∀ j,j<(opsL k).length->w.cell? ⟨b,o+j,none⟩=some (.int .u8 ((opsL k).getD j 0))
def TabA (w:World):Prop:=∀ k,k<10->w.cell? ⟨9,k,none⟩=some (.int .u8 (immsT.getD k 0))
theorem TabA.out {w w':World} (h:TabA w) (o:Out w w'):TabA w':=fun k hk=>cell_later o (h k hk)
theorem TabO.out {w w':World} (h:TabO w) (o:Out w w'):TabO w':=by
 obtain ⟨s,h1,h2⟩:=h
 refine ⟨s,fun k hk=>cell_later o (h1 k hk),fun k hk=>?_⟩
 rcases h2 k hk with h | ⟨b,oo,c,e,hc⟩
 · exact .inl h
 · exact .inr ⟨b,oo,c,e,fun j hj=>cell_later o (hc j hj)⟩
theorem TabA.alloc {w:World} (h:TabA w) (o:Obj):TabA (w.alloc o):=h.out ((Out.refl w).alloc o)
theorem TabO.alloc {w:World} (h:TabO w) (o:Obj):TabO (w.alloc o):=h.out ((Out.refl w).alloc o)
theorem formOf_any (op:Int) (w:World) (h:TabO w):Calls Tryz.prog 110 #[.int .i64 op] w fun e w'=>e=.returned (.int .i64 (formP op))/\w=w':=by
 obtain ⟨s,h1,h2⟩:=h
 exact formOf_walk op (formP op) w s (fun k=>(opsL k).length) (fun k j=>(opsL k).getD j 0) ops_bd h1 ops_len h2
  (fun k j hk hj e=>by rw [<-e];exact form_at k hk j hj) (fun h=>form_none op h)
theorem atomic_any (n:Int) (w:World) (h:TabA w):Calls Tryz.prog 151 #[.int .i64 n] w fun e w'=>e=.returned (.bool (atomP n))/\w=w':=
 atomic_walk n w (fun k=>immsT.getD k 0) (atomP n) imms_bd h (fun k hk e=>atom_at n k hk e) (fun h=>atom_not n h)
def hasSrc (op:Int):Bool:=bits .and .i64 op 8 != 0
def groupP (op form:Int):Int:=if form == 6 then 3 else if form == 3 then (if bits .and .i64 op 240 == 32 then 2 else if bits .and .i64 op 240 == 48 then 2 else if bits .and .i64 op 240 == 144 then 2 else 1) else 1
def isReg (n:Int):Bool:=decide (0<=n) && decide (n<=10)
def ordersP (op:Int):Bool:=(op == 212 || op == 220) || op == 215
def variantP (op off:Int):Bool:=
 if bits .and .i64 op 240 == 48 then off == 1 else if bits .and .i64 op 240 == 144 then off == 1 else
 if bits .and .i64 op 240 == 176 then hasSrc op && ((off == 8 || off == 16) || (off == 32 && op == 191)) else false
theorem hasSource_any (op:Int) (w:World):Calls Tryz.prog 148 #[.int .i64 op] w fun e w'=>e=.returned (.bool (hasSrc op))/\w=w':=by
 go_enter Tryz.func148,Tryz.ntmps148
 go_wp2
 go_ret
 exact ⟨rfl,rfl⟩
theorem groupOf_any (op form:Int) (w:World):Calls Tryz.prog 147 #[.int .i64 op,.int .i64 form] w fun e w'=>e=.returned (.int .i64 (groupP op form))/\w=w':=by
 go_enter Tryz.func147,Tryz.ntmps147
 go_wp2
 all_goals go_ret
 all_goals exact ⟨by simp_all [groupP],rfl⟩
theorem isRegister_any (n:Int) (w:World):Calls Tryz.prog 149 #[.int .i64 n] w fun e w'=>e=.returned (.bool (isReg n))/\w=w':=by
 go_enter Tryz.func149,Tryz.ntmps149
 go_wp2
 all_goals go_ret
 all_goals exact ⟨by simp_all [isReg] <;> omega,rfl⟩
theorem orders_any (op:Int) (w:World):Calls Tryz.prog 152 #[.int .i64 op] w fun e w'=>e=.returned (.bool (ordersP op))/\w=w':=by
 go_enter Tryz.func152,Tryz.ntmps152
 go_wp2
 all_goals go_ret
 all_goals exact ⟨by first | (simp_all [ordersP];done) | (simp_all [ordersP];grind),rfl⟩
theorem variant_any (op off:Int) (w:World):Calls Tryz.prog 150 #[.int .i64 op,.int .i64 off] w fun e w'=>e=.returned (.bool (variantP op off))/\w=w':=by
 go_enter Tryz.func150,Tryz.ntmps150
 go_wp2_with (go_at_call 148;refine (hasSource_any _ _).mono ?_;rintro e w' ⟨rfl,rfl⟩)
 all_goals go_ret
 all_goals exact ⟨by first | (simp_all [variantP];done) | (simp_all [variantP];grind),rfl⟩
def cls (op:Int):Int:=bits .and .i64 op 7
def useD (op form:Int):Bool:=if cls op == 0 then true else if cls op == 1 || cls op == 3 then true else if cls op == 2 then true else if cls op == 5 || cls op == 6 then (if form != 8 then false else true) else if cls op == 4 || cls op == 7 then true else false
def useS (op form:Int):Bool:=if cls op == 0 then false else if cls op == 1 || cls op == 3 then true else if cls op == 2 then false else if cls op == 5 || cls op == 6 then (if form != 8 then false else hasSrc op) else if cls op == 4 || cls op == 7 then (if form != 2 then hasSrc op else false) else false
def useO (op form:Int):Bool:=if cls op == 0 then false else if cls op == 1 || cls op == 3 then true else if cls op == 2 then true else if cls op == 5 || cls op == 6 then (if form != 8 then op == 5 else true) else false
def useI (op form:Int):Bool:=if cls op == 0 then true else if cls op == 1 || cls op == 3 then false else if cls op == 2 then true else if cls op == 5 || cls op == 6 then (if form != 8 then (op == 6 || op == 133) else !hasSrc op) else if cls op == 4 || cls op == 7 then (if form != 2 then !hasSrc op else false) else false
def useC (op form:Int):Array Value:=#[.int .i64 form,.int .i64 (groupP op form),.bool (useD op form),.bool (useS op form),.bool (useO op form),.bool (useI op form)]
def use0:Array Value:=#[.int .i64 0,.int .i64 0,.bool false,.bool false,.bool false,.bool false]
theorem size_alloc (w:World) (o:Obj):(w.alloc o).heap.size=w.heap.size+1:=by
 show (w.heap.push o).size=_
 simp
theorem size33:(Tryz.prog.info? 125).map (·.size)=some 6:=by kernel_rfl
theorem heap3_old (w:World) (A B C:Obj):(((w.alloc A).alloc B).alloc C).heap[w.heap.size]? = some A:=by
 exact (Below.heap_alloc _ C _ (by rw [size_alloc,size_alloc];omega)).trans (heap_alloc2_old w A B)
theorem results_row_tmp {P:Program} {fn:Func} {p u:Tmp} {ty:TypeId} (h:fn.results = #[.cell p ty,.tmp u]) (tmps:Array Value) (w:World) (g:Nat) (t:TypeId) (cs:Array Value) (fr:Nat × Nat) (d:TypeDesc)
  (hp:tmps.getD p undef=.pointer (some ⟨g,0,none⟩)) (hg:w.heap[g]? = some (.cells cs t fr))
  (hu:P.underlying ty=some d) (hd:(match d with | .struct _ | .array _ _=>true | _=>false)=true) (hi:(P.info? ty).map (·.size)=some cs.size) :
  (results fn tmps).run P w=.ok (.tuple #[.agg cs,tmps.getD u undef]) w:=by
 rw [results_cell_tmp h,hp]
 simp [asAddr,run_loadVar_row w g t ty cs fr d hg hu hd hi,Result.andThen]
theorem useOf_any (op form:Int) (w:World):Calls Tryz.prog 111 #[.int .i64 op,.int .i64 form] w fun e w'=>e=.returned (.agg (useC op form))/\(w.alloc (.cells (useC op form) 125)).alloc (.cells (useC op form) 125)=w':=by
 go_enter Tryz.func111,Tryz.ntmps111
 go_wp2_with (first | (go_at_call 148;refine (hasSource_any _ _).mono ?_;rintro e w' ⟨rfl,rfl⟩) | (go_at_call 147;refine (groupOf_any _ _ _).mono ?_;rintro e w' ⟨rfl,rfl⟩))
 all_goals refine bodyPost_ret (results_cell_row rfl _ _ w.heap.size 125 _ (0,0) _ rfl (heap_alloc2_old _ _ _) Tryz.underlying125 rfl size33) rfl ?_
 all_goals go_light
 all_goals first | (simp_all [useC,useD,useS,useO,useI,cls];done) | (simp [useC,useD,useS,useO,useI,cls, *];done) | skip
 all_goals (obtain rfl:op=6:=by assumption)
 all_goals (have b6:bits BinOp.and IntKind.i64 6 7=6:=by decide)
 all_goals (simp_all [useC,useD,useS,useO,useI,cls])
theorem useOf_lit (op form:Int) (w:World):Calls Tryz.prog 111 #[.int .i64 op,.int .i64 form] w fun e w'=>e=.returned (.agg #[.int .i64 form,.int .i64 (groupP op form),.bool (useD op form),.bool (useS op form),.bool (useO op form),.bool (useI op form)])/\(w.alloc (.cells #[.int .i64 form,.int .i64 (groupP op form),.bool (useD op form),.bool (useS op form),.bool (useO op form),.bool (useI op form)] 125)).alloc (.cells #[.int .i64 form,.int .i64 (groupP op form),.bool (useD op form),.bool (useS op form),.bool (useO op form),.bool (useI op form)] 125)=w':=useOf_any op form w
theorem info_ok (op:Int) (w:World) (h:TabO w) (hf:(formP op == 0)=false):Calls Tryz.prog 79 #[.int .i64 op] w fun e w'=>e=.returned (.tuple #[.agg (useC op (formP op)),.int .i64 0]) /\
  ((w.alloc (.cells (useC op (formP op)) 125)).alloc (.cells (useC op (formP op)) 125)).alloc (.cells (useC op (formP op)) 125)=w':=by
 go_enter Tryz.func79,Tryz.ntmps79
 go_wp2_with (first | (go_at_call 110;refine (formOf_any _ _ (h.alloc _)).mono ?_;rintro e w' ⟨rfl,rfl⟩) | (go_at_call 111;refine (useOf_lit _ _ _).mono ?_;rintro e w' ⟨rfl,rfl⟩))
 refine bodyPost_ret (results_row_tmp rfl _ _ w.heap.size 125 (useC op (formP op)) (0,0) _ rfl (heap3_old _ _ _ _) Tryz.underlying125 rfl size33) rfl ?_
 exact ⟨rfl,rfl⟩
theorem info_no (op:Int) (w:World) (h:TabO w) (hf:(formP op == 0)=true):Calls Tryz.prog 79 #[.int .i64 op] w fun e w'=>e=.returned (.tuple #[.agg use0,.int .i64 20])/\w.alloc (.cells use0 125)=w':=by
 go_enter Tryz.func79,Tryz.ntmps79
 go_wp2_with (first | (go_at_call 110;refine (formOf_any _ _ (h.alloc _)).mono ?_;rintro e w' ⟨rfl,rfl⟩) | (go_at_call 111;refine (useOf_lit _ _ _).mono ?_;rintro e w' ⟨rfl,rfl⟩))
 refine bodyPost_ret (results_row_tmp rfl _ _ w.heap.size 125 use0 (0,0) _ rfl (heap_alloc_new _ _) Tryz.underlying125 rfl size33) rfl ?_
 exact ⟨rfl,rfl⟩
def insC (o d s f i:Int):Array Value:=#[.int .i64 o,.int .i64 d,.int .i64 s,.int .i64 f,.int .i64 i]
def usC (fm g:Int) (x y z u:Bool):Array Value:=#[.int .i64 fm,.int .i64 g,.bool x,.bool y,.bool z,.bool u]
def dstP (x:Bool) (d:Int):Bool:=if x then isReg d else d == 0
def srcP (fm:Int) (y:Bool) (s:Int):Bool:=if y then isReg s else if fm == 9 then (s == 0 || s == 1) else if fm == 10 then (s == 0 || s == 1) else s == 0
def offP (o fm:Int) (z:Bool) (f:Int):Bool:=if z then (decide (-32768<=f) && decide (f<=32767)) else if f == 0 then true else if fm == 3 then variantP o f else false
def immP (o fm s:Int) (u:Bool) (i:Int):Bool:=if fm == 10 && s == 0 then true else if u then (decide (-2147483648<=i) && decide (i<=2147483647)) else if fm == 6 then atomP i else if ordersP o then ((i == 16 || i == 32) || i == 64) else i == 0
def boxed (w:World) (o d s f i:Int) (fm g:Int) (x y z u:Bool):World:=(w.alloc (.cells (insC o d s f i) 40)).alloc (.cells (usC fm g x y z u) 125)
theorem dst_any (w:World) (o d s f i:Int) (fm g:Int) (x y z u:Bool):Calls Tryz.prog 112 #[.agg (insC o d s f i),.agg (usC fm g x y z u)] w fun e w'=>e=.returned (.bool (dstP x d))/\boxed w o d s f i fm g x y z u=w':=by
 unfold boxed insC usC
 go_enter Tryz.func112,Tryz.ntmps112
 go_wp2_with (go_at_call 149;refine (isRegister_any _ _).mono ?_;rintro e w' ⟨rfl,rfl⟩)
 all_goals go_ret
 all_goals go_light
 all_goals (subst_vars;exact ⟨by simp [dstP],rfl⟩)
theorem src_any (w:World) (o d s f i:Int) (fm g:Int) (x y z u:Bool):Calls Tryz.prog 113 #[.agg (insC o d s f i),.agg (usC fm g x y z u)] w fun e w'=>e=.returned (.bool (srcP fm y s))/\boxed w o d s f i fm g x y z u=w':=by
 unfold boxed insC usC
 go_enter Tryz.func113,Tryz.ntmps113
 go_wp2_with (go_at_call 149;refine (isRegister_any _ _).mono ?_;rintro e w' ⟨rfl,rfl⟩)
 all_goals go_ret
 all_goals go_light
 all_goals first | (refine ⟨?_,by simp [*]⟩;simp_all [srcP];done)
theorem off_any (w:World) (o d s f i:Int) (fm g:Int) (x y z u:Bool):Calls Tryz.prog 114 #[.agg (insC o d s f i),.agg (usC fm g x y z u)] w fun e w'=>e=.returned (.bool (offP o fm z f))/\boxed w o d s f i fm g x y z u=w':=by
 unfold boxed insC usC
 go_enter Tryz.func114,Tryz.ntmps114
 go_wp2_with (go_at_call 150;refine (variant_any _ _ _).mono ?_;rintro e w' ⟨rfl,rfl⟩)
 all_goals go_ret
 all_goals go_light
 all_goals first | (refine ⟨?_,by simp [*]⟩;simp_all [offP];done) | (refine ⟨?_,by simp [*]⟩;simp_all [offP];omega)
theorem imm_any (w:World) (hA:TabA w) (o d s f i:Int) (fm g:Int) (x y z u:Bool):Calls Tryz.prog 115 #[.agg (insC o d s f i),.agg (usC fm g x y z u)] w fun e w'=>e=.returned (.bool (immP o fm s u i))/\boxed w o d s f i fm g x y z u=w':=by
 unfold boxed insC usC
 go_enter Tryz.func115,Tryz.ntmps115
 go_wp2_with (first | (go_at_call 151;refine (atomic_any _ _ ((hA.alloc _).alloc _)).mono ?_;rintro e w' ⟨rfl,rfl⟩) | (go_at_call 152;refine (orders_any _ _).mono ?_;rintro e w' ⟨rfl,rfl⟩))
 all_goals go_ret
 all_goals go_light
 all_goals first | (refine ⟨?_,by simp [*]⟩;simp_all [immP];done) | (refine ⟨?_,by simp [*]⟩;simp_all [immP];omega)
theorem dst_lit (w:World) (o d s f i:Int) (fm g:Int) (x y z u:Bool):Calls Tryz.prog 112 #[.agg #[.int .i64 o,.int .i64 d,.int .i64 s,.int .i64 f,.int .i64 i],.agg #[.int .i64 fm,.int .i64 g,.bool x,.bool y,.bool z,.bool u]] w fun e w'=>e=.returned (.bool (dstP x d))/\(w.alloc (.cells #[.int .i64 o,.int .i64 d,.int .i64 s,.int .i64 f,.int .i64 i] 40)).alloc (.cells #[.int .i64 fm,.int .i64 g,.bool x,.bool y,.bool z,.bool u] 125)=w':=dst_any w o d s f i fm g x y z u
theorem src_lit (w:World) (o d s f i:Int) (fm g:Int) (x y z u:Bool):Calls Tryz.prog 113 #[.agg #[.int .i64 o,.int .i64 d,.int .i64 s,.int .i64 f,.int .i64 i],.agg #[.int .i64 fm,.int .i64 g,.bool x,.bool y,.bool z,.bool u]] w fun e w'=>e=.returned (.bool (srcP fm y s))/\(w.alloc (.cells #[.int .i64 o,.int .i64 d,.int .i64 s,.int .i64 f,.int .i64 i] 40)).alloc (.cells #[.int .i64 fm,.int .i64 g,.bool x,.bool y,.bool z,.bool u] 125)=w':=src_any w o d s f i fm g x y z u
theorem off_lit (w:World) (o d s f i:Int) (fm g:Int) (x y z u:Bool):Calls Tryz.prog 114 #[.agg #[.int .i64 o,.int .i64 d,.int .i64 s,.int .i64 f,.int .i64 i],.agg #[.int .i64 fm,.int .i64 g,.bool x,.bool y,.bool z,.bool u]] w fun e w'=>e=.returned (.bool (offP o fm z f))/\(w.alloc (.cells #[.int .i64 o,.int .i64 d,.int .i64 s,.int .i64 f,.int .i64 i] 40)).alloc (.cells #[.int .i64 fm,.int .i64 g,.bool x,.bool y,.bool z,.bool u] 125)=w':=off_any w o d s f i fm g x y z u
theorem imm_lit (w:World) (hA:TabA w) (o d s f i:Int) (fm g:Int) (x y z u:Bool):Calls Tryz.prog 115 #[.agg #[.int .i64 o,.int .i64 d,.int .i64 s,.int .i64 f,.int .i64 i],.agg #[.int .i64 fm,.int .i64 g,.bool x,.bool y,.bool z,.bool u]] w fun e w'=>e=.returned (.bool (immP o fm s u i))/\(w.alloc (.cells #[.int .i64 o,.int .i64 d,.int .i64 s,.int .i64 f,.int .i64 i] 40)).alloc (.cells #[.int .i64 fm,.int .i64 g,.bool x,.bool y,.bool z,.bool u] 125)=w':=imm_any w hA o d s f i fm g x y z u
def fitP (o d s f i fm:Int) (x y z u:Bool):Bool:=dstP x d && (srcP fm y s && (offP o fm z f && immP o fm s u i))
theorem fits_any (w:World) (hA:TabA w) (o d s f i:Int) (fm g:Int) (x y z u:Bool):Calls Tryz.prog 80 #[.agg (insC o d s f i),.agg (usC fm g x y z u)] w fun e w'=>e=.returned (.bool (fitP o d s f i fm x y z u))/\Out w w':=by
 unfold insC usC
 go_enter Tryz.func80,Tryz.ntmps80
 go_wp2_with (first | (go_at_call 112;refine (dst_lit _ _ _ _ _ _ _ _ _ _ _ _).mono ?_;rintro e w' ⟨rfl,rfl⟩) | (go_at_call 113;refine (src_lit _ _ _ _ _ _ _ _ _ _ _ _).mono ?_;rintro e w' ⟨rfl,rfl⟩) | (go_at_call 114;refine (off_lit _ _ _ _ _ _ _ _ _ _ _ _).mono ?_;rintro e w' ⟨rfl,rfl⟩) | (go_at_call 115;refine (imm_lit _ (by repeat (first | exact hA | apply TabA.alloc)) _ _ _ _ _ _ _ _ _ _ _).mono ?_;rintro e w' ⟨rfl,rfl⟩))
 all_goals go_ret
 all_goals go_light
 all_goals first | (refine ⟨by simp_all [fitP], ?_⟩;repeat (first | exact Out.refl _ | apply Out.alloc))
def fitO (o d s f i:Int):Bool:=fitP o d s f i (formP o) (useD o (formP o)) (useS o (formP o)) (useO o (formP o)) (useI o (formP o))
def mayP (o d s f i:Int):Int:=if formP o == 0 then 20 else if fitO o d s f i then 0 else 21
theorem info_ok_lit (op:Int) (w:World) (h:TabO w) (hf:(formP op == 0)=false):Calls Tryz.prog 79 #[.int .i64 op] w fun e w'=>e=.returned (.tuple #[.agg #[.int .i64 (formP op),.int .i64 (groupP op (formP op)),.bool (useD op (formP op)),.bool (useS op (formP op)),.bool (useO op (formP op)),.bool (useI op (formP op))],.int .i64 0]) /\
  ((w.alloc (.cells #[.int .i64 (formP op),.int .i64 (groupP op (formP op)),.bool (useD op (formP op)),.bool (useS op (formP op)),.bool (useO op (formP op)),.bool (useI op (formP op))] 125)).alloc (.cells #[.int .i64 (formP op),.int .i64 (groupP op (formP op)),.bool (useD op (formP op)),.bool (useS op (formP op)),.bool (useO op (formP op)),.bool (useI op (formP op))] 125)).alloc (.cells #[.int .i64 (formP op),.int .i64 (groupP op (formP op)),.bool (useD op (formP op)),.bool (useS op (formP op)),.bool (useO op (formP op)),.bool (useI op (formP op))] 125)=w':=info_ok op w h hf
theorem info_no_lit (op:Int) (w:World) (h:TabO w) (hf:(formP op == 0)=true):Calls Tryz.prog 79 #[.int .i64 op] w fun e w'=>e=.returned (.tuple #[.agg #[.int .i64 0,.int .i64 0,.bool false,.bool false,.bool false,.bool false],.int .i64 20])/\w.alloc (.cells #[.int .i64 0,.int .i64 0,.bool false,.bool false,.bool false,.bool false] 125)=w':=info_no op w h hf
theorem fitO_lit (w:World) (hA:TabA w) (op d s f i:Int):Calls Tryz.prog 80 #[.agg #[.int .i64 op,.int .i64 d,.int .i64 s,.int .i64 f,.int .i64 i],.agg #[.int .i64 (formP op),.int .i64 (groupP op (formP op)),.bool (useD op (formP op)),.bool (useS op (formP op)),.bool (useO op (formP op)),.bool (useI op (formP op))]] w fun e w'=>e=.returned (.bool (fitO op d s f i))/\Out w w':=fits_any w hA op d s f i _ _ _ _ _ _
theorem may_any (w:World) (hA:TabA w) (hO:TabO w) (o d s f i:Int):Calls Tryz.prog 55 #[.agg (insC o d s f i)] w fun e w'=>e=.returned (.int .i64 (mayP o d s f i))/\Out w w':=by
 unfold insC
 cases hf:(formP o == 0)
 ·
  cases hfit:fitO o d s f i
  ·
   have HR:Hid (mayP o d s f i=21):=by simp [mayP,hf,hfit,Hid]
   go_enter Tryz.func55,Tryz.ntmps55
   go_wp2_with (first | (go_at_call 79;refine (info_ok_lit _ _ (hO.alloc _) hf).mono ?_;rintro e w' ⟨rfl,rfl⟩) | (go_at_call 80;refine (fitO_lit _ (by repeat (first | exact hA | apply TabA.alloc)) _ _ _ _ _).mono ?_;rintro e w' ⟨rfl,hout⟩))
   go_ret
   exact ⟨by simp [HR.out],Out.trans (by repeat (first | exact Out.refl _ | apply Out.alloc)) hout⟩
  ·
   have HR:Hid (mayP o d s f i=0):=by simp [mayP,hf,hfit,Hid]
   go_enter Tryz.func55,Tryz.ntmps55
   go_wp2_with (first | (go_at_call 79;refine (info_ok_lit _ _ (hO.alloc _) hf).mono ?_;rintro e w' ⟨rfl,rfl⟩) | (go_at_call 80;refine (fitO_lit _ (by repeat (first | exact hA | apply TabA.alloc)) _ _ _ _ _).mono ?_;rintro e w' ⟨rfl,hout⟩))
   go_ret
   exact ⟨by simp [HR.out],Out.trans (by repeat (first | exact Out.refl _ | apply Out.alloc)) hout⟩
 ·
  have HR:Hid (mayP o d s f i=20):=by simp [mayP,hf,Hid]
  go_enter Tryz.func55,Tryz.ntmps55
  go_wp2_with (first | (go_at_call 79;refine (info_no_lit _ _ (hO.alloc _) hf).mono ?_;rintro e w' ⟨rfl,rfl⟩))
  go_ret
  exact ⟨by simp [HR.out],by repeat (first | exact Out.refl _ | apply Out.alloc)⟩
theorem may_lit (w:World) (hA:TabA w) (hO:TabO w) (o d s f i:Int):Calls Tryz.prog 55 #[.agg #[.int .i64 o,.int .i64 d,.int .i64 s,.int .i64 f,.int .i64 i]] w fun e w'=>e=.returned (.int .i64 (mayP o d s f i))/\Out w w':=may_any w hA hO o d s f i
end Go.Proofs.YtadneimllbfdnaaGreatDoor
namespace Go.Proofs.YtadneimllbfdnaaGreatDoor
set_option linter.unusedVariables false
set_option linter.unusedSimpArgs false
structure Ins where
 o:Int
 d:Int
 s:Int
 f:Int
 i:Int
def gB (B:List Int) (k:Nat):Int:=B.getD k 0
def u16 (B:List Int) (k:Nat):Int:=gB B k+256*gB B (k+1)
def u32 (B:List Int) (k:Nat):Int:=gB B k+256*gB B (k+1)+65536*gB B (k+2)+16777216*gB B (k+3)
end Go.Proofs.YtadneimllbfdnaaGreatDoor
namespace Go.Proofs.YtadneimllbfdnaaGreatDoor
open Go.RowKit
set_option linter.unusedVariables false
set_option linter.unusedSimpArgs false
structure Chg (S:Nat->Prop) (w w':World):Prop where
 os:w'.os=w.os
 tape:w'.tape=w.tape
 output:w'.output=w.output
 size:w.heap.size<=w'.heap.size
 block:∀ k,k<w.heap.size->¬S k->w'.heap[k]? = w.heap[k]?
theorem Chg.refl (S:Nat->Prop) (w:World):Chg S w w:=⟨rfl,rfl,rfl,Nat.le_refl _,fun _ _ _=>rfl⟩
theorem Chg.trans {S T:Nat->Prop} {a b c:World} (h:Chg S a b) (k:Chg T b c) (hST:∀ x,T x->x<a.heap.size->S x):Chg S a c:=
 ⟨k.os.trans h.os,k.tape.trans h.tape,k.output.trans h.output,Nat.le_trans h.size k.size,fun i hi hs=>(k.block i (Nat.lt_of_lt_of_le hi h.size) (fun ht=>hs (hST i ht hi))).trans (h.block i hi hs)⟩
theorem Chg.of_out {S:Nat->Prop} {w w':World} (h:Out w w'):Chg S w w':=⟨h.os,h.tape,h.output,h.size,fun k hk _=>h.block k hk⟩
theorem Chg.of_grown {S:Nat->Prop} {w w':World} {row:Option Nat} (h:w.grownBy w' row) (hr:∀ k,row=some k->S k):Chg S w w':=
 ⟨h.os,h.tape,h.output,h.size,fun k hk hs=>h.block k hk (fun e=>hs (hr k e.symm))⟩
theorem Chg.drew {S:Nat->Prop} {a w:World} (h:Chg S a w):Chg S a w.drew:=⟨h.os,h.tape,h.output,h.size,h.block⟩
theorem Chg.setCell {S:Nat->Prop} {a w:World} (h:Chg S a w) {p:Addr} (hp:S p.block) (u:Value):Chg S a (w.setCell p u):=
 h.trans (T:=fun k=>k=p.block) ⟨rfl,rfl,rfl,by simp [World.setCell],fun k hk hs=>Below.heap_setCell _ _ _ _ hs⟩ (fun x hx _=>hx ▸ hp)
theorem Chg.mono {S T:Nat->Prop} {w w':World} (h:Chg S w w') (hST:∀ x,S x->x<w.heap.size->T x):Chg T w w':=
 ⟨h.os,h.tape,h.output,h.size,fun k hk ht=>h.block k hk (fun hs=>ht (hST k hs hk))⟩
theorem Chg.below {S:Nat->Prop} {B:Nat} {w w':World} (h:Chg S w w') (hB:B<=w.heap.size) (hS:∀ k,S k->B<=k):Below B w w':=
 ⟨h.os,h.tape,h.output,h.size,fun k hk=>h.block k (by omega) (fun hs=>by have:=hS k hs;omega)⟩
theorem Chg.out {S:Nat->Prop} {w0 w w':World} (h:Chg S w w') (ho:Out w0 w) (hS:∀ k,S k->w0.heap.size<=k):Out w0 w':=
 Below.trans ho (h.below ho.size hS)
theorem Chg.cell {S:Nat->Prop} {w w':World} (h:Chg S w w') {a:Addr} {v:Value} (hc:w.cell? a=some v) (hs:¬S a.block):w'.cell? a=some v:=by
 rw [<-hc];exact World.cell?_of_block (h.block _ (World.block_lt_of_cell? w a hc) hs)
def Tabs (w:World):Prop:=TabA w/\TabO w
theorem Tabs.out {w w':World} (h:Tabs w) (o:Out w w'):Tabs w':=⟨h.1.out o,h.2.out o⟩
def may (x:Ins):Int:=mayP x.o x.d x.s x.f x.i
end Go.Proofs.YtadneimllbfdnaaGreatDoor
namespace Go.Proofs.YtadneimllbfdnaaGreatDoor
open Go.RowKit Go.ChangeShapes Go.WideShapes Go.ChangeAt
set_option linter.unusedVariables false
set_option linter.unusedSimpArgs false
theorem gOps:Tryz.prog.globalNamed "spindle/isa.opcodes" = some 5:=by kernel_rfl
theorem gImms:Tryz.prog.globalNamed "spindle/isa.atomicImms" = some 9:=by kernel_rfl
theorem tOps:(Tryz.prog.globals[5]?).map (·.type)=some 185:=by kernel_rfl
theorem tImms:(Tryz.prog.globals[9]?).map (·.type)=some 221:=by kernel_rfl
theorem cellsArr:Tryz.prog.cellsOf 185 = 11:=by kernel_rfl
theorem cellsSl:Tryz.prog.cellsOf 35 = 1:=by kernel_rfl
theorem cellsU8:Tryz.prog.cellsOf 5 = 1:=by kernel_rfl
theorem cellsArr10:Tryz.prog.cellsOf 221 = 10:=by kernel_rfl
def listD (l:List Int):DataW Unit:=if l=[] then .nil else .slice (l.map fun z=>.lit (.int .u8 z)) []
theorem laidO_eq:(Rows.laid_spindle_isa_opcodes:DataW Unit)=.agg (opsT.map listD):=by
 simp [Rows.laid_spindle_isa_opcodes,opsT,listD]
theorem laidA_eq:(Rows.laid_spindle_isa_atomicImms:DataW Unit)=Lib.tabData .u8 immsT:=by
 simp [Rows.laid_spindle_isa_atomicImms,immsT,Lib.tabData]
theorem tabO_of {W:World} {base:Nat} {sp:Nat->Bool} {held:Bool} {fuel:Nat} {enc:TypeId × Value->Unit} {cs:Array Value} {p:List MemPlace}
  (hv:W.var? Tryz.prog "spindle/isa.opcodes" = some cs) (h:DataW.trod enc Tryz.prog W base sp held fuel 185 cs.toList=some (Rows.laid_spindle_isa_opcodes,p)):TabO W:=by
 rw [laidO_eq] at h
 obtain ⟨xs,m,rfl,hx,hlen,hxl,hel⟩:=DataW.trod_array Tryz.underlying185 h
 rw [cellsArr] at hlen
 simp only [cellsSl,Nat.mul_one] at hel
 simp only [Prod.mk.injEq,DataW.agg.injEq] at hx
 have hcell:=World.var?_cell gOps hv
 refine ⟨fun k=>cs[k]?.getD (.slice none 0 0),fun k hk=>?_,fun k hk=>?_⟩
 ·
  have hk':k<cs.size:=by simpa using (show k<cs.toList.length by omega)
  simp only [hcell k,Array.getElem?_eq_getElem hk',Option.getD_some]
 ·
  have hk':k<cs.size:=by simpa using (show k<cs.toList.length by omega)
  have hxk:k<xs.length:=by omega
  have hl:k<opsT.length:=by simpa [opsT] using hk
  have e1:xs[k].1=listD (opsL k):=by
   have:=congrArg (fun l=>l[k]?) hx.1
   simp only [List.getElem?_map,List.getElem?_eq_getElem hxk,List.getElem?_eq_getElem hl,Option.map_some,Option.some.injEq] at this
   rw [<-this,opsL,getD_lt opsT [] k hl]
  have e2:(cs.toList.drop k).take 1=[cs[k]]:=by
   rw [List.drop_eq_getElem_cons (by simpa using hk'),List.take_succ_cons];simp
  have h2:=hel k hk
  rw [e2,List.getElem?_eq_getElem hxk,show xs[k]=(listD (opsL k),xs[k].2) from by rw [<-e1]] at h2
  simp only [Array.getElem?_eq_getElem hk',Option.getD_some]
  by_cases z:opsL k=[]
  ·
   left
   rw [z] at h2 ⊢
   simp only [listD, ↓reduceIte] at h2
   rcases DataW.trod_slice Tryz.underlying35 h2 with ⟨hcs,_⟩ | ⟨a,len,cap,elems,rest,n,_,hcs,hx,_⟩
   ·
    simp at hcs
    exact ⟨hcs,rfl⟩
   · simp at hx
  ·
   right
   simp only [listD,if_neg z] at h2
   obtain ⟨a,cap,hcs,hle,hc⟩:=open_row Tryz.underlying35 cellsU8 h2
   simp only [List.cons.injEq,and_true,List.length_map] at hcs
   have hcell2:∀ j,j<(opsL k).length->W.cell? (a.add j)=some (.int .u8 ((opsL k).getD j 0)):=by
    intro j hj
    obtain ⟨v,n,q,hv1,hv2⟩:=hc j _ (by rw [List.getElem?_map,List.getElem?_eq_getElem hj];rfl)
    obtain ⟨z,r1,r2,_⟩:=DataW.trod_int Tryz.underlying5 hv2
    simp at r1 r2
    rw [hv1,r1,getD_lt _ _ j hj,r2.1]
   obtain ⟨b,off,spot⟩:=a
   have hs:spot=none:=by
    have hpos:0<(opsL k).length:=List.length_pos_iff.2 z
    simpa [Addr.add] using World.cell?_spot (hcell2 0 hpos)
   subst hs
   refine ⟨b,off,cap,hcs,fun j hj=>?_⟩
   have:=hcell2 j hj
   rwa [show (⟨b,off,none⟩:Addr).add j=⟨b,off+j,none⟩ from by simp only [Addr.add];split <;> simp_all] at this
end Go.Proofs.YtadneimllbfdnaaGreatDoor
