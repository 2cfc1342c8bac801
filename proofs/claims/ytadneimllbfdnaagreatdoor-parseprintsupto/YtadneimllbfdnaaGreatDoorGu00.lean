import Derived.Test.YtadneimllbfdnaaGreatDoorProg
import Derived.WalkKit
import Derived.WalkSpells
import Derived.Deep.QuietTactic
import Derived.BigQuiet
import Derived.Deep.OwnRows
import Derived.Deep.RegionLaw
import Derived.Deep.AppendLies
import Derived.OwnWalk
import Derived.Deep.RegionHeld3
import Derived.Deep.Cut
import Derived.Deep.RegionWith
namespace Go.Proofs.YtadneimllbfdnaaGreatDoor.Lx
open Go.RowKit
set_option linter.unusedVariables false
set_option linter.unusedSimpArgs false
theorem hidOf {p:Prop} (h:p):Hid p:=h
theorem ret_bool {w:World} {a b:Bool} (h:a=b):Ending.returned (Value.bool a)=Ending.returned (Value.bool b)/\w=w:=⟨by rw [h],rfl⟩
theorem ret_int {w:World} {k:IntKind} {a b:Int} (h:a=b):Ending.returned (Value.int k a)=Ending.returned (Value.int k b)/\w=w:=⟨by rw [h],rfl⟩
def Out (w w':World):Prop:=Below w.heap.size w w'
theorem Out.refl (w:World):Out w w:=Below.refl _ _
theorem Out.alloc {w w':World} (h:Out w w') (o:Obj):Out w (w'.alloc o):=Below.alloc h h.size o
theorem Out.drew {w w':World} (h:Out w w'):Out w w'.drew:=Below.drew h
theorem Out.drewN {w w':World} (h:Out w w') (n:Nat):Out w (w'.drewN n):=⟨h.os,h.tape,h.output,h.size,h.block⟩
theorem Out.trans {a b c:World} (h:Out a b) (k:Out b c):Out a c:=Below.trans h (Below.mono k h.size)
theorem Out.size {w w':World} (h:Out w w'):w.heap.size<=w'.heap.size:=Below.size h
theorem Out.setCell {w w':World} (h:Out w w') {a:Addr} (ha:w.heap.size<=a.block) (u:Value):Out w (w'.setCell a u):=Below.setCell h ha u
theorem cell_later {w w':World} (o:Out w w') {a:Addr} {v:Value} (h:w.cell? a=some v):w'.cell? a=some v:=by
 rw [<-h];exact World.cell?_of_block (o.block _ (World.block_lt_of_cell? w a h))
theorem size_alloc (w:World) (o:Obj):(w.alloc o).heap.size=w.heap.size+1:=by
 show (w.heap.push o).size=_
 simp
theorem heap_drew' (w:World):w.drew.heap=w.heap:=rfl
theorem cell_fresh (w:World) (cs:Array Value) (t:TypeId) (j:Nat) (b:Nat) (hb:b=w.heap.size):(w.alloc (.cells cs t)).cell? ⟨b,j,none⟩=cs[j]?:=by
 subst hb
 rw [World.cell?,show (w.alloc (.cells cs t)).heap[w.heap.size]? = some (.cells cs t) from heap_alloc_new w _]
 rfl
structure Chg (S:Nat->Prop) (w w':World):Prop where
 os:w'.os=w.os
 tape:w'.tape=w.tape
 output:w'.output=w.output
 size:w.heap.size<=w'.heap.size
 block:∀ k,k<w.heap.size->¬S k->w'.heap[k]? = w.heap[k]?
theorem Chg.refl (S:Nat->Prop) (w:World):Chg S w w:=⟨rfl,rfl,rfl,Nat.le_refl _,fun _ _ _=>rfl⟩
theorem Chg.trans {S T:Nat->Prop} {a b c:World} (h:Chg S a b) (k:Chg T b c) (hST:∀ x,T x->x<a.heap.size->S x):Chg S a c:=
 ⟨k.os.trans h.os,k.tape.trans h.tape,k.output.trans h.output,Nat.le_trans h.size k.size,fun i hi hs=>(k.block i (Nat.lt_of_lt_of_le hi h.size) (fun ht=>hs (hST i ht hi))).trans (h.block i hi hs)⟩
theorem Chg.of_out {S:Nat->Prop} {w w':World} (h:Out w w'):Chg S w w':=⟨h.os,h.tape,h.output,h.size,fun k hk _=>h.block k hk⟩
theorem Chg.of_grown {S:Nat->Prop} {w w':World} {row:Option Nat} (h:w.grownBy w' row) (hr:∀ k,row=some k->S k):Chg S w w':=
 ⟨h.os,h.tape,h.output,h.size,fun k hk hs=>h.block k hk (fun e=>hs (hr k e.symm))⟩
theorem Chg.drew {S:Nat->Prop} {a w:World} (h:Chg S a w):Chg S a w.drew:=⟨h.os,h.tape,h.output,h.size,h.block⟩
theorem Chg.setCell {S:Nat->Prop} {a w:World} (h:Chg S a w) {p:Addr} (hp:S p.block) (u:Value):Chg S a (w.setCell p u):=
 h.trans (T:=fun k=>k=p.block) ⟨rfl,rfl,rfl,by simp [World.setCell],fun k hk hs=>Below.heap_setCell _ _ _ _ hs⟩ (fun x hx _=>hx ▸ hp)
theorem Chg.mono {S T:Nat->Prop} {w w':World} (h:Chg S w w') (hST:∀ x,S x->x<w.heap.size->T x):Chg T w w':=
 ⟨h.os,h.tape,h.output,h.size,fun k hk ht=>h.block k hk (fun hs=>ht (hST k hs hk))⟩
theorem Chg.below {S:Nat->Prop} {B:Nat} {w w':World} (h:Chg S w w') (hB:B<=w.heap.size) (hS:∀ k,S k->B<=k):Below B w w':=
 ⟨h.os,h.tape,h.output,h.size,fun k hk=>h.block k (by omega) (fun hs=>by have:=hS k hs;omega)⟩
theorem Chg.out {S:Nat->Prop} {w0 w w':World} (h:Chg S w w') (ho:Out w0 w) (hS:∀ k,S k->w0.heap.size<=k):Out w0 w':=
 Below.trans ho (h.below ho.size hS)
theorem Chg.cell {S:Nat->Prop} {w w':World} (h:Chg S w w') {a:Addr} {v:Value} (hc:w.cell? a=some v) (hs:¬S a.block):w'.cell? a=some v:=by
 rw [<-hc];exact World.cell?_of_block (h.block _ (World.block_lt_of_cell? w a hc) hs)
def letP (c:Int):Bool:=decide (97<=c) && decide (c<=122) || decide (65<=c) && decide (c<=90) || c == 95
def digP (c:Int):Bool:=decide (48<=c) && decide (c<=57)
def runP (c:Int):Bool:=letP c || digP c || c == 46 || c == 36
def hexP (c:Int):Bool:=digP c || decide (97<=c) && decide (c<=102) || decide (65<=c) && decide (c<=70)
def bI (b:UInt8):Int:=b.toNat
def runU (b:UInt8):Bool:=runP (bI b)
def kindP (c:Int):Int:=
 if letP c=true then 3 else if digP c=true then 4 else if c=32\/c=9\/c=13 then 1 else if c=59\/c=35 then 2
 else if c=46 then 5 else if c=36 then 6 else if c=58\/c=44\/c=91\/c=93\/c=43\/c=45 then 7 else 0
theorem lsize (s:ByteArray):s.toList.length=s.size:=by rw [ByteArray.toList_eq];rfl
theorem lget (s:ByteArray) (k:Nat) (h:k<s.size):s.toList[k]? = some s[k]:=by
 rw [ByteArray.toList_eq]
 simp [ByteArray.getElem_eq_getElem_data,show k<s.data.size from h]
theorem mk_list (l:List UInt8):(⟨l.toArray⟩:ByteArray).toList=l:=by rw [ByteArray.toList_eq]
theorem mk_size (l:List UInt8):(⟨l.toArray⟩:ByteArray).size=l.length:=by rw [<-lsize,mk_list]
theorem kindOf_any (c:Int) (w:World):Calls Tryz.prog 98 #[.int .u8 c] w fun e w'=>e=.returned (.int .i64 (kindP c))/\w=w':=by
 go_enter Tryz.func98,Tryz.ntmps98
 go_wp2
 all_goals (go_ret;refine ret_int ?_;simp only [kindP,letP,digP];simp_all <;> omega)
theorem kind_of {c k:Int} (h:kindP c=k) (w:World):Calls Tryz.prog 98 #[.int .u8 c] w fun e w'=>e=.returned (.int .i64 k)/\w=w':=h ▸ kindOf_any c w
theorem runP_kind (c:Int):runP c=(kindP c == 3 || kindP c == 4 || kindP c == 5 || kindP c == 6):=by
 unfold runP kindP
 cases h1:letP c <;> cases h2:digP c <;> simp
 by_cases a:c=46
 · subst a;decide
 by_cases b:c=36
 · subst b;decide
 simp [a,b]
 repeat' split
 all_goals simp [a,b]
theorem inRun_any (c:Int) (w:World):Calls Tryz.prog 180 #[.int .u8 c] w fun e w'=>e=.returned (.bool (runP c))/\w=w':=by
 rw [runP_kind]
 generalize hk:kindP c=k
 go_enter Tryz.func180,Tryz.ntmps180
 go_wp2_with (go_at_call 98;refine (kind_of hk _).mono ?_;rintro e w1 ⟨rfl,rfl⟩)
 all_goals (go_ret;refine ret_bool ?_;simp_all)
def runN (l:List UInt8):Nat:=(l.takeWhile runU).length
theorem runN_le (l:List UInt8):runN l<=l.length:=(List.takeWhile_sublist _).length_le
theorem tw_len {α:Type} (p:α->Bool):∀ (l:List α) (k:Nat),(l.take k).all p=true->k<=l.length->(k=l.length\/∃ b,l[k]? = some b/\p b=false)->(l.takeWhile p).length=k
 | [],k,_,h,_=>by simp at h;simp [h]
 | x::r,0,_,_,h=>by
  rcases h with h | ⟨b,hb,hp⟩
  · simp at h
  · simp at hb;subst hb;simp [List.takeWhile,hp]
 | x::r,k+1,ha,hk,h=>by
  simp only [List.take_succ_cons,List.all_cons,Bool.and_eq_true] at ha
  simp only [List.takeWhile,ha.1,List.length_cons]
  rw [tw_len p r k ha.2 (by simpa using hk) (by simpa using h)]
theorem all_step {α:Type} (p:α->Bool) (l:List α) (k:Nat) (b:α) (h:(l.take k).all p=true) (hb:l[k]? = some b) (hp:p b=true):(l.take (k+1)).all p=true:=by
 rw [List.take_add_one,List.all_append,h,hb];simp [hp]
theorem inRun_of {c:Int} {b:Bool} (h:runP c=b) (w:World):Calls Tryz.prog 180 #[.int .u8 c] w fun e w'=>e=.returned (.bool b)/\w=w':=h ▸ inRun_any c w
theorem runSize_any (s:ByteArray) (w:World) (hs:s.size<=4611686018427387904):Calls Tryz.prog 156 #[.string s] w fun e w'=>e=.returned (.int .i64 (runN s.toList:Nat))/\w=w':=by
 have HN:Hid (∀ k,(s.toList.take k).all runU=true->k<=s.size->(k=s.size\/∃ b,s.toList[k]? = some b/\runU b=false)->runN s.toList=k):=fun k ha hk hs=>tw_len _ _ k ha (by rw [lsize];exact hk) (by rw [lsize];exact hs)
 go_enter Tryz.func156,Tryz.ntmps156
 go_wp2
 go_loopw [6] (fun nv wr=>∃ k:Nat,k<=s.size/\nv=.int .i64 k/\Hid ((s.toList.take k).all runU=true)/\wr=w) (fun nv _=>s.size - (intOf nv).toNat)
 case atStart=>exact ⟨0,by omega,rfl,hidOf (by simp),rfl⟩
 case round=>
  obtain ⟨k,hk2,rfl,Ha,rfl⟩:=hrel
  by_cases hk:k<s.size
  ·
   have hlt:(k:Int)<s.size:=by omega
   have h0k:(0:Int)<=k:=by omega
   have Hg:=hidOf (lget s k hk)
   cases hr:runP (bI s[k])
   ·
    have Hfin:=hidOf (HN.out k Ha.out hk2 (.inr ⟨_,Hg.out,hr⟩))
    go_wp2_with (go_at_call 180;refine (inRun_of hr _).mono ?_;rintro e w3 ⟨rfl,rfl⟩)
    go_ret
    exact ⟨by rw [Hfin.out];rfl,rfl⟩
   ·
    have Ha':=hidOf (all_step runU _ k _ Ha.out Hg.out hr)
    go_wp2_with (go_at_call 180;refine (inRun_of hr _).mono ?_;rintro e w3 ⟨rfl,rfl⟩)
    go_roundw
    case rel=>exact ⟨k+1,by omega,by simp,Ha',trivial⟩
    case measure=>simp [intOf];omega
  ·
   have hlt:¬(k:Int)<s.size:=by omega
   have hks:k=s.size:=by omega
   have Hfin:=hidOf (HN.out k Ha.out hk2 (.inl (by omega)))
   go_wp2
   go_ret
   exact ⟨by rw [Hfin.out,hks];rfl,rfl⟩
def startP (l:List UInt8):Bool:=match l with | []=>false | c::_=>kindP (bI c) == 3
def wordP (l:List UInt8):Bool:=decide (l.length<=64) && startP l && l.all runU
theorem isEmpty_of {s:ByteArray} (h:¬s.size=0):s.toList.isEmpty=false/\¬s.toList=[]:=by
 have hne:¬s.toList=[]:=fun h'=>by have:=lsize s;rw [h'] at this;simp at this;omega
 exact ⟨by cases hl:s.toList with | nil=>exact absurd hl hne | cons x r=>rfl,hne⟩
theorem head_of {s:ByteArray} (h:0<s.size):∃ r,s.toList=s[0]::r:=by
 have hb:=lget s 0 h
 cases hl:s.toList with
 | nil=>rw [hl] at hb;simp at hb
 | cons x r=>rw [hl] at hb;simp at hb;exact ⟨r,by rw [hb]⟩
theorem startsWord_any (s:ByteArray) (w:World):Calls Tryz.prog 141 #[.string s] w fun e w'=>e=.returned (.bool (startP s.toList))/\w=w':=by
 by_cases h0:s.size=0
 ·
  have hl:s.toList=[]:=List.length_eq_zero_iff.1 (by rw [lsize,h0])
  have hN:startP s.toList=false:=by rw [hl];rfl
  rw [hN]
  go_enter Tryz.func141,Tryz.ntmps141
  go_wp2
  go_ret
  exact ⟨rfl,rfl⟩
 ·
  have h0':(0:Int)<s.size:=by omega
  obtain ⟨hie,hne⟩:=isEmpty_of h0
  obtain ⟨r,hr⟩:=head_of (s:=s) (by omega)
  have hN:startP s.toList=(kindP (bI s[0]) == 3):=by rw [hr];rfl
  rw [hN]
  generalize hk:kindP (bI s[0])=k
  clear hN hr
  go_enter Tryz.func141,Tryz.ntmps141
  go_wp2_with (go_at_call 98;refine (kind_of hk _).mono ?_;rintro e w1 ⟨rfl,rfl⟩)
  go_ret
  exact ⟨rfl,rfl⟩
theorem tw_all {α:Type} (p:α->Bool):∀ l:List α,((l.takeWhile p).length=l.length) ↔ (l.all p=true)
 | []=>by simp
 | x::l=>by
  have ih:=tw_all p l
  cases hp:p x
  · simp [List.takeWhile,hp]
  · simp only [List.takeWhile,hp,List.length_cons,List.all_cons,Bool.true_and, <-ih];omega
theorem isWord_any (s:ByteArray) (w:World) (hs:s.size<=4611686018427387904):Calls Tryz.prog 120 #[.string s] w fun e w'=>e=.returned (.bool (wordP s.toList))/\w=w':=by
 have hl:=lsize s
 by_cases h64:s.size<=64
 ·
  have h64':(s.size:Int)<=64:=by omega
  cases h1:startP s.toList
  ·
   have hN:wordP s.toList=false:=by simp [wordP,h1]
   rw [hN]
   clear hN
   go_enter Tryz.func120,Tryz.ntmps120
   go_wp2_with (go_at_call 141;refine (startsWord_any _ _).mono ?_;rw [h1];rintro e w1 ⟨rfl,rfl⟩)
   go_ret
   exact ⟨rfl,rfl⟩
  ·
   have hN:wordP s.toList=(runN s.toList == s.size):=by
    have h2:=tw_all runU s.toList
    rw [hl] at h2
    rw [Bool.eq_iff_iff,beq_iff_eq,runN,h2]
    simp [wordP,h1,hl,h64]
   rw [hN]
   clear hN
   go_enter Tryz.func120,Tryz.ntmps120
   go_wp2_with (first | (go_at_call 141;refine (startsWord_any _ _).mono ?_;rw [h1];rintro e w1 ⟨rfl,rfl⟩) | (go_at_call 156;refine (runSize_any _ _ hs).mono ?_;rintro e w2 ⟨rfl,rfl⟩))
   go_ret
   refine ret_bool ?_
   rw [Bool.eq_iff_iff];simp;omega
 ·
  have h64':¬(s.size:Int)<=64:=by omega
  have hN:wordP s.toList=false:=by simp [wordP,hl,h64]
  rw [hN]
  clear hN
  go_enter Tryz.func120,Tryz.ntmps120
  go_wp2
  go_ret
  exact ⟨rfl,rfl⟩
def markB (l:List UInt8):Bool:=match l with | [c]=>kindP (bI c) == 7 | _=>false
theorem isMark_any (s:ByteArray) (w:World):Calls Tryz.prog 122 #[.string s] w fun e w'=>e=.returned (.bool (markB s.toList))/\w=w':=by
 have hl:=lsize s
 by_cases h1:s.size=1
 ·
  have h1':((s.size:Int) == 1)=true:=by simp;omega
  have hlt:(0:Int)<s.size:=by omega
  obtain ⟨r,hr⟩:=head_of (s:=s) (by omega)
  have hr0:r=[]:=by rw [hr] at hl;simp at hl;exact List.length_eq_zero_iff.1 (by omega)
  have hN:markB s.toList=(kindP (bI s[0]) == 7):=by rw [hr,hr0];rfl
  rw [hN]
  generalize hk:kindP (bI s[0])=k
  clear hN hr hl hr0
  go_enter Tryz.func122,Tryz.ntmps122
  go_wp2_with (go_at_call 98;refine (kind_of hk _).mono ?_;rintro e w1 ⟨rfl,rfl⟩)
  go_ret
  exact ⟨rfl,rfl⟩
 ·
  have h1':((s.size:Int) == 1)=false:=by simp;omega
  have hN:markB s.toList=false:=by
   unfold markB
   split
   · rename_i c hc;rw [hc] at hl;simp at hl;omega
   · rfl
  rw [hN]
  clear hN
  go_enter Tryz.func122,Tryz.ntmps122
  go_wp2
  go_ret
  exact ⟨rfl,rfl⟩
structure Tk where
 k:Int
 t:List UInt8
 n:Int
 l:Int
def Tk.cs (x:Tk):List Value:=[.int .i64 x.k,.string ⟨x.t.toArray⟩,.int .u64 x.n,.int .i64 x.l]
def tkV (l:List Tk):List Value:=l.flatMap Tk.cs
theorem tkV_snoc (l:List Tk) (x:Tk):tkV (l++[x])=tkV l++x.cs:=by simp [tkV,List.flatMap_append]
theorem tk_one (x:Tk):∀ u ∈ x.cs,u.oneCell'=true:=by
 intro u hu
 simp [Tk.cs] at hu
 rcases hu with rfl | rfl | rfl | rfl <;> rfl
theorem infoTk:(Tryz.prog.info? 77).map (fun i=>(i.zero,i.size,i.bytes))=some (some (.agg #[.int .i64 0,.string ⟨#[]⟩,.int .u64 0,.int .i64 0]),4,40):=by kernel_rfl
theorem owns_chg {B size:Nat} {S:Nat->Prop} {w w':World} {e:TypeId} {v:Value} {n:Nat} {xs:List Value} (h:w.ownsRow B e size v n xs) (hs:∀ k,v.ownBlock=some k->¬S k) (hc:Chg S w w'):w'.ownsRow B e size v n xs:=by
 refine ⟨h.1, ?_⟩
 rcases h.2 with hn | ⟨g,cap,cur,rfl,hb,hg,rest⟩
 · exact .inl hn
 ·
  refine .inr ⟨g,cap,cur,rfl,hb, ?_,rest⟩
  rw [hc.block g (Array.getElem?_eq_some_iff.1 hg).1 (hs g rfl)]
  exact hg
structure Sn where
 line:List UInt8
 num:Nat
 at':Nat
 cnt:Nat
 keeps:Bool
 T:List Tk
def Sn.cells (s:Sn) (rv tv:Value):Array Value:=#[rv,.string ⟨s.line.toArray⟩,.int .i64 s.num,.int .i64 s.at',.int .i64 s.cnt,.bool s.keeps,tv]
structure Sc (N p:Nat) (w:World) (rv tv:Value) (s:Sn):Prop where
 le:N<=p
 at_:w.heap[p]? = some (.cells (s.cells rv tv) 67 (0,0))
 own:w.ownsRow N 77 4 tv s.T.length (tkV s.T)
 ne:∀ k,tv.ownBlock=some k->¬k=p
theorem Sc.cell {N p:Nat} {w:World} {rv tv:Value} {s:Sn} (h:Sc N p w rv tv s) (j:Nat):w.cell? ⟨p,j,none⟩=(s.cells rv tv)[j]?:=by simp [World.cell?,h.at_]
theorem Sc.frozen {N p:Nat} {w:World} {rv tv:Value} {s:Sn} (h:Sc N p w rv tv s) (j:Nat):w.frozen? ⟨p,j,none⟩=false:=by simp [World.frozen?,h.at_]
theorem Sc.lt {N p:Nat} {w:World} {rv tv:Value} {s:Sn} (h:Sc N p w rv tv s):p<w.heap.size:=(Array.getElem?_eq_some_iff.1 h.at_).1
theorem Sc.base {N p:Nat} {w:World} {rv tv:Value} {s:Sn} (h:Sc N p w rv tv s):N<=w.heap.size:=by have:=h.lt;have:=h.le;omega
theorem Sc.drew {N p:Nat} {w:World} {rv tv:Value} {s:Sn} (h:Sc N p w rv tv s):Sc N p w.drew rv tv s:=⟨h.le,h.at_,owns_chg (S:=fun _=>False) h.own (fun _ _ h=>h) ((Chg.refl _ w).drew),h.ne⟩
theorem Sc.drewN {N p:Nat} {w:World} {rv tv:Value} {s:Sn} (h:Sc N p w rv tv s) (n:Nat):Sc N p (w.drewN n) rv tv s:=⟨h.le,h.at_,owns_chg (S:=fun _=>False) h.own (fun _ _ h=>h) (Chg.of_out ((Out.refl w).drewN n)),h.ne⟩
theorem Sc.out {N p:Nat} {w w':World} {rv tv:Value} {s:Sn} (h:Sc N p w rv tv s) (o:Out w w'):Sc N p w' rv tv s:=⟨h.le,(o.block p h.lt).trans h.at_,owns_chg (S:=fun _=>False) h.own (fun _ _ h=>h) (Chg.of_out o),h.ne⟩
theorem Sc.set {N p:Nat} {w:World} {rv tv rv':Value} {s:Sn} (h:Sc N p w rv tv s) (j:Nat) (u:Value) (s':Sn) (hT:s'.T=s.T) (hc:(s.cells rv tv).setIfInBounds j u=s'.cells rv' tv):Sc N p (w.setCell ⟨p,j,none⟩ u) rv' tv s':=by
 refine ⟨h.le, ?_, ?_,h.ne⟩
 ·
  rw [<-hc]
  simp [World.setCell,Array.getElem?_modify,h.at_]
 ·
  rw [hT]
  exact owns_chg (S:=fun k=>k=p) h.own h.ne (Chg.setCell (S:=fun k=>k=p) (Chg.refl _ w) (p:=⟨p,j,none⟩) rfl u)
theorem Below.set_own {N:Nat} {w w':World} (h:Below N w w') {p j:Nat} (hp:N<=p) (u:Value):Below N w (w'.setCell ⟨p,j,none⟩ u):=Below.setCell h hp u
def Sn.add (s:Sn) (k:Int) (t:List UInt8) (n:Int):Sn:={ s with cnt:=s.cnt+1,T:=if s.keeps then s.T++[⟨k,t,n,s.num⟩] else s.T }
theorem own_form {B n sz:Nat} {X:World} {e:TypeId} {v:Value} {xs:List Value} (h:X.ownsRow B e sz v n xs):∃ ad cp,v=.slice ad n cp:=by
 rcases h.2 with ⟨rfl,rfl⟩ | ⟨g,cap,cur,rfl,_⟩
 · exact ⟨none,0,rfl⟩
 · exact ⟨_,_,rfl⟩
theorem news_new (w:World) (cs:Array Value) (t:TypeId) (b:Nat) (hb:b=w.heap.size):∀ j u,cs.toList[j]? = some u->(w.alloc (.cells cs t)).cell? ((⟨b,0,none⟩:Addr).add j)=some u:=by
 intro j u hu
 rw [WideShapes.add_plain,Nat.zero_add,cell_fresh _ _ _ _ _ hb]
 simpa using hu
theorem news_drew (w:World) (cs:Array Value) (t:TypeId) (b:Nat) (hb:b=w.heap.size):∀ j u,cs.toList[j]? = some u->(w.alloc (.cells cs t)).drew.cell? ((⟨b,0,none⟩:Addr).add j)=some u:=news_new w cs t b hb
theorem Sc.grown {N p:Nat} {X w':World} {rv tv v':Value} {s s':Sn} {g cap:Nat} (h:Sc N p X rv tv s) (hg:X.grownBy w' tv.ownBlock) (hv:v'=.slice (some ⟨g,0,none⟩) s'.T.length cap) (ho:w'.ownsRow N 77 4 v' s'.T.length (tkV s'.T)) (hw:tv.ownBlock=some g\/g=X.heap.size) (hc:∀ u,s.cells rv u=s'.cells rv u):Sc N p (w'.setCell ⟨p,6,none⟩ v') rv v' s':=by
 have hp:w'.heap[p]? = X.heap[p]?:=hg.block p h.lt (fun e=>h.ne p e.symm rfl)
 have hne:¬g=p:=by
  rcases hw with hw | hw
  · exact h.ne g hw
  · have:=h.lt;omega
 refine ⟨h.le, ?_, ?_, ?_⟩
 ·
  rw [<-hc]
  simp [World.setCell,Array.getElem?_modify,hp,h.at_,Sn.cells]
 · exact owns_chg (S:=fun k=>k=p) ho (fun k hk e=>by rw [hv] at hk;simp [Value.ownBlock] at hk;exact hne (by rw [hk,e])) (Chg.setCell (S:=fun k=>k=p) (Chg.refl _ _) (p:=⟨p,6,none⟩) rfl _)
 ·
  intro k hk e
  rw [hv] at hk
  simp [Value.ownBlock] at hk
  exact hne (by rw [hk,e])
theorem Sc.cell_grown {N p:Nat} {X w':World} {rv tv:Value} {s:Sn} (h:Sc N p X rv tv s) (hg:X.grownBy w' tv.ownBlock):w'.cell? ⟨p,6,none⟩=some tv/\w'.frozen? ⟨p,6,none⟩=false:=by
 have e:¬some p=tv.ownBlock:=fun e=>h.ne p e.symm rfl
 exact ⟨(hg.cell_far ⟨p,6,none⟩ h.lt e).trans (h.cell 6),(hg.frozen_far ⟨p,6,none⟩ h.lt e).trans (h.frozen 6)⟩
theorem Below.of_grown {N:Nat} {w X w':World} {row:Option Nat} (hb:Below N w X) (hN:N<=w.heap.size) (hg:X.grownBy w' row) (hr:∀ k,row=some k->N<=k):Below N w w':=
 Below.trans hb ((Chg.of_grown (S:=fun k=>N<=k) hg hr).below (Nat.le_trans hN hb.size) (fun k h=>h))
theorem own_le {B n sz:Nat} {X:World} {e:TypeId} {v:Value} {xs:List Value} (h:X.ownsRow B e sz v n xs):∀ k,v.ownBlock=some k->B<=k:=fun k hk=>(h.lt k hk).1
def SEnd (N p:Nat) (rv:Value) (w:World) (s':Sn) (w':World):Prop:=(∃ tv',Sc N p w' rv tv' s')/\Below N w w'
set_option maxHeartbeats 1000000 in
theorem add_any (N p:Nat) (w:World) (rv tv:Value) (s:Sn) (k:Int) (t:List UInt8) (n:Int) (h:Sc N p w rv tv s) (hc:s.cnt<=1000000000) (hT:s.T.length<=s.cnt) :
  Calls Tryz.prog 44 #[.pointer (some ⟨p,0,none⟩),.int .i64 k,.string ⟨t.toArray⟩,.int .u64 n] w fun e w'=>(∃ v,e=.returned v)/\SEnd N p rv w (s.add k t n) w':=by
 have c4:w.cell? ⟨p,4,none⟩=some (.int .i64 s.cnt):=h.cell 4
 have f4:=h.frozen 4
 have hcI:(s.cnt:Int)<=1000000000:=by omega
 have H:=hidOf h
 have H1:Hid (Sc N p (w.setCell ⟨p,4,none⟩ (.int .i64 (s.cnt+1))) rv tv { s with cnt:=s.cnt+1 }):=h.set 4 _ _ rfl (by simp [Sn.cells])
 have hB1:Hid (Below N w (w.setCell ⟨p,4,none⟩ (.int .i64 (s.cnt+1)))):=Below.set_own (Below.refl _ _) h.le _
 clear h
 go_enter Tryz.func44,Tryz.ntmps44
 go_upto_region 1 with fail
 generalize w.setCell ⟨p,4,none⟩ (.int .i64 (s.cnt+1))=w1 at *
 have c5:w1.cell? ⟨p,5,none⟩=some (.bool s.keeps):=H1.out.cell 5
 cases hk:s.keeps
 ·
  rw [hk] at c5
  go_wp2
  go_end0
  refine ⟨⟨_,rfl⟩,⟨tv, ?_⟩,hB1.out⟩
  have h1:=H1.out
  unfold Sn.add
  rw [hk]
  rw [hk] at h1
  exact h1
 ·
  rw [hk] at c5
  obtain ⟨i0,hi,hz0,hz1,hz2⟩:=info_parts infoTk
  obtain ⟨ad,cp,rfl⟩:∃ ad cp,tv=.slice ad s.T.length cp:=own_form H1.out.own
  have c6:w1.cell? ⟨p,6,none⟩=some (.slice ad s.T.length cp):=H1.out.cell 6
  have c2:w1.cell? ⟨p,2,none⟩=some (.int .i64 s.num):=H1.out.cell 2
  have f6:=H1.out.frozen 6
  have a6:∀ O,(w1.alloc O).cell? ⟨p,6,none⟩=some (.slice ad s.T.length cp):=fun O=>(H1.out.out ((Out.refl _).alloc O)).cell 6
  go_upto_region 2 with fail
  go_region_law (refine step_append_lies _ rfl (.tmp 23) (.tmp 32) 49 rfl N 77 i0 _ 4 40 Tryz.underlying49 hi hz0 hz1 hz2 rfl (by decide) (.slice ad s.T.length cp) s.T.length (tkV s.T) rfl (((H1.out.out ((Out.refl _).alloc _)).drew).own) ⟨w1.heap.size,0,none⟩ 1 1 (Tk.cs ⟨k,t,n,s.num⟩) rfl rfl (news_drew _ _ _ _ rfl) (tk_one _) (by decide) (by unfold maxLen;omega) (by omega) (((H1.out.out ((Out.refl _).alloc _)).drew).base) _ rfl ?_;intro g cap w' hown' hgrow hg hlt;obtain ⟨q6,qf6⟩:=((H1.out.out ((Out.refl _).alloc _)).drew).cell_grown hgrow;have Hown:=hidOf hown';have Hgrow:=hidOf hgrow;have Hg:=hidOf hg;clear hown' hgrow hg hlt)
  all_goals
   go_wp2
   go_end0
   have eT:(s.add k t n).T=s.T++[⟨k,t,n,s.num⟩]:=by unfold Sn.add;rw [hk];rfl
   have eL:(s.add k t n).T.length=s.T.length+1:=by rw [eT];simp
   have hS:=(H1.out.out ((Out.refl _).alloc (.cells #[.int .i64 k,.string ⟨t.toArray⟩,.int .u64 n,.int .i64 s.num] 77))).drew
   refine ⟨⟨_,rfl⟩,⟨_,hS.grown (s':=s.add k t n) Hgrow.out (by rw [eL]) (by rw [eL,eT,tkV_snoc];exact Hown.out) Hg.out (fun u=>rfl)⟩, ?_⟩
   exact Below.set_own (Below.of_grown ((hB1.out.alloc (Nat.le_trans H.out.base hB1.out.size) _).drew) H.out.base Hgrow.out (own_le hS.own)) H.out.le _
theorem ext_drop (l:List UInt8) (n:Nat) (h:n<=l.length):(⟨l.toArray⟩:ByteArray).extract n l.length=⟨(l.drop n).toArray⟩:=by
 rw [ByteArray.ext_iff,ByteArray.data_extract]
 simp
 exact List.take_of_length_le (by rw [List.length_drop];exact Nat.le_refl _)
theorem ext_mid (l:List UInt8) (n m:Nat) (h:n+m<=l.length):(⟨l.toArray⟩:ByteArray).extract n (n+m)=⟨((l.drop n).take m).toArray⟩:=by
 rw [ByteArray.ext_iff,ByteArray.data_extract]
 simp
set_option maxHeartbeats 1000000 in
theorem run_any (N p:Nat) (w:World) (rv tv:Value) (s:Sn) (R:List UInt8) (n:Nat) (h:Sc N p w rv tv s) (ha:s.at'<=s.line.length) (hl:s.line.length<=4611686018427387904) (hR:s.line.drop s.at'=R) (hn:runN R=n) :
  Calls Tryz.prog 140 #[.pointer (some ⟨p,0,none⟩)] w fun e w'=>e=.returned (.string ⟨(R.take n).toArray⟩)/\Sc N p w' rv tv { s with at':=s.at' + n }/\Below N w w':=by
 obtain ⟨L,num,a,cnt,kp,T⟩:=s
 simp only at ha hl hR ⊢
 have hRl:R.length=L.length - a:=by rw [<-hR,List.length_drop]
 have hnR:n<=R.length:=by rw [<-hn];exact runN_le R
 have c1:w.cell? ⟨p,1,none⟩=some (.string ⟨L.toArray⟩):=h.cell 1
 have c3:w.cell? ⟨p,3,none⟩=some (.int .i64 a):=h.cell 3
 have f3:=h.frozen 3
 have H:=hidOf h
 have CR:Hid (∀ wx:World,Calls Tryz.prog 156 #[.string ⟨R.toArray⟩] wx fun e w'=>e=.returned (.int .i64 (n:Nat))/\w'=wx):=fun wx=>by
  have h:=runSize_any ⟨R.toArray⟩ wx (by rw [mk_size];omega)
  rw [mk_list,hn] at h
  exact h.mono fun e w' h=>⟨h.1,h.2.symm⟩
 have e1:=ext_drop L a ha
 have e2:=ext_mid L a n (by omega)
 rw [hR] at e1 e2
 have haI:(a:Int)<=L.length:=by omega
 have hanI:(a:Int)+n<=L.length:=by omega
 have hlI:(L.length:Int)<=4611686018427387904:=by omega
 have Hset:Hid (∀ k:Nat,∀ X:World,Sc N p X rv tv ⟨L,num,a,cnt,kp,T⟩->Sc N p (X.setCell ⟨p,3,none⟩ (.int .i64 ((a:Int)+n))) rv tv ⟨L,num,a+n,cnt,kp,T⟩):=fun k X hX=>hX.set 3 _ _ rfl (by simp [Sn.cells])
 clear h hR hn
 go_enter Tryz.func140,Tryz.ntmps140
 go_upto_region 1 with fail
 go_quiet ((go_at_call 156;exact Calls.quiet_of_same (CR.out _)))
 have H2:=hidOf (H.out.drewN nq)
 have B2:Hid (Below N w (w.drewN nq)):=⟨rfl,rfl,rfl,Nat.le_refl _,fun _ _=>rfl⟩
 clear c1 c3 f3
 generalize w.drewN nq=w2 at *
 have d1:w2.cell? ⟨p,1,none⟩=some (.string ⟨L.toArray⟩):=H2.out.cell 1
 have d3:w2.cell? ⟨p,3,none⟩=some (.int .i64 a):=H2.out.cell 3
 go_upto_region 2 with fail
 go_quiet (fail)
 have H3:=hidOf (H2.out.drewN nq)
 have B3:Hid (Below N w (w2.drewN nq)):=Below.trans B2.out ⟨rfl,rfl,rfl,Nat.le_refl _,fun _ _=>rfl⟩
 clear d1 d3
 generalize w2.drewN nq=w3 at *
 have d3:w3.cell? ⟨p,3,none⟩=some (.int .i64 a):=H3.out.cell 3
 have f3:=H3.out.frozen 3
 go_wp2
 go_ret
 exact ⟨by rw [<-e2];rfl,Hset.out 0 _ H3.out,Below.set_own B3.out H.out.le _⟩
def EEnd (N p:Nat) (rv:Value) (w:World) (E:Int) (s s':Sn) (e:Ending) (w':World):Prop:=e=.returned (.int .i64 E)/\(E=0->∃ tv',Sc N p w' rv tv' s')/\(∃ tv' s2,s2.num=s.num/\Sc N p w' rv tv' s2)/\Below N w w'
theorem EEnd.ok {N p:Nat} {rv tv':Value} {w w':World} {s s':Sn} (h:Sc N p w' rv tv' s') (hn:s'.num=s.num) (b:Below N w w'):EEnd N p rv w 0 s s' (.returned (.int .i64 0)) w':=⟨rfl,fun _=>⟨_,h⟩,⟨_,_,hn,h⟩,b⟩
theorem EEnd.bad {N p:Nat} {rv tv':Value} {w w':World} {s s' s2:Sn} {E:Int} (hE:¬E=0) (h:Sc N p w' rv tv' s2) (hn:s2.num=s.num) (b:Below N w w'):EEnd N p rv w E s s' (.returned (.int .i64 E)) w':=⟨rfl,fun e=>absurd e hE,⟨_,_,hn,h⟩,b⟩
theorem Below.step {N:Nat} {a b c:World} (h:Below N a b) (k:Below N b c):Below N a c:=Below.trans h k
def tokS (s:Sn) (k:Int) (t:List UInt8) (v:Int) (n:Nat):Sn:={ s.add k t v with at':=s.at' + n }
set_option maxHeartbeats 1000000 in
theorem word_any (N p:Nat) (w:World) (rv tv:Value) (s:Sn) (R:List UInt8) (n:Nat) (h:Sc N p w rv tv s) (ha:s.at'<=s.line.length) (hl:s.line.length<=4611686018427387904) (hc:s.cnt<=1000000000) (hT:s.T.length<=s.cnt) (hR:s.line.drop s.at'=R) (hn:runN R=n) :
  Calls Tryz.prog 99 #[.pointer (some ⟨p,0,none⟩)] w fun e w'=>EEnd N p rv w (if n<=64 then 0 else 53) s (tokS s 1 (R.take n) 0 n) e w':=by
 have CR:=hidOf (run_any N p w rv tv s R n h ha hl hR hn)
 have hnR:n<=R.length:=by rw [<-hn];exact runN_le R
 have hle:(R.take n).length=n:=by rw [List.length_take];omega
 have CA:Hid (∀ wx tv',Sc N p wx rv tv' { s with at':=s.at' + n }->Calls Tryz.prog 44 #[.pointer (some ⟨p,0,none⟩),.int .i64 1,.string ⟨(R.take n).toArray⟩,.int .u64 0] wx fun e w'=>(∃ v,e=.returned v)/\SEnd N p rv wx (tokS s 1 (R.take n) 0 n) w'):=fun wx tv' hx=>add_any N p wx rv tv' _ 1 (R.take n) 0 hx hc hT
 generalize R.take n=t at *
 clear h hR hn hnR
 by_cases h64:n<=64
 ·
  rw [if_pos h64]
  have h64':¬(t.length:Int) > 64:=by omega
  have h64'':(t.length:Int)<=64:=by omega
  go_enter Tryz.func99,Tryz.ntmps99
  go_wp2_with (first | (go_at_call 140;refine CR.out.mono ?_;rintro e w1 ⟨rfl,hs1,hb1⟩;have H1:=hidOf hs1;have B1:=hidOf hb1;clear hs1 hb1) | (go_at_call 44;refine (CA.out w1 tv H1.out).mono ?_;rintro e w2 ⟨⟨v,rfl⟩,⟨tv2,hs2⟩,hb2⟩;have H2:=hidOf hs2;have B2:=hidOf hb2;clear hs2 hb2))
  go_ret
  exact EEnd.ok H2.out rfl (Below.step B1.out B2.out)
 ·
  rw [if_neg h64]
  have h64':(64:Int)<t.length:=by omega
  go_enter Tryz.func99,Tryz.ntmps99
  go_wp2_with (go_at_call 140;refine CR.out.mono ?_;rintro e w1 ⟨rfl,hs1,hb1⟩;have H1:=hidOf hs1;have B1:=hidOf hb1;clear hs1 hb1)
  go_ret
  exact EEnd.bad (by decide) (H1.out) rfl (B1.out)
set_option maxHeartbeats 1000000 in
theorem dot_any (N p:Nat) (w:World) (rv tv:Value) (s:Sn) (c:UInt8) (R:List UInt8) (n:Nat) (h:Sc N p w rv tv s) (ha:s.at' < s.line.length) (hl:s.line.length<=4611686018427387904) (hc:s.cnt<=1000000000) (hT:s.T.length<=s.cnt) (hR:s.line.drop s.at'=c::R) (hn:runN (c::R)=n) :
  Calls Tryz.prog 100 #[.pointer (some ⟨p,0,none⟩)] w fun e w'=>EEnd N p rv w (if startP R=true then (if n<=65 then 0 else 53) else 52) s (tokS s 2 ((c::R).take n) 0 n) e w':=by
 have c1:w.cell? ⟨p,1,none⟩=some (.string ⟨s.line.toArray⟩):=h.cell 1
 have c3:w.cell? ⟨p,3,none⟩=some (.int .i64 s.at'):=h.cell 3
 have H:=hidOf h
 have CR:Hid (∀ wx,Sc N p wx rv tv s->Calls Tryz.prog 140 #[.pointer (some ⟨p,0,none⟩)] wx fun e w'=>e=.returned (.string ⟨((c::R).take n).toArray⟩)/\Sc N p w' rv tv { s with at':=s.at' + n }/\Below N wx w'):=fun wx hx=>run_any N p wx rv tv s (c::R) n hx (by omega) hl hR hn
 have e1:=ext_drop s.line (s.at' + 1) (by omega)
 rw [show s.line.drop (s.at' + 1)=R from by rw [<-List.drop_drop,hR];rfl] at e1
 have CS:Hid (∀ wx,Calls Tryz.prog 141 #[.string ⟨R.toArray⟩] wx fun e w'=>e=.returned (.bool (startP R))/\w'=wx):=fun wx=>by
  have h:=startsWord_any ⟨R.toArray⟩ wx
  rw [mk_list] at h
  exact h.mono fun e w' h=>⟨h.1,h.2.symm⟩
 have hnR:n<=(c::R).length:=by rw [<-hn];exact runN_le _
 have hle:((c::R).take n).length=n:=by rw [List.length_take];omega
 have CA:Hid (∀ wx tv',Sc N p wx rv tv' { s with at':=s.at' + n }->Calls Tryz.prog 44 #[.pointer (some ⟨p,0,none⟩),.int .i64 2,.string ⟨((c::R).take n).toArray⟩,.int .u64 0] wx fun e w'=>(∃ v,e=.returned v)/\SEnd N p rv wx (tokS s 2 ((c::R).take n) 0 n) w'):=fun wx tv' hx=>add_any N p wx rv tv' _ 2 ((c::R).take n) 0 hx hc hT
 generalize (c::R).take n=t at *
 have haI:(s.at':Int)+1<=s.line.length:=by omega
 have hlI:(s.line.length:Int)<=4611686018427387904:=by omega
 clear h hR hn hnR
 cases hst:startP R
 ·
  rw [hst] at CS
  rw [if_neg (by decide)]
  go_enter Tryz.func100,Tryz.ntmps100
  go_upto_region 1 with fail
  go_quiet ((go_at_call 141;exact Calls.quiet_of_same (CS.out _)))
  go_wp2
  go_ret
  exact EEnd.bad (by decide) (H.out.drewN nq) rfl (⟨rfl,rfl,rfl,Nat.le_refl _,fun _ _=>rfl⟩)
 ·
  rw [hst] at CS
  rw [if_pos rfl]
  by_cases h64:n<=65
  ·
   rw [if_pos h64]
   have h64':¬(t.length:Int) > 65:=by omega
   have h64'':(t.length:Int)<=65:=by omega
   go_enter Tryz.func100,Tryz.ntmps100
   go_upto_region 1 with fail
   go_quiet ((go_at_call 141;exact Calls.quiet_of_same (CS.out _)))
   have H0:=hidOf (H.out.drewN nq)
   have B0:Hid (Below N w (w.drewN nq)):=⟨rfl,rfl,rfl,Nat.le_refl _,fun _ _=>rfl⟩
   clear c1 c3
   generalize w.drewN nq=w0 at *
   go_wp2_with (first | (go_at_call 140;refine (CR.out w0 H0.out).mono ?_;rintro e w1 ⟨rfl,hs1,hb1⟩;have H1:=hidOf hs1;have B1:=hidOf hb1;clear hs1 hb1) | (go_at_call 44;refine (CA.out w1 tv H1.out).mono ?_;rintro e w2 ⟨⟨v,rfl⟩,⟨tv2,hs2⟩,hb2⟩;have H2:=hidOf hs2;have B2:=hidOf hb2;clear hs2 hb2))
   go_ret
   exact EEnd.ok H2.out rfl (Below.step B0.out (Below.step B1.out B2.out))
  ·
   rw [if_neg h64]
   have h64':(65:Int)<t.length:=by omega
   go_enter Tryz.func100,Tryz.ntmps100
   go_upto_region 1 with fail
   go_quiet ((go_at_call 141;exact Calls.quiet_of_same (CS.out _)))
   have H0:=hidOf (H.out.drewN nq)
   have B0:Hid (Below N w (w.drewN nq)):=⟨rfl,rfl,rfl,Nat.le_refl _,fun _ _=>rfl⟩
   clear c1 c3
   generalize w.drewN nq=w0 at *
   go_wp2_with (go_at_call 140;refine (CR.out w0 H0.out).mono ?_;rintro e w1 ⟨rfl,hs1,hb1⟩;have H1:=hidOf hs1;have B1:=hidOf hb1;clear hs1 hb1)
   go_ret
   exact EEnd.bad (by decide) (H1.out) rfl (Below.step B0.out B1.out)
set_option maxHeartbeats 1000000 in
theorem mark_any (N p:Nat) (w:World) (rv tv:Value) (s:Sn) (c:UInt8) (R:List UInt8) (h:Sc N p w rv tv s) (ha:s.at' < s.line.length) (hl:s.line.length<=4611686018427387904) (hc:s.cnt<=1000000000) (hT:s.T.length<=s.cnt) (hR:s.line.drop s.at'=c::R) :
  Calls Tryz.prog 102 #[.pointer (some ⟨p,0,none⟩)] w fun e w'=>EEnd N p rv w 0 s (tokS s 4 [c] 0 1) e w':=by
 have c1:w.cell? ⟨p,1,none⟩=some (.string ⟨s.line.toArray⟩):=h.cell 1
 have c3:w.cell? ⟨p,3,none⟩=some (.int .i64 s.at'):=h.cell 3
 have H:=hidOf h
 have e1:(⟨s.line.toArray⟩:ByteArray).extract s.at' (s.at' + 1)=⟨#[c]⟩:=by
  rw [ext_mid s.line s.at' 1 (by omega),hR];rfl
 have CA:Hid (∀ wx,Sc N p wx rv tv s->Calls Tryz.prog 44 #[.pointer (some ⟨p,0,none⟩),.int .i64 4,.string ⟨#[c]⟩,.int .u64 0] wx fun e w'=>(∃ v,e=.returned v)/\SEnd N p rv wx (s.add 4 [c] 0) w'):=fun wx hx=>add_any N p wx rv tv s 4 [c] 0 hx hc hT
 have haI:(s.at':Int)+1<=s.line.length:=by omega
 have haJ:(s.at':Int)<=(s.at':Int)+1:=by omega
 have hlI:(s.line.length:Int)<=4611686018427387904:=by omega
 have hwr:IntKind.i64.wrap ((s.at':Int)+1)=(s.at':Int)+1:=by rw [IntKind.wrap_i64];omega
 clear h hR
 go_enter Tryz.func102,Tryz.ntmps102
 go_upto_region 1 with fail
 go_region_with (go_at_call 44;refine (CA.out _ H.out.drew).mono ?_;rintro e w2 ⟨⟨v,rfl⟩,⟨tv2,hs2⟩,hb2⟩;have H2:=hidOf hs2;have B2:=hidOf hb2;clear hs2 hb2)
 all_goals
  have d3:w2.cell? ⟨p,3,none⟩=some (.int .i64 s.at'):=H2.out.cell 3
  have f3:=H2.out.frozen 3
  go_wp2
  go_ret
  exact EEnd.ok (H2.out.set 3 _ (tokS s 4 [c] 0 1) rfl (by simp [Sn.cells,tokS,Sn.add])) rfl (Below.set_own (Below.step ((Below.refl _ _).drew) B2.out) H.out.le _)
end Go.Proofs.YtadneimllbfdnaaGreatDoor.Lx
