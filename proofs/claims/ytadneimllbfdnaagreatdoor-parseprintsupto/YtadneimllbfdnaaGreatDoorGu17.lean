import Derived.Test.YtadneimllbfdnaaGreatDoorGu14
import Derived.Test.YtadneimllbfdnaaGreatDoorGu16
namespace Go.Proofs.YtadneimllbfdnaaGreatDoor
open Go.RowKit
set_option linter.unusedVariables false
set_option linter.unusedSimpArgs false
theorem itoa_neg (i:Int) (h:i<0):Lib.itoa i=45::Lib.decDigits i.natAbs:=by unfold Lib.itoa;rw [if_pos h]
theorem itoa_pos (i:Int) (h:¬i<0):Lib.itoa i=Lib.decDigits i.toNat:=by unfold Lib.itoa;rw [if_neg h]
def placeTx (k:Nat) (f:Int):List UInt8:=91::(regL k++((if 0<=f then [43] else [])++(Lib.itoa f++[93])))
def opdL (t:Int × Int × Int) (r:RS):RS:=
 if t.1=0 then r else if t.2.1=0 then opS t.1 r else if t.2.2=0 then opS t.2.1 (markS [44] (opS t.1 r)) else opS t.2.2 (markS [44] (opS t.2.1 (markS [44] (opS t.1 r))))
def opsS (t:Int × Int × Int) (r:RS):RS:={ opdL t r with wrong:=(opdL t r).wrong || !(opdL t r).tok.isEmpty }
def tOf (o s f:Int):Int × Int × Int:=opdsP (formP o) s f (useS o (formP o))
structure PR where
 o:Int
 d:Int
 s:Int
 f:Int
 i:Int
 tgt:List UInt8
 e:Int
def behindS (m:Mn) (r:RS):RS:=opsS (tOf m.1 m.2.1 m.2.2.1) (RS.next { r with o:=m.1,d:=0,s:=m.2.1,f:=m.2.2.1,i:=m.2.2.2 })
def parseP (l:List UInt8):PR:=
 match meanOf (newR l).tok with
 | none=>⟨0,0,0,0,0,[],40⟩
 | some m=>if (behindS m (newR l)).wrong then ⟨0,0,0,0,0,[],41⟩ else if (behindS m (newR l)).outside then ⟨0,0,0,0,0,[],42⟩ else ⟨(behindS m (newR l)).o,(behindS m (newR l)).d,(behindS m (newR l)).s,(behindS m (newR l)).f,(behindS m (newR l)).i,(behindS m (newR l)).tgt,0⟩
def shrO (o:Int):Nat:=(o / 16).toNat
def pick2 (T:List (List UInt8 × List UInt8)) (k:Nat) (b:Bool):List UInt8:=match T[k]? with | some r=>(if b then r.2 else r.1) | none=>[]
def wOff (o f:Int):List UInt8:=match offT.find? (fun r=>bits .or .i64 o 8 == bits .or .i64 r.1 8 && f == r.2.1) with | some r=>r.2.2 | none=>[]
def wImm (o i:Int):List UInt8:=match immT.find? (fun r=>o == r.1 && i == r.2.1) with | some r=>r.2.2 | none=>[]
def wMem (o i:Int):List UInt8:=match memT.find? (fun r=>bits .andNot .i64 o 24 == r.1) with | some r=>r.2.getD (bits .and .i64 o 24 / 8).toNat [] | none=>wImm o i
def wReck (o f i:Int):List UInt8:=if f=0 then (if shrO o=13 then wImm o i else pick2 reckT (shrO o) (!(cls o == 7))) else wOff o f
def wordP (o s f i:Int):List UInt8:=
 if cls o=0 then (if s=1 then [108,100,109,97,112] else [108,100,100,119]) else if cls o=7 then wReck o f i else if cls o=4 then wReck o f i else if cls o=5 then pick2 jumpT (shrO o) false else if cls o=6 then pick2 jumpT (shrO o) true else wMem o i
def opdTx (o d s f i:Int) (t:List UInt8) (c:Int):List UInt8:=
 if c=1 then regL d.toNat else if c=2 then regL s.toNat else if c=3 then Lib.itoa i else if c=4 then (if hasSrc o then regL s.toNat else Lib.itoa i)
 else if c=5 then placeTx s.toNat f else if c=6 then placeTx d.toNat f else if c=8 then (if s=1 then t else Lib.itoa i) else t
def tailP (t:Int × Int × Int) (x:Int->List UInt8):List UInt8:=
 if t.1=0 then [] else 32::(x t.1++(if t.2.1=0 then [] else 44::32::(x t.2.1++(if t.2.2=0 then [] else 44::32::(x t.2.2++[])))))
def lineP (o d s f i:Int) (t:List UInt8):List UInt8:=wordP o s f i++tailP (tOf o s f) (opdTx o d s f i t)
def tfitP (o s f i:Int) (t:List UInt8):Bool:=
 if formP o=7 then nameP t && f == 0 && i == 0 else if formP o=8 then nameP t && f == 0 else if formP o=9/\s=1 then nameP t && i == -1 else if formP o=10/\s=1 then nameP t && i == 0 else t.isEmpty
theorem isReg_nat {d:Int} (h:isReg d=true):d.toNat<11/\((d.toNat:Nat):Int)=d:=by
 simp only [isReg,Bool.and_eq_true,decide_eq_true_eq] at h
 omega
theorem form_ex (op:Int) (h:formP op ≠ 0):∃ l ∈ opsT,op ∈ l:=by
 apply Classical.byContradiction
 intro hn
 exact h (formIn_none op opsT 0 (fun x hx hop=>hn ⟨x,hx,hop⟩))
theorem ops_at (k:Nat) (hk:k<11) (o:Int) (h:formP o=(k:Int)) (hk0:¬k=0):o ∈ opsL k:=by
 have h0:formP o ≠ 0:=by rw [h];omega
 obtain ⟨l,hl,ho⟩:=form_ex o h0
 have:=(show ∀ j:Fin 11,∀ x ∈ opsL j.val,formP x=(j.val:Int) by decide +kernel)
 obtain ⟨j,hj,e⟩:=List.getElem_of_mem hl
 have hj':j<11:=hj
 have e2:opsL j=l:=by rw [<-e];exact getD_lt opsT [] j hj
 have e3:=this ⟨j,hj'⟩ o (by rw [e2];exact ho)
 rw [h] at e3
 have:j=k:=by simp only at e3;omega
 subst this
 rw [e2]
 exact ho
theorem may_parts (o d s f i:Int) (h:mayP o d s f i=0):¬formP o=0/\dstP (useD o (formP o)) d=true/\srcP (formP o) (useS o (formP o)) s=true/\offP o (formP o) (useO o (formP o)) f=true/\immP o (formP o) s (useI o (formP o)) i=true:=by
 unfold mayP at h
 by_cases hf:formP o=0
 · rw [if_pos (by simpa using hf)] at h;simp at h
 rw [if_neg (by simpa using hf)] at h
 cases hO:fitO o d s f i
 · rw [hO] at h;simp at h
 simp only [fitO,fitP,Bool.and_eq_true] at hO
 exact ⟨hf,hO.1,hO.2.1,hO.2.2.1,hO.2.2.2⟩
theorem form_le (o:Int):0<=formP o/\formP o<=10:=by
 by_cases h:formP o=0
 · rw [h];decide
 ·
  obtain ⟨l,hl,ho⟩:=form_ex o h
  exact (show ∀ l ∈ opsT,∀ x ∈ l,0<=formP x/\formP x<=10 by decide +kernel) l hl o ho
theorem uses_of:∀ k:Fin 11,∀ o ∈ opsL k.val,useD o (formP o)=(match k.val with | 1=>false | 7=>false | 9=>false | _=>true)/\useS o (formP o)=(match k.val with | 3=>hasSrc o | 4=>true | 5=>(cls o == 3) | 6=>true | 8=>hasSrc o | _=>false)/\useO o (formP o)=(match k.val with | 4=>true | 5=>true | 6=>true | 7=>(o == 5) | 8=>true | _=>false)/\useI o (formP o)=(match k.val with | 3=>!hasSrc o | 5=>(cls o == 2) | 7=>(o == 6) | 8=>!hasSrc o | 9=>true | 10=>true | _=>false):=by decide +kernel
def tfitC (c s f i:Int) (t:List UInt8):Bool:=
 if c=7 then nameP t && f == 0 && i == 0 else if c=8 then nameP t && f == 0 else if c=9/\s=1 then nameP t && i == -1 else if c=10/\s=1 then nameP t && i == 0 else t.isEmpty
theorem tfitC_eq (o s f i:Int) (t:List UInt8):tfitP o s f i t=tfitC (formP o) s f i t:=rfl
set_option maxHeartbeats 1600000 in
theorem targetFits_at (o d s f i c g:Int) (t:List UInt8) (u1 u2 u3 u4:Bool) (w:World) (ht:t.length<=140737488355328) (CI:Hid (∀ wx:World,Out w wx->Calls Tryz.prog 79 #[.int .i64 o] wx fun e w'=>e=.returned (.tuple #[.agg #[.int .i64 c,.int .i64 g,.bool u1,.bool u2,.bool u3,.bool u4],.int .i64 0])/\Out wx w')):Calls Tryz.prog 56 #[.agg #[.int .i64 o,.int .i64 d,.int .i64 s,.int .i64 f,.int .i64 i],.string ⟨t.toArray⟩] w fun e w'=>e=.returned (.bool (tfitC c s f i t))/\Out w w':=by
 have CN:Hid (∀ wx:World,Calls Tryz.prog 81 #[.string ⟨t.toArray⟩] wx fun e w'=>e=.returned (.bool (nameP t))/\wx=w'):=fun wx=>by
  have h:=isName_any ⟨t.toArray⟩ wx (by rw [mk_size];omega)
  rw [mk_list] at h
  exact h
 clear ht
 have W0:Hid (∀ j,(w.alloc (.cells #[.int .i64 o,.int .i64 d,.int .i64 s,.int .i64 f,.int .i64 i] 40)).cell? ⟨w.heap.size,j,none⟩=(#[.int .i64 o,.int .i64 d,.int .i64 s,.int .i64 f,.int .i64 i]:Array Value)[j]?):=fun j=>new_cell w _ _ j
 unfold tfitC
 generalize nameP t=nt at *
 by_cases c7:c=7
 ·
  rw [if_pos c7]
  subst c7
  cases nt <;> cases hf:(f == 0) <;> cases hi:(i == 0)
  all_goals go_enter Tryz.func56,Tryz.ntmps56
  all_goals go_wp2_with (first | (go_at_call 81;refine (CN.out _).mono ?_;rintro e wn ⟨rfl,rfl⟩) | (go_at_call 79;refine (CI.out _ ((Out.refl w).alloc _)).mono ?_;rintro e w1 ⟨rfl,ho1⟩;have Ho1:=hidOf ho1;have q2:∀ O,(w1.alloc O).cell? ⟨w.heap.size,2,none⟩=some (.int .i64 s):=fun O=>cell_later (ho1.alloc O) (W0.out 2);have q3:∀ O,(w1.alloc O).cell? ⟨w.heap.size,3,none⟩=some (.int .i64 f):=fun O=>cell_later (ho1.alloc O) (W0.out 3);have q4:∀ O,(w1.alloc O).cell? ⟨w.heap.size,4,none⟩=some (.int .i64 i):=fun O=>cell_later (ho1.alloc O) (W0.out 4);clear ho1))
  all_goals go_ret
  all_goals exact ⟨rfl,Out.trans ((Out.refl w).alloc _) (Ho1.out.alloc _)⟩
 rw [if_neg c7]
 have n7:(c == 7)=false:=by simpa using c7
 clear c7
 by_cases c8:c=8
 ·
  rw [if_pos c8]
  subst c8
  cases nt <;> cases hf:(f == 0)
  all_goals go_enter Tryz.func56,Tryz.ntmps56
  all_goals go_wp2_with (first | (go_at_call 81;refine (CN.out _).mono ?_;rintro e wn ⟨rfl,rfl⟩) | (go_at_call 79;refine (CI.out _ ((Out.refl w).alloc _)).mono ?_;rintro e w1 ⟨rfl,ho1⟩;have Ho1:=hidOf ho1;have q2:∀ O,(w1.alloc O).cell? ⟨w.heap.size,2,none⟩=some (.int .i64 s):=fun O=>cell_later (ho1.alloc O) (W0.out 2);have q3:∀ O,(w1.alloc O).cell? ⟨w.heap.size,3,none⟩=some (.int .i64 f):=fun O=>cell_later (ho1.alloc O) (W0.out 3);have q4:∀ O,(w1.alloc O).cell? ⟨w.heap.size,4,none⟩=some (.int .i64 i):=fun O=>cell_later (ho1.alloc O) (W0.out 4);clear ho1))
  all_goals go_ret
  all_goals exact ⟨rfl,Out.trans ((Out.refl w).alloc _) (Ho1.out.alloc _)⟩
 rw [if_neg c8]
 have n8:(c == 8)=false:=by simpa using c8
 clear c8
 by_cases c9:c=9/\s=1
 ·
  rw [if_pos c9]
  obtain ⟨rfl,rfl⟩:=c9
  cases nt <;> cases hi:(i == -1)
  all_goals go_enter Tryz.func56,Tryz.ntmps56
  all_goals go_wp2_with (first | (go_at_call 81;refine (CN.out _).mono ?_;rintro e wn ⟨rfl,rfl⟩) | (go_at_call 79;refine (CI.out _ ((Out.refl w).alloc _)).mono ?_;rintro e w1 ⟨rfl,ho1⟩;have Ho1:=hidOf ho1;have q2:∀ O,(w1.alloc O).cell? ⟨w.heap.size,2,none⟩=some (.int .i64 1):=fun O=>cell_later (ho1.alloc O) (W0.out 2);have q3:∀ O,(w1.alloc O).cell? ⟨w.heap.size,3,none⟩=some (.int .i64 f):=fun O=>cell_later (ho1.alloc O) (W0.out 3);have q4:∀ O,(w1.alloc O).cell? ⟨w.heap.size,4,none⟩=some (.int .i64 i):=fun O=>cell_later (ho1.alloc O) (W0.out 4);clear ho1))
  all_goals go_ret
  all_goals exact ⟨rfl,Out.trans ((Out.refl w).alloc _) (Ho1.out.alloc _)⟩
 rw [if_neg c9]
 by_cases c10:c=10/\s=1
 ·
  rw [if_pos c10]
  obtain ⟨rfl,rfl⟩:=c10
  clear c9
  cases nt <;> cases hi:(i == 0)
  all_goals go_enter Tryz.func56,Tryz.ntmps56
  all_goals go_wp2_with (first | (go_at_call 81;refine (CN.out _).mono ?_;rintro e wn ⟨rfl,rfl⟩) | (go_at_call 79;refine (CI.out _ ((Out.refl w).alloc _)).mono ?_;rintro e w1 ⟨rfl,ho1⟩;have Ho1:=hidOf ho1;have q2:∀ O,(w1.alloc O).cell? ⟨w.heap.size,2,none⟩=some (.int .i64 1):=fun O=>cell_later (ho1.alloc O) (W0.out 2);have q3:∀ O,(w1.alloc O).cell? ⟨w.heap.size,3,none⟩=some (.int .i64 f):=fun O=>cell_later (ho1.alloc O) (W0.out 3);have q4:∀ O,(w1.alloc O).cell? ⟨w.heap.size,4,none⟩=some (.int .i64 i):=fun O=>cell_later (ho1.alloc O) (W0.out 4);clear ho1))
  all_goals go_ret
  all_goals exact ⟨rfl,Out.trans ((Out.refl w).alloc _) (Ho1.out.alloc _)⟩
 rw [if_neg c10]
 by_cases hs:s=1
 ·
  have n9:(c == 9)=false:=by simp only [beq_eq_false_iff_ne];exact fun h=>c9 ⟨h,hs⟩
  have n10:(c == 10)=false:=by simp only [beq_eq_false_iff_ne];exact fun h=>c10 ⟨h,hs⟩
  subst hs
  clear c9 c10
  cases he:t.isEmpty
  all_goals go_enter Tryz.func56,Tryz.ntmps56
  all_goals go_wp2_with (first | (go_at_call 81;refine (CN.out _).mono ?_;rintro e wn ⟨rfl,rfl⟩) | (go_at_call 79;refine (CI.out _ ((Out.refl w).alloc _)).mono ?_;rintro e w1 ⟨rfl,ho1⟩;have Ho1:=hidOf ho1;have q2:∀ O,(w1.alloc O).cell? ⟨w.heap.size,2,none⟩=some (.int .i64 1):=fun O=>cell_later (ho1.alloc O) (W0.out 2);have q3:∀ O,(w1.alloc O).cell? ⟨w.heap.size,3,none⟩=some (.int .i64 f):=fun O=>cell_later (ho1.alloc O) (W0.out 3);have q4:∀ O,(w1.alloc O).cell? ⟨w.heap.size,4,none⟩=some (.int .i64 i):=fun O=>cell_later (ho1.alloc O) (W0.out 4);clear ho1))
  all_goals go_ret
  all_goals exact ⟨rfl,Out.trans ((Out.refl w).alloc _) (Ho1.out.alloc _)⟩
 ·
  have n1:(s == 1)=false:=by simpa using hs
  clear c9 c10 hs
  cases he:t.isEmpty <;> cases n9:(c == 9) <;> cases n10:(c == 10)
  all_goals try (exfalso;simp only [beq_iff_eq] at n9 n10;omega)
  all_goals go_enter Tryz.func56,Tryz.ntmps56
  all_goals go_wp2_with (first | (go_at_call 81;refine (CN.out _).mono ?_;rintro e wn ⟨rfl,rfl⟩) | (go_at_call 79;refine (CI.out _ ((Out.refl w).alloc _)).mono ?_;rintro e w1 ⟨rfl,ho1⟩;have Ho1:=hidOf ho1;have q2:∀ O,(w1.alloc O).cell? ⟨w.heap.size,2,none⟩=some (.int .i64 s):=fun O=>cell_later (ho1.alloc O) (W0.out 2);have q3:∀ O,(w1.alloc O).cell? ⟨w.heap.size,3,none⟩=some (.int .i64 f):=fun O=>cell_later (ho1.alloc O) (W0.out 3);have q4:∀ O,(w1.alloc O).cell? ⟨w.heap.size,4,none⟩=some (.int .i64 i):=fun O=>cell_later (ho1.alloc O) (W0.out 4);clear ho1))
  all_goals go_ret
  all_goals exact ⟨rfl,Out.trans ((Out.refl w).alloc _) (Ho1.out.alloc _)⟩
theorem targetFits_any (o d s f i:Int) (t:List UInt8) (w:World) (ht:t.length<=140737488355328) (hT:Tabs w) (hf:(formP o == 0)=false):Calls Tryz.prog 56 #[.agg #[.int .i64 o,.int .i64 d,.int .i64 s,.int .i64 f,.int .i64 i],.string ⟨t.toArray⟩] w fun e w'=>e=.returned (.bool (tfitP o s f i t))/\Out w w':=by
 rw [tfitC_eq]
 exact targetFits_at o d s f i (formP o) _ t _ _ _ _ w ht (fun wx ho=>info_ok_out o wx (hT.out ho).2 hf)
theorem regL_len4:∀ k:Fin 11,(regL k.val).length<=3:=by decide
set_option maxRecDepth 8000 in
theorem place4_any (k f:Int) (h0:0<=k) (h1:k<=10) (f0 : -9223372036854775808<=f) (f1:f<9223372036854775808) (w:World):Calls Tryz.prog 68 #[.int .i64 k,.int .i64 f] w fun e w'=>e=.returned (.string ⟨(placeTx k.toNat f).toArray⟩)/\Out w w':=by
 have CR:=hidOf (fun wx=>register4_any k h0 h1 wx)
 have CD:=hidOf (fun wx=>Decimal_any f f0 f1 wx)
 have hl:=itoa_len4 f f0 f1
 have hr:(regL k.toNat).length<=3:=regL_len4 ⟨k.toNat,by omega⟩
 by_cases h:f<0
 ·
  have hP:placeTx k.toNat f=(([91]++regL k.toNat)++Lib.itoa f)++[93]:=by simp [placeTx,h]
  obtain ⟨P,hPP⟩:∃ P,placeTx k.toNat f=P:=⟨_,rfl⟩
  rw [hPP] at hP ⊢
  generalize regL k.toNat=R at *
  generalize Lib.itoa f=D at *
  obtain ⟨Z1,e1⟩:∃ Z,Z=[91]++R:=⟨_,rfl⟩
  obtain ⟨Z2,e2⟩:∃ Z,Z=Z1++D:=⟨_,rfl⟩
  have l1:Z1.length<=4:=by rw [e1];simp;omega
  have l2:Z2.length<=25:=by rw [e2];simp;omega
  have a1:∀ w,(Op.stringOp .add ⟨#[91]⟩ ⟨R.toArray⟩).run Tryz.prog w=.ok (.string ⟨Z1.toArray⟩) w:=add_l4 [91] R Z1 e1 (by simp;omega)
  have a2:∀ w,(Op.stringOp .add ⟨Z1.toArray⟩ ⟨D.toArray⟩).run Tryz.prog w=.ok (.string ⟨Z2.toArray⟩) w:=add_l4 Z1 D Z2 e2 (by omega)
  have a3:∀ w,(Op.stringOp .add ⟨Z2.toArray⟩ ⟨#[93]⟩).run Tryz.prog w=.ok (.string ⟨P.toArray⟩) w:=add_l4 Z2 [93] P (by rw [hP,e2,e1]) (by simp;omega)
  clear hPP hP e1 e2 l1 l2 hl hr h0 h1 f0 f1
  go_enter Tryz.func68,Tryz.ntmps68
  go_wp2_with (first | (go_at_call 67;refine (CR.out _).mono ?_;rintro e w1 ⟨rfl,ho⟩;have O1:=hidOf ho;clear ho) | (go_at_call 65;refine (CD.out _).mono ?_;rintro e w2 ⟨rfl,ho⟩;have O2:=hidOf ho;clear ho))
  go_ret
  exact ⟨rfl,Out.trans O1.out O2.out⟩
 ·
  have hP:placeTx k.toNat f=((([91]++regL k.toNat)++[43])++Lib.itoa f)++[93]:=by simp [placeTx,show 0<=f by omega]
  obtain ⟨P,hPP⟩:∃ P,placeTx k.toNat f=P:=⟨_,rfl⟩
  rw [hPP] at hP ⊢
  generalize regL k.toNat=R at *
  generalize Lib.itoa f=D at *
  obtain ⟨Z1,e1⟩:∃ Z,Z=[91]++R:=⟨_,rfl⟩
  obtain ⟨Z2,e2⟩:∃ Z,Z=Z1++[43]:=⟨_,rfl⟩
  obtain ⟨Z3,e3⟩:∃ Z,Z=Z2++D:=⟨_,rfl⟩
  have l1:Z1.length<=4:=by rw [e1];simp;omega
  have l2:Z2.length<=5:=by rw [e2];simp;omega
  have l3:Z3.length<=26:=by rw [e3];simp;omega
  have a1:∀ w,(Op.stringOp .add ⟨#[91]⟩ ⟨R.toArray⟩).run Tryz.prog w=.ok (.string ⟨Z1.toArray⟩) w:=add_l4 [91] R Z1 e1 (by simp;omega)
  have a2:∀ w,(Op.stringOp .add ⟨Z1.toArray⟩ ⟨#[43]⟩).run Tryz.prog w=.ok (.string ⟨Z2.toArray⟩) w:=add_l4 Z1 [43] Z2 e2 (by simp;omega)
  have a3:∀ w,(Op.stringOp .add ⟨Z2.toArray⟩ ⟨D.toArray⟩).run Tryz.prog w=.ok (.string ⟨Z3.toArray⟩) w:=add_l4 Z2 D Z3 e3 (by omega)
  have a4:∀ w,(Op.stringOp .add ⟨Z3.toArray⟩ ⟨#[93]⟩).run Tryz.prog w=.ok (.string ⟨P.toArray⟩) w:=add_l4 Z3 [93] P (by rw [hP,e3,e2,e1]) (by simp;omega)
  clear hPP hP e1 e2 e3 l1 l2 l3 hl hr h0 h1 f0 f1
  go_enter Tryz.func68,Tryz.ntmps68
  go_wp2_with (first | (go_at_call 67;refine (CR.out _).mono ?_;rintro e w1 ⟨rfl,ho⟩;have O1:=hidOf ho;clear ho) | (go_at_call 65;refine (CD.out _).mono ?_;rintro e w2 ⟨rfl,ho⟩;have O2:=hidOf ho;clear ho))
  go_ret
  exact ⟨rfl,Out.trans O1.out O2.out⟩
theorem refLetter_of {c:Int} {b:Bool} (h:letP c=b) (w:World):Calls Tryz.prog 69 #[.int .u8 c] w fun e w'=>e=.returned (.bool b)/\w=w':=by rw [<-h];exact refLetter_any c w
theorem refInner_of {c:Int} {b:Bool} (h:runP c=b) (w:World):Calls Tryz.prog 70 #[.int .u8 c] w fun e w'=>e=.returned (.bool b)/\w=w':=by rw [<-h];exact refInner_any c w
set_option maxRecDepth 8000 in
theorem name4_bytes (s:ByteArray) (w:World) (hs:s.size<=9223372036854775807):Calls Tryz.prog 38 #[.string s] w fun e w'=>e=.returned (.bool (nameP s.toList))/\w=w':=by
 have hl:=lsize s
 by_cases h0:s.size=0
 ·
  have hl:s.toList=[]:=List.length_eq_zero_iff.1 (by rw [lsize,h0])
  have hN:nameP s.toList=false:=by rw [hl];rfl
  rw [hN]
  go_enter Tryz.func38,Tryz.ntmps38
  go_wp2
  go_ret
  exact ⟨rfl,rfl⟩
 have h0':¬(s.size:Int)<1:=by omega
 have h0p:(0:Int)<s.size:=by omega
 by_cases h64:64<s.size
 ·
  have h64':(64:Int)<s.size:=by omega
  have hN:nameP s.toList=false:=by simp [nameP,hl,show ¬s.size<=64 by omega]
  rw [hN]
  clear hN
  go_enter Tryz.func38,Tryz.ntmps38
  go_wp2
  go_ret
  exact ⟨rfl,rfl⟩
 have h64':¬(64:Int)<s.size:=by omega
 obtain ⟨r,hr⟩:=head_of (s:=s) (by omega)
 have hnm:nameP s.toList=(letP (bI s[0]) && s.toList.all (fun b=>runP (bI b))):=by
  unfold nameP
  rw [decide_eq_true (by omega),hr]
  rfl
 rw [hnm]
 clear hnm hr
 cases h1:letP (bI s[0])
 ·
  go_enter Tryz.func38,Tryz.ntmps38
  go_wp2_with (go_at_call 69;refine (refLetter_of h1 _).mono ?_;rintro e w1 ⟨rfl,rfl⟩)
  go_ret
  exact ⟨rfl,rfl⟩
 ·
  rw [Bool.true_and]
  have HA0:Hid (s.toList.all (fun b=>runP (bI b))=(s.toList.drop 0).all (fun b=>runP (bI b))):=hidOf rfl
  generalize s.toList.all (fun b=>runP (bI b))=AL at *
  go_enter Tryz.func38,Tryz.ntmps38
  go_wp2_with (go_at_call 69;refine (refLetter_of h1 _).mono ?_;rintro e w1 ⟨rfl,rfl⟩)
  go_loopw [3] (fun kv wr=>∃ k:Nat,kv=.int .i64 k/\k<=s.size/\Hid (AL=(s.toList.drop k).all (fun b=>runP (bI b)))/\wr=w) (fun kv _=>s.size - (intOf kv).toNat)
  case atStart=>exact ⟨0,rfl,by omega,HA0,rfl⟩
  case round=>
   clear HA0 h1
   obtain ⟨k,rfl,hk,HA,rfl⟩:=hrel
   by_cases hlt:k<s.size
   ·
    have hltI:(k:Int)<s.size:=by omega
    have hk0:(0:Int)<=k:=by omega
    have Hd:Hid (AL=(runP (bI s[k]) && (s.toList.drop (k+1)).all (fun b=>runP (bI b)))):=hidOf (by
     have h2:=HA.out
     have hg:=lget s k hlt
     obtain ⟨g1,g2⟩:=List.getElem?_eq_some_iff.1 hg
     rw [List.drop_eq_getElem_cons g1,List.all_cons,g2] at h2
     exact h2)
    clear HA
    cases hR:runP (bI s[k])
    ·
     have hE:AL=false:=by rw [Hd.out,hR];rfl
     have HE:=hidOf hE
     clear Hd hE
     go_wp2_with (go_at_call 70;refine (refInner_of hR _).mono ?_;rintro e w1 ⟨rfl,rfl⟩)
     go_ret
     exact ⟨by rw [HE.out];rfl,rfl⟩
    ·
     have Hd':=hidOf (show AL=_ by rw [Hd.out,hR,Bool.true_and])
     clear Hd
     go_wp2_with (go_at_call 70;refine (refInner_of hR _).mono ?_;rintro e w1 ⟨rfl,rfl⟩)
     go_roundw
     case rel=>exact ⟨k+1,by simp,by omega,Hd',trivial⟩
     case measure=>simp [intOf];omega
   ·
    have hltI:¬(k:Int)<s.size:=by omega
    have hE:AL=true:=by
     rw [HA.out,List.drop_eq_nil_iff.2 (by rw [lsize];omega)];rfl
    have HE:=hidOf hE
    clear hE HA
    go_wp2
    go_ret
    exact ⟨by rw [HE.out];rfl,rfl⟩
theorem name4_any (l:List UInt8) (w:World) (hl:l.length<=9223372036854775807):Calls Tryz.prog 38 #[.string ⟨l.toArray⟩] w fun e w'=>e=.returned (.bool (nameP l))/\w=w':=by
 have h:=name4_bytes ⟨l.toArray⟩ w (by show l.length<=_;exact hl)
 have e:(⟨l.toArray⟩:ByteArray).toList=l:=by rw [ByteArray.toList_eq]
 rw [e] at h
 exact h
def placeR (k:Int) (f:Int):List UInt8:=placeTx k.toNat f
def lineR (r:Rw) (o d s f i:Int) (t:List UInt8):List UInt8:=
 if r.sh=1\/r.sh=11 then r.w++32::(regL d.toNat++44::32::(if twoR r && o != r.op then regL s.toNat else Lib.itoa i))
 else if r.sh=2 then r.w++32::(regL d.toNat++44::32::regL s.toNat) else if r.sh=3 then r.w++32::regL d.toNat
 else if r.sh=4 then r.w++32::(regL d.toNat++44::32::placeR s f) else if r.sh=5 then r.w++32::(placeR d f++44::32::(if twoR r && o != r.op then regL s.toNat else Lib.itoa i))
 else if r.sh=6 then r.w++32::(placeR d f++44::32::regL s.toNat) else if r.sh=7 then r.w++32::t
 else if r.sh=8 then r.w++32::(regL d.toNat++44::32::((if twoR r && o != r.op then regL s.toNat else Lib.itoa i)++44::32::t))
 else if r.sh=9 then r.w++32::(if (tgtR o s f i).1 then t else (if twoR r && o != r.op then regL s.toNat else Lib.itoa i)) else if r.sh=12 then r.w++32::(regL d.toNat++44::32::t) else r.w
def rprintP (o d s f i:Int) (t:List UInt8):List UInt8 × Int:=
 match findR o d s f i with
 | none=>([],if (pickO o).isEmpty then 20 else 21)
 | some r=>if (tgtR o s f i).1 && (!nameP t || (tgtR o s f i).2 != 0) || !(tgtR o s f i).1 && !t.isEmpty then ([],41) else (lineR r o d s f i t,0)
def bOp (o:Int):Int:=if hasSrc o then o - 8 else o
def offsO (op:Int):List Int:=if bits .and .i64 op 240 == 48 then [1] else if bits .and .i64 op 240 == 144 then [1] else if bits .and .i64 op 240 == 176 && hasSrc op then (if op == 191 then [8,16,32] else [8,16]) else []
def expO (o:Int):List Rw:=
 if formP o == 3 then ⟨wReck o 0 0,1,bOp o,0,0⟩::(offsO o).map (fun x=>⟨wOff o x,if x == 1 then 1 else 2,if x == 1 then bOp o else o,x,0⟩)
 else if formP o == 2 then (if ordersP o then [16,32,64].map (fun x=>⟨wImm o x,3,o,0,x⟩) else [⟨wReck o 0 0,3,o,0,0⟩])
 else if formP o == 4 then [⟨wMem o 0,4,o,0,0⟩] else if formP o == 5 then [⟨wMem o 0,if useS o 5 then 6 else 5,o,0,0⟩]
 else if formP o == 6 then immsT.map (fun x=>⟨wImm o x,6,o,0,x⟩) else if formP o == 8 then [⟨pick2 jumpT (shrO o) (cls o == 6),8,bOp o,0,0⟩]
 else if formP o == 10 then [⟨[108,100,100,119],11,24,0,0⟩,⟨[108,100,109,97,112],12,24,0,0⟩]
 else [⟨pick2 jumpT (shrO o) (cls o == 6),if formP o == 7 then 7 else if formP o == 9 then 9 else 10,o,0,0⟩]
theorem form_mem4 (op:Int) (h:¬formP op=0):∃ l ∈ opsT,op ∈ l:=by
 apply Classical.byContradiction
 intro hn
 exact h (formIn_none op opsT 0 (fun x hx hop=>hn ⟨x,hx,hop⟩))
theorem pick_kinds:∀ l ∈ opsT,∀ o ∈ l,pickO o=expO o:=by decide +kernel
theorem pick_in:∀ n:Nat,n<256->(formP (n:Int)=0)->pickO (n:Int)=[]:=by decide +kernel
theorem op_bd:∀ r ∈ rowsAll,0<=r.op/\r.op+8<256:=by decide +kernel
theorem pick_none (o:Int) (h:formP o=0):pickO o=[]:=by
 by_cases h0:0<=o/\o<256
 ·
  have:=pick_in o.toNat (by omega)
  rw [show ((o.toNat:Nat):Int)=o by omega] at this
  exact this h
 ·
  unfold pickO
  rw [List.filter_eq_nil_iff]
  intro r hr
  have:=op_bd r hr
  simp only [opR,twoR,Bool.or_eq_true,Bool.and_eq_true,beq_iff_eq]
  omega
end Go.Proofs.YtadneimllbfdnaaGreatDoor
