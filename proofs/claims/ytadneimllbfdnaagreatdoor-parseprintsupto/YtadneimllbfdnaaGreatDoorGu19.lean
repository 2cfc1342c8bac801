import Derived.Test.YtadneimllbfdnaaGreatDoorGu18
import Derived.Test.YtadneimllbfdnaaGreatDoorGu06
namespace Go.Proofs.YtadneimllbfdnaaGreatDoor
open Go.RowKit
set_option linter.unusedVariables false
set_option linter.unusedSimpArgs false
theorem variant_in {o f:Int} (h:variantP o f=true):f ∈ ([0,1,8,16,32]:List Int):=by
 unfold variantP at h
 repeat' split at h
 all_goals simp at h
 all_goals simp
 all_goals omega
theorem mean_mem (k:List UInt8) (m:Mn) (h:meanOf k=some m):∃ x ∈ mnAll,¬x.1=[]/\x.2=m:=by
 unfold meanOf at h
 split at h
 · cases h
 ·
  rename_i hk
  unfold lastAt at h
  rw [Option.map_eq_some_iff] at h
  obtain ⟨x,hx,rfl⟩:=h
  have h1:=List.mem_of_find?_eq_some hx
  have h2:=List.find?_some hx
  simp only [beq_iff_eq] at h2
  exact ⟨x,by simpa using h1,by rw [h2];exact hk,rfl⟩
theorem mean_f:∀ x ∈ mnAll,¬x.1=[]->1<=formP x.2.1/\formP x.2.1<=10:=by decide +kernel
structure Stm where
 k:Int
 nm:List UInt8
 ws:List (List UInt8)
 ns:List Int
 o:Int
 d:Int
 s:Int
 f:Int
 i:Int
 tg:List UInt8
 l:Int
inductive RE (α:Type) where
 | ok (a:α) (ts:List Lx.Tk)
 | no (c:Int) (ts:List Lx.Tk)
def RE.bind {α β:Type} (x:RE α) (f:α->List Lx.Tk->RE β):RE β:=
 match x with
 | .ok a ts=>f a ts
 | .no c ts=>.no c ts
def tkQ (k:Int):List Lx.Tk->RE Lx.Tk
 | []=>.no 60 []
 | t::r=>if t.k=k then .ok t r else .no 60 (t::r)
def wdQ (ts:List Lx.Tk):RE (List UInt8):=(tkQ 1 ts).bind fun t r=>.ok t.t r
def arrB:List UInt8:=[97,114,114,97,121]
def hashB:List UInt8:=[104,97,115,104]
def tknQ (x:List UInt8):Bool:=x == arrB || x == hashB
def tdQ (ts:List Lx.Tk):RE (List UInt8):=(wdQ ts).bind fun x r=>if tknQ x then .ok x r else .no 60 r
def nuQ (ts:List Lx.Tk):RE Int:=(tkQ 3 ts).bind fun t r=>if t.n<=2147483647 then .ok t.n r else .no 60 r
def nmS (k:Int) (x:List UInt8):Stm:=⟨k,x,[],[],0,0,0,0,0,[],0⟩
def nmQ (k:Int) (ts:List Lx.Tk):RE Stm:=(wdQ ts).bind fun x r=>.ok (nmS k x) r
def nuR:Nat->List Int->List Lx.Tk->RE (List Int)
 | 0,l,ts=>.ok l ts
 | n+1,l,ts=>(nuQ ts).bind fun a r=>nuR n (l++[a]) r
def tbS (x y:List UInt8) (l:List Int):Stm:=⟨5,x,[y],l,0,0,0,0,0,[],0⟩
def tbQ (ts:List Lx.Tk):RE Stm:=(wdQ ts).bind fun x r=>(tdQ r).bind fun y r=>(nuR 3 [] r).bind fun l r=>.ok (tbS x y l) r
def ttQ (t:Lx.Tk):List UInt8:=if t.k=3 then Lib.decDigits t.n.toNat else t.t
def ixQ:List UInt8->List Lx.Tk->List UInt8 × List Lx.Tk
 | acc,[]=>(acc,[])
 | acc,t::r=>if t.k=5 then (acc,t::r) else ixQ ((if acc.isEmpty then acc else acc++[32])++ttQ t) r
def funcB:List UInt8:=[46,102,117,110,99]
def globB:List UInt8:=[46,103,108,111,98,97,108]
def extB:List UInt8:=[46,101,120,116,101,114,110]
def mapB:List UInt8:=[46,109,97,112]
def restQ (x:List UInt8) (ts:List Lx.Tk):RE Stm:=
 if x=funcB then nmQ 2 ts else if x=globB then nmQ 3 ts else if x=extB then nmQ 4 ts else if x=mapB then tbQ ts else .no 60 ts
def kindQ (ts:List Lx.Tk):Int:=match ts with | []=>0 | t::_=>t.k
def lineQ (ts:List Lx.Tk):Int:=match ts with | []=>0 | t::_=>t.l
def dirQ (ts:List Lx.Tk):RE Stm:=(tkQ 2 ts).bind fun t r=>(restQ t.t r).bind fun s r=>if kindQ r=5 then .ok s r else .no 61 r
def colQ (t:Lx.Tk):Bool:=t.k == 4 && t.t == [58]
def lbQ:List Stm->List Lx.Tk->List Stm × List Lx.Tk
 | out,t::u::r=>if t.k=1/\colQ u=true then lbQ (out++[{ nmS 1 t.t with l:=u.l }]) r else (out,t::u::r)
 | out,ts=>(out,ts)
def Lw:List Lx.Tk->Prop
 | []=>False
 | t::r=>if t.k=5 then (match r with | []=>False | u::r'=>if u.k=0 then r'=[] else Lw r) else ¬t.k=0/\Lw r
def Tw (ts:List Lx.Tk):Prop:=match ts with | []=>False | u::r=>if u.k=0 then r=[] else Lw (u::r)
theorem Lw.next {t:Lx.Tk} {r:List Lx.Tk} (h:Lw (t::r)) (hk:¬t.k=5):Lw r:=by
 unfold Lw at h
 rw [if_neg hk] at h
 exact h.2
theorem Lw.pass {t:Lx.Tk} {r:List Lx.Tk} (h:Lw (t::r)) (hk:t.k=5):Tw r:=by
 unfold Lw at h
 rw [if_pos hk] at h
 unfold Tw
 cases r with
 | nil=>exact h
 | cons u r'=>exact h
theorem Lw.ne {ts:List Lx.Tk} (h:Lw ts):∃ t r,ts=t::r:=by
 cases ts with
 | nil=>exact h.elim
 | cons t r=>exact ⟨t,r,rfl⟩
theorem Tw.ne {ts:List Lx.Tk} (h:Tw ts):∃ t r,ts=t::r:=by
 cases ts with
 | nil=>exact h.elim
 | cons t r=>exact ⟨t,r,rfl⟩
theorem Tw.lw {ts:List Lx.Tk} (h:Tw ts) (hk:¬kindQ ts=0):Lw ts:=by
 cases ts with
 | nil=>exact h.elim
 | cons t r=>
  have h':if t.k=0 then r=[] else Lw (t::r):=h
  rw [if_neg (show ¬t.k=0 from hk)] at h'
  exact h'
def RE.lw {α:Type} : RE α->Prop
 | .ok _ ts=>Lw ts
 | .no _ ts=>Lw ts
theorem RE.lw_bind {α β:Type} {x:RE α} {f:α->List Lx.Tk->RE β} (h:x.lw) (hf:∀ a r,Lw r->(f a r).lw):(x.bind f).lw:=by
 cases x with
 | ok a r=>exact hf a r h
 | no c r=>exact h
theorem tkQ_lw {k:Int} {ts:List Lx.Tk} (h:Lw ts) (hk:¬k=5):(tkQ k ts).lw:=by
 obtain ⟨t,r,rfl⟩:=h.ne
 show (if t.k=k then RE.ok t r else RE.no 60 (t::r)).lw
 by_cases e:t.k=k
 · rw [if_pos e];exact h.next (by rw [e];exact hk)
 · rw [if_neg e];exact h
theorem wdQ_lw {ts:List Lx.Tk} (h:Lw ts):(wdQ ts).lw:=RE.lw_bind (tkQ_lw h (by decide)) (fun _ _ h=>h)
theorem tdQ_lw {ts:List Lx.Tk} (h:Lw ts):(tdQ ts).lw:=RE.lw_bind (wdQ_lw h) (fun x r h=>by
 cases hx:tknQ x
 · rw [if_neg (by simp)];exact h
 · rw [if_pos rfl];exact h)
theorem nuQ_lw {ts:List Lx.Tk} (h:Lw ts):(nuQ ts).lw:=RE.lw_bind (tkQ_lw h (by decide)) (fun t r h=>by
 by_cases hx:t.n<=2147483647
 · rw [if_pos hx];exact h
 · rw [if_neg hx];exact h)
theorem nmQ_lw {k:Int} {ts:List Lx.Tk} (h:Lw ts):(nmQ k ts).lw:=RE.lw_bind (wdQ_lw h) (fun _ _ h=>h)
theorem nuR_lw:∀ (n:Nat) (l:List Int) (ts:List Lx.Tk),Lw ts->(nuR n l ts).lw
 | 0,l,ts,h=>h
 | n+1,l,ts,h=>RE.lw_bind (nuQ_lw h) (fun a r h=>nuR_lw n _ r h)
theorem tbQ_lw {ts:List Lx.Tk} (h:Lw ts):(tbQ ts).lw:=RE.lw_bind (wdQ_lw h) (fun _ _ h=>RE.lw_bind (tdQ_lw h) (fun _ _ h=>RE.lw_bind (nuR_lw 3 [] _ h) (fun _ _ h=>h)))
theorem ixQ_lw:∀ (acc:List UInt8) (ts:List Lx.Tk),Lw ts->Lw (ixQ acc ts).2/\kindQ (ixQ acc ts).2=5
 | acc,[],h=>h.elim
 | acc,t::r,h=>by
  unfold ixQ
  by_cases e:t.k=5
  · rw [if_pos e];exact ⟨h,e⟩
  · rw [if_neg e];exact ixQ_lw _ r (h.next e)
theorem restQ_lw {x:List UInt8} {ts:List Lx.Tk} (h:Lw ts):(restQ x ts).lw:=by
 unfold restQ
 by_cases h1:x=funcB
 · rw [if_pos h1];exact nmQ_lw h
 rw [if_neg h1]
 by_cases h2:x=globB
 · rw [if_pos h2];exact nmQ_lw h
 rw [if_neg h2]
 by_cases h3:x=extB
 · rw [if_pos h3];exact nmQ_lw h
 rw [if_neg h3]
 by_cases h4:x=mapB
 · rw [if_pos h4];exact tbQ_lw h
 rw [if_neg h4]
 exact h
theorem dirQ_lw {ts:List Lx.Tk} (h:Lw ts):(dirQ ts).lw:=RE.lw_bind (tkQ_lw h (by decide)) (fun t r h=>RE.lw_bind (restQ_lw h) (fun s r h=>by
 by_cases e:kindQ r=5
 · rw [if_pos e];exact h
 · rw [if_neg e];exact h))
theorem col_kind {u:Lx.Tk} (h:colQ u=true):u.k=4:=by
 unfold colQ at h
 simp at h
 exact h.1
theorem lbQ_lw:∀ (n:Nat) (out:List Stm) (ts:List Lx.Tk),ts.length<=n->Lw ts->Lw (lbQ out ts).2
 | _,out,[],_,h=>h.elim
 | _,out,[t],_,h=>by unfold lbQ;exact h
 | 0,out,t::u::r,hn,h=>by simp at hn
 | n+1,out,t::u::r,hn,h=>by
  unfold lbQ
  by_cases e:t.k=1/\colQ u=true
  ·
   rw [if_pos e]
   have h1:=h.next (by rw [e.1];decide)
   have h2:=h1.next (by rw [col_kind e.2];decide)
   exact lbQ_lw n _ r (by simp at hn;omega) h2
  · rw [if_neg e];exact h
def RE.rest {α:Type} : RE α->List Lx.Tk
 | .ok _ ts=>ts
 | .no _ ts=>ts
def Clo (P:List Lx.Tk->Prop):Prop:=∀ t r,P (t::r)->P r
theorem rest_bind {α β:Type} {P:List Lx.Tk->Prop} {x:RE α} {f:α->List Lx.Tk->RE β} (h:P x.rest) (hf:∀ a r,P r->P (f a r).rest):P (x.bind f).rest:=by
 cases x with
 | ok a r=>exact hf a r h
 | no c r=>exact h
theorem tkQ_cl {P:List Lx.Tk->Prop} (hP:Clo P) {k:Int} {ts:List Lx.Tk} (h:P ts):P (tkQ k ts).rest:=by
 cases ts with
 | nil=>exact h
 | cons t r=>
  show P (if t.k=k then RE.ok t r else RE.no 60 (t::r)).rest
  by_cases e:t.k=k
  · rw [if_pos e];exact hP t r h
  · rw [if_neg e];exact h
theorem wdQ_cl {P:List Lx.Tk->Prop} (hP:Clo P) {ts:List Lx.Tk} (h:P ts):P (wdQ ts).rest:=rest_bind (tkQ_cl hP h) (fun _ _ h=>h)
theorem tdQ_cl {P:List Lx.Tk->Prop} (hP:Clo P) {ts:List Lx.Tk} (h:P ts):P (tdQ ts).rest:=rest_bind (wdQ_cl hP h) (fun x r h=>by
 cases hx:tknQ x
 · rw [if_neg (by simp)];exact h
 · rw [if_pos rfl];exact h)
theorem nuQ_cl {P:List Lx.Tk->Prop} (hP:Clo P) {ts:List Lx.Tk} (h:P ts):P (nuQ ts).rest:=rest_bind (tkQ_cl hP h) (fun t r h=>by
 by_cases hx:t.n<=2147483647
 · rw [if_pos hx];exact h
 · rw [if_neg hx];exact h)
theorem nuR_cl {P:List Lx.Tk->Prop} (hP:Clo P):∀ (n:Nat) (l:List Int) (ts:List Lx.Tk),P ts->P (nuR n l ts).rest
 | 0,l,ts,h=>h
 | n+1,l,ts,h=>rest_bind (nuQ_cl hP h) (fun a r h=>nuR_cl hP n _ r h)
theorem tbQ_cl {P:List Lx.Tk->Prop} (hP:Clo P) {ts:List Lx.Tk} (h:P ts):P (tbQ ts).rest:=rest_bind (wdQ_cl hP h) (fun _ _ h=>rest_bind (tdQ_cl hP h) (fun _ _ h=>rest_bind (nuR_cl hP 3 [] _ h) (fun _ _ h=>h)))
theorem ixQ_cl {P:List Lx.Tk->Prop} (hP:Clo P):∀ (acc:List UInt8) (ts:List Lx.Tk),P ts->P (ixQ acc ts).2
 | acc,[],h=>h
 | acc,t::r,h=>by
  unfold ixQ
  by_cases e:t.k=5
  · rw [if_pos e];exact h
  · rw [if_neg e];exact ixQ_cl hP _ r (hP t r h)
theorem restQ_cl {P:List Lx.Tk->Prop} (hP:Clo P) {x:List UInt8} {ts:List Lx.Tk} (h:P ts):P (restQ x ts).rest:=by
 unfold restQ
 by_cases h1:x=funcB
 · rw [if_pos h1];exact rest_bind (wdQ_cl hP h) (fun _ _ h=>h)
 rw [if_neg h1]
 by_cases h2:x=globB
 · rw [if_pos h2];exact rest_bind (wdQ_cl hP h) (fun _ _ h=>h)
 rw [if_neg h2]
 by_cases h3:x=extB
 · rw [if_pos h3];exact rest_bind (wdQ_cl hP h) (fun _ _ h=>h)
 rw [if_neg h3]
 by_cases h4:x=mapB
 · rw [if_pos h4];exact tbQ_cl hP h
 rw [if_neg h4]
 exact h
theorem dirQ_cl {P:List Lx.Tk->Prop} (hP:Clo P) {ts:List Lx.Tk} (h:P ts):P (dirQ ts).rest:=rest_bind (tkQ_cl hP h) (fun t r h=>rest_bind (restQ_cl hP h) (fun s r h=>by
 by_cases e:kindQ r=5
 · rw [if_pos e];exact h
 · rw [if_neg e];exact h))
theorem lbQ_cl {P:List Lx.Tk->Prop} (hP:Clo P):∀ (n:Nat) (out:List Stm) (ts:List Lx.Tk),ts.length<=n->P ts->P (lbQ out ts).2
 | _,out,[],_,h=>h
 | _,out,[t],_,h=>by unfold lbQ;exact h
 | 0,out,t::u::r,hn,h=>by simp at hn
 | n+1,out,t::u::r,hn,h=>by
  unfold lbQ
  by_cases e:t.k=1/\colQ u=true
  ·
   rw [if_pos e]
   exact lbQ_cl hP n _ r (by simp at hn;omega) (hP _ _ (hP _ _ h))
  · rw [if_neg e];exact h
def TkOk (ts:List Lx.Tk):Prop:=∀ x ∈ ts,0<=x.n/\x.n<18446744073709551616/\x.t.length<=70
theorem tkOk_clo:Clo TkOk:=fun t r h x hx=>h x (List.mem_cons_of_mem _ hx)
def inQ (ts:List Lx.Tk):RE Stm:=
 if (parseP (ixQ [] ts).1).e=0 then .ok ⟨6,[],[],[],(parseP (ixQ [] ts).1).o,(parseP (ixQ [] ts).1).d,(parseP (ixQ [] ts).1).s,(parseP (ixQ [] ts).1).f,(parseP (ixQ [] ts).1).i,(parseP (ixQ [] ts).1).tgt,0⟩ (ixQ [] ts).2
 else .no (if (parseP (ixQ [] ts).1).e=40 then 60 else (parseP (ixQ [] ts).1).e) (ixQ [] ts).2
def stQ (out:List Stm) (ts:List Lx.Tk):RE (List Stm):=
 if kindQ ts=5 then .ok out ts
 else (if kindQ ts=1 then inQ ts else dirQ ts).bind fun s r=>.ok (out++[{ s with l:=lineQ r }]) r
def lnQ (out:List Stm) (ts:List Lx.Tk):RE (List Stm):=(stQ (lbQ out ts).1 (lbQ out ts).2).bind fun o r=>(tkQ 5 r).bind fun _ r=>.ok o r
def rdF:Nat->List Stm->List Lx.Tk->RE (List Stm)
 | 0,out,ts=>.ok out ts
 | n+1,out,ts=>if kindQ ts=0 then .ok out ts else (lnQ out ts).bind fun o r=>rdF n o r
def readQ (ts:List Lx.Tk):List Stm × Int × Int:=
 match rdF ts.length [] ts with
 | .ok out _=>(out,0,0)
 | .no c r=>([],lineQ r,c)
theorem inQ_lw {ts:List Lx.Tk} (h:Lw ts):(inQ ts).lw:=by
 unfold inQ
 by_cases e:(parseP (ixQ [] ts).1).e=0
 · rw [if_pos e];exact (ixQ_lw [] ts h).1
 · rw [if_neg e];exact (ixQ_lw [] ts h).1
theorem stQ_lw {out:List Stm} {ts:List Lx.Tk} (h:Lw ts):(stQ out ts).lw:=by
 unfold stQ
 by_cases e:kindQ ts=5
 · rw [if_pos e];exact h
 rw [if_neg e]
 refine RE.lw_bind ?_ (fun _ _ h=>h)
 by_cases e1:kindQ ts=1
 · rw [if_pos e1];exact inQ_lw h
 · rw [if_neg e1];exact dirQ_lw h
end Go.Proofs.YtadneimllbfdnaaGreatDoor
namespace Go.Proofs.YtadneimllbfdnaaGreatDoor.Lx
open Go.RowKit
set_option linter.unusedVariables false
set_option linter.unusedSimpArgs false
theorem cap16_16:∀ k,k<=16->cap16 k<=18446744073709551616:=by decide
theorem hexV_rng (l:List UInt8):∀ a:Int,0<=a->l.all hexU=true->0<=hexV a l/\hexV a l+1<=(a+1)*cap16 l.length:=by
 induction l with
 | nil=>intro a h0 _;exact ⟨h0,by simp [hexV,cap16]⟩
 | cons b l ih=>
  intro a h0 h
  rw [List.all_cons,Bool.and_eq_true] at h
  have hr:0<=hexD (bI b)/\hexD (bI b)<=15:=hexD_rng ⟨b.toNat,b.toNat_lt⟩ h.1
  have:=ih (a*16+hexD (bI b)) (by omega) h.2
  refine ⟨this.1,Int.le_trans this.2 ?_⟩
  have hc:0<=cap16 l.length:=Int.pow_nonneg (by decide)
  rw [List.length_cons,cap16_succ,show (a+1)*(cap16 l.length*16)=((a+1)*16)*cap16 l.length from by rw [Int.mul_comm (cap16 l.length) 16,Int.mul_assoc]]
  exact Int.mul_le_mul_of_nonneg_right (by omega) hc
theorem val_rng (l:List UInt8):0<=(valP l).1/\(valP l).1<18446744073709551616:=by
 unfold valP
 split
 ·
  split
  ·
   rename_i h
   have h1:=hexV_rng (l.drop 2) 0 (by omega) h.2.2
   have h2:=cap16_16 (l.drop 2).length (by rw [List.length_drop];omega)
   simp only at h1 ⊢
   omega
  · simp
 ·
  split
  · simp
  ·
   split
   · rename_i h;simp only;omega
   · simp
theorem take_run (l:List UInt8):l.take (runN l)=l.takeWhile runU:=by
 unfold runN
 induction l with
 | nil=>rfl
 | cons c l ih=>
  rw [List.takeWhile_cons]
  split
  · rw [List.length_cons,List.take_succ_cons,ih]
  · rfl
theorem tw_allr (l:List UInt8):(l.takeWhile runU).all runU=true:=by
 induction l with
 | nil=>rfl
 | cons c l ih=>
  rw [List.takeWhile_cons]
  split
  · rename_i h;rw [List.all_cons,h,ih];rfl
  · rfl
theorem kind_dot:∀ n:Fin 256,kindP (n.val:Int)=5->n.val=46:=by decide +kernel
theorem kind_run {c:UInt8} (h:kindP (bI c)=3\/kindP (bI c)=4\/kindP (bI c)=5):runU c=true:=by
 unfold runU;rw [runP_kind];rcases h with h | h | h <;> simp [h]
theorem piece_may (c:UInt8) (r:List UInt8) (q:Int × List UInt8 × Int) (n:Nat) (h0:(pieceP (c::r)).1=0) (h:(pieceP (c::r)).2.1=some q):mayP (mkT n q)=0/\0<=q.2.2/\q.2.2<18446744073709551616/\q.2.1.length<=140737488355328:=by
 rw [piece_cons] at h h0
 by_cases k1:kindP (bI c)=1
 · rw [if_pos k1] at h;simp at h
 rw [if_neg k1] at h h0
 by_cases k2:kindP (bI c)=2
 · rw [if_pos k2] at h;simp at h
 rw [if_neg k2] at h h0
 by_cases k3:kindP (bI c)=3
 ·
  rw [if_pos k3] at h h0
  simp only [Option.some.injEq] at h
  subst h
  have hl:runN (c::r)<=64:=by
   by_cases e:runN (c::r)<=64
   · exact e
   · rw [if_neg e] at h0;simp at h0
  have hc:=kind_run (c:=c) (.inl k3)
  have hlen:((c::r).take (runN (c::r))).length<=64:=by rw [List.length_take];omega
  have hw:wordP ((c::r).take (runN (c::r)))=true:=by
   unfold wordP
   rw [decide_eq_true hlen,take_run,tw_allr]
   simp [List.takeWhile_cons,hc,startP,k3]
  refine ⟨?_,by simp,by simp,by simp only;omega⟩
  simp [mayP,mkT,hw]
 rw [if_neg k3] at h h0
 by_cases k5:kindP (bI c)=5
 ·
  rw [if_pos k5] at h h0
  simp only [Option.some.injEq] at h
  subst h
  have hst:startP r=true:=by
   by_cases e:startP r=true
   · exact e
   · rw [if_neg e] at h0;simp at h0
  rw [if_pos hst] at h0
  have hl:runN (c::r)<=65:=by
   by_cases e:runN (c::r)<=65
   · exact e
   · rw [if_neg e] at h0;simp at h0
  have hc:=kind_run (c:=c) (.inr (.inr k5))
  have hc46:c=46:=UInt8.toNat_inj.1 (kind_dot ⟨c.toNat,c.toNat_lt⟩ k5)
  have ht:(c::r).take (runN (c::r))=46::r.takeWhile runU:=by rw [take_run,List.takeWhile_cons,hc,hc46];rfl
  have hlen:(46::r.takeWhile runU).length<=65:=by rw [<-ht,List.length_take];omega
  rw [ht]
  have hp:Lib.hasPrefix (46::r.takeWhile runU) [46]=true:=by simp [Lib.hasPrefix,List.isPrefixOf]
  have htr:Lib.trimPrefix (46::r.takeWhile runU) [46]=r.takeWhile runU:=by unfold Lib.trimPrefix;rw [if_pos hp];rfl
  have hw:wordP (r.takeWhile runU)=true:=by
   cases r with
   | nil=>simp [startP] at hst
   | cons d r'=>
    have hk:kindP (bI d)=3:=by simpa [startP] using hst
    have hd:=kind_run (c:=d) (.inl hk)
    simp only [List.length_cons] at hlen
    have hl2:((d::r').takeWhile runU).length<=64:=by omega
    unfold wordP
    rw [decide_eq_true hl2,tw_allr]
    simp [List.takeWhile_cons,hd,startP,hk]
  have hdot:dotP (46::r.takeWhile runU)=true:=by unfold dotP;rw [hp,htr,hw];rfl
  refine ⟨?_,by simp,by simp,by simp only;omega⟩
  simp [mayP,mkT,hdot]
 rw [if_neg k5] at h h0
 by_cases k4:kindP (bI c)=4
 ·
  rw [if_pos k4] at h
  simp only [Option.some.injEq] at h
  subst h
  have:=val_rng ((c::r).take (runN (c::r)))
  refine ⟨?_,this.1,this.2,by simp⟩
  simp [mayP,mkT]
 rw [if_neg k4] at h h0
 by_cases k7:kindP (bI c)=7
 ·
  rw [if_pos k7] at h
  simp only [Option.some.injEq] at h
  subst h
  refine ⟨?_,by simp,by simp,by simp⟩
  simp [mayP,mkT,markB,k7]
 rw [if_neg k7] at h;simp at h
theorem scan_may:∀ (f:Nat) (l:List UInt8) (q:Int × List UInt8 × Int) (n:Nat),q ∈ (scanF f l).2->mayP (mkT n q)=0/\0<=q.2.2/\q.2.2<18446744073709551616/\q.2.1.length<=140737488355328
 | 0,_,q,n,h=>by simp [scanF] at h
 | _+1,[],q,n,h=>by simp [scanF] at h
 | f+1,c::r,q,n,h=>by
  unfold scanF at h
  split at h
  ·
   rename_i h0
   simp only [List.mem_append,Option.mem_toList] at h
   rcases h with h | h
   · exact piece_may c r q n h0 h
   · exact scan_may f _ q n h
  · simp at h
theorem line_may (l:List UInt8) (q:Int × List UInt8 × Int) (n:Nat) (h:q ∈ (lineP l).2):mayP (mkT n q)=0/\0<=q.2.2/\q.2.2<18446744073709551616/\q.2.1.length<=140737488355328:=by
 unfold lineP at h
 split at h
 · exact scan_may _ _ _ n h
 · simp at h
def Good:Bool->List Tk->Prop
 | _,[]=>True
 | ok,x::r=>mayP x=0/\(x.k=0->r=[]/\ok=true)/\Good (decide (x.k=5)) r
theorem good_un:∀ (ts:List Tk) (ok:Bool) (s:WS),Good ok ts->(unF ok s ts).1=0\/(unF ok s ts).1=51
 | [],ok,s,_=>.inl rfl
 | x::r,ok,s,h=>by
  obtain ⟨h1,h2,h3⟩:=h
  have e:unF ok s (x::r)=(if mayP x=0 then (if x.k=0/\¬(r=[]/\ok=true) then (52,s) else if x.k=5/\1024<s.line then (51,s) else unF (decide (x.k=5)) (s.tok x) r) else (mayP x,s)):=rfl
  rw [e,if_pos h1,if_neg (fun h=>h.2 (h2 h.1))]
  split
  · exact .inr rfl
  · exact good_un r _ _ h3
theorem good_raws (ln:Nat) (R:List Tk):∀ (X:List (Int × List UInt8 × Int)) (ok:Bool),(∀ q ∈ X,mayP (mkT ln q)=0)->(∀ q ∈ X,q.1=1\/q.1=2\/q.1=3\/q.1=4)->(∀ b,Good b R)->Good ok (X.map (mkT ln)++R)
 | [],ok,_,_,hR=>hR ok
 | q::X,ok,h,hk,hR=>by
  have hq:=hk q (by simp)
  refine ⟨h q (by simp),fun e=>?_,good_raws ln R X _ (fun q hq=>h q (by simp [hq])) (fun q hq=>hk q (by simp [hq])) hR⟩
  have e':q.1=0:=e
  omega
theorem good_text:∀ (f n:Nat) (l:List UInt8) (m:Nat) (T:List Tk),l.length<=f->textF f n l=(0,m,T)->Good true (T++[⟨0,[],0,(m:Int)⟩])/\NumsOk T
 | 0,n,l,m,T,hl,h=>by
  simp [textF] at h
  obtain ⟨rfl,rfl⟩:=h
  exact ⟨⟨rfl,fun _=>⟨rfl,rfl⟩,trivial⟩,fun x hx=>by cases hx⟩
 | f+1,n,[],m,T,hl,h=>by
  simp [textF] at h
  obtain ⟨rfl,rfl⟩:=h
  exact ⟨⟨rfl,fun _=>⟨rfl,rfl⟩,trivial⟩,fun x hx=>by cases hx⟩
 | f+1,n,c::r,m,T,hl,h=>by
  unfold textF at h
  by_cases hz:(lineP (cutL (c::r)).1).1=0
  ·
   rw [if_pos hz] at h
   simp only [Prod.mk.injEq] at h
   obtain ⟨h1,h2,h3⟩:=h
   have hc:=(cutL_len (c::r) (by simp)).2
   simp only [List.length_cons] at hl hc
   have ih:=good_text f (n+1) (cutL (c::r)).2 m (textF f (n+1) (cutL (c::r)).2).2.2 (by omega) (by rw [<-h1, <-h2])
   rw [<-h3]
   constructor
   ·
    rw [List.map_append,List.append_assoc,List.append_assoc]
    refine good_raws _ _ _ _ (fun q hq=>(line_may _ q _ hq).1) (line_kind _) (fun b=>And.intro rfl (And.intro (fun e=>absurd (show (5:Int)=0 from e) (by decide)) ih.1))
   ·
    intro x hx
    rw [List.mem_append,List.mem_map] at hx
    rcases hx with ⟨q,hq,rfl⟩ | hx
    ·
     rw [List.mem_append] at hq
     rcases hq with hq | hq
     · exact (line_may _ q (n+1) hq).2
     · simp at hq;subst hq;simp [mkT]
    · exact ih.2 x hx
  ·
   rw [if_neg hz] at h
   simp only [Prod.mk.injEq] at h
   exact absurd h.1 hz
theorem forth_P (l:List UInt8) (h:(tokensP l).2.2=0):(tokensP l).2.1=0/\NumsOk (tokensP l).1/\((untokP (tokensP l).1).2=0\/(untokP (tokensP l).1).2=51\/(untokP (tokensP l).1).2=50):=by
 unfold tokensP at h ⊢
 by_cases hl:l.length<=16777216
 ·
  rw [if_pos hl] at h ⊢
  by_cases h0:(textD 0 l).1=0
  ·
   rw [if_pos h0] at h ⊢
   simp only
   obtain ⟨g1,g2⟩:=good_text l.length 0 l _ _ (Nat.le_refl _) (show textF l.length 0 l=(0,(textD 0 l).2.1,(textD 0 l).2.2) by rw [<-h0];rfl)
   refine ⟨trivial,fun x hx=>?_, ?_⟩
   ·
    rw [List.mem_append] at hx
    rcases hx with hx | hx
    · exact g2 x hx
    · simp at hx;subst hx;simp
   ·
    have hu:=good_un _ true ⟨[],0,0⟩ g1
    have hlast:lastK ((textD 0 l).2.2++[⟨0,[],0,((textD 0 l).2.1:Int)⟩])=some 0:=by simp [lastK]
    unfold untokP
    rcases hu with hu | hu
    ·
     rw [if_pos hu,if_pos hlast]
     split
     · exact .inl rfl
     · exact .inr (.inr rfl)
    ·
     rw [if_neg (by rw [hu];decide)]
     exact .inr (.inl hu)
  · rw [if_neg h0] at h;exact absurd h h0
 · rw [if_neg hl] at h;simp at h
theorem text_mem:∀ (f n:Nat) (l:List UInt8) (m:Nat) (T:List Tk),l.length<=f->textF f n l=(0,m,T)->(∀ x ∈ T,mayP x=0/\(isPiece x\/x.k=5))/\(T=[]\/lastK T=some 5)
 | 0,n,l,m,T,hl,h=>by
  simp [textF] at h
  obtain ⟨rfl,rfl⟩:=h
  exact ⟨fun x hx=>absurd hx (by simp),.inl rfl⟩
 | f+1,n,[],m,T,hl,h=>by
  simp [textF] at h
  obtain ⟨rfl,rfl⟩:=h
  exact ⟨fun x hx=>absurd hx (by simp),.inl rfl⟩
 | f+1,n,c::r,m,T,hl,h=>by
  unfold textF at h
  by_cases hz:(lineP (cutL (c::r)).1).1=0
  ·
   rw [if_pos hz] at h
   simp only [Prod.mk.injEq] at h
   obtain ⟨h1,h2,h3⟩:=h
   have hc:=(cutL_len (c::r) (by simp)).2
   simp only [List.length_cons] at hl hc
   have ih:=text_mem f (n+1) (cutL (c::r)).2 m (textF f (n+1) (cutL (c::r)).2).2.2 (by omega) (by rw [<-h1, <-h2])
   rw [<-h3]
   constructor
   ·
    intro x hx
    rw [List.mem_append,List.mem_map] at hx
    rcases hx with ⟨q,hq,rfl⟩ | hx
    ·
     rw [List.mem_append] at hq
     rcases hq with hq | hq
     ·
      refine ⟨(line_may _ q (n+1) hq).1,.inl ?_⟩
      have:=line_kind _ q hq
      show q.1=1\/q.1=2\/q.1=4\/q.1=3
      omega
     ·
      simp at hq;subst hq
      exact ⟨rfl,.inr rfl⟩
    · exact ih.1 x hx
   ·
    right
    rcases ih.2 with h0 | h0
    ·
     rw [h0,List.append_nil,List.map_append]
     simp [lastK,mkT]
    ·
     unfold lastK at h0 ⊢
     rw [List.getLast?_append]
     cases hg:(textF f (n+1) (cutL (c::r)).2).2.2.getLast? with
     | none=>rw [hg] at h0;simp at h0
     | some y=>rw [hg] at h0;simpa using h0
  ·
   rw [if_neg hz] at h
   simp only [Prod.mk.injEq] at h
   exact absurd h.1 hz
end Go.Proofs.YtadneimllbfdnaaGreatDoor.Lx
namespace Go.Proofs.YtadneimllbfdnaaGreatDoor
open Go.RowKit
set_option linter.unusedVariables false
set_option linter.unusedSimpArgs false
theorem let_nn:∀ n:Fin 256,letP (n.val:Int)=true->Lx.kindP (n.val:Int)=3:=by decide +kernel
theorem run_nn:∀ n:Fin 256,runP (n.val:Int)=Lx.runP (n.val:Int):=by decide +kernel
theorem run_uu (b:UInt8):runU b=Lx.runU b:=run_nn ⟨b.toNat,b.toNat_lt⟩
theorem name_word {t:List UInt8} (h:nameP t=true):Lx.wordP t=true:=by
 simp only [nameP,Bool.and_eq_true,decide_eq_true_eq] at h
 obtain ⟨⟨h1,h2⟩,h3⟩:=h
 unfold Lx.wordP
 rw [Bool.and_eq_true,Bool.and_eq_true,decide_eq_true_eq]
 refine ⟨⟨h1, ?_⟩, ?_⟩
 ·
  cases t with
  | nil=>cases h2
  | cons c r=>
   have:=let_nn ⟨c.toNat,c.toNat_lt⟩ h2
   simp only [Lx.startP]
   simpa [Lx.bI] using this
 ·
  rw [List.all_eq_true] at h3 ⊢
  intro b hb
  have:=h3 b hb
  rw [<-run_uu]
  exact this
end Go.Proofs.YtadneimllbfdnaaGreatDoor
