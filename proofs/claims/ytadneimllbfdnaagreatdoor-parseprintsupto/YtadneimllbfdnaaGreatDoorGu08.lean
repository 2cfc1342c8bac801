import Derived.Test.YtadneimllbfdnaaGreatDoorGu02
import Derived.Test.YtadneimllbfdnaaGreatDoorGu07
import Derived.Deep.QuietTactic
import Derived.BigQuiet
import Derived.Shelf.Strings.SlTrimAscii
import Derived.Deep.RegionHeld3
import Derived.Deep.RegionLaw
namespace Go.Proofs.YtadneimllbfdnaaGreatDoor
open Go.RowKit
set_option linter.unusedVariables false
set_option linter.unusedSimpArgs false
theorem hidOf {p:Prop} (h:p):Hid p:=h
theorem ret_bool {w:World} {a b:Bool} (h:a=b):Ending.returned (Value.bool a)=Ending.returned (Value.bool b)/\w=w:=⟨by rw [h],rfl⟩
def letP (c:Int):Bool:=decide (97<=c) && decide (c<=122) || decide (65<=c) && decide (c<=90) || c == 95
def digP (c:Int):Bool:=decide (48<=c) && decide (c<=57)
def runP (c:Int):Bool:=letP c || digP c || c == 46 || c == 36
def hexP (c:Int):Bool:=digP c || decide (97<=c) && decide (c<=102) || decide (65<=c) && decide (c<=70)
theorem letter_any (c:Int) (w:World):Calls Tryz.prog 153 #[.int .u8 c] w fun e w'=>e=.returned (.bool (letP c))/\w=w':=by
 go_enter Tryz.func153,Tryz.ntmps153
 go_wp2
 all_goals (go_ret;refine ret_bool ?_;unfold letP;rw [Bool.eq_iff_iff];simp;omega)
theorem digit_any (c:Int) (w:World):Calls Tryz.prog 154 #[.int .u8 c] w fun e w'=>e=.returned (.bool (digP c))/\w=w':=by
 go_enter Tryz.func154,Tryz.ntmps154
 go_wp2
 all_goals (go_ret;refine ret_bool ?_;unfold digP;rw [Bool.eq_iff_iff];simp;omega)
theorem inRun_any (c:Int) (w:World):Calls Tryz.prog 155 #[.int .u8 c] w fun e w'=>e=.returned (.bool (runP c))/\w=w':=by
 cases h1:letP c <;> cases h2:digP c <;> (
  go_enter Tryz.func155,Tryz.ntmps155
  go_wp2_with (first | (go_at_call 153;refine (letter_any _ _).mono ?_;rw [h1];rintro e w1 ⟨rfl,rfl⟩) | (go_at_call 154;refine (digit_any _ _).mono ?_;rw [h2];rintro e w2 ⟨rfl,rfl⟩))
  all_goals (go_ret;refine ret_bool ?_;unfold runP;first | (simp [h1,h2];done) | (simp [h1,h2];omega)))
theorem hexDigit_any (c:Int) (w:World):Calls Tryz.prog 208 #[.int .u8 c] w fun e w'=>e=.returned (.bool (hexP c))/\w=w':=by
 cases h2:digP c <;> (
  go_enter Tryz.func208,Tryz.ntmps208
  go_wp2_with (go_at_call 154;refine (digit_any _ _).mono ?_;rw [h2];rintro e w2 ⟨rfl,rfl⟩)
  all_goals (go_ret;refine ret_bool ?_;unfold hexP;rw [h2,Bool.eq_iff_iff];simp;try omega))
theorem refLetter_any (c:Int) (w:World):Calls Tryz.prog 69 #[.int .u8 c] w fun e w'=>e=.returned (.bool (letP c))/\w=w':=by
 go_enter Tryz.func69,Tryz.ntmps69
 go_wp2
 all_goals (go_ret;refine ret_bool ?_;unfold letP;rw [Bool.eq_iff_iff];simp;omega)
theorem refDigit_any (c:Int) (w:World):Calls Tryz.prog 95 #[.int .u8 c] w fun e w'=>e=.returned (.bool (digP c))/\w=w':=by
 go_enter Tryz.func95,Tryz.ntmps95
 go_wp2
 all_goals (go_ret;refine ret_bool ?_;unfold digP;rw [Bool.eq_iff_iff];simp;omega)
theorem refInner_any (c:Int) (w:World):Calls Tryz.prog 70 #[.int .u8 c] w fun e w'=>e=.returned (.bool (runP c))/\w=w':=by
 cases h1:letP c <;> cases h2:digP c <;> (
  go_enter Tryz.func70,Tryz.ntmps70
  go_wp2_with (first | (go_at_call 69;refine (refLetter_any _ _).mono ?_;rw [h1];rintro e w1 ⟨rfl,rfl⟩) | (go_at_call 95;refine (refDigit_any _ _).mono ?_;rw [h2];rintro e w2 ⟨rfl,rfl⟩))
  all_goals (go_ret;refine ret_bool ?_;unfold runP;first | (simp [h1,h2];done) | (simp [h1,h2];omega)))
def bI (b:UInt8):Int:=b.toNat
def headOk (l:List UInt8):Bool:=match l with | []=>false | c::_=>letP (bI c) || digP (bI c)
def runN (l:List UInt8):Nat:=if headOk l then (l.takeWhile fun b=>runP (bI b)).length else 0
theorem lsize (s:ByteArray):s.toList.length=s.size:=by rw [ByteArray.toList_eq];rfl
theorem lget (s:ByteArray) (k:Nat) (h:k<s.size):s.toList[k]? = some s[k]:=by
 rw [ByteArray.toList_eq]
 have h':k<s.data.toList.length:=h
 rw [List.getElem?_eq_getElem h']
 rfl
theorem tw_len {α:Type} (p:α->Bool):∀ (l:List α) (k:Nat),(l.take k).all p=true->k<=l.length->(k=l.length\/∃ b,l[k]? = some b/\p b=false)->(l.takeWhile p).length=k
 | [],k,_,hk,_=>by simp at hk;simp [hk]
 | x::l,0,_,_,h=>by
  rcases h with h | ⟨b,hb,hp⟩
  · simp at h
  · simp at hb;subst hb;simp [List.takeWhile,hp]
 | x::l,k+1,ha,hk,h=>by
  simp only [List.take_succ_cons,List.all_cons,Bool.and_eq_true] at ha
  simp only [List.length_cons] at hk
  have:=tw_len p l k ha.2 (by omega) (by
   rcases h with h | ⟨b,hb,hp⟩
   · left;simp at h;omega
   · right;exact ⟨b,by simpa using hb,hp⟩)
  simp [List.takeWhile,ha.1,this]
theorem all_step {α:Type} (p:α->Bool) (l:List α) (k:Nat) (b:α) (h:(l.take k).all p=true) (hb:l[k]? = some b) (hp:p b=true):(l.take (k+1)).all p=true:=by
 rw [List.take_add_one,hb];simp [List.all_append,h,hp]
theorem letter_of {c:Int} {b:Bool} (h:letP c=b) (w:World):Calls Tryz.prog 153 #[.int .u8 c] w fun e w'=>e=.returned (.bool b)/\w=w':=h ▸ letter_any c w
theorem digit_of {c:Int} {b:Bool} (h:digP c=b) (w:World):Calls Tryz.prog 154 #[.int .u8 c] w fun e w'=>e=.returned (.bool b)/\w=w':=h ▸ digit_any c w
theorem inRun_of {c:Int} {b:Bool} (h:runP c=b) (w:World):Calls Tryz.prog 155 #[.int .u8 c] w fun e w'=>e=.returned (.bool b)/\w=w':=h ▸ inRun_any c w
theorem runSize_any (s:ByteArray) (w:World) (hs:s.size<=9223372036854775807):Calls Tryz.prog 117 #[.string s] w fun e w'=>e=.returned (.int .i64 (runN s.toList:Nat))/\w=w':=by
 by_cases h0:s.size=0
 ·
  have hl:s.toList=[]:=List.length_eq_zero_iff.1 (by rw [lsize,h0])
  have hN:runN s.toList=0:=by rw [hl];rfl
  rw [hN]
  go_enter Tryz.func117,Tryz.ntmps117
  go_wp2
  go_ret
  exact ⟨rfl,rfl⟩
 ·
  have h0':(0:Int)<s.size:=by omega
  have hne:¬s.toList=[]:=fun h=>by have:=lsize s;rw [h] at this;simp at this;omega
  have hie:s.toList.isEmpty=false:=by cases hl:s.toList with | nil=>exact absurd hl hne | cons x r=>rfl
  have hb:=lget s 0 (by omega)
  have hhead:headOk s.toList=(letP (bI s[0]) || digP (bI s[0])):=by
   cases hl:s.toList with
   | nil=>exact absurd hl hne
   | cons x r=>rw [hl] at hb;simp at hb;subst hb;rfl
  have Hb:=hidOf hb
  have Hh:=hidOf hhead
  clear hb hhead
  cases h1:letP (bI s[0]) <;> cases h2:digP (bI s[0])
  ·
   have hN:runN s.toList=0:=by unfold runN;rw [Hh.out,h1,h2];rfl
   rw [hN]
   go_enter Tryz.func117,Tryz.ntmps117
   go_wp2_with (first | (go_at_call 153;refine (letter_of h1 _).mono ?_;rintro e w1 ⟨rfl,rfl⟩) | (go_at_call 154;refine (digit_of h2 _).mono ?_;rintro e w2 ⟨rfl,rfl⟩))
   go_ret
   exact ⟨rfl,rfl⟩
  all_goals
   have hr0:runP (bI s[0])=true:=by simp [runP,h1,h2]
   have HN:Hid (∀ k,(s.toList.take k).all (fun b=>runP (bI b))=true->k<=s.size->(k=s.size\/∃ b,s.toList[k]? = some b/\runP (bI b)=false)->runN s.toList=k):=fun k ha hk hs=>by
    unfold runN
    rw [Hh.out,h1,h2]
    exact tw_len _ _ k ha (by rw [lsize];exact hk) (by rw [lsize];exact hs)
   have HA1:Hid ((s.toList.take 1).all (fun b=>runP (bI b))=true):=all_step _ _ 0 _ (by simp) Hb.out hr0
   go_enter Tryz.func117,Tryz.ntmps117
   go_wp2_with (first | (go_at_call 153;refine (letter_of h1 _).mono ?_;rintro e w1 ⟨rfl,rfl⟩) | (go_at_call 154;refine (digit_of h2 _).mono ?_;rintro e w2 ⟨rfl,rfl⟩))
   go_loopw [3] (fun nv wr=>∃ k:Nat,1<=k/\k<=s.size/\nv=.int .i64 k/\Hid ((s.toList.take k).all (fun b=>runP (bI b))=true)/\wr=w) (fun nv _=>s.size - (intOf nv).toNat)
   case atStart=>exact ⟨1,by omega,by omega,rfl,HA1,rfl⟩
   case round=>
    obtain ⟨k,hk1,hk2,rfl,Ha,rfl⟩:=hrel
    by_cases hk:k<s.size
    ·
     have hlt:(k:Int)<s.size:=by omega
     have h0k:(0:Int)<=k:=by omega
     have Hg:=hidOf (lget s k hk)
     cases hr:runP (bI s[k])
     ·
      have Hfin:=hidOf (HN.out k Ha.out hk2 (.inr ⟨_,Hg.out,hr⟩))
      go_wp2_with (go_at_call 155;refine (inRun_of hr _).mono ?_;rintro e w3 ⟨rfl,rfl⟩)
      go_ret
      exact ⟨by rw [Hfin.out];rfl,rfl⟩
     ·
      have Ha':=hidOf (all_step (fun b=>runP (bI b)) _ k _ Ha.out Hg.out hr)
      go_wp2_with (go_at_call 155;refine (inRun_of hr _).mono ?_;rintro e w3 ⟨rfl,rfl⟩)
      go_roundw
      case rel=>exact ⟨k+1,by omega,by omega,by simp,Ha',trivial⟩
      case measure=>simp [intOf];omega
    ·
     have hlt:¬(k:Int)<s.size:=by omega
     have Hfin:=hidOf (HN.out k Ha.out hk2 (.inl (by omega)))
     go_wp2
     go_ret
     exact ⟨by rw [Hfin.out];rfl,rfl⟩
def startP (l:List UInt8):Bool:=match l with | []=>false | c::_=>letP (bI c)
def nameP (l:List UInt8):Bool:=decide (l.length<=64) && startP l && l.all (fun b=>runP (bI b))
theorem isEmpty_of {s:ByteArray} (h:¬s.size=0):s.toList.isEmpty=false/\¬s.toList=[]:=by
 have hne:¬s.toList=[]:=fun h'=>by have:=lsize s;rw [h'] at this;simp at this;omega
 exact ⟨by cases hl:s.toList with | nil=>exact absurd hl hne | cons x r=>rfl,hne⟩
theorem head_of {s:ByteArray} (h:0<s.size):∃ r,s.toList=s[0]::r:=by
 have hb:=lget s 0 h
 cases hl:s.toList with
 | nil=>rw [hl] at hb;simp at hb
 | cons x r=>rw [hl] at hb;simp at hb;exact ⟨r,by rw [hb]⟩
theorem startsWord_any (s:ByteArray) (w:World):Calls Tryz.prog 116 #[.string s] w fun e w'=>e=.returned (.bool (startP s.toList))/\w=w':=by
 by_cases h0:s.size=0
 ·
  have hl:s.toList=[]:=List.length_eq_zero_iff.1 (by rw [lsize,h0])
  have hN:startP s.toList=false:=by rw [hl];rfl
  rw [hN]
  go_enter Tryz.func116,Tryz.ntmps116
  go_wp2
  go_ret
  exact ⟨rfl,rfl⟩
 ·
  have h0':(0:Int)<s.size:=by omega
  obtain ⟨hie,hne⟩:=isEmpty_of h0
  obtain ⟨r,hr⟩:=head_of (s:=s) (by omega)
  cases h1:letP (bI s[0]) <;> (
   have hN:startP s.toList=letP (bI s[0]):=by rw [hr];rfl
   rw [hN,h1]
   clear hN hr
   go_enter Tryz.func116,Tryz.ntmps116
   go_wp2_with (go_at_call 153;refine (letter_of h1 _).mono ?_;rintro e w1 ⟨rfl,rfl⟩)
   go_ret
   exact ⟨rfl,rfl⟩)
theorem tw_all {α:Type} (p:α->Bool):∀ l:List α,((l.takeWhile p).length=l.length) ↔ (l.all p=true)
 | []=>by simp
 | x::l=>by
  have ih:=tw_all p l
  cases hp:p x
  · simp [List.takeWhile,hp]
  · simp only [List.takeWhile,hp,List.length_cons,List.all_cons,Bool.true_and, <-ih];omega
theorem run_all {l:List UInt8} (h:startP l=true):(runN l=l.length) ↔ (l.all (fun b=>runP (bI b))=true):=by
 have hh:headOk l=true:=by
  cases l with
  | nil=>simp [startP] at h
  | cons x r=>simp only [startP] at h;simp [headOk,h]
 unfold runN
 rw [if_pos hh]
 exact tw_all _ l
theorem isName_any (s:ByteArray) (w:World) (hs:s.size<=9223372036854775807):Calls Tryz.prog 81 #[.string s] w fun e w'=>e=.returned (.bool (nameP s.toList))/\w=w':=by
 have hl:=lsize s
 by_cases h64:s.size<=64
 ·
  have h64':(s.size:Int)<=64:=by omega
  cases h1:startP s.toList
  ·
   have hN:nameP s.toList=false:=by simp [nameP,h1]
   rw [hN]
   clear hN
   go_enter Tryz.func81,Tryz.ntmps81
   go_wp2_with (go_at_call 116;refine (startsWord_any _ _).mono ?_;rw [h1];rintro e w1 ⟨rfl,rfl⟩)
   go_ret
   exact ⟨rfl,rfl⟩
  ·
   have hN:nameP s.toList=(runN s.toList == s.size):=by
    have h2:=run_all h1
    rw [hl] at h2
    rw [Bool.eq_iff_iff,beq_iff_eq,h2]
    simp [nameP,h1,hl,h64]
   rw [hN]
   clear hN
   go_enter Tryz.func81,Tryz.ntmps81
   go_wp2_with (first | (go_at_call 116;refine (startsWord_any _ _).mono ?_;rw [h1];rintro e w1 ⟨rfl,rfl⟩) | (go_at_call 117;refine (runSize_any _ _ hs).mono ?_;rintro e w2 ⟨rfl,rfl⟩))
   go_ret
   refine ret_bool ?_
   rw [Bool.eq_iff_iff];simp;omega
 ·
  have h64':¬(s.size:Int)<=64:=by omega
  have hN:nameP s.toList=false:=by simp [nameP,hl,h64]
  rw [hN]
  clear hN
  go_enter Tryz.func81,Tryz.ntmps81
  go_wp2
  go_ret
  exact ⟨rfl,rfl⟩
def blankP (l:List UInt8):List UInt8:=Lib.trimLeftS l [32,9]
theorem trimLeft_any (s:ByteArray) (w:World):Calls Tryz.prog 144 #[.string s,.string ⟨#[32,9]⟩] w fun e w'=>e=.returned (.string ⟨(blankP s.toList).toArray⟩)/\Below w.heap.size w w':=by
 rw [ByteArray.toList_eq]
 exact Go.Proofs.Any.strings_TrimLeft_laid Tryz.lays161 (by kernel_rfl) s ⟨#[32,9]⟩ w (by decide) (by intro j b hb;have hm:=List.mem_of_getElem? hb;simp at hm;rcases hm with rfl | rfl <;> decide)
def tokN (l:List UInt8):Nat:=if runN l=0/\l ≠ [] then 1 else runN l
theorem runN_le (l:List UInt8):runN l<=l.length:=by
 unfold runN
 split
 · exact (List.takeWhile_prefix _).length_le
 · exact Nat.zero_le _
theorem tokN_le (l:List UInt8):tokN l<=l.length:=by
 unfold tokN
 split
 ·
  rename_i h
  have:l.length ≠ 0:=fun e=>h.2 (List.length_eq_zero_iff.1 e)
  omega
 · exact runN_le l
theorem mk_list (l:List UInt8):(⟨l.toArray⟩:ByteArray).toList=l:=by rw [ByteArray.toList_eq]
theorem mk_size (l:List UInt8):(⟨l.toArray⟩:ByteArray).size=l.length:=by rw [<-lsize,mk_list]
theorem blank_le (l:List UInt8):(blankP l).length<=l.length:=(List.dropWhile_suffix _).length_le
def tx (l:List UInt8):Value:=.string ⟨l.toArray⟩
def RdAt (w:World) (p:Nat) (cs:Array Value):Prop:=w.heap[p]? = some (.cells cs 157 (0,0))
theorem RdAt.cell {w:World} {p:Nat} {cs:Array Value} (h:RdAt w p cs) (j:Nat):w.cell? ⟨p,j,none⟩=cs[j]?:=by simp [World.cell?,show w.heap[p]? = _ from h]
theorem RdAt.frozen {w:World} {p:Nat} {cs:Array Value} (h:RdAt w p cs) (j:Nat):w.frozen? ⟨p,j,none⟩=false:=by simp [World.frozen?,show w.heap[p]? = _ from h]
theorem RdAt.lt {w:World} {p:Nat} {cs:Array Value} (h:RdAt w p cs):p<w.heap.size:=(Array.getElem?_eq_some_iff.1 h).1
theorem RdAt.set {w:World} {p:Nat} {cs:Array Value} (h:RdAt w p cs) (j:Nat) (u:Value):RdAt (w.setCell ⟨p,j,none⟩ u) p (cs.setIfInBounds j u):=by
 show (w.setCell ⟨p,j,none⟩ u).heap[p]? = _
 simp [World.setCell,Array.getElem?_modify,show w.heap[p]? = _ from h]
theorem RdAt.below {w w':World} {p:Nat} {cs:Array Value} (h:RdAt w p cs) (b:Below w.heap.size w w'):RdAt w' p cs:=(b.block p h.lt).trans h
theorem ext_take (l:List UInt8) (n:Nat) (h:n<=l.length):(⟨l.toArray⟩:ByteArray).extract 0 n=⟨(l.take n).toArray⟩:=by
 rw [ByteArray.ext_iff,ByteArray.data_extract]
 simp
theorem ext_drop (l:List UInt8) (n:Nat) (h:n<=l.length):(⟨l.toArray⟩:ByteArray).extract n l.length=⟨(l.drop n).toArray⟩:=by
 rw [ByteArray.ext_iff,ByteArray.data_extract]
 simp
 exact List.take_of_length_le (by rw [List.length_drop];exact Nat.le_refl _)
def tokP (l:List UInt8):List UInt8:=(blankP l).take (tokN (blankP l))
def restP (l:List UInt8):List UInt8:=(blankP l).drop (tokN (blankP l))
set_option maxHeartbeats 1000000 in
theorem next_any (w:World) (p:Nat) (l:List UInt8) (tok c2 c3 c4 c5 c6 c7 c8 c9:Value) (h:RdAt w p #[tx l,tok,c2,c3,c4,c5,c6,c7,c8,c9]) (hl:l.length<=4611686018427387904) :
  Calls Tryz.prog 106 #[.pointer (some ⟨p,0,none⟩)] w fun e w'=>(∃ r,e=.returned r)/\RdAt w' p #[tx (restP l),tx (tokP l),c2,c3,c4,c5,c6,c7,c8,c9]/\Chg (fun k=>k=p) w w':=by
 obtain ⟨L,HL⟩:∃ L,Hid (blankP l=L):=⟨_,hidOf rfl⟩
 have hLl:L.length<=4611686018427387904:=by rw [<-HL.out];exact Nat.le_trans (blank_le l) hl
 have c0:w.cell? ⟨p,0,none⟩=some (.string ⟨l.toArray⟩):=h.cell 0
 have H:=hidOf h
 clear h
 have CT:Hid (Calls Tryz.prog 144 #[.string ⟨l.toArray⟩,.string ⟨#[32,9]⟩] w fun e w'=>e=.returned (.string ⟨L.toArray⟩)/\Below w.heap.size w w'):=by
  have h:=trimLeft_any ⟨l.toArray⟩ w
  rw [mk_list,HL.out] at h
  exact h
 have CR:Hid (∀ wx:World,Calls Tryz.prog 117 #[.string ⟨L.toArray⟩] wx fun e w'=>e=.returned (.int .i64 (runN L:Nat))/\wx=w'):=fun wx=>by
  have h:=runSize_any ⟨L.toArray⟩ wx (by rw [mk_size];omega)
  rw [mk_list] at h
  exact h
 go_enter Tryz.func106,Tryz.ntmps106
 obtain ⟨n,Hn⟩:∃ n,Hid (runN L=n):=⟨_,hidOf rfl⟩
 have hnL:n<=L.length:=by rw [<-Hn.out];exact runN_le L
 rw [Hn.out] at CR
 go_upto_region 2 with (first | (go_at_call 144;refine CT.out.mono ?_;rintro e w1 ⟨rfl,hb1⟩;have H1:=hidOf (H.out.below hb1);have Hb1:=hidOf hb1;have d0:w1.cell? ⟨p,0,none⟩=some (.string ⟨l.toArray⟩):=H1.out.cell 0;have f0:=H1.out.frozen 0;clear hb1) | (go_at_call 117;refine (CR.out _).mono ?_;rintro e w2 ⟨rfl,rfl⟩))
 have H2:Hid (RdAt (w1.setCell ⟨p,0,none⟩ (.string ⟨L.toArray⟩)) p #[tx L,tok,c2,c3,c4,c5,c6,c7,c8,c9]):=H1.out.set 0 _
 have Hc2:Hid (Chg (fun k=>k=p) w (w1.setCell ⟨p,0,none⟩ (.string ⟨L.toArray⟩))):=Chg.setCell (Chg.of_out (S:=fun k=>k=p) Hb1.out) (p:=⟨p,0,none⟩) (show p=p from rfl) _
 clear d0 f0 c0 H1 Hb1
 generalize w1.setCell ⟨p,0,none⟩ (.string ⟨L.toArray⟩)=w2 at *
 have d0:w2.cell? ⟨p,0,none⟩=some (.string ⟨L.toArray⟩):=H2.out.cell 0
 have e0:w2.drew.cell? ⟨p,0,none⟩=some (.string ⟨L.toArray⟩):=H2.out.cell 0
 have d1:w2.cell? ⟨p,1,none⟩=some tok:=H2.out.cell 1
 have f0:w2.frozen? ⟨p,0,none⟩=false:=H2.out.frozen 0
 have f1:w2.frozen? ⟨p,1,none⟩=false:=H2.out.frozen 1
 have Hset:Hid (∀ N:Nat,tokN L=N->RdAt ((w2.setCell ⟨p,1,none⟩ (.string ((⟨L.toArray⟩:ByteArray).extract 0 N))).setCell ⟨p,0,none⟩ (.string ((⟨L.toArray⟩:ByteArray).extract N L.length))).drew p #[tx (restP l),tx (tokP l),c2,c3,c4,c5,c6,c7,c8,c9]):=fun N hN=>by
  have hNL:N<=L.length:=by rw [<-hN];exact tokN_le L
  rw [ext_take L N hNL,ext_drop L N hNL]
  have hh:=(H2.out.set 1 (tx (L.take N))).set 0 (tx (L.drop N))
  have e1:restP l=L.drop N:=by rw [restP,HL.out,hN]
  have e2:tokP l=L.take N:=by rw [tokP,HL.out,hN]
  rw [e1,e2]
  exact hh
 have HsetC:Hid (∀ (u v:Value),Chg (fun k=>k=p) w ((w2.setCell ⟨p,1,none⟩ u).setCell ⟨p,0,none⟩ v).drew):=fun u v=>by
  have h1:=Chg.setCell (Chg.setCell Hc2.out (p:=⟨p,1,none⟩) (show p=p from rfl) u) (p:=⟨p,0,none⟩) (show p=p from rfl) v
  exact h1.drew
 by_cases hn0:n=0
 ·
  subst hn0
  by_cases hLe:L=[]
  ·
   have hie:L.isEmpty=true:=by rw [hLe];rfl
   have hT:tokN L=0:=by unfold tokN;rw [if_neg (fun h=>h.2 hLe),Hn.out]
   have h0L:(0:Int)<=L.length:=by omega
   have HT:=hidOf hT
   clear hT hLe
   go_upto_region 4 with fail
   go_region_law (fail)
   all_goals (go_end0;refine ⟨⟨_,rfl⟩, ?_,HsetC.out _ _⟩;rw [show ByteArray.empty=(⟨L.toArray⟩:ByteArray).extract 0 0 from by rw [ext_take L 0 (Nat.zero_le _)];rfl];exact Hset.out _ HT.out)
  ·
   have hie:L.isEmpty=false:=by cases L with | nil=>exact absurd rfl hLe | cons x r=>rfl
   have hT:tokN L=1:=by unfold tokN;rw [if_pos ⟨Hn.out,hLe⟩]
   have h1L:(1:Int)<=L.length:=by have:=tokN_le L;omega
   have HT:=hidOf hT
   clear hT
   go_upto_region 4 with fail
   go_region_law (fail)
   all_goals (go_end0;exact ⟨⟨_,rfl⟩,Hset.out _ HT.out,HsetC.out _ _⟩)
 ·
  have hT:tokN L=n:=by unfold tokN;rw [if_neg (fun h=>hn0 (by rw [<-Hn.out];exact h.1)),Hn.out]
  have hnz:((n:Int) == 0)=false:=by simp;omega
  have hnL':(n:Int)<=L.length:=by omega
  have h0n:(0:Int)<=n:=by omega
  have HT:=hidOf hT
  clear hT
  go_upto_region 4 with fail
  go_region_law (fail)
  all_goals (go_end0;exact ⟨⟨_,rfl⟩,Hset.out _ HT.out,HsetC.out _ _⟩)
structure RS where
 rest:List UInt8
 tok:List UInt8
 o:Int
 d:Int
 s:Int
 f:Int
 i:Int
 tgt:List UInt8
 wrong:Bool
 outside:Bool
def RS.cells (r:RS):Array Value:=#[tx r.rest,tx r.tok,.int .i64 r.o,.int .i64 r.d,.int .i64 r.s,.int .i64 r.f,.int .i64 r.i,tx r.tgt,.bool r.wrong,.bool r.outside]
def RS.next (r:RS):RS:={ r with rest:=restP r.rest,tok:=tokP r.rest }
def Sm (r:RS):Prop:=r.rest.length<=140737488355328/\r.tok.length<=140737488355328
theorem restP_le (l:List UInt8):(restP l).length<=l.length:=by
 have:=blank_le l
 unfold restP
 rw [List.length_drop];omega
theorem tokP_le (l:List UInt8):(tokP l).length<=l.length:=by
 have:=blank_le l
 unfold tokP
 rw [List.length_take];omega
theorem Sm.next {r:RS} (h:Sm r):Sm r.next:=⟨Nat.le_trans (restP_le r.rest) h.1,Nat.le_trans (tokP_le r.rest) h.1⟩
def MEnd (p:Nat) (r':RS) (w w':World):Prop:=RdAt w' p r'.cells/\Chg (fun k=>k=p) w w'
theorem nextR (w:World) (p:Nat) (r:RS) (h:RdAt w p r.cells) (hs:Sm r):Calls Tryz.prog 106 #[.pointer (some ⟨p,0,none⟩)] w fun e w'=>(∃ v,e=.returned v)/\MEnd p r.next w w':=
 next_any w p r.rest _ _ _ _ _ _ _ _ _ h (by have:=hs.1;omega)
def skipP (m:List UInt8) (r:RS):RS × Bool:=if r.tok=m then (r.next,true) else (r,false)
theorem skip_any (w:World) (p:Nat) (r:RS) (m:List UInt8) (h:RdAt w p r.cells) (hs:Sm r):Calls Tryz.prog 173 #[.pointer (some ⟨p,0,none⟩),.string ⟨m.toArray⟩] w fun e w'=>e=.returned (.bool (skipP m r).2)/\MEnd p (skipP m r).1 w w':=by
 have c1:w.cell? ⟨p,1,none⟩=some (.string ⟨r.tok.toArray⟩):=h.cell 1
 by_cases hm:r.tok=m
 ·
  have e1:skipP m r=(r.next,true):=by simp [skipP,hm]
  rw [e1]
  have CN:=hidOf (nextR w p r h hs)
  clear h hs e1
  go_enter Tryz.func173,Tryz.ntmps173
  go_wp2_with (go_at_call 106;refine CN.out.mono ?_;rintro e w1 ⟨⟨v,rfl⟩,hend⟩)
  go_ret
  exact ⟨rfl,hend⟩
 ·
  have e1:skipP m r=(r,false):=by simp [skipP,hm]
  rw [e1]
  have hR:=hidOf h
  have hm1:(r.tok == m)=false:=by simpa using hm
  have hm2:(r.tok != m)=true:=by simpa using hm
  clear h hs e1
  go_enter Tryz.func173,Tryz.ntmps173
  go_wp2
  go_ret
  exact ⟨rfl,hR.out,Chg.refl _ _⟩
theorem Sm.skip {r:RS} (h:Sm r) (m:List UInt8):Sm (skipP m r).1:=by
 unfold skipP
 split
 · exact h.next
 · exact h
def markS (m:List UInt8) (r:RS):RS:=if (skipP m r).2 then (skipP m r).1 else { (skipP m r).1 with wrong:=true }
theorem Sm.mark {r:RS} (h:Sm r) (m:List UInt8):Sm (markS m r):=by
 unfold markS
 split
 · exact h.skip m
 · exact h.skip m
theorem mark_any (w:World) (p:Nat) (r:RS) (m:List UInt8) (h:RdAt w p r.cells) (hs:Sm r):Calls Tryz.prog 145 #[.pointer (some ⟨p,0,none⟩),.string ⟨m.toArray⟩] w fun e w'=>(∃ v,e=.returned v)/\MEnd p (markS m r) w w':=by
 have CS:=hidOf (skip_any w p r m h hs)
 clear h hs
 unfold markS
 generalize hq:skipP m r=q at *
 obtain ⟨r1,b⟩:=q
 cases b
 ·
  go_enter Tryz.func145,Tryz.ntmps145
  go_wp2_with (go_at_call 173;refine CS.out.mono ?_;rintro e w1 ⟨rfl,hend⟩;have d8:w1.cell? ⟨p,8,none⟩=some (.bool r1.wrong):=hend.1.cell 8;have f8:=hend.1.frozen 8;have He:=hidOf hend;clear hend)
  go_end0
  exact ⟨⟨_,rfl⟩,He.out.1.set 8 _,Chg.setCell He.out.2 (p:=⟨p,8,none⟩) (show p=p from rfl) _⟩
 ·
  go_enter Tryz.func145,Tryz.ntmps145
  go_wp2_with (go_at_call 173;refine CS.out.mono ?_;rintro e w1 ⟨rfl,hend⟩;have He:=hidOf hend;clear hend)
  go_end0
  exact ⟨⟨_,rfl⟩,He.out⟩
theorem clone_any (s:ByteArray) (w:World) (hl:s.size<=281474976710656):Calls Tryz.prog 190 #[.string s] w fun e w'=>e=.returned (.string s)/\Below w.heap.size w w':=by
 go_enter Tryz.func190,Tryz.ntmps190
 go_wp2_with (go_at_call 202;refine (Tryz.stringslite_Clone s _ hl).mono ?_;rintro e w1 ⟨rfl,hb⟩)
 go_ret
 exact ⟨rfl,hb⟩
def nameS (r:RS):RS:=RS.next { r with wrong:=r.wrong || !nameP r.tok,tgt:=r.tok }
theorem Sm.name {r:RS} (h:Sm r):Sm (nameS r):=Sm.next (r:={ r with wrong:=r.wrong || !nameP r.tok,tgt:=r.tok }) h
set_option maxHeartbeats 800000 in
theorem name_any (w:World) (p:Nat) (r:RS) (h:RdAt w p r.cells) (hs:Sm r):Calls Tryz.prog 178 #[.pointer (some ⟨p,0,none⟩)] w fun e w'=>(∃ v,e=.returned v)/\MEnd p (nameS r) w w':=by
 have hts:=hs.2
 have CI:Hid (∀ wx:World,Calls Tryz.prog 81 #[.string ⟨r.tok.toArray⟩] wx fun e w'=>e=.returned (.bool (nameP r.tok))/\wx=w'):=fun wx=>by
  have h:=isName_any ⟨r.tok.toArray⟩ wx (by rw [mk_size];omega)
  rw [mk_list] at h
  exact h
 have CC:Hid (∀ wx:World,Calls Tryz.prog 190 #[.string ⟨r.tok.toArray⟩] wx fun e w'=>e=.returned (.string ⟨r.tok.toArray⟩)/\Below wx.heap.size wx w'):=fun wx=>clone_any _ wx (by rw [mk_size];omega)
 have CX:Hid (∀ wx:World,RdAt wx p ({ r with wrong:=r.wrong || !nameP r.tok,tgt:=r.tok } : RS).cells->Calls Tryz.prog 106 #[.pointer (some ⟨p,0,none⟩)] wx fun e w'=>(∃ v,e=.returned v)/\MEnd p (nameS r) wx w'):=fun wx hx=>nextR wx p _ hx hs
 have H:=hidOf h
 have c1:w.cell? ⟨p,1,none⟩=some (.string ⟨r.tok.toArray⟩):=h.cell 1
 have c8:w.cell? ⟨p,8,none⟩=some (.bool r.wrong):=h.cell 8
 have f8:=h.frozen 8
 clear h hs
 obtain ⟨b,Hb⟩:∃ b,Hid (nameP r.tok=b):=⟨_,hidOf rfl⟩
 rw [Hb.out] at CI CX
 have H1:Hid (RdAt (w.setCell ⟨p,8,none⟩ (.bool (r.wrong || !b))) p #[tx r.rest,tx r.tok,.int .i64 r.o,.int .i64 r.d,.int .i64 r.s,.int .i64 r.f,.int .i64 r.i,tx r.tgt,.bool (r.wrong || !b),.bool r.outside]):=H.out.set 8 _
 have HC1:Hid (Chg (fun k=>k=p) w (w.setCell ⟨p,8,none⟩ (.bool (r.wrong || !b)))):=Chg.setCell (Chg.refl (fun k=>k=p) w) (p:=⟨p,8,none⟩) (show p=p from rfl) _
 generalize hw:r.wrong=rw at *
 have HC:Hid (∀ wx:World,Below (w.setCell ⟨p,8,none⟩ (.bool (rw || !b))).heap.size (w.setCell ⟨p,8,none⟩ (.bool (rw || !b))) wx->RdAt wx p #[tx r.rest,tx r.tok,.int .i64 r.o,.int .i64 r.d,.int .i64 r.s,.int .i64 r.f,.int .i64 r.i,tx r.tgt,.bool (rw || !b),.bool r.outside]/\Chg (fun k=>k=p) w wx):=fun wx hb=>⟨H1.out.below hb,HC1.out.trans (Chg.of_out (S:=fun _=>False) hb) (fun _ h _=>h.elim)⟩
 cases rw <;> (
  simp only [Bool.false_or,Bool.true_or] at HC CX
  go_enter Tryz.func178,Tryz.ntmps178
  go_wp2_with (first | (go_at_call 81;refine (CI.out _).mono ?_;rintro e w1 ⟨rfl,rfl⟩) | (go_at_call 190;refine (CC.out _).mono ?_;rintro e w2 ⟨rfl,hb2⟩;obtain ⟨hR2,hC2⟩:=HC.out _ hb2;have d7:w2.cell? ⟨p,7,none⟩=some (.string ⟨r.tgt.toArray⟩):=hR2.cell 7;have f7:=hR2.frozen 7;have HR2:=hidOf hR2;have HC2:=hidOf hC2;clear hR2 hC2 hb2) | (go_at_call 106;refine (CX.out _ (HR2.out.set 7 _)).mono ?_;rintro e w3 ⟨⟨v3,rfl⟩,hend⟩;have He:=hidOf hend;clear hend))
  go_end0
  exact ⟨⟨_,rfl⟩,He.out.1,(Chg.setCell HC2.out (p:=⟨p,7,none⟩) (show p=p from rfl) _).trans He.out.2 (fun k hk _=>hk)⟩)
theorem bldSize:(Tryz.prog.info? 56).map (·.size)=some 2:=Tryz.Builder_Extra_169.sizeBuilder
set_option maxRecDepth 100000 in
set_option maxHeartbeats 1000000 in
theorem chk_used (b:Nat) (w:World) (h0:w.cell? ⟨b,0,none⟩=some (.pointer (some ⟨b,0,none⟩))):Calls Tryz.prog 62 #[.pointer (some ⟨b,0,none⟩)] w fun e w'=>e=.returned (.tuple #[])/\w'=w:=by
 obtain ⟨j,hj,_⟩:=Option.map_eq_some_iff.1 bldSize
 go_enter Tryz.func62,Tryz.ntmps62
 go_wp2
 rw [Lib.run_neq_ptr_same w _ Tryz.underlying54 hj]
 go_wp2
 go_end0
 exact ⟨rfl,rfl⟩
set_option maxRecDepth 100000 in
set_option maxHeartbeats 1000000 in
theorem chk_new (b:Nat) (w:World) (h0:w.cell? ⟨b,0,none⟩=some (.pointer none)) (hs:w.shape? b=some (56,2)) (hf:w.frozen? ⟨b,0,none⟩=false):Calls Tryz.prog 62 #[.pointer (some ⟨b,0,none⟩)] w fun e w'=>e=.returned (.tuple #[])/\w'=w.setCell ⟨b,0,none⟩ (.pointer (some ⟨b,0,none⟩)):=by
 obtain ⟨j,hj,hj2⟩:=Option.map_eq_some_iff.1 bldSize
 go_enter Tryz.func62,Tryz.ntmps62
 go_wp2
 rw [Lib.run_to_unsafe w ⟨b,0,none⟩ Tryz.underlying54 Tryz.underlying139 hj (by rw [hj2];decide) hs (Nat.zero_lt_succ 1)]
 simp only [Result.andThen]
 rw [Oper.upon_value]
 go_wp2
 rw [run_callFunc_extern Tryz.func89 (by kernel_rfl) (by kernel_rfl) (by kernel_rfl) (e:=Extern.AbiNoEscape.same) (by kernel_rfl),Lib.run_noEscape]
 simp only [Result.andThen]
 rw [Oper.upon_value]
 go_wp2
 rw [Lib.run_from_unsafe w ⟨b,0,none⟩ Tryz.underlying139 Tryz.underlying54 hj hs Tryz.Builder_Extra_169.liesBuilder]
 simp only [Result.andThen]
 rw [Oper.upon_value]
 go_wp2
 go_end0
 exact ⟨rfl,rfl⟩
theorem chk_any (B b:Nat) (bs:List Value) (w:World) (h:Lib.IsBuilder 56 5 B b bs w):Calls Tryz.prog 62 #[.pointer (some ⟨b,0,none⟩)] w fun e w'=>e=.returned (.tuple #[])/\Lib.BuilderAt 56 5 B b (.pointer (some ⟨b,0,none⟩)) bs w'/\Below B w w':=by
 rcases h with h | h
 · exact (chk_new b w h.cell0 h.shape h.frozen0).mono fun e w' ⟨he,hw⟩=>⟨he,hw ▸ h.used _,hw ▸ (Below.refl B w).setCell (p:=⟨b,0,none⟩) h.1 _⟩
 · exact (chk_used b w h.cell0).mono fun e w' ⟨he,hw⟩=>⟨he,hw ▸ h,hw ▸ Below.refl B _⟩
set_option maxRecDepth 100000 in
set_option maxHeartbeats 2000000 in
theorem write_any (B b:Nat) (bs:List Value) (s:ByteArray) (w:World) (h:Lib.IsBuilder 56 5 B b bs w) (hlen:bs.length+s.size<=140737488355328) (hBw:B<=w.heap.size) :
  Calls Tryz.prog 34 #[.pointer (some ⟨b,0,none⟩),.string s] w fun e w'=>(∃ v,e=.returned v)/\Lib.IsBuilder 56 5 B b (bs++Lib.strCells s) w'/\Below B w w':=by
 obtain ⟨i0,hi,hz0,hz1,hz2⟩:=info_parts (show (Tryz.prog.info? 5).map (fun i=>(i.zero,i.size,i.bytes))=some (some (.int .u8 0),1,1) from Tryz.Builder_Extra_169.infoByte)
 have CK:=hidOf (chk_any B b bs w h)
 clear h
 go_enter Tryz.func34,Tryz.ntmps34
 go_wp2_with (go_at_call 62;refine CK.out.mono ?_)
 rintro e w1 ⟨rfl,⟨hB,v,hbk,hown,hne⟩,hb1⟩
 have hsz:=hb1.size
 have c0:w1.cell? ⟨b,0,none⟩=some (.pointer (some ⟨b,0,none⟩)):=by rw [Lib.cell_of_heap hbk];rfl
 have c1:w1.cell? ⟨b,1,none⟩=some v:=by rw [Lib.cell_of_heap hbk];rfl
 have hlt:b<w1.heap.size:=(Array.getElem?_eq_some_iff.1 hbk).1
 go_wp2_with (at_builtin;refine Lib.wpList_append_own_string _ rfl _ _ 35 9 rfl B 5 i0 Tryz.underlying35 Tryz.underlying9 hi hz0 hz1 hz2 _ _ _ rfl hown s rfl (by unfold maxLen;omega) (by omega) (by omega) ?_)
 intro v' w2 hown' hgrow _
 have hb2:w2.heap[b]? = some (.cells #[.pointer (some ⟨b,0,none⟩),v] 56 (0,0)):=(hgrow.block b hlt (fun e=>hne e.symm)).trans hbk
 have d0:w2.cell? ⟨b,0,none⟩=some (.pointer (some ⟨b,0,none⟩)):=by rw [Lib.cell_of_heap hb2];rfl
 have d1:w2.cell? ⟨b,1,none⟩=some v:=by rw [Lib.cell_of_heap hb2];rfl
 have f1:w2.frozen? ⟨b,1,none⟩=false:=Lib.frozen_of_heap hb2 1
 have HW:=hidOf ((hb1.grown hgrow (by omega) (fun k hk=>(hown.lt k hk).1)).setCell (p:=⟨b,1,none⟩) hB v')
 obtain ⟨ao,n',cap,rfl⟩:∃ ao n' cap,v'=.slice ao n' cap:=by
  rcases hown'.2 with ⟨hv,_⟩ | ⟨g,cap,cur,hv,_⟩
  · exact ⟨_,_,_,hv⟩
  · exact ⟨_,_,_,hv⟩
 have HB:Hid (Lib.IsBuilder 56 5 B b (bs++Lib.strCells s) (w2.setCell ⟨b,1,none⟩ (.slice ao n' cap))):=.inr (Lib.BuilderAt.put (T:=56) (e:=5) hB hb2 (bs':=bs++Lib.strCells s) (by rw [List.length_append,Lib.strCells_length];exact hown') (by decide))
 clear hown' hgrow hb2 hbk hown hne hb1 c0 c1
 go_wp2
 go_ret2
 exact ⟨⟨_,rfl⟩,HB.out,HW.out⟩
end Go.Proofs.YtadneimllbfdnaaGreatDoor
