import Derived.Test.YtadneimllbfdnaaGreatDoorGu24
namespace Go.Proofs.YtadneimllbfdnaaGreatDoor
open Go.RowKit
set_option linter.unusedVariables false
set_option linter.unusedSimpArgs false
def kinB (o:Int):Bool:=
 (!(formP o == 3) || (!useO o 3 && useD o 3 && !(o == 24) && !ordersP o && (useS o 3 == hasSrc o) && (useI o 3 == !hasSrc o) && !(cls o == 0) && ((cls o == 7) || (cls o == 4)) && !(shrO o == 13) && (bOp o+8 == o || bOp o == o) && (hasSrc o == (o == bOp o+8)))) &&
 (!(formP o == 2) || (!useO o 2 && useD o 2 && !useS o 2 && !useI o 2 && ((cls o == 7) || (cls o == 4)) && (ordersP o == (shrO o == 13)))) &&
 (!(formP o == 4) || (useO o 4 && useD o 4 && useS o 4 && !useI o 4 && !ordersP o && (cls o == 1))) &&
 (!(formP o == 5) || (useO o 5 && useD o 5 && (useS o 5 == !useI o 5) && !ordersP o && ((cls o == 2) || (cls o == 3)) && !(o == 219) && !(o == 195))) &&
 (!(formP o == 6) || (useO o 6 && useD o 6 && useS o 6 && !useI o 6 && !ordersP o && (cls o == 3) && (o == 219 || o == 195))) &&
 (!(formP o == 7) || (!useD o 7 && !useS o 7 && !ordersP o && (o == 5 && useO o 7 && !useI o 7 || o == 6 && !useO o 7 && useI o 7))) &&
 (!(formP o == 8) || (useO o 8 && useD o 8 && (useS o 8 == hasSrc o) && (useI o 8 == !hasSrc o) && !ordersP o && ((cls o == 5) || (cls o == 6)) && !(o == 5) && !(o == 6) && (bOp o+8 == o || bOp o == o) && (hasSrc o == (o == bOp o+8)))) &&
 (!(formP o == 9) || o == 133) && (!(formP o == 10) || o == 24) && (!(formP o == 1) || o == 149) && (decide (1<=formP o) && decide (formP o<=10))
theorem kin_all:∀ l ∈ opsT,∀ o ∈ l,kinB o=true:=by decide +kernel
theorem find_one (p:Rw->Bool) (r:Rw) : [r].find? p=if p r then some r else none:=by
 simp only [List.find?_cons,List.find?_nil]
 cases p r <;> rfl
theorem find_two (p:Rw->Bool) (r:Rw) (l:List Rw):(r::l).find? p=if p r then some r else l.find? p:=by
 simp only [List.find?_cons]
 cases p r <;> rfl
theorem find_map4 (p:Rw->Bool) (g:Int->Rw) (y:Int) (c:Bool):∀ L:List Int,(∀ x ∈ L,p (g x)=(y == x && c))->(L.map g).find? p=if c && L.contains y then some (g y) else none
 | [],_=>by simp
 | x::L,h=>by
  rw [List.map_cons,find_two,h x (by simp),find_map4 p g y c L (fun z hz=>h z (by simp [hz]))]
  by_cases e:y=x
  · subst e;cases c <;> simp
  ·
   have:(y == x)=false:=by simpa using e
   cases c <;> simp [this,e]
theorem reg_in (d:Int):(d == 0 || inR d 0 10)=isReg d:=by
 rw [Bool.eq_iff_iff];simp [inR,isReg];omega
def Fnd (o d s f i:Int) (r:Rw):Prop:=findR o d s f i=if fitO o d s f i then some r else none
def cB (o d s i:Int):Bool:=isReg d && (if hasSrc o then isReg s else s == 0) && (if hasSrc o then i == 0 else inR i (-2147483648) 2147483647)
theorem law1 {o x:Int} (w:List UInt8) (k10:bOp o+8=o\/bOp o=o) (k11:hasSrc o=(o == bOp o+8)) (d s f i:Int):(ofR ⟨w,1,bOp o,x,0⟩ o s f i && lawR ⟨w,1,bOp o,x,0⟩ o d s f i)=(f == x && cB o d s i):=by
 have e1:opR ⟨w,1,bOp o,x,0⟩ o=true:=by simp [opR,twoR];omega
 have e2:secR ⟨w,1,bOp o,x,0⟩ o=hasSrc o:=by simp [secR,twoR,k11]
 have e3:ofR ⟨w,1,bOp o,x,0⟩ o s f i=(f == x):=by simp [ofR,e1]
 have e4:usR ⟨w,1,bOp o,x,0⟩ o=(true,hasSrc o,false, !hasSrc o):=by simp [usR,e2]
 rw [e3]
 unfold lawR cB
 rw [e4]
 simp only [Bool.true_and,Bool.false_and,Bool.or_false,reg_in]
 cases hasSrc o <;> cases (f == x) <;> simp [reg_in]
theorem law2 {o x:Int} (w:List UInt8) (hs:hasSrc o=true) (d s f i:Int):(ofR ⟨w,2,o,x,0⟩ o s f i && lawR ⟨w,2,o,x,0⟩ o d s f i)=(f == x && cB o d s i):=by
 have e3:ofR ⟨w,2,o,x,0⟩ o s f i=(f == x):=by simp [ofR,opR]
 have e4:usR ⟨w,2,o,x,0⟩ o=(true,true,false,false):=by simp [usR]
 rw [e3]
 unfold lawR cB
 rw [e4,hs]
 cases (f == x) <;> simp [reg_in]
theorem var_off (o f:Int) (h0:¬f=0):variantP o f=(offsO o).contains f:=by
 unfold variantP offsO
 split
 · rw [Bool.eq_iff_iff];simp
 ·
  split
  · rw [Bool.eq_iff_iff];simp
  ·
   rw [Bool.eq_iff_iff]
   cases hb:(bits BinOp.and IntKind.i64 o 240 == 176) <;> cases hs:hasSrc o <;> cases ho:(o == 191) <;> simp [or_assoc]
theorem offs_mv (o x:Int) (h:x ∈ offsO o) (h1:¬x=1):hasSrc o=true:=by
 unfold offsO at h
 split at h
 · simp at h;omega
 ·
  split at h
  · simp at h;omega
  ·
   cases hb:(bits BinOp.and IntKind.i64 o 240 == 176) <;> cases hs:hasSrc o
   all_goals first | rfl | (simp [hb,hs] at h)
theorem find3 (o d s f i:Int) (h:formP o=3) (hp:pickO o=expO o) (hk:kinB o=true):Fnd o d s f i (if f=0 then ⟨wReck o 0 0,1,bOp o,0,0⟩ else ⟨wOff o f,if f == 1 then 1 else 2,if f == 1 then bOp o else o,f,0⟩):=by
 unfold Fnd findR
 rw [hp]
 simp only [kinB,h] at hk
 simp at hk
 obtain ⟨⟨⟨⟨⟨⟨⟨⟨⟨⟨k1,k2⟩,k3⟩,k4⟩,k5⟩,k6⟩,k7⟩,k8⟩,k9⟩,k10⟩,k11⟩:=hk
 have hf:fitO o d s f i=((f == 0 || variantP o f) && cB o d s i):=by
  unfold fitO fitP dstP srcP offP immP cB inR
  simp only [h,k1,k2,k5,k6,k4]
  rw [show ((3:Int) == 9)=false from rfl,show ((3:Int) == 10)=false from rfl,show ((3:Int) == 6)=false from rfl,show ((3:Int) == 3)=true from rfl]
  cases hasSrc o <;> cases (f == 0) <;> cases (variantP o f) <;> cases isReg d <;> simp
 rw [hf]
 have he:expO o=⟨wReck o 0 0,1,bOp o,0,0⟩::(offsO o).map (fun x=>⟨wOff o x,if x == 1 then 1 else 2,if x == 1 then bOp o else o,x,0⟩):=by simp [expO,h]
 rw [he,find_two,law1 _ k10 k11,find_map4 _ _ f (cB o d s i) (offsO o) (fun x hx=>?_)]
 ·
  by_cases h0:f=0
  ·
   subst h0
   cases cB o d s i <;> simp
  ·
   have e0:(f == 0)=false:=by simpa using h0
   rw [e0,var_off o f h0,if_neg h0]
   cases cB o d s i <;> cases (offsO o).contains f <;> simp
 ·
  by_cases e:x=1
  · subst e;exact law1 _ k10 k11 d s f i
  ·
   have e1:(x == 1)=false:=by simpa using e
   simp only [e1,Bool.false_eq_true,if_false]
   exact law2 _ (offs_mv o x hx e) d s f i
theorem off_in (f:Int):(f == 0 || inR f (-32768) 32767)=(decide (-32768<=f) && decide (f<=32767)):=by
 rw [Bool.eq_iff_iff];simp [inR];omega
def wJ4 (o:Int):List UInt8:=pick2 jumpT (shrO o) (cls o == 6)
theorem find1 (o d s f i:Int) (h:formP o=1) (hp:pickO o=expO o) (hk:kinB o=true):Fnd o d s f i ⟨wJ4 o,10,o,0,0⟩:=by
 have ho:o=149:=by simp [kinB,h] at hk;exact hk
 have he:expO o=[⟨wJ4 o,10,o,0,0⟩]:=by simp [expO,h,wJ4]
 unfold Fnd findR
 rw [hp,he,find_one]
 have hf:fitO o d s f i=(d == 0 && (s == 0 && (f == 0 && i == 0))):=by
  subst ho
  unfold fitO fitP dstP srcP offP immP
  rw [h,show useD 149 1=false by decide,show useS 149 1=false by decide,show useO 149 1=false by decide,show useI 149 1=false by decide,show ordersP 149=false by decide]
  rw [Bool.eq_iff_iff];simp
 have hl:(ofR ⟨wJ4 o,10,o,0,0⟩ o s f i && lawR ⟨wJ4 o,10,o,0,0⟩ o d s f i)=(d == 0 && (s == 0 && (f == 0 && i == 0))):=by
  simp [ofR,opR,lawR,usR,Bool.and_assoc]
 rw [hf,hl]
theorem find9 (o d s f i:Int) (h:formP o=9) (hp:pickO o=expO o) (hk:kinB o=true):Fnd o d s f i ⟨wJ4 o,9,o,0,0⟩:=by
 have ho:o=133:=by simp [kinB,h] at hk;exact hk
 have he:expO o=[⟨wJ4 o,9,o,0,0⟩]:=by simp [expO,h,wJ4]
 unfold Fnd findR
 rw [hp,he,find_one]
 have hf:fitO o d s f i=(d == 0 && ((s == 0 || s == 1) && (f == 0 && inR i (-2147483648) 2147483647))):=by
  subst ho
  unfold fitO fitP dstP srcP offP immP inR
  rw [h,show useD 133 9=false by decide,show useS 133 9=false by decide,show useO 133 9=false by decide,show useI 133 9=true by decide]
  rw [Bool.eq_iff_iff];simp
 have hl:(ofR ⟨wJ4 o,9,o,0,0⟩ o s f i && lawR ⟨wJ4 o,9,o,0,0⟩ o d s f i)=(d == 0 && ((s == 0 || s == 1) && (f == 0 && inR i (-2147483648) 2147483647))):=by
  simp [ofR,opR,lawR,usR,Bool.and_assoc]
 rw [hf,hl]
theorem find10 (o d s f i:Int) (h:formP o=10) (hp:pickO o=expO o) (hk:kinB o=true):Fnd o d s f i (if s=0 then ⟨[108,100,100,119],11,24,0,0⟩ else ⟨[108,100,109,97,112],12,24,0,0⟩):=by
 have ho:o=24:=by simp [kinB,h] at hk;exact hk
 have he:expO o=[⟨[108,100,100,119],11,24,0,0⟩,⟨[108,100,109,97,112],12,24,0,0⟩]:=by simp [expO,h]
 subst ho
 unfold Fnd findR
 rw [hp,he,find_two,find_one]
 have hf:fitO 24 d s f i=(isReg d && ((s == 0 || s == 1) && (f == 0 && (s == 0 || inR i (-2147483648) 2147483647)))):=by
  unfold fitO fitP dstP srcP offP immP inR
  rw [h,show useD 24 10=true by decide,show useS 24 10=false by decide,show useO 24 10=false by decide,show useI 24 10=true by decide]
  rw [Bool.eq_iff_iff];simp
 have hl:(ofR ⟨[108,100,100,119],11,24,0,0⟩ 24 s f i && lawR ⟨[108,100,100,119],11,24,0,0⟩ 24 d s f i)=(s == 0 && (isReg d && f == 0)):=by
  simp only [ofR,lawR,usR]
  simp [reg_in]
  cases (s == 0) <;> simp
 have hl2:(ofR ⟨[108,100,109,97,112],12,24,0,0⟩ 24 s f i && lawR ⟨[108,100,109,97,112],12,24,0,0⟩ 24 d s f i)=(s == 1 && (isReg d && (f == 0 && inR i (-2147483648) 2147483647))):=by
  simp only [ofR,lawR,usR]
  simp [reg_in]
  cases hs:(s == 1) <;> simp [Bool.and_assoc]
 rw [hf,hl,hl2]
 by_cases h0:s=0
 · subst h0;simp
 ·
  have e0:(s == 0)=false:=by simpa using h0
  rw [if_neg h0,e0]
  cases (s == 1) <;> cases isReg d <;> simp
theorem find7 (o d s f i:Int) (h:formP o=7) (hp:pickO o=expO o) (hk:kinB o=true):Fnd o d s f i ⟨wJ4 o,7,o,0,0⟩:=by
 have he:expO o=[⟨wJ4 o,7,o,0,0⟩]:=by simp [expO,h,wJ4]
 unfold Fnd findR
 rw [hp,he,find_one]
 simp only [kinB,h] at hk
 simp at hk
 obtain ⟨⟨⟨k1,k2⟩,k3⟩,k4⟩:=hk
 have hf:fitO o d s f i=(ofR ⟨wJ4 o,7,o,0,0⟩ o s f i && lawR ⟨wJ4 o,7,o,0,0⟩ o d s f i):=by
  unfold fitO fitP dstP srcP offP immP
  rw [h,k1,k2,k3]
  rcases k4 with ⟨⟨e,a⟩,b⟩ | ⟨⟨e,a⟩,b⟩
  ·
   rw [a,b];subst e
   rw [Bool.eq_iff_iff];simp [ofR,opR,lawR,usR,inR];try omega
  ·
   rw [a,b];subst e
   rw [Bool.eq_iff_iff];simp [ofR,opR,lawR,usR,inR];try omega
 rw [hf]
theorem find4 (o d s f i:Int) (h:formP o=4) (hp:pickO o=expO o) (hk:kinB o=true):Fnd o d s f i ⟨wMem o 0,4,o,0,0⟩:=by
 have he:expO o=[⟨wMem o 0,4,o,0,0⟩]:=by simp [expO,h]
 unfold Fnd findR
 rw [hp,he,find_one]
 simp only [kinB,h] at hk
 simp at hk
 obtain ⟨⟨⟨⟨⟨k1,k2⟩,k3⟩,k4⟩,k5⟩,k6⟩:=hk
 have hf:fitO o d s f i=(ofR ⟨wMem o 0,4,o,0,0⟩ o s f i && lawR ⟨wMem o 0,4,o,0,0⟩ o d s f i):=by
  unfold fitO fitP dstP srcP offP immP
  rw [h,k1,k2,k3,k4,k5]
  simp [ofR,opR,lawR,usR,off_in,reg_in,Bool.and_assoc]
 rw [hf]
theorem find5 (o d s f i:Int) (h:formP o=5) (hp:pickO o=expO o) (hk:kinB o=true):Fnd o d s f i ⟨wMem o 0,if useS o 5 then 6 else 5,o,0,0⟩:=by
 have he:expO o=[⟨wMem o 0,if useS o 5 then 6 else 5,o,0,0⟩]:=by simp [expO,h]
 unfold Fnd findR
 rw [hp,he,find_one]
 simp only [kinB,h] at hk
 simp at hk
 obtain ⟨⟨⟨⟨⟨⟨k1,k2⟩,k3⟩,k4⟩,k5⟩,k6⟩,k7⟩:=hk
 have hf:fitO o d s f i=(ofR ⟨wMem o 0,if useS o 5 then 6 else 5,o,0,0⟩ o s f i && lawR ⟨wMem o 0,if useS o 5 then 6 else 5,o,0,0⟩ o d s f i):=by
  unfold fitO fitP dstP srcP offP immP
  rw [h,k1,k2,k3,k4]
  cases hu:useI o 5
  · simp [ofR,opR,lawR,usR,off_in,reg_in,Bool.and_assoc,k6,k7]
  · rw [Bool.eq_iff_iff];simp [ofR,opR,lawR,usR,inR,isReg];omega
 rw [hf]
theorem find6 (o d s f i:Int) (h:formP o=6) (hp:pickO o=expO o) (hk:kinB o=true):Fnd o d s f i ⟨wImm o i,6,o,0,i⟩:=by
 have he:expO o=immsT.map (fun x=>⟨wImm o x,6,o,0,x⟩):=by simp [expO,h]
 unfold Fnd findR
 simp only [kinB,h] at hk
 simp at hk
 obtain ⟨⟨⟨⟨⟨⟨k1,k2⟩,k3⟩,k4⟩,k5⟩,k6⟩,k7⟩:=hk
 have hc:(!(o == 219) && !(o == 195))=false:=by rcases k7 with e | e <;> subst e <;> rfl
 rw [hp,he,find_map4 _ (fun x=>⟨wImm o x,6,o,0,x⟩) i (isReg d && (isReg s && (decide (-32768<=f) && decide (f<=32767)))) immsT (fun x hx=>?_)]
 ·
  have hf:fitO o d s f i=((isReg d && (isReg s && (decide (-32768<=f) && decide (f<=32767)))) && immsT.contains i):=by
   unfold fitO fitP dstP srcP offP immP atomP
   rw [h,k1,k2,k3,k4]
   simp [Bool.and_assoc]
  rw [hf]
 ·
  have e1:ofR ⟨wImm o x,6,o,0,x⟩ o s f i=(i == x):=by
   simp only [ofR]
   simp
   intro a b
   rcases k7 with e | e <;> simp [e] at a b
  rw [e1]
  simp only [lawR,usR]
  simp [reg_in,off_in]
  cases (i == x) <;> simp [Bool.and_assoc]
theorem find8 (o d s f i:Int) (h:formP o=8) (hp:pickO o=expO o) (hk:kinB o=true):Fnd o d s f i ⟨wJ4 o,8,bOp o,0,0⟩:=by
 have he:expO o=[⟨wJ4 o,8,bOp o,0,0⟩]:=by simp [expO,h,wJ4]
 unfold Fnd findR
 rw [hp,he,find_one]
 simp only [kinB,h] at hk
 simp at hk
 obtain ⟨⟨⟨⟨⟨⟨⟨⟨⟨k1,k2⟩,k3⟩,k4⟩,k5⟩,k6⟩,k7⟩,k8⟩,k9⟩,k10⟩:=hk
 have e1:opR ⟨wJ4 o,8,bOp o,0,0⟩ o=true:=by simp [opR,twoR];omega
 have e2:secR ⟨wJ4 o,8,bOp o,0,0⟩ o=hasSrc o:=by simp [secR,twoR,k10]
 have e3:ofR ⟨wJ4 o,8,bOp o,0,0⟩ o s f i=true:=by simp [ofR,e1]
 have e4:usR ⟨wJ4 o,8,bOp o,0,0⟩ o=(true,hasSrc o,true, !hasSrc o):=by simp [usR,e2]
 have hf:fitO o d s f i=(ofR ⟨wJ4 o,8,bOp o,0,0⟩ o s f i && lawR ⟨wJ4 o,8,bOp o,0,0⟩ o d s f i):=by
  rw [e3]
  unfold lawR
  rw [e4]
  unfold fitO fitP dstP srcP offP immP
  rw [h,k1,k2,k3,k4,k5]
  cases hasSrc o
  all_goals
   rw [Bool.eq_iff_iff];simp [inR,isReg];omega
 rw [hf]
theorem find2 (o d s f i:Int) (h:formP o=2) (hp:pickO o=expO o) (hk:kinB o=true):Fnd o d s f i (if ordersP o then ⟨wImm o i,3,o,0,i⟩ else ⟨wReck o 0 0,3,o,0,0⟩):=by
 unfold Fnd findR
 simp only [kinB,h] at hk
 simp at hk
 obtain ⟨⟨⟨⟨⟨k1,k2⟩,k3⟩,k4⟩,k5⟩,k6⟩:=hk
 cases ho:ordersP o
 ·
  have he:expO o=[⟨wReck o 0 0,3,o,0,0⟩]:=by simp [expO,h,ho]
  have hf:fitO o d s f i=(ofR ⟨wReck o 0 0,3,o,0,0⟩ o s f i && lawR ⟨wReck o 0 0,3,o,0,0⟩ o d s f i):=by
   unfold fitO fitP dstP srcP offP immP
   rw [h,k1,k2,k3,k4,ho]
   rw [Bool.eq_iff_iff];simp [ofR,opR,lawR,usR,inR,isReg];omega
  rw [hp,he,find_one,hf]
  simp
 ·
  have he:expO o=[16,32,64].map (fun x=>⟨wImm o x,3,o,0,x⟩):=by simp [expO,h,ho]
  rw [hp,he,find_map4 _ (fun x=>⟨wImm o x,3,o,0,x⟩) i (isReg d && (s == 0 && f == 0)) [16,32,64] (fun x hx=>?_)]
  ·
   have hf:fitO o d s f i=((isReg d && (s == 0 && f == 0)) && [16,32,64].contains i):=by
    unfold fitO fitP dstP srcP offP immP
    rw [h,k1,k2,k3,k4,ho]
    rw [Bool.eq_iff_iff]
    simp [Bool.and_assoc,or_assoc]
   rw [hf]
   simp
  ·
   simp only [ofR,lawR,usR]
   simp [reg_in]
   cases (i == x) <;> simp [Bool.and_assoc]
def tgB (o:Int):Bool:=
 (!(formP o == 3 || formP o == 2 || formP o == 4 || formP o == 5 || formP o == 6 || formP o == 8) || (!(o == 149) && !(o == 133) && !(o == 24) && !(o == 5) && !(o == 6))) &&
 (!(formP o == 3) || ((o.tmod 8 == 4 || o.tmod 8 == 7) && !(o.tdiv 16 == 8) && !(o.tdiv 16 == 13))) && (!(formP o == 2) || ((o.tmod 8 == 4 || o.tmod 8 == 7) && (o.tdiv 16 == 8 || o.tdiv 16 == 13))) &&
 (!(formP o == 4) || o.tmod 8 == 1) && (!(formP o == 5) || (o.tmod 8 == 2 || o.tmod 8 == 3)) && (!(formP o == 6) || o.tmod 8 == 3) && (!(formP o == 8) || (o.tmod 8 == 5 || o.tmod 8 == 6))
theorem tg_all:∀ l ∈ opsT,∀ o ∈ l,tgB o=true:=by decide +kernel
theorem tgt_none (o s f i:Int) (hf:formP o=1\/formP o=2\/formP o=3\/formP o=4\/formP o=5\/formP o=6) (h:tgB o=true) (hk:kinB o=true):tgtR o s f i=(false,0):=by
 have key:¬(shapeR o s f=7\/shapeR o s f=8)/\¬shapeR o s f=9/\¬shapeR o s f=12:=by
  rcases hf with e | e | e | e | e | e
  ·
   have ho:o=149:=by simp [kinB,e] at hk;exact hk
   subst ho;simp [shapeR]
  all_goals
   simp only [tgB,e] at h
   simp at h
   obtain ⟨⟨⟨⟨⟨a,b⟩,c⟩,d'⟩,e'⟩,g⟩:=h
   simp only [shapeR,a,b,c,d',e',if_false,false_and,or_self]
   repeat' split
   all_goals first | (simp;done) | (exfalso;omega) | (exfalso;simp_all;done) | (exfalso;simp_all;omega)
 unfold tgtR
 rw [if_neg key.1,if_neg key.2.1,if_neg key.2.2]
theorem tgt8 (o s f i:Int) (e:formP o=8) (h:tgB o=true):tgtR o s f i=(true,f):=by
 simp only [tgB,e] at h
 simp at h
 obtain ⟨⟨⟨⟨⟨a,b⟩,c⟩,d'⟩,e'⟩,g⟩:=h
 have h8:shapeR o s f=8:=by
  simp only [shapeR,a,b,c,d',e',if_false,false_and,or_self]
  rcases g with g | g <;> simp [g]
 unfold tgtR
 rw [if_pos (.inr h8),if_neg e']
theorem bool_neg (a b:Bool):(false && a || !false && !b) = !b:=by cases b <;> rfl
def Prt (o d s f i:Int) (t:List UInt8) (r:Rw):Prop:=fitO o d s f i=true->((tgtR o s f i).1 && (!nameP t || (tgtR o s f i).2 != 0) || !(tgtR o s f i).1 && !t.isEmpty) = !tfitP o s f i t/\lineR r o d s f i t=lineP o d s f i t
theorem two_ne {o:Int} (k10:bOp o+8=o\/bOp o=o) (k11:hasSrc o=(o == bOp o+8)):(o != bOp o)=hasSrc o:=by
 rw [k11,Bool.eq_iff_iff];simp;omega
theorem prt3 (o d s f i:Int) (t:List UInt8) (h:formP o=3) (hk:kinB o=true) (ht:tgB o=true):Prt o d s f i t (if f=0 then ⟨wReck o 0 0,1,bOp o,0,0⟩ else ⟨wOff o f,if f == 1 then 1 else 2,if f == 1 then bOp o else o,f,0⟩):=by
 intro hfit
 have hk0:=hk
 simp only [kinB,h] at hk
 simp at hk
 obtain ⟨⟨⟨⟨⟨⟨⟨⟨⟨⟨k1,k2⟩,k3⟩,k4⟩,k5⟩,k6⟩,k7⟩,k8⟩,k9⟩,k10⟩,k11⟩:=hk
 have hv:f=0\/f=1\/8<=f:=by
  unfold fitO fitP offP at hfit
  simp only [h,k1] at hfit
  simp at hfit
  rcases hfit.2.2.1 with e | e
  · exact .inl e
  ·
   unfold variantP at e
   split at e
   · simp at e;exact .inr (.inl e)
   ·
    split at e
    · simp at e;exact .inr (.inl e)
    ·
     split at e
     · simp at e;omega
     · cases e
 refine ⟨?_, ?_⟩
 ·
  rw [tgt_none o s f i (.inr (.inr (.inl h))) ht hk0,bool_neg]
  simp [tfitP,h]
 ·
  have hw:wordP o s f i=wReck o f i:=by
   unfold wordP
   rw [if_neg k7]
   rcases k8 with e | e <;> simp [e]
  have h2:∀ x,twoR ⟨x,1,bOp o,f,0⟩=true:=fun x=>rfl
  unfold lineP
  rw [hw]
  have ht0:tOf o s f=if 8<=f then (1,2,0) else (1,4,0):=by unfold tOf opdsP;rw [h];simp
  rw [ht0]
  rcases hv with e | e | e
  ·
   subst e
   have hr:wReck o 0 i=wReck o 0 0:=by simp [wReck,k9]
   rw [hr]
   simp only [if_true]
   rw [if_neg (by omega)]
   simp [lineR,tailP,opdTx,twoR,two_ne k10 k11]
  ·
   subst e
   rw [if_neg (by omega)]
   simp [lineR,tailP,opdTx,twoR,two_ne k10 k11,wReck]
  ·
   have e0:¬f=0:=by omega
   have e1:(f == 1)=false:=by simp;omega
   rw [if_pos e,if_neg e0,e1]
   simp [lineR,tailP,opdTx,wReck,e0]
theorem prt1 (o d s f i:Int) (t:List UInt8) (h:formP o=1) (hk:kinB o=true) (ht:tgB o=true):Prt o d s f i t ⟨wJ4 o,10,o,0,0⟩:=by
 intro hfit
 refine ⟨?_, ?_⟩
 ·
  rw [tgt_none o s f i (.inl h) ht hk,bool_neg]
  simp [tfitP,h]
 ·
  have ho:o=149:=by simp [kinB,h] at hk;exact hk
  subst ho
  have hw:wordP 149 s f i=wJ4 149:=by
   unfold wordP wJ4
   rw [show cls 149=5 by decide]
   simp
  have ht0:tOf 149 s f=(0,0,0):=by unfold tOf opdsP;rw [h];simp
  simp [lineP,hw,ht0,lineR,tailP]
theorem prt2 (o d s f i:Int) (t:List UInt8) (h:formP o=2) (hk:kinB o=true) (ht:tgB o=true):Prt o d s f i t (if ordersP o then ⟨wImm o i,3,o,0,i⟩ else ⟨wReck o 0 0,3,o,0,0⟩):=by
 intro hfit
 have hk0:=hk
 simp only [kinB,h] at hk
 simp at hk
 obtain ⟨⟨⟨⟨⟨k1,k2⟩,k3⟩,k4⟩,k5⟩,k6⟩:=hk
 have hf0:f=0:=by
  unfold fitO fitP offP at hfit
  simp only [h,k1] at hfit
  simp at hfit
  exact hfit.2.2.1
 refine ⟨?_, ?_⟩
 ·
  rw [tgt_none o s f i (.inr (.inl h)) ht hk0,bool_neg]
  simp [tfitP,h]
 ·
  have hw:wordP o s f i=wReck o f i:=by
   unfold wordP
   have:¬cls o=0:=by omega
   rw [if_neg this]
   rcases k5 with e | e <;> simp [e]
  have ht0:tOf o s f=(1,0,0):=by unfold tOf opdsP;rw [h];simp
  subst hf0
  unfold lineP
  rw [hw,ht0]
  cases ho:ordersP o
  ·
   rw [ho] at k6
   have k6':¬shrO o=13:=by intro e;rw [e] at k6;simp at k6
   simp [lineR,tailP,opdTx,wReck,k6']
  ·
   rw [ho] at k6
   have k6':shrO o=13:=by simpa using k6.symm
   simp [lineR,tailP,opdTx,wReck,k6']
theorem prt4 (o d s f i:Int) (t:List UInt8) (h:formP o=4) (hk:kinB o=true) (ht:tgB o=true) (hm:wMem o i=wMem o 0):Prt o d s f i t ⟨wMem o 0,4,o,0,0⟩:=by
 intro hfit
 have hk0:=hk
 simp only [kinB,h] at hk
 simp at hk
 obtain ⟨⟨⟨⟨⟨k1,k2⟩,k3⟩,k4⟩,k5⟩,k6⟩:=hk
 refine ⟨?_, ?_⟩
 ·
  rw [tgt_none o s f i (.inr (.inr (.inr (.inl h)))) ht hk0,bool_neg]
  simp [tfitP,h]
 ·
  have hw:wordP o s f i=wMem o 0:=by
   unfold wordP
   rw [k6, <-hm]
   simp
  have ht0:tOf o s f=(1,5,0):=by unfold tOf opdsP;rw [h];simp
  simp [lineP,hw,ht0,lineR,tailP,opdTx,placeR]
theorem prt5 (o d s f i:Int) (t:List UInt8) (h:formP o=5) (hk:kinB o=true) (ht:tgB o=true) (hm:wMem o i=wMem o 0):Prt o d s f i t ⟨wMem o 0,if useS o 5 then 6 else 5,o,0,0⟩:=by
 intro hfit
 have hk0:=hk
 simp only [kinB,h] at hk
 simp at hk
 obtain ⟨⟨⟨⟨⟨⟨k1,k2⟩,k3⟩,k4⟩,k5⟩,k6⟩,k7⟩:=hk
 refine ⟨?_, ?_⟩
 ·
  rw [tgt_none o s f i (.inr (.inr (.inr (.inr (.inl h))))) ht hk0,bool_neg]
  simp [tfitP,h]
 ·
  have hw:wordP o s f i=wMem o 0:=by
   unfold wordP
   rw [<-hm]
   rcases k5 with e | e <;> simp [e]
  have ht0:tOf o s f=if useS o 5 then (6,2,0) else (6,3,0):=by unfold tOf opdsP;rw [h];simp
  unfold lineP
  rw [hw,ht0]
  cases useS o 5 <;> simp [lineR,tailP,opdTx,placeR,twoR]
theorem prt6 (o d s f i:Int) (t:List UInt8) (h:formP o=6) (hk:kinB o=true) (ht:tgB o=true) (hm:wMem o i=wImm o i):Prt o d s f i t ⟨wImm o i,6,o,0,i⟩:=by
 intro hfit
 have hk0:=hk
 simp only [kinB,h] at hk
 simp at hk
 obtain ⟨⟨⟨⟨⟨⟨k1,k2⟩,k3⟩,k4⟩,k5⟩,k6⟩,k7⟩:=hk
 refine ⟨?_, ?_⟩
 ·
  rw [tgt_none o s f i (.inr (.inr (.inr (.inr (.inr h))))) ht hk0,bool_neg]
  simp [tfitP,h]
 ·
  have hw:wordP o s f i=wImm o i:=by
   unfold wordP
   rw [k6, <-hm]
   simp
  have ht0:tOf o s f=(6,2,0):=by unfold tOf opdsP;rw [h,k3];simp
  simp [lineP,hw,ht0,lineR,tailP,opdTx,placeR]
theorem prt7 (o d s f i:Int) (t:List UInt8) (h:formP o=7) (hk:kinB o=true):Prt o d s f i t ⟨wJ4 o,7,o,0,0⟩:=by
 intro hfit
 simp only [kinB,h] at hk
 simp at hk
 obtain ⟨⟨⟨k1,k2⟩,k3⟩,k4⟩:=hk
 have ht0:tOf o s f=(7,0,0):=by unfold tOf opdsP;rw [h];simp
 have hz:(o=5/\i=0)\/(o=6/\f=0):=by
  unfold fitO fitP offP immP at hfit
  rw [h,k3] at hfit
  rcases k4 with ⟨⟨e,a⟩,b⟩ | ⟨⟨e,a⟩,b⟩
  · rw [a,b] at hfit;simp at hfit;exact .inl ⟨e,hfit.2.2.2⟩
  · rw [a,b] at hfit;simp at hfit;exact .inr ⟨e,hfit.2.2.1⟩
 refine ⟨?_, ?_⟩
 ·
  rcases hz with ⟨e,e2⟩ | ⟨e,e2⟩
  ·
   subst e e2
   simp only [tgtR,shapeR,tfitP,h]
   cases nameP t <;> simp [bne]
  ·
   subst e e2
   simp only [tgtR,shapeR,tfitP,h]
   cases nameP t <;> simp [bne]
 ·
  have hw:wordP o s f i=wJ4 o:=by
   rcases hz with ⟨e,_⟩ | ⟨e,_⟩
   · subst e;unfold wordP wJ4;rw [show cls 5=5 by decide];simp
   · subst e;unfold wordP wJ4;rw [show cls 6=6 by decide];simp
  simp [lineP,hw,ht0,lineR,tailP,opdTx]
theorem prt8 (o d s f i:Int) (t:List UInt8) (h:formP o=8) (hk:kinB o=true) (ht:tgB o=true):Prt o d s f i t ⟨wJ4 o,8,bOp o,0,0⟩:=by
 intro hfit
 simp only [kinB,h] at hk
 simp at hk
 obtain ⟨⟨⟨⟨⟨⟨⟨⟨⟨k1,k2⟩,k3⟩,k4⟩,k5⟩,k6⟩,k7⟩,k8⟩,k9⟩,k10⟩:=hk
 have ht0:tOf o s f=(1,4,7):=by unfold tOf opdsP;rw [h];simp
 refine ⟨?_, ?_⟩
 ·
  rw [tgt8 o s f i h ht]
  simp only [tfitP,h]
  cases nameP t <;> simp [bne]
 ·
  have hw:wordP o s f i=wJ4 o:=by
   unfold wordP wJ4
   rcases k6 with e | e <;> simp [e]
  simp [lineP,hw,ht0,lineR,tailP,opdTx,twoR,two_ne k9 k10]
theorem prt9 (o d s f i:Int) (t:List UInt8) (h:formP o=9) (hk:kinB o=true):Prt o d s f i t ⟨wJ4 o,9,o,0,0⟩:=by
 intro hfit
 have ho:o=133:=by simp [kinB,h] at hk;exact hk
 have ht0:tOf o s f=(8,0,0):=by unfold tOf opdsP;rw [h];simp
 have hs:s=0\/s=1:=by
  subst ho
  unfold fitO fitP srcP at hfit
  rw [h,show useS 133 9=false by decide] at hfit
  simp at hfit
  exact hfit.2.1
 have hg:tgtR o s f i=(s == 1,i+1):=by subst ho;simp [tgtR,shapeR]
 refine ⟨?_, ?_⟩
 ·
  rw [hg]
  rcases hs with e | e
  · subst e;simp [tfitP,h]
  ·
   subst e
   simp only [tfitP,h]
   have:((i+1 != 0)) = !(i == -1):=by rw [Bool.eq_iff_iff];simp;omega
   simp only [this]
   cases nameP t <;> simp [bne]
 ·
  have hw:wordP o s f i=wJ4 o:=by
   subst ho;unfold wordP wJ4;rw [show cls 133=5 by decide];simp
  rcases hs with e | e <;> subst e <;> simp [lineP,hw,ht0,lineR,tailP,opdTx,hg,twoR]
theorem prt10 (o d s f i:Int) (t:List UInt8) (h:formP o=10) (hk:kinB o=true):Prt o d s f i t (if s=0 then ⟨[108,100,100,119],11,24,0,0⟩ else ⟨[108,100,109,97,112],12,24,0,0⟩):=by
 intro hfit
 have ho:o=24:=by simp [kinB,h] at hk;exact hk
 have hs:s=0\/s=1:=by
  subst ho
  unfold fitO fitP srcP at hfit
  rw [h,show useS 24 10=false by decide] at hfit
  simp at hfit
  exact hfit.2.1
 have hc:cls 24=0:=by decide
 rcases hs with e | e
 ·
  have hg:tgtR o s f i=(false,0):=by subst ho e;simp [tgtR,shapeR]
  have ht0:tOf o s f=(1,3,0):=by unfold tOf opdsP;rw [h,e];simp
  refine ⟨?_, ?_⟩
  · rw [hg,bool_neg];subst e;simp [tfitP,h]
  · subst ho e;simp [lineP,ht0,lineR,tailP,opdTx,twoR,wordP,hc]
 ·
  have hg:tgtR o s f i=(true,i):=by subst ho e;simp [tgtR,shapeR]
  have ht0:tOf o s f=(1,7,0):=by unfold tOf opdsP;rw [h,e];simp
  refine ⟨?_, ?_⟩
  · rw [hg];subst e;simp only [tfitP,h];cases nameP t <;> simp [bne]
  · subst ho e;simp [lineP,ht0,lineR,tailP,opdTx,twoR,wordP,hc]
def memB (o:Int):Bool:=(!(formP o == 4 || formP o == 5) || (memT.find? (fun r=>bits .andNot .i64 o 24 == r.1)).isSome) && (!(formP o == 6) || (memT.find? (fun r=>bits .andNot .i64 o 24 == r.1)).isNone)
theorem mem_all4:∀ l ∈ opsT,∀ o ∈ l,memB o=true:=by decide +kernel
theorem rprint_eq (o d s f i:Int) (t:List UInt8):rprintP o d s f i t=printP o d s f i t:=by
 by_cases h0:formP o=0
 · simp [rprintP,findR,pick_none o h0,printP,mayP,h0]
 obtain ⟨l,hl,ho⟩:=form_mem4 o h0
 have hp:=pick_kinds l hl o ho
 have hk:=kin_all l hl o ho
 have ht:=tg_all l hl o ho
 have hm:=mem_all4 l hl o ho
 have key:∀ r,Fnd o d s f i r->Prt o d s f i t r->¬pickO o=[]->rprintP o d s f i t=printP o d s f i t:=fun r hf hr hn=>by
  have hmay:mayP o d s f i=if fitO o d s f i then 0 else 21:=by simp [mayP,h0]
  unfold rprintP printP
  rw [hmay,show findR o d s f i=_ from hf]
  cases hfit:fitO o d s f i
  · simp [hn]
  ·
   obtain ⟨e1,e2⟩:=hr hfit
   simp only [if_true]
   rw [e1,e2]
   cases tfitP o s f i t <;> simp
 have hne:¬pickO o=[]:=by
  rw [hp];unfold expO
  repeat' split
  all_goals simp [immsT]
 have h1:1<=formP o/\formP o<=10:=by simp [kinB] at hk;exact hk.2
 rcases (show formP o=1\/formP o=2\/formP o=3\/formP o=4\/formP o=5\/formP o=6\/formP o=7\/formP o=8\/formP o=9\/formP o=10 by omega) with e | e | e | e | e | e | e | e | e | e
 · exact key _ (find1 o d s f i e hp hk) (prt1 o d s f i t e hk ht) hne
 · exact key _ (find2 o d s f i e hp hk) (prt2 o d s f i t e hk ht) hne
 · exact key _ (find3 o d s f i e hp hk) (prt3 o d s f i t e hk ht) hne
 ·
  have hw:wMem o i=wMem o 0:=by
   have hm2:(memT.find? (fun r=>bits .andNot .i64 o 24 == r.1)).isSome=true:=by unfold memB at hm;rw [e] at hm;exact (Bool.and_eq_true _ _ ▸ hm).1
   unfold wMem
   split
   · rfl
   · rename_i hx;rw [hx] at hm2;cases hm2
  exact key _ (find4 o d s f i e hp hk) (prt4 o d s f i t e hk ht hw) hne
 ·
  have hw:wMem o i=wMem o 0:=by
   have hm2:(memT.find? (fun r=>bits .andNot .i64 o 24 == r.1)).isSome=true:=by unfold memB at hm;rw [e] at hm;exact (Bool.and_eq_true _ _ ▸ hm).1
   unfold wMem
   split
   · rfl
   · rename_i hx;rw [hx] at hm2;cases hm2
  exact key _ (find5 o d s f i e hp hk) (prt5 o d s f i t e hk ht hw) hne
 ·
  have hw:wMem o i=wImm o i:=by
   have hm2:(memT.find? (fun r=>bits .andNot .i64 o 24 == r.1)).isNone=true:=by unfold memB at hm;rw [e] at hm;exact (Bool.and_eq_true _ _ ▸ hm).2
   unfold wMem
   split
   · rename_i hx;rw [hx] at hm2;cases hm2
   · rfl
  exact key _ (find6 o d s f i e hp hk) (prt6 o d s f i t e hk ht hw) hne
 · exact key _ (find7 o d s f i e hp hk) (prt7 o d s f i t e hk) hne
 · exact key _ (find8 o d s f i e hp hk) (prt8 o d s f i t e hk ht) hne
 · exact key _ (find9 o d s f i e hp hk) (prt9 o d s f i t e hk) hne
 · exact key _ (find10 o d s f i e hp hk) (prt10 o d s f i t e hk) hne
end Go.Proofs.YtadneimllbfdnaaGreatDoor
