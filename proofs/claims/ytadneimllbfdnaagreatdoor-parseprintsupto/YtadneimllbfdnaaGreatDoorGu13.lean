import Derived.Test.YtadneimllbfdnaaGreatDoorGu12
import Derived.Lib.ItoaNum
import Derived.Maps.OwnSet
namespace Go.Proofs.YtadneimllbfdnaaGreatDoor
open Go.RowKit
set_option linter.unusedVariables false
set_option linter.unusedSimpArgs false
set_option maxRecDepth 200000 in
set_option maxHeartbeats 1600000 in
theorem number32 (w:World) (p:Nat) (r:RS) (h:RdAt w p r.cells) (hs:Sm r) (HE:Hid (ErrR w)) (below:Bool) (high:Int):Calls Tryz.prog 189 #[.pointer (some ⟨p,0,none⟩),.bool below,.int .i64 32,.int .u64 high] w fun e w'=>e=.returned (.int .i64 (numV below 32 r))/\MEnd p (numS below 2147483648 high r) w w':=by
 have CV:Hid (Calls Tryz.prog 199 #[.string ⟨r.tok.toArray⟩] w fun e w'=>e=.returned (.tuple #[.int .u64 (valP r.tok).1,.bool (valP r.tok).2.1,.bool (valP r.tok).2.2])/\Below w.heap.size w w'):=by
  have h:=valueOf_any ⟨r.tok.toArray⟩ (by rw [mk_size];have:=hs.2;omega) w HE
  rw [mk_list] at h
  exact h
 have HB:=valP_rng r.tok
 have HS:Hid (numS below 2147483648 high r = { numR (valP r.tok).2.2 r with outside:=r.outside || ((valP r.tok).2.1 || decide ((if below then 2147483648 else high)<(valP r.tok).1)) }):=hidOf rfl
 have HV:Hid (numV below 32 r=wrap64 (Wo.sgnW 32 (if below then Wo.negW (valP r.tok).1 else (valP r.tok).1))):=hidOf rfl
 generalize numS below 2147483648 high r=rn at *
 generalize numV below 32 r=vn at *
 generalize valP r.tok=v at *
 obtain ⟨n,hg,ok⟩:=v
 simp only at CV HB HS HV
 have CX:Hid (∀ wx:World,RdAt wx p ({ r with wrong:=r.wrong || !ok } : RS).cells->Calls Tryz.prog 106 #[.pointer (some ⟨p,0,none⟩)] wx fun e w'=>(∃ v,e=.returned v)/\MEnd p (numR ok r) wx w'):=fun wx hx=>nextR wx p _ hx hs
 have H:=hidOf h
 have c1:w.cell? ⟨p,1,none⟩=some (.string ⟨r.tok.toArray⟩):=h.cell 1
 have CN:Hid (∀ wx:World,Calls Tryz.prog 200 #[.int .u64 n] wx fun e w'=>e=.returned (.int .u64 (Wo.negW n))/\w'=wx):=fun wx=>Wo.Neg_any n wx
 have CS:Hid (∀ wx:World,Calls Tryz.prog 201 #[.int .u64 n,.int .i64 32] wx fun e w'=>e=.returned (.int .u64 (Wo.sgnW 32 n))/\w'=wx):=fun wx=>Wo.Sign_any n 32 wx HB.1 HB.2
 have CT:Hid (∀ wx:World,Calls Tryz.prog 201 #[.int .u64 (Wo.negW n),.int .i64 32] wx fun e w'=>e=.returned (.int .u64 (Wo.sgnW 32 (Wo.negW n)))/\w'=wx):=fun wx=>Wo.Sign_any _ 32 wx (negW_rng n).1 (negW_rng n).2
 have HO:Hid ((numR ok r).outside=r.outside):=hidOf rfl
 clear h hs HE HB
 generalize hw:r.wrong=rw at *
 have HC:Hid (∀ (wx:World) (b:Bool),b=(rw || !ok)->Below w.heap.size w wx->RdAt (wx.setCell ⟨p,8,none⟩ (.bool b)) p #[tx r.rest,tx r.tok,.int .i64 r.o,.int .i64 r.d,.int .i64 r.s,.int .i64 r.f,.int .i64 r.i,tx r.tgt,.bool (rw || !ok),.bool r.outside]/\Chg (fun k=>k=p) w (wx.setCell ⟨p,8,none⟩ (.bool b))):=fun wx b hb hbl=>hb ▸ ⟨(H.out.below hbl).set 8 _,Chg.setCell (Chg.of_out (S:=fun k=>k=p) hbl) (p:=⟨p,8,none⟩) (show p=p from rfl) _⟩
 have HD:Hid (∀ wx:World,Below w.heap.size w wx->wx.cell? ⟨p,8,none⟩=some (.bool rw)/\wx.frozen? ⟨p,8,none⟩=false):=fun wx hbl=>⟨by rw [<-hw];exact (H.out.below hbl).cell 8,(H.out.below hbl).frozen 8⟩
 clear hw
 cases below
 ·
  simp only [Bool.false_eq_true,if_false,if_true] at HS HV
  cases hg
  ·
   by_cases hn:high<n
   ·
    have HSo:Hid (rn = { numR ok r with outside:=true }):=by show _=_;rw [HS.out,decide_eq_true hn];simp
    clear HS
    cases rw <;> (
     go_enter Tryz.func189,Tryz.ntmps189
     go_wp2_with (first | (go_at_call 199;refine CV.out.mono ?_;rintro e w1 ⟨rfl,hb1⟩;have d8:=(HD.out _ hb1).1;have f8:=(HD.out _ hb1).2;have Hb1:=hidOf hb1;clear hb1) | (go_at_call 106;refine (CX.out _ (HC.out _ _ (by simp) Hb1.out).1).mono ?_;rintro e w3 ⟨⟨v3,rfl⟩,hend⟩;have d9:w3.cell? ⟨p,9,none⟩=some (.bool r.outside):=hend.1.cell 9;have f9:=hend.1.frozen 9;have He:=hidOf hend;clear hend) | (go_at_call 200;refine (CN.out _).mono ?_;rintro e w4 ⟨rfl,hw4⟩;have hw4:=hw4.symm;subst hw4) | (go_at_call 201;(first | refine (CS.out _).mono ?_ | refine (CT.out _).mono ?_);rintro e w5 ⟨rfl,hw5⟩;have hw5:=hw5.symm;subst hw5))
     go_ret
     exact ⟨by rw [HV.out];rfl,by rw [HSo.out];exact He.out.1.set 9 _,Chg.setCell (Chg.trans (HC.out _ _ (by simp) Hb1.out).2 He.out.2 (fun k hk _=>hk)) (p:=⟨p,9,none⟩) (show p=p from rfl) _⟩)
   ·
    have HSo:Hid (rn=numR ok r):=by show _=_;rw [HS.out,decide_eq_false hn];exact numOut _ _ (by simp [HO.out])
    clear HS
    cases rw <;> (
     go_enter Tryz.func189,Tryz.ntmps189
     go_wp2_with (first | (go_at_call 199;refine CV.out.mono ?_;rintro e w1 ⟨rfl,hb1⟩;have d8:=(HD.out _ hb1).1;have f8:=(HD.out _ hb1).2;have Hb1:=hidOf hb1;clear hb1) | (go_at_call 106;refine (CX.out _ (HC.out _ _ (by simp) Hb1.out).1).mono ?_;rintro e w3 ⟨⟨v3,rfl⟩,hend⟩;have d9:w3.cell? ⟨p,9,none⟩=some (.bool r.outside):=hend.1.cell 9;have f9:=hend.1.frozen 9;have He:=hidOf hend;clear hend) | (go_at_call 200;refine (CN.out _).mono ?_;rintro e w4 ⟨rfl,hw4⟩;have hw4:=hw4.symm;subst hw4) | (go_at_call 201;(first | refine (CS.out _).mono ?_ | refine (CT.out _).mono ?_);rintro e w5 ⟨rfl,hw5⟩;have hw5:=hw5.symm;subst hw5))
     go_ret
     exact ⟨by rw [HV.out];rfl,by rw [HSo.out];exact He.out.1,Chg.trans (HC.out _ _ (by simp) Hb1.out).2 He.out.2 (fun k hk _=>hk)⟩)
  ·
   have HSo:Hid (rn = { numR ok r with outside:=true }):=by show _=_;rw [HS.out];simp
   clear HS
   cases rw <;> (
    go_enter Tryz.func189,Tryz.ntmps189
    go_wp2_with (first | (go_at_call 199;refine CV.out.mono ?_;rintro e w1 ⟨rfl,hb1⟩;have d8:=(HD.out _ hb1).1;have f8:=(HD.out _ hb1).2;have Hb1:=hidOf hb1;clear hb1) | (go_at_call 106;refine (CX.out _ (HC.out _ _ (by simp) Hb1.out).1).mono ?_;rintro e w3 ⟨⟨v3,rfl⟩,hend⟩;have d9:w3.cell? ⟨p,9,none⟩=some (.bool r.outside):=hend.1.cell 9;have f9:=hend.1.frozen 9;have He:=hidOf hend;clear hend) | (go_at_call 200;refine (CN.out _).mono ?_;rintro e w4 ⟨rfl,hw4⟩;have hw4:=hw4.symm;subst hw4) | (go_at_call 201;(first | refine (CS.out _).mono ?_ | refine (CT.out _).mono ?_);rintro e w5 ⟨rfl,hw5⟩;have hw5:=hw5.symm;subst hw5))
    go_ret
    exact ⟨by rw [HV.out];rfl,by rw [HSo.out];exact He.out.1.set 9 _,Chg.setCell (Chg.trans (HC.out _ _ (by simp) Hb1.out).2 He.out.2 (fun k hk _=>hk)) (p:=⟨p,9,none⟩) (show p=p from rfl) _⟩)
 ·
  simp only [Bool.false_eq_true,if_false,if_true] at HS HV
  cases hg
  ·
   by_cases hn:2147483648<n
   ·
    have HSo:Hid (rn = { numR ok r with outside:=true }):=by show _=_;rw [HS.out,decide_eq_true hn];simp
    clear HS
    cases rw <;> (
     go_enter Tryz.func189,Tryz.ntmps189
     go_wp2_with (first | (go_at_call 199;refine CV.out.mono ?_;rintro e w1 ⟨rfl,hb1⟩;have d8:=(HD.out _ hb1).1;have f8:=(HD.out _ hb1).2;have Hb1:=hidOf hb1;clear hb1) | (go_at_call 106;refine (CX.out _ (HC.out _ _ (by simp) Hb1.out).1).mono ?_;rintro e w3 ⟨⟨v3,rfl⟩,hend⟩;have d9:w3.cell? ⟨p,9,none⟩=some (.bool r.outside):=hend.1.cell 9;have f9:=hend.1.frozen 9;have He:=hidOf hend;clear hend) | (go_at_call 200;refine (CN.out _).mono ?_;rintro e w4 ⟨rfl,hw4⟩;have hw4:=hw4.symm;subst hw4) | (go_at_call 201;(first | refine (CS.out _).mono ?_ | refine (CT.out _).mono ?_);rintro e w5 ⟨rfl,hw5⟩;have hw5:=hw5.symm;subst hw5))
     go_ret
     exact ⟨by rw [HV.out];rfl,by rw [HSo.out];exact He.out.1.set 9 _,Chg.setCell (Chg.trans (HC.out _ _ (by simp) Hb1.out).2 He.out.2 (fun k hk _=>hk)) (p:=⟨p,9,none⟩) (show p=p from rfl) _⟩)
   ·
    have HSo:Hid (rn=numR ok r):=by show _=_;rw [HS.out,decide_eq_false hn];exact numOut _ _ (by simp [HO.out])
    clear HS
    cases rw <;> (
     go_enter Tryz.func189,Tryz.ntmps189
     go_wp2_with (first | (go_at_call 199;refine CV.out.mono ?_;rintro e w1 ⟨rfl,hb1⟩;have d8:=(HD.out _ hb1).1;have f8:=(HD.out _ hb1).2;have Hb1:=hidOf hb1;clear hb1) | (go_at_call 106;refine (CX.out _ (HC.out _ _ (by simp) Hb1.out).1).mono ?_;rintro e w3 ⟨⟨v3,rfl⟩,hend⟩;have d9:w3.cell? ⟨p,9,none⟩=some (.bool r.outside):=hend.1.cell 9;have f9:=hend.1.frozen 9;have He:=hidOf hend;clear hend) | (go_at_call 200;refine (CN.out _).mono ?_;rintro e w4 ⟨rfl,hw4⟩;have hw4:=hw4.symm;subst hw4) | (go_at_call 201;(first | refine (CS.out _).mono ?_ | refine (CT.out _).mono ?_);rintro e w5 ⟨rfl,hw5⟩;have hw5:=hw5.symm;subst hw5))
     go_ret
     exact ⟨by rw [HV.out];rfl,by rw [HSo.out];exact He.out.1,Chg.trans (HC.out _ _ (by simp) Hb1.out).2 He.out.2 (fun k hk _=>hk)⟩)
  ·
   have HSo:Hid (rn = { numR ok r with outside:=true }):=by show _=_;rw [HS.out];simp
   clear HS
   cases rw <;> (
    go_enter Tryz.func189,Tryz.ntmps189
    go_wp2_with (first | (go_at_call 199;refine CV.out.mono ?_;rintro e w1 ⟨rfl,hb1⟩;have d8:=(HD.out _ hb1).1;have f8:=(HD.out _ hb1).2;have Hb1:=hidOf hb1;clear hb1) | (go_at_call 106;refine (CX.out _ (HC.out _ _ (by simp) Hb1.out).1).mono ?_;rintro e w3 ⟨⟨v3,rfl⟩,hend⟩;have d9:w3.cell? ⟨p,9,none⟩=some (.bool r.outside):=hend.1.cell 9;have f9:=hend.1.frozen 9;have He:=hidOf hend;clear hend) | (go_at_call 200;refine (CN.out _).mono ?_;rintro e w4 ⟨rfl,hw4⟩;have hw4:=hw4.symm;subst hw4) | (go_at_call 201;(first | refine (CS.out _).mono ?_ | refine (CT.out _).mono ?_);rintro e w5 ⟨rfl,hw5⟩;have hw5:=hw5.symm;subst hw5))
    go_ret
    exact ⟨by rw [HV.out];rfl,by rw [HSo.out];exact He.out.1.set 9 _,Chg.setCell (Chg.trans (HC.out _ _ (by simp) Hb1.out).2 He.out.2 (fun k hk _=>hk)) (p:=⟨p,9,none⟩) (show p=p from rfl) _⟩)
def runU (b:UInt8):Bool:=runP (bI b)
theorem dd_small {u:Nat} (h:u<10):Lib.decDigits u=[UInt8.ofNat (48+u)]:=by rw [Lib.decDigits,dif_pos h]
theorem dd_big {u:Nat} (h:¬u<10):Lib.decDigits u=Lib.decDigits (u / 10)++[UInt8.ofNat (48+u % 10)]:=by rw [Lib.decDigits,dif_neg h]
end Go.Proofs.YtadneimllbfdnaaGreatDoor
namespace Go.Proofs.YtadneimllbfdnaaGreatDoor
open Go.RowKit
open Go.Maps (Keyed)
set_option linter.unusedVariables false
set_option linter.unusedSimpArgs false
abbrev Mn:=Int × Int × Int × Int
def mnV (m:Mn):Value:=.agg #[.int .u8 m.1,.int .u8 m.2.1,.int .u8 m.2.2.1,.int .u8 m.2.2.2]
def lastAt (L:List (List UInt8 × Mn)) (k:List UInt8):Option Mn:=(L.reverse.find? (fun x=>x.1 == k)).map (·.2)
def reckT:List (List UInt8 × List UInt8):=[([97,100,100],[97,100,100,51,50]),([115,117,98],[115,117,98,51,50]),([109,117,108],[109,117,108,51,50]),([100,105,118],[100,105,118,51,50]),([111,114],[111,114,51,50]),([97,110,100],[97,110,100,51,50]),([108,115,104],[108,115,104,51,50]),([114,115,104],[114,115,104,51,50]),([110,101,103],[110,101,103,51,50]),([109,111,100],[109,111,100,51,50]),([120,111,114],[120,111,114,51,50]),([109,111,118],[109,111,118,51,50]),([97,114,115,104],[97,114,115,104,51,50])]
def jumpT:List (List UInt8 × List UInt8):=[([106,97],[106,97,51,50]),([106,101,113],[106,101,113,51,50]),([106,103,116],[106,103,116,51,50]),([106,103,101],[106,103,101,51,50]),([106,115,101,116],[106,115,101,116,51,50]),([106,110,101],[106,110,101,51,50]),([106,115,103,116],[106,115,103,116,51,50]),([106,115,103,101],[106,115,103,101,51,50]),([99,97,108,108],[]),([101,120,105,116],[]),([106,108,116],[106,108,116,51,50]),([106,108,101],[106,108,101,51,50]),([106,115,108,116],[106,115,108,116,51,50]),([106,115,108,101],[106,115,108,101,51,50])]
def memT:List (Int × List (List UInt8)):=[(97,[[108,100,120,119],[108,100,120,104],[108,100,120,98],[108,100,120,100,119]]),(129,[[108,100,120,115,119],[108,100,120,115,104],[108,100,120,115,98],[]]),(98,[[115,116,119],[115,116,104],[115,116,98],[115,116,100,119]]),(99,[[115,116,120,119],[115,116,120,104],[115,116,120,98],[115,116,120,100,119]])]
def offT:List (Int × Int × List UInt8):=[(55,1,[115,100,105,118]),(151,1,[115,109,111,100]),(52,1,[115,100,105,118,51,50]),(148,1,[115,109,111,100,51,50]),(191,8,[109,111,118,115,56]),(191,16,[109,111,118,115,49,54]),(191,32,[109,111,118,115,51,50]),(188,8,[109,111,118,115,56,119]),(188,16,[109,111,118,115,49,54,119])]
def immT:List (Int × Int × List UInt8):=[(212,16,[108,101,49,54]),(212,32,[108,101,51,50]),(212,64,[108,101,54,52]),(220,16,[98,101,49,54]),(220,32,[98,101,51,50]),(220,64,[98,101,54,52]),(215,16,[115,119,97,112,49,54]),(215,32,[115,119,97,112,51,50]),(215,64,[115,119,97,112,54,52]),(219,0,[97,97,100,100]),(219,64,[97,111,114]),(219,80,[97,97,110,100]),(219,160,[97,120,111,114]),(219,1,[97,102,97,100,100]),(219,65,[97,102,111,114]),(219,81,[97,102,97,110,100]),(219,161,[97,102,120,111,114]),(219,225,[97,120,99,104,103]),(219,241,[97,99,109,112,120,99,104,103]),(195,0,[97,97,100,100,51,50]),(195,64,[97,111,114,51,50]),(195,80,[97,97,110,100,51,50]),(195,160,[97,120,111,114,51,50]),(195,1,[97,102,97,100,100,51,50]),(195,65,[97,102,111,114,51,50]),(195,81,[97,102,97,110,100,51,50]),(195,161,[97,102,120,111,114,51,50]),(195,225,[97,120,99,104,103,51,50]),(195,241,[97,99,109,112,120,99,104,103,51,50])]
def entA (T:List (List UInt8 × List UInt8)) (x y:Int) (k:Nat):List (List UInt8 × Mn):=
 match T[k]? with
 | some r=>[(r.1,(k*16+x,0,0,0)),(r.2,(k*16+y,0,0,0))]
 | none=>[]
def mnR (k:Nat):List (List UInt8 × Mn):=(List.range k).flatMap (entA reckT 7 4)
def mnJ (k:Nat):List (List UInt8 × Mn):=mnR 13++(List.range k).flatMap (entA jumpT 5 6)
def entM (k j:Nat):List (List UInt8 × Mn):=
 match memT[k]? with
 | some r=>(match r.2[j]? with | some s=>[(s,(r.1+j*8,0,0,0))] | none=>[])
 | none=>[]
def mnM (k j:Nat):List (List UInt8 × Mn):=mnJ 14++(List.range k).flatMap (fun k=>(List.range 4).flatMap (entM k))++(List.range j).flatMap (entM k)
def entO (k:Nat):List (List UInt8 × Mn):=
 match offT[k]? with
 | some r=>[(r.2.2,(r.1,0,r.2.1,0))]
 | none=>[]
def mnO (k:Nat):List (List UInt8 × Mn):=mnM 4 0++(List.range k).flatMap entO
def entI (k:Nat):List (List UInt8 × Mn):=
 match immT[k]? with
 | some r=>[(r.2.2,(r.1,0,0,r.2.1))]
 | none=>[]
def mnI (k:Nat):List (List UInt8 × Mn):=mnO 9++(List.range k).flatMap entI
def mnAll:List (List UInt8 × Mn):=mnI 29++[([108,100,100,119],(24,0,0,0)),([108,100,109,97,112],(24,1,0,0))]
def meanOf (k:List UInt8):Option Mn:=if k=[] then none else lastAt mnAll k
theorem mnR_step (k:Nat):mnR (k+1)=mnR k++entA reckT 7 4 k:=by simp [mnR,List.range_succ]
theorem mnJ_step (k:Nat):mnJ (k+1)=mnJ k++entA jumpT 5 6 k:=by simp [mnJ,List.range_succ,List.append_assoc]
theorem mnM_step (k j:Nat):mnM k (j+1)=mnM k j++entM k j:=by simp [mnM,List.range_succ (n:=j),List.append_assoc]
theorem mnM_next (k:Nat):mnM (k+1) 0=mnM k 4:=by simp [mnM,List.range_succ (n:=k)]
theorem mnO_step (k:Nat):mnO (k+1)=mnO k++entO k:=by simp [mnO,List.range_succ,List.append_assoc]
theorem mnI_step (k:Nat):mnI (k+1)=mnI k++entI k:=by simp [mnI,List.range_succ,List.append_assoc]
theorem mnJ_0:mnJ 0=mnR 13:=by simp [mnJ]
theorem mnM_0:mnM 0 0=mnJ 14:=by simp [mnM]
theorem mnO_0:mnO 0=mnM 4 0:=by simp [mnO]
theorem mnI_0:mnI 0=mnO 9:=by simp [mnI]
end Go.Proofs.YtadneimllbfdnaaGreatDoor
namespace Go.Proofs.YtadneimllbfdnaaGreatDoor
open Go.RowKit
set_option linter.unusedVariables false
set_option linter.unusedSimpArgs false
def regN (l:List UInt8):Option Nat:=(List.range 11).find? (fun k=>l == regL k)
def regS (r:RS):RS × Int:=match regN r.tok with
 | some k=>(r.next,(k:Int))
 | none=>({ r with wrong:=true },0)
theorem regN_some (l:List UInt8) (k:Nat) (h:regIs l k):regN l=some k:=by
 obtain ⟨hk,rfl⟩:=h
 exact (show ∀ k:Fin 11,regN (regL k.val)=some k.val by decide) ⟨k,hk⟩
theorem regN_none (l:List UInt8) (h:∀ k,¬regIs l k):regN l=none:=by
 unfold regN
 rw [List.find?_eq_none]
 intro k hk
 have:=h k
 simp only [List.mem_range] at hk
 simpa [regIs,hk] using this
theorem regS_of {r r':RS} {n:Int} (h:registerS r r' n):r'=(regS r).1/\n=(regS r).2:=by
 rcases h with ⟨k,hk,rfl,rfl⟩ | ⟨hn,rfl,rfl⟩
 ·
  unfold regS
  rw [regN_some _ _ hk]
  exact ⟨rfl,rfl⟩
 ·
  unfold regS
  rw [regN_none _ hn]
  exact ⟨rfl,rfl⟩
theorem Sm.reg {r:RS} (h:Sm r):Sm (regS r).1:=by
 unfold regS
 split
 · exact h.next
 · exact h
theorem regF (w:World) (p:Nat) (r:RS) (h:RdAt w p r.cells) (hs:Sm r) (ht:RegT w):Calls Tryz.prog 174 #[.pointer (some ⟨p,0,none⟩)] w fun e w'=>e=.returned (.int .i64 (regS r).2)/\MEnd p (regS r).1 w w':=
 (register_any w p r h hs ht).mono fun e w' ⟨n,r',he,hr,hm⟩=>by
  obtain ⟨h1,h2⟩:=regS_of hr
  rw [<-h1, <-h2]
  exact ⟨he,hm⟩
def sgnS (r:RS):RS × Bool:=if (skipP [45] r).2 then ((skipP [45] r).1,true) else ((skipP [43] (skipP [45] r).1).1,false)
def immS (r:RS):RS:=
 if r.o=24 then { numS (sgnS r).2 9223372036854775808 18446744073709551615 (sgnS r).1 with i:=numV (sgnS r).2 64 (sgnS r).1 }
 else { numS (sgnS r).2 2147483648 4294967295 (sgnS r).1 with i:=numV (sgnS r).2 32 (sgnS r).1 }
def pgnS (r:RS):RS × Bool:=if (skipP [45] r).2 then ((skipP [45] r).1,true) else (markS [43] (skipP [45] r).1,false)
def placeS (r:RS):RS × Int × Int:=
 (markS [93] (numS (pgnS (regS (markS [91] r)).1).2 32768 32767 (pgnS (regS (markS [91] r)).1).1),(regS (markS [91] r)).2,numV (pgnS (regS (markS [91] r)).1).2 16 (pgnS (regS (markS [91] r)).1).1)
theorem Sm.sgn {r:RS} (h:Sm r):Sm (sgnS r).1:=by
 unfold sgnS
 split
 · exact h.skip _
 · exact (h.skip _).skip _
theorem Sm.pgn {r:RS} (h:Sm r):Sm (pgnS r).1:=by
 unfold pgnS
 split
 · exact h.skip _
 · exact (h.skip _).mark _
theorem Sm.imm {r:RS} (h:Sm r):Sm (immS r):=by
 unfold immS
 split
 · exact h.sgn.num (sgnS r).2 9223372036854775808 18446744073709551615
 · exact h.sgn.num (sgnS r).2 2147483648 4294967295
theorem Sm.place {r:RS} (h:Sm r):Sm (placeS r).1:=((((h.mark [91]).reg).pgn).num (pgnS (regS (markS [91] r)).1).2 32768 32767).mark [93]
def Env (w:World):Prop:=ErrR w/\RegT w/\Tabs w
theorem ErrR.out {w w':World} (h:ErrR w) (o:Out w w'):ErrR w':=by
 obtain ⟨ev,h1,h2⟩:=h
 exact ⟨ev,cell_later o h1,h2⟩
theorem RegT.out {w w':World} (h:RegT w) (o:Out w w'):RegT w':=fun k hk=>cell_later o (h k hk)
theorem Env.out {w w':World} (h:Env w) (o:Out w w'):Env w':=⟨h.1.out o,h.2.1.out o,h.2.2.out o⟩
def Rdr (w0:World) (p:Nat) (w:World):Prop:=Env w0/\Out w0 w/\w0.heap.size<=p
theorem MEnd.out {w0 w w':World} {p:Nat} {r:RS} (h:Rdr w0 p w) (m:MEnd p r w w'):Out w0 w':=Chg.out m.2 h.2.1 (fun k hk=>by rw [hk];exact h.2.2)
theorem MEnd.env {w0 w w':World} {p:Nat} {r:RS} (h:Rdr w0 p w) (m:MEnd p r w w'):Env w':=h.1.out (m.out h)
theorem MEnd.trans {w w1 w2:World} {p:Nat} {r1 r2:RS} (a:MEnd p r1 w w1) (b:MEnd p r2 w1 w2):MEnd p r2 w w2:=⟨b.1,a.2.trans b.2 (fun _ hk _=>hk)⟩
theorem MEnd.set {w w1:World} {p:Nat} {r1 r2:RS} (a:MEnd p r1 w w1) (j:Nat) (u:Value) (h:r1.cells.setIfInBounds j u=r2.cells):MEnd p r2 w (w1.setCell ⟨p,j,none⟩ u):=
 ⟨by rw [<-h];exact a.1.set j u,Chg.setCell a.2 (p:=⟨p,j,none⟩) (show p=p from rfl) _⟩
theorem MEnd.refl {w:World} {p:Nat} {r:RS} (h:RdAt w p r.cells):MEnd p r w w:=⟨h,Chg.refl _ _⟩
theorem MEnd.co {w w1:World} {p:Nat} {r:RS} (a:MEnd p r w w1):w1.cell? ⟨p,2,none⟩=some (.int .i64 r.o)/\w1.frozen? ⟨p,2,none⟩=false:=⟨a.1.cell 2,a.1.frozen 2⟩
theorem MEnd.cd {w w1:World} {p:Nat} {r:RS} (a:MEnd p r w w1):w1.cell? ⟨p,3,none⟩=some (.int .i64 r.d)/\w1.frozen? ⟨p,3,none⟩=false:=⟨a.1.cell 3,a.1.frozen 3⟩
theorem MEnd.cs {w w1:World} {p:Nat} {r:RS} (a:MEnd p r w w1):w1.cell? ⟨p,4,none⟩=some (.int .i64 r.s)/\w1.frozen? ⟨p,4,none⟩=false:=⟨a.1.cell 4,a.1.frozen 4⟩
theorem MEnd.cf {w w1:World} {p:Nat} {r:RS} (a:MEnd p r w w1):w1.cell? ⟨p,5,none⟩=some (.int .i64 r.f)/\w1.frozen? ⟨p,5,none⟩=false:=⟨a.1.cell 5,a.1.frozen 5⟩
theorem MEnd.ci {w w1:World} {p:Nat} {r:RS} (a:MEnd p r w w1):w1.cell? ⟨p,6,none⟩=some (.int .i64 r.i)/\w1.frozen? ⟨p,6,none⟩=false:=⟨a.1.cell 6,a.1.frozen 6⟩
theorem MEnd.ct {w w1:World} {p:Nat} {r:RS} (a:MEnd p r w w1):w1.cell? ⟨p,1,none⟩=some (.string ⟨r.tok.toArray⟩):=a.1.cell 1
theorem MEnd.cw {w w1:World} {p:Nat} {r:RS} (a:MEnd p r w w1):w1.cell? ⟨p,8,none⟩=some (.bool r.wrong)/\w1.frozen? ⟨p,8,none⟩=false:=⟨a.1.cell 8,a.1.frozen 8⟩
theorem nextM (w:World) (p:Nat) (r:RS) (hs:Sm r) (wx:World) (m:MEnd p r w wx):Calls Tryz.prog 106 #[.pointer (some ⟨p,0,none⟩)] wx fun e w'=>(∃ v,e=.returned v)/\MEnd p r.next w w':=
 (nextR wx p r m.1 hs).mono fun e w' ⟨a,b⟩=>⟨a,m.trans b⟩
theorem skipM (w:World) (p:Nat) (r:RS) (t:List UInt8) (hs:Sm r) (wx:World) (m:MEnd p r w wx):Calls Tryz.prog 173 #[.pointer (some ⟨p,0,none⟩),.string ⟨t.toArray⟩] wx fun e w'=>e=.returned (.bool (skipP t r).2)/\MEnd p (skipP t r).1 w w':=
 (skip_any wx p r t m.1 hs).mono fun e w' ⟨a,b⟩=>⟨a,m.trans b⟩
theorem markM (w:World) (p:Nat) (r:RS) (t:List UInt8) (hs:Sm r) (wx:World) (m:MEnd p r w wx):Calls Tryz.prog 145 #[.pointer (some ⟨p,0,none⟩),.string ⟨t.toArray⟩] wx fun e w'=>(∃ v,e=.returned v)/\MEnd p (markS t r) w w':=
 (mark_any wx p r t m.1 hs).mono fun e w' ⟨a,b⟩=>⟨a,m.trans b⟩
theorem nameM (w:World) (p:Nat) (r:RS) (hs:Sm r) (wx:World) (m:MEnd p r w wx):Calls Tryz.prog 178 #[.pointer (some ⟨p,0,none⟩)] wx fun e w'=>(∃ v,e=.returned v)/\MEnd p (nameS r) w w':=
 (name_any wx p r m.1 hs).mono fun e w' ⟨a,b⟩=>⟨a,m.trans b⟩
theorem regM (w0 w:World) (p:Nat) (R:Rdr w0 p w) (r:RS) (hs:Sm r) (wx:World) (m:MEnd p r w wx):Calls Tryz.prog 174 #[.pointer (some ⟨p,0,none⟩)] wx fun e w'=>e=.returned (.int .i64 (regS r).2)/\MEnd p (regS r).1 w w':=
 (regF wx p r m.1 hs (m.env R).2.1).mono fun e w' ⟨a,b⟩=>⟨a,m.trans b⟩
theorem num16M (w0 w:World) (p:Nat) (R:Rdr w0 p w) (r:RS) (hs:Sm r) (b:Bool) (high:Int) (wx:World) (m:MEnd p r w wx):Calls Tryz.prog 189 #[.pointer (some ⟨p,0,none⟩),.bool b,.int .i64 16,.int .u64 high] wx fun e w'=>e=.returned (.int .i64 (numV b 16 r))/\MEnd p (numS b 32768 high r) w w':=
 (number16 wx p r m.1 hs (hidOf (m.env R).1) b high).mono fun e w' ⟨a,b⟩=>⟨a,m.trans b⟩
theorem num32M (w0 w:World) (p:Nat) (R:Rdr w0 p w) (r:RS) (hs:Sm r) (b:Bool) (high:Int) (wx:World) (m:MEnd p r w wx):Calls Tryz.prog 189 #[.pointer (some ⟨p,0,none⟩),.bool b,.int .i64 32,.int .u64 high] wx fun e w'=>e=.returned (.int .i64 (numV b 32 r))/\MEnd p (numS b 2147483648 high r) w w':=
 (number32 wx p r m.1 hs (hidOf (m.env R).1) b high).mono fun e w' ⟨a,b⟩=>⟨a,m.trans b⟩
theorem num64M (w0 w:World) (p:Nat) (R:Rdr w0 p w) (r:RS) (hs:Sm r) (b:Bool) (high:Int) (wx:World) (m:MEnd p r w wx):Calls Tryz.prog 189 #[.pointer (some ⟨p,0,none⟩),.bool b,.int .i64 64,.int .u64 high] wx fun e w'=>e=.returned (.int .i64 (numV b 64 r))/\MEnd p (numS b 9223372036854775808 high r) w w':=
 (number64 wx p r m.1 hs (hidOf (m.env R).1) b high).mono fun e w' ⟨a,b⟩=>⟨a,m.trans b⟩
theorem skip_o (t:List UInt8) (r:RS):(skipP t r).1.o=r.o:=by
 unfold skipP
 split <;> rfl
set_option maxRecDepth 20000 in
set_option maxHeartbeats 800000 in
theorem imm_rd (w0 w:World) (p:Nat) (HR:Hid (Rdr w0 p w)) (r:RS) (h:RdAt w p r.cells) (hs:Sm r):Calls Tryz.prog 175 #[.pointer (some ⟨p,0,none⟩)] w fun e w'=>(∃ v,e=.returned v)/\MEnd p (immS r) w w':=by
 have CA:Hid (Calls Tryz.prog 173 #[.pointer (some ⟨p,0,none⟩),.string ⟨#[45]⟩] w fun e w'=>e=.returned (.bool (skipP [45] r).2)/\MEnd p (skipP [45] r).1 w w'):=skip_any w p r [45] h hs
 have ho:=skip_o [45] r
 have hs1:=hs.skip [45]
 have HI:immS r=if r.o=24 then { numS (sgnS r).2 9223372036854775808 18446744073709551615 (sgnS r).1 with i:=numV (sgnS r).2 64 (sgnS r).1 } else { numS (sgnS r).2 2147483648 4294967295 (sgnS r).1 with i:=numV (sgnS r).2 32 (sgnS r).1 }:=rfl
 unfold sgnS at HI
 generalize immS r=rn at *
 generalize skipP [45] r=q at *
 obtain ⟨r1,b⟩:=q
 simp only at CA ho hs1 HI
 clear h hs
 generalize r.o=o at *
 cases b
 ·
  have CB:Hid (∀ wx,MEnd p r1 w wx->Calls Tryz.prog 173 #[.pointer (some ⟨p,0,none⟩),.string ⟨#[43]⟩] wx fun e w'=>e=.returned (.bool (skipP [43] r1).2)/\MEnd p (skipP [43] r1).1 w w'):=skipM w p r1 [43] hs1
  have ho2:=(skip_o [43] r1).trans ho
  have hs2:=hs1.skip [43]
  simp only [Bool.false_eq_true,if_false] at HI
  generalize skipP [43] r1=q at *
  obtain ⟨r2,b2⟩:=q
  simp only at CB ho2 hs2 HI
  clear ho hs1
  by_cases h24:o=24
  ·
   subst h24
   rw [if_pos rfl] at HI
   have CN:Hid (∀ wx,MEnd p r2 w wx->Calls Tryz.prog 189 #[.pointer (some ⟨p,0,none⟩),.bool false,.int .i64 64,.int .u64 18446744073709551615] wx fun e w'=>e=.returned (.int .i64 (numV false 64 r2))/\MEnd p (numS false 9223372036854775808 18446744073709551615 r2) w w'):=num64M w0 w p HR.out r2 hs2 false _
   generalize numV false 64 r2=vn at *
   generalize numS false 9223372036854775808 18446744073709551615 r2=rm at *
   have HI:=hidOf HI
   clear hs2 HR
   go_enter Tryz.func175,Tryz.ntmps175
   go_wp2_with (first | (go_at_call 189;refine (CN.out _ M2.out).mono ?_;rintro e w4 ⟨rfl,hm4⟩;have d6:=hm4.ci.1;have f6:=hm4.ci.2;have M4:=hidOf hm4;clear hm4) | (go_at_call 173;refine (CB.out _ M1.out).mono ?_;rintro e w2 ⟨rfl,hm2⟩;have d2:=hm2.co.1;rw [ho2] at d2;have M2:=hidOf hm2;clear hm2) | (go_at_call 173;refine CA.out.mono ?_;rintro e w1 ⟨rfl,hm1⟩;have M1:=hidOf hm1;clear hm1))
   go_end0
   exact ⟨⟨_,rfl⟩,by rw [HI.out];exact M4.out.set 6 _ rfl⟩
  ·
   rw [if_neg h24] at HI
   have h24':(o == 24)=false:=by simpa using h24
   have CN:Hid (∀ wx,MEnd p r2 w wx->Calls Tryz.prog 189 #[.pointer (some ⟨p,0,none⟩),.bool false,.int .i64 32,.int .u64 4294967295] wx fun e w'=>e=.returned (.int .i64 (numV false 32 r2))/\MEnd p (numS false 2147483648 4294967295 r2) w w'):=num32M w0 w p HR.out r2 hs2 false _
   generalize numV false 32 r2=vn at *
   generalize numS false 2147483648 4294967295 r2=rm at *
   have HI:=hidOf HI
   clear hs2 HR
   go_enter Tryz.func175,Tryz.ntmps175
   go_wp2_with (first | (go_at_call 189;refine (CN.out _ M2.out).mono ?_;rintro e w4 ⟨rfl,hm4⟩;have d6:=hm4.ci.1;have f6:=hm4.ci.2;have M4:=hidOf hm4;clear hm4) | (go_at_call 173;refine (CB.out _ M1.out).mono ?_;rintro e w2 ⟨rfl,hm2⟩;have d2:=hm2.co.1;rw [ho2] at d2;have M2:=hidOf hm2;clear hm2) | (go_at_call 173;refine CA.out.mono ?_;rintro e w1 ⟨rfl,hm1⟩;have M1:=hidOf hm1;clear hm1))
   go_end0
   exact ⟨⟨_,rfl⟩,by rw [HI.out];exact M4.out.set 6 _ rfl⟩
 ·
  simp only [if_true] at HI
  by_cases h24:o=24
  ·
   subst h24
   rw [if_pos rfl] at HI
   have CN:Hid (∀ wx,MEnd p r1 w wx->Calls Tryz.prog 189 #[.pointer (some ⟨p,0,none⟩),.bool true,.int .i64 64,.int .u64 18446744073709551615] wx fun e w'=>e=.returned (.int .i64 (numV true 64 r1))/\MEnd p (numS true 9223372036854775808 18446744073709551615 r1) w w'):=num64M w0 w p HR.out r1 hs1 true _
   generalize numV true 64 r1=vn at *
   generalize numS true 9223372036854775808 18446744073709551615 r1=rm at *
   have HI:=hidOf HI
   clear hs1 HR
   go_enter Tryz.func175,Tryz.ntmps175
   go_wp2_with (first | (go_at_call 189;refine (CN.out _ M1.out).mono ?_;rintro e w4 ⟨rfl,hm4⟩;have d6:=hm4.ci.1;have f6:=hm4.ci.2;have M4:=hidOf hm4;clear hm4) | (go_at_call 173;refine CA.out.mono ?_;rintro e w1 ⟨rfl,hm1⟩;have d2:=hm1.co.1;rw [ho] at d2;have M1:=hidOf hm1;clear hm1))
   go_end0
   exact ⟨⟨_,rfl⟩,by rw [HI.out];exact M4.out.set 6 _ rfl⟩
  ·
   rw [if_neg h24] at HI
   have h24':(o == 24)=false:=by simpa using h24
   have CN:Hid (∀ wx,MEnd p r1 w wx->Calls Tryz.prog 189 #[.pointer (some ⟨p,0,none⟩),.bool true,.int .i64 32,.int .u64 4294967295] wx fun e w'=>e=.returned (.int .i64 (numV true 32 r1))/\MEnd p (numS true 2147483648 4294967295 r1) w w'):=num32M w0 w p HR.out r1 hs1 true _
   generalize numV true 32 r1=vn at *
   generalize numS true 2147483648 4294967295 r1=rm at *
   have HI:=hidOf HI
   clear hs1 HR
   go_enter Tryz.func175,Tryz.ntmps175
   go_wp2_with (first | (go_at_call 189;refine (CN.out _ M1.out).mono ?_;rintro e w4 ⟨rfl,hm4⟩;have d6:=hm4.ci.1;have f6:=hm4.ci.2;have M4:=hidOf hm4;clear hm4) | (go_at_call 173;refine CA.out.mono ?_;rintro e w1 ⟨rfl,hm1⟩;have d2:=hm1.co.1;rw [ho] at d2;have M1:=hidOf hm1;clear hm1))
   go_end0
   exact ⟨⟨_,rfl⟩,by rw [HI.out];exact M4.out.set 6 _ rfl⟩
end Go.Proofs.YtadneimllbfdnaaGreatDoor
