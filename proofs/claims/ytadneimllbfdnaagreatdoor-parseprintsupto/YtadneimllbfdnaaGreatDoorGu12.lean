import Derived.Test.YtadneimllbfdnaaGreatDoorGu10
import Derived.Test.YtadneimllbfdnaaGreatDoorGu11
namespace Go.Proofs.YtadneimllbfdnaaGreatDoor
open Go.RowKit
set_option linter.unusedVariables false
set_option linter.unusedSimpArgs false
theorem cap16_nn (k:Nat):0<=cap16 k:=Int.pow_nonneg (by decide)
theorem cap16_16:∀ k,k<=16->cap16 k<=18446744073709551616:=by decide
theorem hexU_rng (b:UInt8) (h:hexU b=true):0<=hexD (bI b)/\hexD (bI b)<=15:=hexD_rng ⟨b.toNat,b.toNat_lt⟩ h
theorem hexV_rng (l:List UInt8):∀ a:Int,0<=a->l.all hexU=true->0<=hexV a l/\hexV a l+1<=(a+1)*cap16 l.length:=by
 induction l with
 | nil=>
  intro a ha _
  have e1:hexV a []=a:=rfl
  have e2:cap16 ([]:List UInt8).length=1:=rfl
  rw [e1,e2]
  omega
 | cons b l ih=>
  intro a ha hl
  simp only [List.all_cons,Bool.and_eq_true] at hl
  have hb:=hexU_rng b hl.1
  have e1:hexV a (b::l)=hexV (a*16+hexD (bI b)) l:=rfl
  obtain ⟨i1,i2⟩:=ih (a*16+hexD (bI b)) (by omega) hl.2
  rw [e1,List.length_cons,cap16_succ]
  refine ⟨i1,Int.le_trans i2 ?_⟩
  have h1:a*16+hexD (bI b)+1<=(a+1)*16:=by omega
  have h2:=Int.mul_le_mul_of_nonneg_right h1 (cap16_nn l.length)
  rw [Int.mul_comm (cap16 l.length) 16, <-Int.mul_assoc]
  exact h2
theorem dig16_rng (l:List UInt8) (h:l.length<=16):0<=(dig16 l).1/\(dig16 l).1<18446744073709551616:=by
 unfold dig16
 split
 · exact ⟨by decide,by decide⟩
 ·
  split
  ·
   rename_i ha
   have h1:=hexV_rng l 0 (by decide) ha
   have h2:=cap16_16 _ h
   exact ⟨h1.1,by have:=h1.2;show hexV 0 l<_;omega⟩
  · exact ⟨by decide,by decide⟩
theorem dig10_rng (l:List UInt8):0<=(dig10 l).1/\(dig10 l).1<18446744073709551616:=by
 unfold dig10
 split
 · exact ⟨by decide,by decide⟩
 ·
  split
  ·
   split
   ·
    rename_i h
    exact ⟨by show (0:Int)<=((decV 0 l:Nat):Int);omega,by show ((decV 0 l:Nat):Int)<_;omega⟩
   · exact ⟨by decide,by decide⟩
  · exact ⟨by decide,by decide⟩
theorem valP_rng (l:List UInt8):0<=(valP l).1/\(valP l).1<18446744073709551616:=by
 unfold valP
 split
 · exact ⟨by decide,by decide⟩
 ·
  split
  ·
   split
   · exact ⟨by decide,by decide⟩
   · exact dig16_rng _ (by omega)
  ·
   split
   · exact ⟨by decide,by decide⟩
   · exact dig10_rng l
def numS (below:Bool) (half high:Int) (r:RS):RS:=
 { RS.next { r with wrong:=r.wrong || !(valP r.tok).2.2 } with outside:=r.outside || ((valP r.tok).2.1 || decide ((if below then half else high)<(valP r.tok).1)) }
def numV (below:Bool) (width:Int) (r:RS):Int:=wrap64 (Wo.sgnW width (if below then Wo.negW (valP r.tok).1 else (valP r.tok).1))
theorem Sm.num {r:RS} (h:Sm r) (b:Bool) (x y:Int):Sm (numS b x y r):=Sm.next (r:={ r with wrong:=r.wrong || !(valP r.tok).2.2 }) h
theorem negW_rng (a:Int):0<=Wo.negW a/\Wo.negW a<18446744073709551616:=by
 unfold Wo.negW
 simp only [IntKind.wrap_u64]
 omega
def numR (ok:Bool) (r:RS):RS:=RS.next { r with wrong:=r.wrong || !ok }
theorem numOut (q:RS) (b:Bool) (h:q.outside=b):({ q with outside:=b } : RS)=q:=by subst h;rfl
set_option maxRecDepth 200000 in
set_option maxHeartbeats 1600000 in
theorem number16 (w:World) (p:Nat) (r:RS) (h:RdAt w p r.cells) (hs:Sm r) (HE:Hid (ErrR w)) (below:Bool) (high:Int):Calls Tryz.prog 189 #[.pointer (some ⟨p,0,none⟩),.bool below,.int .i64 16,.int .u64 high] w fun e w'=>e=.returned (.int .i64 (numV below 16 r))/\MEnd p (numS below 32768 high r) w w':=by
 have CV:Hid (Calls Tryz.prog 199 #[.string ⟨r.tok.toArray⟩] w fun e w'=>e=.returned (.tuple #[.int .u64 (valP r.tok).1,.bool (valP r.tok).2.1,.bool (valP r.tok).2.2])/\Below w.heap.size w w'):=by
  have h:=valueOf_any ⟨r.tok.toArray⟩ (by rw [mk_size];have:=hs.2;omega) w HE
  rw [mk_list] at h
  exact h
 have HB:=valP_rng r.tok
 have HS:Hid (numS below 32768 high r = { numR (valP r.tok).2.2 r with outside:=r.outside || ((valP r.tok).2.1 || decide ((if below then 32768 else high)<(valP r.tok).1)) }):=hidOf rfl
 have HV:Hid (numV below 16 r=wrap64 (Wo.sgnW 16 (if below then Wo.negW (valP r.tok).1 else (valP r.tok).1))):=hidOf rfl
 generalize numS below 32768 high r=rn at *
 generalize numV below 16 r=vn at *
 generalize valP r.tok=v at *
 obtain ⟨n,hg,ok⟩:=v
 simp only at CV HB HS HV
 have CX:Hid (∀ wx:World,RdAt wx p ({ r with wrong:=r.wrong || !ok } : RS).cells->Calls Tryz.prog 106 #[.pointer (some ⟨p,0,none⟩)] wx fun e w'=>(∃ v,e=.returned v)/\MEnd p (numR ok r) wx w'):=fun wx hx=>nextR wx p _ hx hs
 have H:=hidOf h
 have c1:w.cell? ⟨p,1,none⟩=some (.string ⟨r.tok.toArray⟩):=h.cell 1
 have CN:Hid (∀ wx:World,Calls Tryz.prog 200 #[.int .u64 n] wx fun e w'=>e=.returned (.int .u64 (Wo.negW n))/\w'=wx):=fun wx=>Wo.Neg_any n wx
 have CS:Hid (∀ wx:World,Calls Tryz.prog 201 #[.int .u64 n,.int .i64 16] wx fun e w'=>e=.returned (.int .u64 (Wo.sgnW 16 n))/\w'=wx):=fun wx=>Wo.Sign_any n 16 wx HB.1 HB.2
 have CT:Hid (∀ wx:World,Calls Tryz.prog 201 #[.int .u64 (Wo.negW n),.int .i64 16] wx fun e w'=>e=.returned (.int .u64 (Wo.sgnW 16 (Wo.negW n)))/\w'=wx):=fun wx=>Wo.Sign_any _ 16 wx (negW_rng n).1 (negW_rng n).2
 have HO:Hid ((numR ok r).outside=r.outside):=hidOf rfl
 clear h hs HE HB
 generalize hw:r.wrong=rw at *
 have HC:Hid (∀ (wx:World) (b:Bool),b=(rw || !ok)->Below w.heap.size w wx->RdAt (wx.setCell ⟨p,8,none⟩ (.bool b)) p #[tx r.rest,tx r.tok,.int .i64 r.o,.int .i64 r.d,.int .i64 r.s,.int .i64 r.f,.int .i64 r.i,tx r.tgt,.bool (rw || !ok),.bool r.outside]/\Chg (fun k=>k=p) w (wx.setCell ⟨p,8,none⟩ (.bool b))):=fun wx b hb hbl=>hb ▸ ⟨(H.out.below hbl).set 8 _,Chg.setCell (Chg.of_out (S:=fun k=>k=p) hbl) (p:=⟨p,8,none⟩) (show p=p from rfl) _⟩
 have HD:Hid (∀ wx:World,Below w.heap.size w wx->wx.cell? ⟨p,8,none⟩=some (.bool rw)/\wx.frozen? ⟨p,8,none⟩=false):=fun wx hbl=>⟨by rw [<-hw];exact (H.out.below hbl).cell 8,(H.out.below hbl).frozen 8⟩
 clear hw
 cases below
 ·
  simp only [Bool.false_eq_true,if_false,if_true] at HS HV
  cases hg
  ·
   by_cases hn:high<n
   ·
    have HSo:Hid (rn = { numR ok r with outside:=true }):=by show _=_;rw [HS.out,decide_eq_true hn];simp
    clear HS
    cases rw <;> (
     go_enter Tryz.func189,Tryz.ntmps189
     go_wp2_with (first | (go_at_call 199;refine CV.out.mono ?_;rintro e w1 ⟨rfl,hb1⟩;have d8:=(HD.out _ hb1).1;have f8:=(HD.out _ hb1).2;have Hb1:=hidOf hb1;clear hb1) | (go_at_call 106;refine (CX.out _ (HC.out _ _ (by simp) Hb1.out).1).mono ?_;rintro e w3 ⟨⟨v3,rfl⟩,hend⟩;have d9:w3.cell? ⟨p,9,none⟩=some (.bool r.outside):=hend.1.cell 9;have f9:=hend.1.frozen 9;have He:=hidOf hend;clear hend) | (go_at_call 200;refine (CN.out _).mono ?_;rintro e w4 ⟨rfl,hw4⟩;have hw4:=hw4.symm;subst hw4) | (go_at_call 201;(first | refine (CS.out _).mono ?_ | refine (CT.out _).mono ?_);rintro e w5 ⟨rfl,hw5⟩;have hw5:=hw5.symm;subst hw5))
     go_ret
     exact ⟨by rw [HV.out];rfl,by rw [HSo.out];exact He.out.1.set 9 _,Chg.setCell (Chg.trans (HC.out _ _ (by simp) Hb1.out).2 He.out.2 (fun k hk _=>hk)) (p:=⟨p,9,none⟩) (show p=p from rfl) _⟩)
   ·
    have HSo:Hid (rn=numR ok r):=by show _=_;rw [HS.out,decide_eq_false hn];exact numOut _ _ (by simp [HO.out])
    clear HS
    cases rw <;> (
     go_enter Tryz.func189,Tryz.ntmps189
     go_wp2_with (first | (go_at_call 199;refine CV.out.mono ?_;rintro e w1 ⟨rfl,hb1⟩;have d8:=(HD.out _ hb1).1;have f8:=(HD.out _ hb1).2;have Hb1:=hidOf hb1;clear hb1) | (go_at_call 106;refine (CX.out _ (HC.out _ _ (by simp) Hb1.out).1).mono ?_;rintro e w3 ⟨⟨v3,rfl⟩,hend⟩;have d9:w3.cell? ⟨p,9,none⟩=some (.bool r.outside):=hend.1.cell 9;have f9:=hend.1.frozen 9;have He:=hidOf hend;clear hend) | (go_at_call 200;refine (CN.out _).mono ?_;rintro e w4 ⟨rfl,hw4⟩;have hw4:=hw4.symm;subst hw4) | (go_at_call 201;(first | refine (CS.out _).mono ?_ | refine (CT.out _).mono ?_);rintro e w5 ⟨rfl,hw5⟩;have hw5:=hw5.symm;subst hw5))
     go_ret
     exact ⟨by rw [HV.out];rfl,by rw [HSo.out];exact He.out.1,Chg.trans (HC.out _ _ (by simp) Hb1.out).2 He.out.2 (fun k hk _=>hk)⟩)
  ·
   have HSo:Hid (rn = { numR ok r with outside:=true }):=by show _=_;rw [HS.out];simp
   clear HS
   cases rw <;> (
    go_enter Tryz.func189,Tryz.ntmps189
    go_wp2_with (first | (go_at_call 199;refine CV.out.mono ?_;rintro e w1 ⟨rfl,hb1⟩;have d8:=(HD.out _ hb1).1;have f8:=(HD.out _ hb1).2;have Hb1:=hidOf hb1;clear hb1) | (go_at_call 106;refine (CX.out _ (HC.out _ _ (by simp) Hb1.out).1).mono ?_;rintro e w3 ⟨⟨v3,rfl⟩,hend⟩;have d9:w3.cell? ⟨p,9,none⟩=some (.bool r.outside):=hend.1.cell 9;have f9:=hend.1.frozen 9;have He:=hidOf hend;clear hend) | (go_at_call 200;refine (CN.out _).mono ?_;rintro e w4 ⟨rfl,hw4⟩;have hw4:=hw4.symm;subst hw4) | (go_at_call 201;(first | refine (CS.out _).mono ?_ | refine (CT.out _).mono ?_);rintro e w5 ⟨rfl,hw5⟩;have hw5:=hw5.symm;subst hw5))
    go_ret
    exact ⟨by rw [HV.out];rfl,by rw [HSo.out];exact He.out.1.set 9 _,Chg.setCell (Chg.trans (HC.out _ _ (by simp) Hb1.out).2 He.out.2 (fun k hk _=>hk)) (p:=⟨p,9,none⟩) (show p=p from rfl) _⟩)
 ·
  simp only [Bool.false_eq_true,if_false,if_true] at HS HV
  cases hg
  ·
   by_cases hn:32768<n
   ·
    have HSo:Hid (rn = { numR ok r with outside:=true }):=by show _=_;rw [HS.out,decide_eq_true hn];simp
    clear HS
    cases rw <;> (
     go_enter Tryz.func189,Tryz.ntmps189
     go_wp2_with (first | (go_at_call 199;refine CV.out.mono ?_;rintro e w1 ⟨rfl,hb1⟩;have d8:=(HD.out _ hb1).1;have f8:=(HD.out _ hb1).2;have Hb1:=hidOf hb1;clear hb1) | (go_at_call 106;refine (CX.out _ (HC.out _ _ (by simp) Hb1.out).1).mono ?_;rintro e w3 ⟨⟨v3,rfl⟩,hend⟩;have d9:w3.cell? ⟨p,9,none⟩=some (.bool r.outside):=hend.1.cell 9;have f9:=hend.1.frozen 9;have He:=hidOf hend;clear hend) | (go_at_call 200;refine (CN.out _).mono ?_;rintro e w4 ⟨rfl,hw4⟩;have hw4:=hw4.symm;subst hw4) | (go_at_call 201;(first | refine (CS.out _).mono ?_ | refine (CT.out _).mono ?_);rintro e w5 ⟨rfl,hw5⟩;have hw5:=hw5.symm;subst hw5))
     go_ret
     exact ⟨by rw [HV.out];rfl,by rw [HSo.out];exact He.out.1.set 9 _,Chg.setCell (Chg.trans (HC.out _ _ (by simp) Hb1.out).2 He.out.2 (fun k hk _=>hk)) (p:=⟨p,9,none⟩) (show p=p from rfl) _⟩)
   ·
    have HSo:Hid (rn=numR ok r):=by show _=_;rw [HS.out,decide_eq_false hn];exact numOut _ _ (by simp [HO.out])
    clear HS
    cases rw <;> (
     go_enter Tryz.func189,Tryz.ntmps189
     go_wp2_with (first | (go_at_call 199;refine CV.out.mono ?_;rintro e w1 ⟨rfl,hb1⟩;have d8:=(HD.out _ hb1).1;have f8:=(HD.out _ hb1).2;have Hb1:=hidOf hb1;clear hb1) | (go_at_call 106;refine (CX.out _ (HC.out _ _ (by simp) Hb1.out).1).mono ?_;rintro e w3 ⟨⟨v3,rfl⟩,hend⟩;have d9:w3.cell? ⟨p,9,none⟩=some (.bool r.outside):=hend.1.cell 9;have f9:=hend.1.frozen 9;have He:=hidOf hend;clear hend) | (go_at_call 200;refine (CN.out _).mono ?_;rintro e w4 ⟨rfl,hw4⟩;have hw4:=hw4.symm;subst hw4) | (go_at_call 201;(first | refine (CS.out _).mono ?_ | refine (CT.out _).mono ?_);rintro e w5 ⟨rfl,hw5⟩;have hw5:=hw5.symm;subst hw5))
     go_ret
     exact ⟨by rw [HV.out];rfl,by rw [HSo.out];exact He.out.1,Chg.trans (HC.out _ _ (by simp) Hb1.out).2 He.out.2 (fun k hk _=>hk)⟩)
  ·
   have HSo:Hid (rn = { numR ok r with outside:=true }):=by show _=_;rw [HS.out];simp
   clear HS
   cases rw <;> (
    go_enter Tryz.func189,Tryz.ntmps189
    go_wp2_with (first | (go_at_call 199;refine CV.out.mono ?_;rintro e w1 ⟨rfl,hb1⟩;have d8:=(HD.out _ hb1).1;have f8:=(HD.out _ hb1).2;have Hb1:=hidOf hb1;clear hb1) | (go_at_call 106;refine (CX.out _ (HC.out _ _ (by simp) Hb1.out).1).mono ?_;rintro e w3 ⟨⟨v3,rfl⟩,hend⟩;have d9:w3.cell? ⟨p,9,none⟩=some (.bool r.outside):=hend.1.cell 9;have f9:=hend.1.frozen 9;have He:=hidOf hend;clear hend) | (go_at_call 200;refine (CN.out _).mono ?_;rintro e w4 ⟨rfl,hw4⟩;have hw4:=hw4.symm;subst hw4) | (go_at_call 201;(first | refine (CS.out _).mono ?_ | refine (CT.out _).mono ?_);rintro e w5 ⟨rfl,hw5⟩;have hw5:=hw5.symm;subst hw5))
    go_ret
    exact ⟨by rw [HV.out];rfl,by rw [HSo.out];exact He.out.1.set 9 _,Chg.setCell (Chg.trans (HC.out _ _ (by simp) Hb1.out).2 He.out.2 (fun k hk _=>hk)) (p:=⟨p,9,none⟩) (show p=p from rfl) _⟩)
set_option maxRecDepth 200000 in
set_option maxHeartbeats 1600000 in
theorem number64 (w:World) (p:Nat) (r:RS) (h:RdAt w p r.cells) (hs:Sm r) (HE:Hid (ErrR w)) (below:Bool) (high:Int):Calls Tryz.prog 189 #[.pointer (some ⟨p,0,none⟩),.bool below,.int .i64 64,.int .u64 high] w fun e w'=>e=.returned (.int .i64 (numV below 64 r))/\MEnd p (numS below 9223372036854775808 high r) w w':=by
 have CV:Hid (Calls Tryz.prog 199 #[.string ⟨r.tok.toArray⟩] w fun e w'=>e=.returned (.tuple #[.int .u64 (valP r.tok).1,.bool (valP r.tok).2.1,.bool (valP r.tok).2.2])/\Below w.heap.size w w'):=by
  have h:=valueOf_any ⟨r.tok.toArray⟩ (by rw [mk_size];have:=hs.2;omega) w HE
  rw [mk_list] at h
  exact h
 have HB:=valP_rng r.tok
 have HS:Hid (numS below 9223372036854775808 high r = { numR (valP r.tok).2.2 r with outside:=r.outside || ((valP r.tok).2.1 || decide ((if below then 9223372036854775808 else high)<(valP r.tok).1)) }):=hidOf rfl
 have HV:Hid (numV below 64 r=wrap64 (Wo.sgnW 64 (if below then Wo.negW (valP r.tok).1 else (valP r.tok).1))):=hidOf rfl
 generalize numS below 9223372036854775808 high r=rn at *
 generalize numV below 64 r=vn at *
 generalize valP r.tok=v at *
 obtain ⟨n,hg,ok⟩:=v
 simp only at CV HB HS HV
 have CX:Hid (∀ wx:World,RdAt wx p ({ r with wrong:=r.wrong || !ok } : RS).cells->Calls Tryz.prog 106 #[.pointer (some ⟨p,0,none⟩)] wx fun e w'=>(∃ v,e=.returned v)/\MEnd p (numR ok r) wx w'):=fun wx hx=>nextR wx p _ hx hs
 have H:=hidOf h
 have c1:w.cell? ⟨p,1,none⟩=some (.string ⟨r.tok.toArray⟩):=h.cell 1
 have CN:Hid (∀ wx:World,Calls Tryz.prog 200 #[.int .u64 n] wx fun e w'=>e=.returned (.int .u64 (Wo.negW n))/\w'=wx):=fun wx=>Wo.Neg_any n wx
 have CS:Hid (∀ wx:World,Calls Tryz.prog 201 #[.int .u64 n,.int .i64 64] wx fun e w'=>e=.returned (.int .u64 (Wo.sgnW 64 n))/\w'=wx):=fun wx=>Wo.Sign_any n 64 wx HB.1 HB.2
 have CT:Hid (∀ wx:World,Calls Tryz.prog 201 #[.int .u64 (Wo.negW n),.int .i64 64] wx fun e w'=>e=.returned (.int .u64 (Wo.sgnW 64 (Wo.negW n)))/\w'=wx):=fun wx=>Wo.Sign_any _ 64 wx (negW_rng n).1 (negW_rng n).2
 have HO:Hid ((numR ok r).outside=r.outside):=hidOf rfl
 clear h hs HE HB
 generalize hw:r.wrong=rw at *
 have HC:Hid (∀ (wx:World) (b:Bool),b=(rw || !ok)->Below w.heap.size w wx->RdAt (wx.setCell ⟨p,8,none⟩ (.bool b)) p #[tx r.rest,tx r.tok,.int .i64 r.o,.int .i64 r.d,.int .i64 r.s,.int .i64 r.f,.int .i64 r.i,tx r.tgt,.bool (rw || !ok),.bool r.outside]/\Chg (fun k=>k=p) w (wx.setCell ⟨p,8,none⟩ (.bool b))):=fun wx b hb hbl=>hb ▸ ⟨(H.out.below hbl).set 8 _,Chg.setCell (Chg.of_out (S:=fun k=>k=p) hbl) (p:=⟨p,8,none⟩) (show p=p from rfl) _⟩
 have HD:Hid (∀ wx:World,Below w.heap.size w wx->wx.cell? ⟨p,8,none⟩=some (.bool rw)/\wx.frozen? ⟨p,8,none⟩=false):=fun wx hbl=>⟨by rw [<-hw];exact (H.out.below hbl).cell 8,(H.out.below hbl).frozen 8⟩
 clear hw
 cases below
 ·
  simp only [Bool.false_eq_true,if_false,if_true] at HS HV
  cases hg
  ·
   by_cases hn:high<n
   ·
    have HSo:Hid (rn = { numR ok r with outside:=true }):=by show _=_;rw [HS.out,decide_eq_true hn];simp
    clear HS
    cases rw <;> (
     go_enter Tryz.func189,Tryz.ntmps189
     go_wp2_with (first | (go_at_call 199;refine CV.out.mono ?_;rintro e w1 ⟨rfl,hb1⟩;have d8:=(HD.out _ hb1).1;have f8:=(HD.out _ hb1).2;have Hb1:=hidOf hb1;clear hb1) | (go_at_call 106;refine (CX.out _ (HC.out _ _ (by simp) Hb1.out).1).mono ?_;rintro e w3 ⟨⟨v3,rfl⟩,hend⟩;have d9:w3.cell? ⟨p,9,none⟩=some (.bool r.outside):=hend.1.cell 9;have f9:=hend.1.frozen 9;have He:=hidOf hend;clear hend) | (go_at_call 200;refine (CN.out _).mono ?_;rintro e w4 ⟨rfl,hw4⟩;have hw4:=hw4.symm;subst hw4) | (go_at_call 201;(first | refine (CS.out _).mono ?_ | refine (CT.out _).mono ?_);rintro e w5 ⟨rfl,hw5⟩;have hw5:=hw5.symm;subst hw5))
     go_ret
     exact ⟨by rw [HV.out];rfl,by rw [HSo.out];exact He.out.1.set 9 _,Chg.setCell (Chg.trans (HC.out _ _ (by simp) Hb1.out).2 He.out.2 (fun k hk _=>hk)) (p:=⟨p,9,none⟩) (show p=p from rfl) _⟩)
   ·
    have HSo:Hid (rn=numR ok r):=by show _=_;rw [HS.out,decide_eq_false hn];exact numOut _ _ (by simp [HO.out])
    clear HS
    cases rw <;> (
     go_enter Tryz.func189,Tryz.ntmps189
     go_wp2_with (first | (go_at_call 199;refine CV.out.mono ?_;rintro e w1 ⟨rfl,hb1⟩;have d8:=(HD.out _ hb1).1;have f8:=(HD.out _ hb1).2;have Hb1:=hidOf hb1;clear hb1) | (go_at_call 106;refine (CX.out _ (HC.out _ _ (by simp) Hb1.out).1).mono ?_;rintro e w3 ⟨⟨v3,rfl⟩,hend⟩;have d9:w3.cell? ⟨p,9,none⟩=some (.bool r.outside):=hend.1.cell 9;have f9:=hend.1.frozen 9;have He:=hidOf hend;clear hend) | (go_at_call 200;refine (CN.out _).mono ?_;rintro e w4 ⟨rfl,hw4⟩;have hw4:=hw4.symm;subst hw4) | (go_at_call 201;(first | refine (CS.out _).mono ?_ | refine (CT.out _).mono ?_);rintro e w5 ⟨rfl,hw5⟩;have hw5:=hw5.symm;subst hw5))
     go_ret
     exact ⟨by rw [HV.out];rfl,by rw [HSo.out];exact He.out.1,Chg.trans (HC.out _ _ (by simp) Hb1.out).2 He.out.2 (fun k hk _=>hk)⟩)
  ·
   have HSo:Hid (rn = { numR ok r with outside:=true }):=by show _=_;rw [HS.out];simp
   clear HS
   cases rw <;> (
    go_enter Tryz.func189,Tryz.ntmps189
    go_wp2_with (first | (go_at_call 199;refine CV.out.mono ?_;rintro e w1 ⟨rfl,hb1⟩;have d8:=(HD.out _ hb1).1;have f8:=(HD.out _ hb1).2;have Hb1:=hidOf hb1;clear hb1) | (go_at_call 106;refine (CX.out _ (HC.out _ _ (by simp) Hb1.out).1).mono ?_;rintro e w3 ⟨⟨v3,rfl⟩,hend⟩;have d9:w3.cell? ⟨p,9,none⟩=some (.bool r.outside):=hend.1.cell 9;have f9:=hend.1.frozen 9;have He:=hidOf hend;clear hend) | (go_at_call 200;refine (CN.out _).mono ?_;rintro e w4 ⟨rfl,hw4⟩;have hw4:=hw4.symm;subst hw4) | (go_at_call 201;(first | refine (CS.out _).mono ?_ | refine (CT.out _).mono ?_);rintro e w5 ⟨rfl,hw5⟩;have hw5:=hw5.symm;subst hw5))
    go_ret
    exact ⟨by rw [HV.out];rfl,by rw [HSo.out];exact He.out.1.set 9 _,Chg.setCell (Chg.trans (HC.out _ _ (by simp) Hb1.out).2 He.out.2 (fun k hk _=>hk)) (p:=⟨p,9,none⟩) (show p=p from rfl) _⟩)
 ·
  simp only [Bool.false_eq_true,if_false,if_true] at HS HV
  cases hg
  ·
   by_cases hn:9223372036854775808<n
   ·
    have HSo:Hid (rn = { numR ok r with outside:=true }):=by show _=_;rw [HS.out,decide_eq_true hn];simp
    clear HS
    cases rw <;> (
     go_enter Tryz.func189,Tryz.ntmps189
     go_wp2_with (first | (go_at_call 199;refine CV.out.mono ?_;rintro e w1 ⟨rfl,hb1⟩;have d8:=(HD.out _ hb1).1;have f8:=(HD.out _ hb1).2;have Hb1:=hidOf hb1;clear hb1) | (go_at_call 106;refine (CX.out _ (HC.out _ _ (by simp) Hb1.out).1).mono ?_;rintro e w3 ⟨⟨v3,rfl⟩,hend⟩;have d9:w3.cell? ⟨p,9,none⟩=some (.bool r.outside):=hend.1.cell 9;have f9:=hend.1.frozen 9;have He:=hidOf hend;clear hend) | (go_at_call 200;refine (CN.out _).mono ?_;rintro e w4 ⟨rfl,hw4⟩;have hw4:=hw4.symm;subst hw4) | (go_at_call 201;(first | refine (CS.out _).mono ?_ | refine (CT.out _).mono ?_);rintro e w5 ⟨rfl,hw5⟩;have hw5:=hw5.symm;subst hw5))
     go_ret
     exact ⟨by rw [HV.out];rfl,by rw [HSo.out];exact He.out.1.set 9 _,Chg.setCell (Chg.trans (HC.out _ _ (by simp) Hb1.out).2 He.out.2 (fun k hk _=>hk)) (p:=⟨p,9,none⟩) (show p=p from rfl) _⟩)
   ·
    have HSo:Hid (rn=numR ok r):=by show _=_;rw [HS.out,decide_eq_false hn];exact numOut _ _ (by simp [HO.out])
    clear HS
    cases rw <;> (
     go_enter Tryz.func189,Tryz.ntmps189
     go_wp2_with (first | (go_at_call 199;refine CV.out.mono ?_;rintro e w1 ⟨rfl,hb1⟩;have d8:=(HD.out _ hb1).1;have f8:=(HD.out _ hb1).2;have Hb1:=hidOf hb1;clear hb1) | (go_at_call 106;refine (CX.out _ (HC.out _ _ (by simp) Hb1.out).1).mono ?_;rintro e w3 ⟨⟨v3,rfl⟩,hend⟩;have d9:w3.cell? ⟨p,9,none⟩=some (.bool r.outside):=hend.1.cell 9;have f9:=hend.1.frozen 9;have He:=hidOf hend;clear hend) | (go_at_call 200;refine (CN.out _).mono ?_;rintro e w4 ⟨rfl,hw4⟩;have hw4:=hw4.symm;subst hw4) | (go_at_call 201;(first | refine (CS.out _).mono ?_ | refine (CT.out _).mono ?_);rintro e w5 ⟨rfl,hw5⟩;have hw5:=hw5.symm;subst hw5))
     go_ret
     exact ⟨by rw [HV.out];rfl,by rw [HSo.out];exact He.out.1,Chg.trans (HC.out _ _ (by simp) Hb1.out).2 He.out.2 (fun k hk _=>hk)⟩)
  ·
   have HSo:Hid (rn = { numR ok r with outside:=true }):=by show _=_;rw [HS.out];simp
   clear HS
   cases rw <;> (
    go_enter Tryz.func189,Tryz.ntmps189
    go_wp2_with (first | (go_at_call 199;refine CV.out.mono ?_;rintro e w1 ⟨rfl,hb1⟩;have d8:=(HD.out _ hb1).1;have f8:=(HD.out _ hb1).2;have Hb1:=hidOf hb1;clear hb1) | (go_at_call 106;refine (CX.out _ (HC.out _ _ (by simp) Hb1.out).1).mono ?_;rintro e w3 ⟨⟨v3,rfl⟩,hend⟩;have d9:w3.cell? ⟨p,9,none⟩=some (.bool r.outside):=hend.1.cell 9;have f9:=hend.1.frozen 9;have He:=hidOf hend;clear hend) | (go_at_call 200;refine (CN.out _).mono ?_;rintro e w4 ⟨rfl,hw4⟩;have hw4:=hw4.symm;subst hw4) | (go_at_call 201;(first | refine (CS.out _).mono ?_ | refine (CT.out _).mono ?_);rintro e w5 ⟨rfl,hw5⟩;have hw5:=hw5.symm;subst hw5))
    go_ret
    exact ⟨by rw [HV.out];rfl,by rw [HSo.out];exact He.out.1.set 9 _,Chg.setCell (Chg.trans (HC.out _ _ (by simp) Hb1.out).2 He.out.2 (fun k hk _=>hk)) (p:=⟨p,9,none⟩) (show p=p from rfl) _⟩)
end Go.Proofs.YtadneimllbfdnaaGreatDoor
