import Derived.Test.YtadneimllbfdnaaGreatDoorGu22
namespace Go.Proofs.YtadneimllbfdnaaGreatDoor
open Go.RowKit
set_option linter.unusedVariables false
set_option linter.unusedSimpArgs false
theorem mem_row (k:Nat) (hk:k<4):∃ l,memT[k]? = some (memA k,l)/\∀ j,l.getD j []=memW k j:=by
 rcases (show k=0\/k=1\/k=2\/k=3 from by omega) with rfl | rfl | rfl | rfl <;> exact ⟨_,rfl,fun j=>rfl⟩
theorem mem_hit (o i:Int) (j:Nat) (hj:bits .and .i64 o 24=(j:Int)*8) (k:Nat) (hk:k<4) (h:(bits .andNot .i64 o 24 == memA k)=true) (hno:∀ q,q<k->(bits .andNot .i64 o 24 == memA q)=false):wMem o i=memW k j:=by
 unfold wMem
 obtain ⟨l,hl,hw⟩:=mem_row k hk
 rw [find_at (fun r:Int × List (List UInt8)=>bits .andNot .i64 o 24 == r.1) memT k _ hl h (fun q y hq hy=>by
  obtain ⟨l',hl',_⟩:=mem_row q (by omega)
  rw [hl'] at hy
  simp only [Option.some.injEq] at hy
  subst hy
  exact hno q hq)]
 simp only
 rw [hj,show ((j:Int)*8 / 8).toNat=j from by omega]
 exact hw j
theorem mem_miss (o i:Int) (hno:∀ q,q<4->(bits .andNot .i64 o 24 == memA q)=false):wMem o i=wImm o i:=by
 unfold wMem
 rw [find_no (fun r:Int × List (List UInt8)=>bits .andNot .i64 o 24 == r.1) memT (fun q y hq hy=>by
  obtain ⟨l',hl',_⟩:=mem_row q hq
  rw [hl'] at hy
  simp only [Option.some.injEq] at hy
  subst hy
  exact hno q hq)]
theorem and24:∀ o:Fin 256,∃ j:Fin 4,bits .and .i64 (o.val:Int) 24=(j.val:Int)*8:=by decide +kernel
set_option maxRecDepth 20000 in
set_option maxHeartbeats 1600000 in
theorem memWord_at (o d s f i:Int) (j:Nat) (hj4:j<4) (hj:bits .and .i64 o 24=(j:Int)*8) (w:World) (hM:MemTb w) (hI:ImmTb w):Calls Tryz.prog 83 #[.agg #[.int .i64 o,.int .i64 d,.int .i64 s,.int .i64 f,.int .i64 i]] w fun e w'=>e=.returned (.string ⟨(wMem o i).toArray⟩)/\Out w w':=by
 have HH:=hidOf (mem_hit o i j hj)
 have HM:=hidOf (mem_miss o i)
 have CI:Hid (∀ wx,Out w wx->Calls Tryz.prog 119 #[.agg #[.int .i64 o,.int .i64 d,.int .i64 s,.int .i64 f,.int .i64 i]] wx fun e w'=>e=.returned (.string ⟨(wImm o i).toArray⟩)/\Out wx w'):=fun wx ho=>immWord_any o d s f i wx (rangeAt_out hI ho)
 obtain ⟨A,HA⟩:∃ A:Nat->Int,Hid (A=memA):=⟨_,hidOf rfl⟩
 obtain ⟨W,HW⟩:∃ W:Nat->Nat->List UInt8,Hid (W=memW):=⟨_,hidOf rfl⟩
 obtain ⟨cs,hcs⟩:∃ cs,cs=memCs:=⟨_,rfl⟩
 rw [<-HA.out] at HH HM
 rw [<-HW.out] at HH
 generalize wMem o i=R at *
 generalize wImm o i=RI at *
 have hix:∀ (k:Nat),(k:Int)<4->∀ w:World,(Instr.index 165 (.agg cs.toArray) (.int .i64 k)).run Tryz.prog w=.ok (.agg #[.int .u8 (A k),.string ⟨(W k 0).toArray⟩,.string ⟨(W k 1).toArray⟩,.string ⟨(W k 2).toArray⟩,.string ⟨(W k 3).toArray⟩]) w:=fun k hk w=>by
  rw [hcs,mem_idx k (by omega) w,HA.out,HW.out]
 have HRg:Hid ((w.alloc (.cells #[.int .i64 o,.int .i64 d,.int .i64 s,.int .i64 f,.int .i64 i] 40)).rangeAt 4 0 cs):=by rw [hcs];exact rangeAt_out hM ((Out.refl w).alloc _)
 have HSz:Hid ((Tryz.prog.info? 165).map (·.size)=some cs.length):=by
  rw [hcs]
  exact (show (Tryz.prog.info? 165).map (·.size)=some memCs.length by kernel_rfl)
 have HAB:Hid (∀ k:Nat,k<4->0<=A k/\A k<256):=by
  rw [HA.out]
  intro k hk
  have:=mem_all ⟨k,hk⟩ 0
  exact ⟨this.2.2.2.1,this.2.2.2.2⟩
 clear hM hI hcs
 go_enter Tryz.func83,Tryz.ntmps83
 go_wp2_with (refine wpList_load_mid rfl 165 (.global 4) rfl 4 0 rfl cs _ HRg.out Tryz.underlying165 rfl HSz.out ?_)
 go_loopw [6] (fun iv wr=>∃ k:Nat,k<=4/\iv=.int .i64 k/\Hid (∀ q,q<k->(bits .andNot .i64 o 24 == A q)=false)/\Out (w.alloc (.cells #[.int .i64 o,.int .i64 d,.int .i64 s,.int .i64 f,.int .i64 i] 40)) wr) (fun iv _=>4 - (intOf iv).toNat)
 case atStart=>exact ⟨0,by omega,rfl,fun j hj=>by omega,Out.refl _⟩
 case round=>
  obtain ⟨k,hk,rfl,Hno,ho⟩:=hrel
  have q0:∀ O,(wr.alloc O).cell? ⟨w.heap.size,0,none⟩=some (.int .i64 o):=fun O=>cell_later (ho.alloc O) (new_cell w _ _ 0)
  have Ho:=hidOf ho
  by_cases hkN:k<4
  ·
   have hlt:(k:Int)<4:=by omega
   obtain ⟨b1,b2⟩:=HAB.out k hkN
   clear ho
   cases h1:(bits .andNot .i64 o 24 == (A k))
   ·
    have Hno':Hid (∀ q,q<k+1->(bits .andNot .i64 o 24 == A q)=false):=fun q hq=>by
     by_cases z:q=k
     · subst z;exact h1
     · exact Hno.out q (by omega)
    go_wp2
    go_roundw
    case rel=>exact ⟨k+1,by omega,by simp,Hno',Ho.out.alloc _⟩
    case measure=>simp [intOf];omega
   ·
    have HRes:Hid (R=W k j):=HH.out k hkN h1 Hno.out
    rcases (show j=0\/j=1\/j=2\/j=3 from by omega) with rfl | rfl | rfl | rfl
    all_goals (first | (have hj':bits .and .i64 o 24=0:=hj.trans rfl) | (have hj':bits .and .i64 o 24=8:=hj.trans rfl) | (have hj':bits .and .i64 o 24=16:=hj.trans rfl) | (have hj':bits .and .i64 o 24=24:=hj.trans rfl))
    all_goals clear hj
    all_goals go_wp2
    all_goals go_ret
    all_goals exact ⟨by rw [HRes.out];rfl,Out.trans ((Out.refl w).alloc _) (Ho.out.alloc _)⟩
  ·
   have hlt:¬(k:Int)<4:=by omega
   obtain rfl:k=4:=by omega
   have HRes:Hid (R=RI):=HM.out Hno.out
   have c0:wr.cell? ⟨w.heap.size,0,none⟩=some (.int .i64 o):=cell_later ho (new_cell w _ _ 0)
   have c1:wr.cell? ⟨w.heap.size,1,none⟩=some (.int .i64 d):=cell_later ho (new_cell w _ _ 1)
   have c2:wr.cell? ⟨w.heap.size,2,none⟩=some (.int .i64 s):=cell_later ho (new_cell w _ _ 2)
   have c3:wr.cell? ⟨w.heap.size,3,none⟩=some (.int .i64 f):=cell_later ho (new_cell w _ _ 3)
   have c4:wr.cell? ⟨w.heap.size,4,none⟩=some (.int .i64 i):=cell_later ho (new_cell w _ _ 4)
   have CIr:=hidOf (CI.out wr (Out.trans ((Out.refl w).alloc _) ho))
   clear ho
   go_wp2_with (go_at_call 119;refine CIr.out.mono ?_;rintro e w1 ⟨rfl,ho1⟩;have Ho1:=hidOf ho1;clear ho1)
   go_ret
   exact ⟨by rw [HRes.out];rfl,Out.trans (Out.trans ((Out.refl w).alloc _) Ho.out) Ho1.out⟩
theorem memoryWord_any (o d s f i:Int) (h0:0<=o) (h1:o<256) (w:World) (hM:MemTb w) (hI:ImmTb w):Calls Tryz.prog 83 #[.agg #[.int .i64 o,.int .i64 d,.int .i64 s,.int .i64 f,.int .i64 i]] w fun e w'=>e=.returned (.string ⟨(wMem o i).toArray⟩)/\Out w w':=by
 obtain ⟨j,hj⟩:=and24 ⟨o.toNat,by omega⟩
 rw [show (((⟨o.toNat,by omega⟩:Fin 256).val:Nat):Int)=o from by simp only;omega] at hj
 exact memWord_at o d s f i j.val j.isLt hj w hM hI
theorem reckCs_at:∀ k:Fin 13,reckCs[k.val*2]? = some (.string ⟨(reckA k.val).toArray⟩)/\reckCs[k.val*2+1]? = some (.string ⟨(reckB k.val).toArray⟩):=by
 intro k
 obtain ⟨k,hk⟩:=k
 rcases (show k=0\/k=1\/k=2\/k=3\/k=4\/k=5\/k=6\/k=7\/k=8\/k=9\/k=10\/k=11\/k=12 from by omega) with rfl | rfl | rfl | rfl | rfl | rfl | rfl | rfl | rfl | rfl | rfl | rfl | rfl <;> exact ⟨rfl,rfl⟩
theorem jumpCs_at:∀ k:Fin 14,jumpCs[k.val*2]? = some (.string ⟨(jumpA k.val).toArray⟩)/\jumpCs[k.val*2+1]? = some (.string ⟨(jumpB k.val).toArray⟩):=by
 intro k
 obtain ⟨k,hk⟩:=k
 rcases (show k=0\/k=1\/k=2\/k=3\/k=4\/k=5\/k=6\/k=7\/k=8\/k=9\/k=10\/k=11\/k=12\/k=13 from by omega) with rfl | rfl | rfl | rfl | rfl | rfl | rfl | rfl | rfl | rfl | rfl | rfl | rfl | rfl <;> exact ⟨rfl,rfl⟩
theorem ReckTb.at {w:World} (h:ReckTb w) (k:Nat) (hk:k<13):w.cell? ⟨3,k*2,none⟩=some (.string ⟨(reckA k).toArray⟩)/\w.cell? ⟨3,k*2+1,none⟩=some (.string ⟨(reckB k).toArray⟩):=by
 have a:=h _ _ (reckCs_at ⟨k,hk⟩).1
 have b:=h _ _ (reckCs_at ⟨k,hk⟩).2
 simp only [Nat.zero_add] at a b
 exact ⟨a,b⟩
theorem JumpTb.at {w:World} (h:JumpTb w) (k:Nat) (hk:k<14):w.cell? ⟨1,k*2,none⟩=some (.string ⟨(jumpA k).toArray⟩)/\w.cell? ⟨1,k*2+1,none⟩=some (.string ⟨(jumpB k).toArray⟩):=by
 have a:=h _ _ (jumpCs_at ⟨k,hk⟩).1
 have b:=h _ _ (jumpCs_at ⟨k,hk⟩).2
 simp only [Nat.zero_add] at a b
 exact ⟨a,b⟩
theorem pick_reck (k:Nat) (hk:k<13) (b:Bool):pick2 reckT k b=if b then reckB k else reckA k:=by
 unfold pick2
 rw [reck_row k hk]
theorem pick_jump (k:Nat) (hk:k<14) (b:Bool):pick2 jumpT k b=if b then jumpB k else jumpA k:=by
 unfold pick2
 rw [jump_row k hk]
theorem reckonWord_any (o d s f i:Int) (w:World) (h0:0<=o) (hT:WTabs w) (hd:f=0->¬shrO o=13->shrO o<13):Calls Tryz.prog 82 #[.agg #[.int .i64 o,.int .i64 d,.int .i64 s,.int .i64 f,.int .i64 i]] w fun e w'=>e=.returned (.string ⟨(wReck o f i).toArray⟩)/\Out w w':=by
 have CI:Hid (∀ wx,Out w wx->Calls Tryz.prog 119 #[.agg #[.int .i64 o,.int .i64 d,.int .i64 s,.int .i64 f,.int .i64 i]] wx fun e w'=>e=.returned (.string ⟨(wImm o i).toArray⟩)/\Out wx w'):=fun wx ho=>immWord_any o d s f i wx (rangeAt_out hT.2.2.2.2 ho)
 have CO:Hid (∀ wx,Out w wx->Calls Tryz.prog 118 #[.agg #[.int .i64 o,.int .i64 d,.int .i64 s,.int .i64 f,.int .i64 i]] wx fun e w'=>e=.returned (.string ⟨(wOff o f).toArray⟩)/\Out wx w'):=fun wx ho=>offWord_any o d s f i wx (rangeAt_out hT.2.2.2.1 ho)
 obtain ⟨k,hk,hke⟩:∃ k:Nat,o / 16=(k:Int)/\k=shrO o:=⟨shrO o,by unfold shrO;omega,rfl⟩
 rw [<-hke] at hd
 unfold wReck
 rw [<-hke]
 by_cases hf:f=0
 ·
  rw [if_pos hf]
  by_cases h13:k=13
  ·
   rw [if_pos h13]
   subst hf h13
   clear hd hT CO hke
   go_enter Tryz.func82,Tryz.ntmps82
   go_wp2_with (go_at_call 119;refine (CI.out _ ((Out.refl w).alloc _)).mono ?_;rintro e w1 ⟨rfl,ho1⟩;have Ho1:=hidOf ho1;clear ho1)
   go_ret
   exact ⟨rfl,Out.trans ((Out.refl w).alloc _) Ho1.out⟩
  ·
   rw [if_neg h13]
   have hk13:=hd hf h13
   rw [pick_reck k hk13]
   have c0:∀ O,(w.alloc O).cell? ⟨3,k*2,none⟩=some (.string ⟨(reckA k).toArray⟩):=fun O=>cell_later ((Out.refl w).alloc O) (ReckTb.at hT.1 k hk13).1
   have c1:∀ O,(w.alloc O).cell? ⟨3,k*2+1,none⟩=some (.string ⟨(reckB k).toArray⟩):=fun O=>cell_later ((Out.refl w).alloc O) (ReckTb.at hT.1 k hk13).2
   have hlt:(k:Int)<13:=by omega
   have hne:((k:Int) == 13)=false:=by simp only [beq_eq_false_iff_ne];omega
   generalize reckA k=RA at *
   generalize reckB k=RB at *
   subst hf
   clear hd hT CO CI hke h13 hk13
   unfold cls
   cases h7:(bits .and .i64 o 7 == 7)
   ·
    go_enter Tryz.func82,Tryz.ntmps82
    go_wp2
    go_ret
    exact ⟨rfl,(Out.refl w).alloc _⟩
   ·
    go_enter Tryz.func82,Tryz.ntmps82
    go_wp2
    go_ret
    exact ⟨rfl,(Out.refl w).alloc _⟩
 ·
  rw [if_neg hf]
  have hne:(f != 0)=true:=by simpa using hf
  clear hd hT CI hke hf
  go_enter Tryz.func82,Tryz.ntmps82
  go_wp2_with (go_at_call 118;refine (CO.out _ ((Out.refl w).alloc _)).mono ?_;rintro e w1 ⟨rfl,ho1⟩;have Ho1:=hidOf ho1;clear ho1)
  go_ret
  exact ⟨rfl,Out.trans ((Out.refl w).alloc _) Ho1.out⟩
theorem wordOf_any (o d s f i:Int) (w:World) (h0:0<=o) (h1:o<256) (hT:WTabs w) (hd:(cls o=7\/cls o=4)->f=0->¬shrO o=13->shrO o<13) (hj:(cls o=5\/cls o=6)->shrO o<14):Calls Tryz.prog 57 #[.agg #[.int .i64 o,.int .i64 d,.int .i64 s,.int .i64 f,.int .i64 i]] w fun e w'=>e=.returned (.string ⟨(wordP o s f i).toArray⟩)/\Out w w':=by
 obtain ⟨k,hk,hke⟩:∃ k:Nat,o / 16=(k:Int)/\k=shrO o:=⟨shrO o,by unfold shrO;omega,rfl⟩
 unfold wordP
 by_cases c0:cls o=0
 ·
  rw [if_pos c0]
  have hc:bits .and .i64 o 7=0:=c0
  clear hd hj hT
  by_cases hs:s=1
  ·
   rw [if_pos hs]
   subst hs
   go_enter Tryz.func57,Tryz.ntmps57
   go_wp2
   go_ret
   exact ⟨rfl,(Out.refl w).alloc _⟩
  ·
   rw [if_neg hs]
   have hs':(s == 1)=false:=by simpa using hs
   go_enter Tryz.func57,Tryz.ntmps57
   go_wp2
   go_ret
   exact ⟨rfl,(Out.refl w).alloc _⟩
 rw [if_neg c0]
 by_cases c7:cls o=7
 ·
  rw [if_pos c7]
  have CR:Hid (∀ wx,Out w wx->Calls Tryz.prog 82 #[.agg #[.int .i64 o,.int .i64 d,.int .i64 s,.int .i64 f,.int .i64 i]] wx fun e w'=>e=.returned (.string ⟨(wReck o f i).toArray⟩)/\Out wx w'):=fun wx ho=>reckonWord_any o d s f i wx h0 (hT.out ho) (hd (.inl c7))
  have hc:bits .and .i64 o 7=7:=c7
  clear hd hj hT c0 c7
  go_enter Tryz.func57,Tryz.ntmps57
  go_wp2_with (go_at_call 82;refine (CR.out _ ((Out.refl w).alloc _)).mono ?_;rintro e w1 ⟨rfl,ho1⟩;have Ho1:=hidOf ho1;clear ho1)
  go_ret
  exact ⟨rfl,Out.trans ((Out.refl w).alloc _) Ho1.out⟩
 rw [if_neg c7]
 by_cases c4:cls o=4
 ·
  rw [if_pos c4]
  have CR:Hid (∀ wx,Out w wx->Calls Tryz.prog 82 #[.agg #[.int .i64 o,.int .i64 d,.int .i64 s,.int .i64 f,.int .i64 i]] wx fun e w'=>e=.returned (.string ⟨(wReck o f i).toArray⟩)/\Out wx w'):=fun wx ho=>reckonWord_any o d s f i wx h0 (hT.out ho) (hd (.inr c4))
  have hc:bits .and .i64 o 7=4:=c4
  clear hd hj hT c0 c7 c4
  go_enter Tryz.func57,Tryz.ntmps57
  go_wp2_with (go_at_call 82;refine (CR.out _ ((Out.refl w).alloc _)).mono ?_;rintro e w1 ⟨rfl,ho1⟩;have Ho1:=hidOf ho1;clear ho1)
  go_ret
  exact ⟨rfl,Out.trans ((Out.refl w).alloc _) Ho1.out⟩
 rw [if_neg c4]
 by_cases c5:cls o=5
 ·
  rw [if_pos c5]
  have hk14:=hj (.inl c5)
  rw [<-hke] at hk14 ⊢
  rw [pick_jump k hk14,if_neg (by decide)]
  have q0:∀ O,(w.alloc O).cell? ⟨1,k*2,none⟩=some (.string ⟨(jumpA k).toArray⟩):=fun O=>cell_later ((Out.refl w).alloc O) (JumpTb.at hT.2.1 k hk14).1
  have hlt:(k:Int)<14:=by omega
  have hc:bits .and .i64 o 7=5:=c5
  generalize jumpA k=RA at *
  clear hd hj hT c0 c7 c4 c5 hke hk14
  go_enter Tryz.func57,Tryz.ntmps57
  go_wp2
  go_ret
  exact ⟨rfl,(Out.refl w).alloc _⟩
 rw [if_neg c5]
 by_cases c6:cls o=6
 ·
  rw [if_pos c6]
  have hk14:=hj (.inr c6)
  rw [<-hke] at hk14 ⊢
  rw [pick_jump k hk14,if_pos rfl]
  have q0:∀ O,(w.alloc O).cell? ⟨1,k*2+1,none⟩=some (.string ⟨(jumpB k).toArray⟩):=fun O=>cell_later ((Out.refl w).alloc O) (JumpTb.at hT.2.1 k hk14).2
  have hlt:(k:Int)<14:=by omega
  have hc:bits .and .i64 o 7=6:=c6
  generalize jumpB k=RA at *
  clear hd hj hT c0 c7 c4 c5 c6 hke hk14
  go_enter Tryz.func57,Tryz.ntmps57
  go_wp2
  go_ret
  exact ⟨rfl,(Out.refl w).alloc _⟩
 rw [if_neg c6]
 have CM:Hid (∀ wx,Out w wx->Calls Tryz.prog 83 #[.agg #[.int .i64 o,.int .i64 d,.int .i64 s,.int .i64 f,.int .i64 i]] wx fun e w'=>e=.returned (.string ⟨(wMem o i).toArray⟩)/\Out wx w'):=fun wx ho=>memoryWord_any o d s f i h0 h1 wx (hT.out ho).2.2.1 (hT.out ho).2.2.2.2
 have n0:(bits .and .i64 o 7 == 0)=false:=beq_eq_false_iff_ne.2 c0
 have n7:(bits .and .i64 o 7 == 7)=false:=beq_eq_false_iff_ne.2 c7
 have n4:(bits .and .i64 o 7 == 4)=false:=beq_eq_false_iff_ne.2 c4
 have n5:(bits .and .i64 o 7 == 5)=false:=beq_eq_false_iff_ne.2 c5
 have n6:(bits .and .i64 o 7 == 6)=false:=beq_eq_false_iff_ne.2 c6
 clear hd hj hT c0 c7 c4 c5 c6 hke
 go_enter Tryz.func57,Tryz.ntmps57
 go_wp2_with (go_at_call 83;refine (CM.out _ ((Out.refl w).alloc _)).mono ?_;rintro e w1 ⟨rfl,ho1⟩;have Ho1:=hidOf ho1;clear ho1)
 go_ret
 exact ⟨rfl,Out.trans ((Out.refl w).alloc _) Ho1.out⟩
theorem brow_out {B size:Nat} {w w':World} {e:TypeId} {v:Value} {n:Nat} {xs:List Value} (h:w.ownsRow B e size v n xs) (o:Out w w'):w'.ownsRow B e size v n xs:=by
 refine ⟨h.1, ?_⟩
 rcases h.2 with hn | ⟨g,cap,cur,rfl,hb,hg,rest⟩
 · exact .inl hn
 ·
  refine .inr ⟨g,cap,cur,rfl,hb, ?_,rest⟩
  rw [o.block g (Array.getElem?_eq_some_iff.1 hg).1]
  exact hg
def Bd (w0:World) (b:Nat) (L:List UInt8) (w:World):Prop:=Lib.IsBuilder 56 5 w0.heap.size b (Lib.byteCells L) w/\Out w0 w
theorem Bd.out {w0 w w':World} {b:Nat} {L:List UInt8} (h:Bd w0 b L w) (o:Out w w'):Bd w0 b L w':=by
 refine ⟨?_,Out.trans h.2 o⟩
 rcases h.1 with ⟨hB,v,hb,hown,hne⟩ | ⟨hB,v,hb,hown,hne⟩
 · exact .inl ⟨hB,v,(o.block b (Array.getElem?_eq_some_iff.1 hb).1).trans hb,brow_out hown o,hne⟩
 · exact .inr ⟨hB,v,(o.block b (Array.getElem?_eq_some_iff.1 hb).1).trans hb,brow_out hown o,hne⟩
theorem Bd.new (w0:World):Bd w0 w0.heap.size [] (w0.alloc (.cells #[.pointer none,.slice none 0 0] 56)):=by
 refine ⟨.inl ⟨Nat.le_refl _,.slice none 0 0,heap_alloc_new w0 _, ?_, ?_⟩,(Out.refl w0).alloc _⟩
 · exact ⟨by simp [Lib.byteCells],.inl ⟨rfl,rfl⟩⟩
 · simp [Value.ownBlock]
theorem Bd.write {w0 w:World} {b:Nat} {L:List UInt8} (h:Bd w0 b L w) (l:List UInt8) (hl:L.length+l.length<=140737488355328):Calls Tryz.prog 34 #[.pointer (some ⟨b,0,none⟩),.string ⟨l.toArray⟩] w fun e w'=>(∃ v,e=.returned v)/\Bd w0 b (L++l) w':=by
 refine (write_any w0.heap.size b _ ⟨l.toArray⟩ w h.1 (by rw [Lib.byteCells_length,mk_size];exact hl) h.2.size).mono fun e w' ⟨he,hb,hB⟩=>⟨he, ?_,Below.trans h.2 hB⟩
 rw [show Lib.byteCells (L++l)=Lib.byteCells L++Lib.strCells ⟨l.toArray⟩ from by simp [Lib.byteCells,Lib.strCells]]
 exact hb
theorem Bd.text {w0 w:World} {b:Nat} {L:List UInt8} (h:Bd w0 b L w):Calls Tryz.prog 17 #[.pointer (some ⟨b,0,none⟩)] w fun e w'=>e=.returned (.string ⟨L.toArray⟩)/\Out w0 w':=
 (Tryz.Builder_String_any w0.heap.size b L w h.1 h.2.size).mono fun e w' ⟨he,hb⟩=>⟨he,Below.trans h.2 hb⟩
def Bx (ib:Nat) (o d s f i:Int) (wx:World):Prop:=wx.cell? ⟨ib,0,none⟩=some (.int .i64 o)/\wx.cell? ⟨ib,1,none⟩=some (.int .i64 d)/\wx.cell? ⟨ib,2,none⟩=some (.int .i64 s)/\wx.cell? ⟨ib,3,none⟩=some (.int .i64 f)/\wx.cell? ⟨ib,4,none⟩=some (.int .i64 i)
theorem Bx.new (w:World) (o d s f i:Int):Bx w.heap.size o d s f i (w.alloc (.cells #[.int .i64 o,.int .i64 d,.int .i64 s,.int .i64 f,.int .i64 i] 40)):=⟨new_cell w _ _ 0,new_cell w _ _ 1,new_cell w _ _ 2,new_cell w _ _ 3,new_cell w _ _ 4⟩
theorem Bx.out {ib:Nat} {o d s f i:Int} {w w':World} (h:Bx ib o d s f i w) (u:Out w w'):Bx ib o d s f i w':=⟨cell_later u h.1,cell_later u h.2.1,cell_later u h.2.2.1,cell_later u h.2.2.2.1,cell_later u h.2.2.2.2⟩
theorem Bd.box {w0 w:World} {b:Nat} {L:List UInt8} (h:Bd w0 b L w) {ib:Nat} {o d s f i:Int} (k:Bx ib o d s f i w0):Bx ib o d s f i w:=k.out h.2
set_option maxRecDepth 20000 in
set_option maxHeartbeats 3200000 in
theorem print_0 (o d s f i:Int) (t W:List UInt8) (a b c:Int) (w:World) (hz:a=0) (hW:W.length<=1000)
  (CM:Hid (∀ wx,Out w wx->Calls Tryz.prog 55 #[.agg #[.int .i64 o,.int .i64 d,.int .i64 s,.int .i64 f,.int .i64 i]] wx fun e w'=>e=.returned (.int .i64 0)/\Out wx w'))
  (CF:Hid (∀ wx,Out w wx->Calls Tryz.prog 56 #[.agg #[.int .i64 o,.int .i64 d,.int .i64 s,.int .i64 f,.int .i64 i],.string ⟨t.toArray⟩] wx fun e w'=>e=.returned (.bool true)/\Out wx w'))
  (CW:Hid (∀ wx,Out w wx->Calls Tryz.prog 57 #[.agg #[.int .i64 o,.int .i64 d,.int .i64 s,.int .i64 f,.int .i64 i]] wx fun e w'=>e=.returned (.string ⟨W.toArray⟩)/\Out wx w'))
  (CO:Hid (∀ wx,Out w wx->Calls Tryz.prog 58 #[.agg #[.int .i64 o,.int .i64 d,.int .i64 s,.int .i64 f,.int .i64 i]] wx fun e w'=>e=.returned (.agg #[.int .u8 a,.int .u8 b,.int .u8 c])/\Out wx w'))
  : Calls Tryz.prog 29 #[.agg #[.int .i64 o,.int .i64 d,.int .i64 s,.int .i64 f,.int .i64 i],.string ⟨t.toArray⟩] w fun e w'=>e=.returned (.tuple #[.string ⟨([]++W).toArray⟩,.int .i64 0])/\Out w w':=by
 subst hz
 have hx0:∀ w:World,(Instr.index 106 (.agg #[.int .u8 0,.int .u8 b,.int .u8 c]) (.int .i64 0)).run Tryz.prog w=.ok (.int .u8 0) w:=fun w=>idx3_0 _ _ _ w
 have HX:=hidOf (Bx.new w o d s f i)
 have HW:=hidOf hW
 clear hW
 go_enter Tryz.func29,Tryz.ntmps29
 go_wp2_with (first | (go_at_call 55;refine (CM.out _ ((Out.refl w).alloc _)).mono ?_;rintro e w1 ⟨rfl,ho⟩;have H1:=hidOf ho;obtain ⟨c0,c1,c2,c3,c4⟩:=HX.out.out ho;clear ho) | (go_at_call 56;refine (CF.out _ (Out.trans ((Out.refl w).alloc _) H1.out)).mono ?_;rintro e w2 ⟨rfl,ho⟩;have H2:=hidOf (Out.trans H1.out ho);have c0:∀ O,(w2.alloc O).cell? ⟨w.heap.size,0,none⟩=some (.int .i64 o):=fun O=>(HX.out.out (Out.trans H1.out (ho.alloc O))).1;have c1:∀ O,(w2.alloc O).cell? ⟨w.heap.size,1,none⟩=some (.int .i64 d):=fun O=>(HX.out.out (Out.trans H1.out (ho.alloc O))).2.1;have c2:∀ O,(w2.alloc O).cell? ⟨w.heap.size,2,none⟩=some (.int .i64 s):=fun O=>(HX.out.out (Out.trans H1.out (ho.alloc O))).2.2.1;have c3:∀ O,(w2.alloc O).cell? ⟨w.heap.size,3,none⟩=some (.int .i64 f):=fun O=>(HX.out.out (Out.trans H1.out (ho.alloc O))).2.2.2.1;have c4:∀ O,(w2.alloc O).cell? ⟨w.heap.size,4,none⟩=some (.int .i64 i):=fun O=>(HX.out.out (Out.trans H1.out (ho.alloc O))).2.2.2.2;clear ho) | (go_at_call 57;refine (CW.out _ (Out.trans (Out.trans ((Out.refl w).alloc _) H2.out) ((Out.refl w2).alloc _))).mono ?_;rintro e w3 ⟨rfl,ho⟩;have B3:=hidOf ((Bd.new w2).out ho);clear ho) | (go_at_call 34;refine (B3.out.write W (by have:=HW.out;simp;omega)).mono ?_;rintro e w4 ⟨⟨v4,rfl⟩,hb⟩;have B4:=hidOf hb;obtain ⟨c0,c1,c2,c3,c4⟩:=hb.box (HX.out.out H2.out);clear hb) | (go_at_call 58;refine (CO.out _ (Out.trans (Out.trans ((Out.refl w).alloc _) H2.out) B4.out.2)).mono ?_;rintro e w5 ⟨rfl,ho⟩;have B5:=hidOf (B4.out.out ho);clear ho))
 refine wp_loop_rounds 4 ?_
 rw [rounds_succ]
 go_wp2_with (go_at_call 17;refine B5.out.text.mono ?_;rintro e wz ⟨rfl,ho⟩;have HZ:=hidOf ho;clear ho)
 go_ret2
 exact ⟨by first | rfl | simp [List.append_assoc],Out.trans (Out.trans ((Out.refl w).alloc _) H2.out) HZ.out⟩
set_option maxRecDepth 20000 in
set_option maxHeartbeats 3200000 in
theorem print_1 (o d s f i:Int) (t W T1:List UInt8) (a b c:Int) (w:World) (za:(a == 0)=false) (hz:b=0) (hW:W.length<=1000) (hT1:T1.length<=1000)
  (CM:Hid (∀ wx,Out w wx->Calls Tryz.prog 55 #[.agg #[.int .i64 o,.int .i64 d,.int .i64 s,.int .i64 f,.int .i64 i]] wx fun e w'=>e=.returned (.int .i64 0)/\Out wx w'))
  (CF:Hid (∀ wx,Out w wx->Calls Tryz.prog 56 #[.agg #[.int .i64 o,.int .i64 d,.int .i64 s,.int .i64 f,.int .i64 i],.string ⟨t.toArray⟩] wx fun e w'=>e=.returned (.bool true)/\Out wx w'))
  (CW:Hid (∀ wx,Out w wx->Calls Tryz.prog 57 #[.agg #[.int .i64 o,.int .i64 d,.int .i64 s,.int .i64 f,.int .i64 i]] wx fun e w'=>e=.returned (.string ⟨W.toArray⟩)/\Out wx w'))
  (CO:Hid (∀ wx,Out w wx->Calls Tryz.prog 58 #[.agg #[.int .i64 o,.int .i64 d,.int .i64 s,.int .i64 f,.int .i64 i]] wx fun e w'=>e=.returned (.agg #[.int .u8 a,.int .u8 b,.int .u8 c])/\Out wx w'))
  (C1:Hid (∀ wx,Out w wx->Calls Tryz.prog 59 #[.agg #[.int .i64 o,.int .i64 d,.int .i64 s,.int .i64 f,.int .i64 i],.int .u8 a,.string ⟨t.toArray⟩] wx fun e w'=>e=.returned (.string ⟨T1.toArray⟩)/\Out wx w'))
  : Calls Tryz.prog 29 #[.agg #[.int .i64 o,.int .i64 d,.int .i64 s,.int .i64 f,.int .i64 i],.string ⟨t.toArray⟩] w fun e w'=>e=.returned (.tuple #[.string ⟨([]++W++[32]++T1).toArray⟩,.int .i64 0])/\Out w w':=by
 subst hz
 have hx0:∀ w:World,(Instr.index 106 (.agg #[.int .u8 a,.int .u8 0,.int .u8 c]) (.int .i64 0)).run Tryz.prog w=.ok (.int .u8 a) w:=fun w=>idx3_0 _ _ _ w
 have hx1:∀ w:World,(Instr.index 106 (.agg #[.int .u8 a,.int .u8 0,.int .u8 c]) (.int .i64 1)).run Tryz.prog w=.ok (.int .u8 0) w:=fun w=>idx3_1 _ _ _ w
 have HX:=hidOf (Bx.new w o d s f i)
 have HW:=hidOf hW;have HT1:=hidOf hT1
 clear hW hT1
 go_enter Tryz.func29,Tryz.ntmps29
 go_wp2_with (first | (go_at_call 55;refine (CM.out _ ((Out.refl w).alloc _)).mono ?_;rintro e w1 ⟨rfl,ho⟩;have H1:=hidOf ho;obtain ⟨c0,c1,c2,c3,c4⟩:=HX.out.out ho;clear ho) | (go_at_call 56;refine (CF.out _ (Out.trans ((Out.refl w).alloc _) H1.out)).mono ?_;rintro e w2 ⟨rfl,ho⟩;have H2:=hidOf (Out.trans H1.out ho);have c0:∀ O,(w2.alloc O).cell? ⟨w.heap.size,0,none⟩=some (.int .i64 o):=fun O=>(HX.out.out (Out.trans H1.out (ho.alloc O))).1;have c1:∀ O,(w2.alloc O).cell? ⟨w.heap.size,1,none⟩=some (.int .i64 d):=fun O=>(HX.out.out (Out.trans H1.out (ho.alloc O))).2.1;have c2:∀ O,(w2.alloc O).cell? ⟨w.heap.size,2,none⟩=some (.int .i64 s):=fun O=>(HX.out.out (Out.trans H1.out (ho.alloc O))).2.2.1;have c3:∀ O,(w2.alloc O).cell? ⟨w.heap.size,3,none⟩=some (.int .i64 f):=fun O=>(HX.out.out (Out.trans H1.out (ho.alloc O))).2.2.2.1;have c4:∀ O,(w2.alloc O).cell? ⟨w.heap.size,4,none⟩=some (.int .i64 i):=fun O=>(HX.out.out (Out.trans H1.out (ho.alloc O))).2.2.2.2;clear ho) | (go_at_call 57;refine (CW.out _ (Out.trans (Out.trans ((Out.refl w).alloc _) H2.out) ((Out.refl w2).alloc _))).mono ?_;rintro e w3 ⟨rfl,ho⟩;have B3:=hidOf ((Bd.new w2).out ho);clear ho) | (go_at_call 34;refine (B3.out.write W (by have:=HW.out;simp;omega)).mono ?_;rintro e w4 ⟨⟨v4,rfl⟩,hb⟩;have B4:=hidOf hb;obtain ⟨c0,c1,c2,c3,c4⟩:=hb.box (HX.out.out H2.out);clear hb) | (go_at_call 58;refine (CO.out _ (Out.trans (Out.trans ((Out.refl w).alloc _) H2.out) B4.out.2)).mono ?_;rintro e w5 ⟨rfl,ho⟩;have B5:=hidOf (B4.out.out ho);clear ho))
 refine wp_loop_rounds 4 ?_
 rw [rounds_succ]
 go_wp2_with (first | (go_at_call 34;refine (B7.out.write T1 (by have l0:=HW.out;have l1:=HT1.out;simp;omega)).mono ?_;rintro e w8 ⟨⟨v8,rfl⟩,hb⟩;have B8:=hidOf hb;clear hb) | (go_at_call 59;refine (C1.out _ (Out.trans (Out.trans ((Out.refl w).alloc _) H2.out) B6.out.2)).mono ?_;rintro e w7 ⟨rfl,ho⟩;have B7:=hidOf (B6.out.out ho);clear ho) | (go_at_call 34;refine (B5.out.write [32] (by have l0:=HW.out;have l1:=HT1.out;simp;omega)).mono ?_;rintro e w6 ⟨⟨v6,rfl⟩,hb⟩;have B6:=hidOf hb;obtain ⟨c0,c1,c2,c3,c4⟩:=hb.box (HX.out.out H2.out);clear hb))
 rw [rounds_succ]
 go_wp2_with (go_at_call 17;refine B8.out.text.mono ?_;rintro e wz ⟨rfl,ho⟩;have HZ:=hidOf ho;clear ho)
 go_ret2
 exact ⟨by first | rfl | simp [List.append_assoc],Out.trans (Out.trans ((Out.refl w).alloc _) H2.out) HZ.out⟩
set_option maxRecDepth 20000 in
set_option maxHeartbeats 3200000 in
theorem print_2 (o d s f i:Int) (t W T1 T2:List UInt8) (a b c:Int) (w:World) (za:(a == 0)=false) (zb:(b == 0)=false) (hz:c=0) (hW:W.length<=1000) (hT1:T1.length<=1000) (hT2:T2.length<=1000)
  (CM:Hid (∀ wx,Out w wx->Calls Tryz.prog 55 #[.agg #[.int .i64 o,.int .i64 d,.int .i64 s,.int .i64 f,.int .i64 i]] wx fun e w'=>e=.returned (.int .i64 0)/\Out wx w'))
  (CF:Hid (∀ wx,Out w wx->Calls Tryz.prog 56 #[.agg #[.int .i64 o,.int .i64 d,.int .i64 s,.int .i64 f,.int .i64 i],.string ⟨t.toArray⟩] wx fun e w'=>e=.returned (.bool true)/\Out wx w'))
  (CW:Hid (∀ wx,Out w wx->Calls Tryz.prog 57 #[.agg #[.int .i64 o,.int .i64 d,.int .i64 s,.int .i64 f,.int .i64 i]] wx fun e w'=>e=.returned (.string ⟨W.toArray⟩)/\Out wx w'))
  (CO:Hid (∀ wx,Out w wx->Calls Tryz.prog 58 #[.agg #[.int .i64 o,.int .i64 d,.int .i64 s,.int .i64 f,.int .i64 i]] wx fun e w'=>e=.returned (.agg #[.int .u8 a,.int .u8 b,.int .u8 c])/\Out wx w'))
  (C1:Hid (∀ wx,Out w wx->Calls Tryz.prog 59 #[.agg #[.int .i64 o,.int .i64 d,.int .i64 s,.int .i64 f,.int .i64 i],.int .u8 a,.string ⟨t.toArray⟩] wx fun e w'=>e=.returned (.string ⟨T1.toArray⟩)/\Out wx w'))
  (C2:Hid (∀ wx,Out w wx->Calls Tryz.prog 59 #[.agg #[.int .i64 o,.int .i64 d,.int .i64 s,.int .i64 f,.int .i64 i],.int .u8 b,.string ⟨t.toArray⟩] wx fun e w'=>e=.returned (.string ⟨T2.toArray⟩)/\Out wx w'))
  : Calls Tryz.prog 29 #[.agg #[.int .i64 o,.int .i64 d,.int .i64 s,.int .i64 f,.int .i64 i],.string ⟨t.toArray⟩] w fun e w'=>e=.returned (.tuple #[.string ⟨([]++W++[32]++T1++[44,32]++T2).toArray⟩,.int .i64 0])/\Out w w':=by
 subst hz
 have hx0:∀ w:World,(Instr.index 106 (.agg #[.int .u8 a,.int .u8 b,.int .u8 0]) (.int .i64 0)).run Tryz.prog w=.ok (.int .u8 a) w:=fun w=>idx3_0 _ _ _ w
 have hx1:∀ w:World,(Instr.index 106 (.agg #[.int .u8 a,.int .u8 b,.int .u8 0]) (.int .i64 1)).run Tryz.prog w=.ok (.int .u8 b) w:=fun w=>idx3_1 _ _ _ w
 have hx2:∀ w:World,(Instr.index 106 (.agg #[.int .u8 a,.int .u8 b,.int .u8 0]) (.int .i64 2)).run Tryz.prog w=.ok (.int .u8 0) w:=fun w=>idx3_2 _ _ _ w
 have HX:=hidOf (Bx.new w o d s f i)
 have HW:=hidOf hW;have HT1:=hidOf hT1;have HT2:=hidOf hT2
 clear hW hT1 hT2
 go_enter Tryz.func29,Tryz.ntmps29
 go_wp2_with (first | (go_at_call 55;refine (CM.out _ ((Out.refl w).alloc _)).mono ?_;rintro e w1 ⟨rfl,ho⟩;have H1:=hidOf ho;obtain ⟨c0,c1,c2,c3,c4⟩:=HX.out.out ho;clear ho) | (go_at_call 56;refine (CF.out _ (Out.trans ((Out.refl w).alloc _) H1.out)).mono ?_;rintro e w2 ⟨rfl,ho⟩;have H2:=hidOf (Out.trans H1.out ho);have c0:∀ O,(w2.alloc O).cell? ⟨w.heap.size,0,none⟩=some (.int .i64 o):=fun O=>(HX.out.out (Out.trans H1.out (ho.alloc O))).1;have c1:∀ O,(w2.alloc O).cell? ⟨w.heap.size,1,none⟩=some (.int .i64 d):=fun O=>(HX.out.out (Out.trans H1.out (ho.alloc O))).2.1;have c2:∀ O,(w2.alloc O).cell? ⟨w.heap.size,2,none⟩=some (.int .i64 s):=fun O=>(HX.out.out (Out.trans H1.out (ho.alloc O))).2.2.1;have c3:∀ O,(w2.alloc O).cell? ⟨w.heap.size,3,none⟩=some (.int .i64 f):=fun O=>(HX.out.out (Out.trans H1.out (ho.alloc O))).2.2.2.1;have c4:∀ O,(w2.alloc O).cell? ⟨w.heap.size,4,none⟩=some (.int .i64 i):=fun O=>(HX.out.out (Out.trans H1.out (ho.alloc O))).2.2.2.2;clear ho) | (go_at_call 57;refine (CW.out _ (Out.trans (Out.trans ((Out.refl w).alloc _) H2.out) ((Out.refl w2).alloc _))).mono ?_;rintro e w3 ⟨rfl,ho⟩;have B3:=hidOf ((Bd.new w2).out ho);clear ho) | (go_at_call 34;refine (B3.out.write W (by have:=HW.out;simp;omega)).mono ?_;rintro e w4 ⟨⟨v4,rfl⟩,hb⟩;have B4:=hidOf hb;obtain ⟨c0,c1,c2,c3,c4⟩:=hb.box (HX.out.out H2.out);clear hb) | (go_at_call 58;refine (CO.out _ (Out.trans (Out.trans ((Out.refl w).alloc _) H2.out) B4.out.2)).mono ?_;rintro e w5 ⟨rfl,ho⟩;have B5:=hidOf (B4.out.out ho);clear ho))
 refine wp_loop_rounds 4 ?_
 rw [rounds_succ]
 go_wp2_with (first | (go_at_call 34;refine (B7.out.write T1 (by have l0:=HW.out;have l1:=HT1.out;simp;omega)).mono ?_;rintro e w8 ⟨⟨v8,rfl⟩,hb⟩;have B8:=hidOf hb;clear hb) | (go_at_call 59;refine (C1.out _ (Out.trans (Out.trans ((Out.refl w).alloc _) H2.out) B6.out.2)).mono ?_;rintro e w7 ⟨rfl,ho⟩;have B7:=hidOf (B6.out.out ho);clear ho) | (go_at_call 34;refine (B5.out.write [32] (by have l0:=HW.out;have l1:=HT1.out;simp;omega)).mono ?_;rintro e w6 ⟨⟨v6,rfl⟩,hb⟩;have B6:=hidOf hb;obtain ⟨c0,c1,c2,c3,c4⟩:=hb.box (HX.out.out H2.out);clear hb))
 rw [rounds_succ]
 go_wp2_with (first | (go_at_call 34;refine (B10.out.write T2 (by have l0:=HW.out;have l1:=HT1.out;have l2:=HT2.out;simp;omega)).mono ?_;rintro e w11 ⟨⟨v11,rfl⟩,hb⟩;have B11:=hidOf hb;clear hb) | (go_at_call 59;refine (C2.out _ (Out.trans (Out.trans ((Out.refl w).alloc _) H2.out) B9.out.2)).mono ?_;rintro e w10 ⟨rfl,ho⟩;have B10:=hidOf (B9.out.out ho);clear ho) | (go_at_call 34;refine (B8.out.write [44,32] (by have l0:=HW.out;have l1:=HT1.out;have l2:=HT2.out;simp;omega)).mono ?_;rintro e w9 ⟨⟨v9,rfl⟩,hb⟩;have B9:=hidOf hb;obtain ⟨c0,c1,c2,c3,c4⟩:=hb.box (HX.out.out H2.out);clear hb))
 rw [rounds_succ]
 go_wp2_with (go_at_call 17;refine B11.out.text.mono ?_;rintro e wz ⟨rfl,ho⟩;have HZ:=hidOf ho;clear ho)
 go_ret2
 exact ⟨by first | rfl | simp [List.append_assoc],Out.trans (Out.trans ((Out.refl w).alloc _) H2.out) HZ.out⟩
set_option maxRecDepth 20000 in
set_option maxHeartbeats 3200000 in
theorem print_3 (o d s f i:Int) (t W T1 T2 T3:List UInt8) (a b c:Int) (w:World) (za:(a == 0)=false) (zb:(b == 0)=false) (zc:(c == 0)=false) (hW:W.length<=1000) (hT1:T1.length<=1000) (hT2:T2.length<=1000) (hT3:T3.length<=1000)
  (CM:Hid (∀ wx,Out w wx->Calls Tryz.prog 55 #[.agg #[.int .i64 o,.int .i64 d,.int .i64 s,.int .i64 f,.int .i64 i]] wx fun e w'=>e=.returned (.int .i64 0)/\Out wx w'))
  (CF:Hid (∀ wx,Out w wx->Calls Tryz.prog 56 #[.agg #[.int .i64 o,.int .i64 d,.int .i64 s,.int .i64 f,.int .i64 i],.string ⟨t.toArray⟩] wx fun e w'=>e=.returned (.bool true)/\Out wx w'))
  (CW:Hid (∀ wx,Out w wx->Calls Tryz.prog 57 #[.agg #[.int .i64 o,.int .i64 d,.int .i64 s,.int .i64 f,.int .i64 i]] wx fun e w'=>e=.returned (.string ⟨W.toArray⟩)/\Out wx w'))
  (CO:Hid (∀ wx,Out w wx->Calls Tryz.prog 58 #[.agg #[.int .i64 o,.int .i64 d,.int .i64 s,.int .i64 f,.int .i64 i]] wx fun e w'=>e=.returned (.agg #[.int .u8 a,.int .u8 b,.int .u8 c])/\Out wx w'))
  (C1:Hid (∀ wx,Out w wx->Calls Tryz.prog 59 #[.agg #[.int .i64 o,.int .i64 d,.int .i64 s,.int .i64 f,.int .i64 i],.int .u8 a,.string ⟨t.toArray⟩] wx fun e w'=>e=.returned (.string ⟨T1.toArray⟩)/\Out wx w'))
  (C2:Hid (∀ wx,Out w wx->Calls Tryz.prog 59 #[.agg #[.int .i64 o,.int .i64 d,.int .i64 s,.int .i64 f,.int .i64 i],.int .u8 b,.string ⟨t.toArray⟩] wx fun e w'=>e=.returned (.string ⟨T2.toArray⟩)/\Out wx w'))
  (C3:Hid (∀ wx,Out w wx->Calls Tryz.prog 59 #[.agg #[.int .i64 o,.int .i64 d,.int .i64 s,.int .i64 f,.int .i64 i],.int .u8 c,.string ⟨t.toArray⟩] wx fun e w'=>e=.returned (.string ⟨T3.toArray⟩)/\Out wx w'))
  : Calls Tryz.prog 29 #[.agg #[.int .i64 o,.int .i64 d,.int .i64 s,.int .i64 f,.int .i64 i],.string ⟨t.toArray⟩] w fun e w'=>e=.returned (.tuple #[.string ⟨([]++W++[32]++T1++[44,32]++T2++[44,32]++T3).toArray⟩,.int .i64 0])/\Out w w':=by
 have hx0:∀ w:World,(Instr.index 106 (.agg #[.int .u8 a,.int .u8 b,.int .u8 c]) (.int .i64 0)).run Tryz.prog w=.ok (.int .u8 a) w:=fun w=>idx3_0 _ _ _ w
 have hx1:∀ w:World,(Instr.index 106 (.agg #[.int .u8 a,.int .u8 b,.int .u8 c]) (.int .i64 1)).run Tryz.prog w=.ok (.int .u8 b) w:=fun w=>idx3_1 _ _ _ w
 have hx2:∀ w:World,(Instr.index 106 (.agg #[.int .u8 a,.int .u8 b,.int .u8 c]) (.int .i64 2)).run Tryz.prog w=.ok (.int .u8 c) w:=fun w=>idx3_2 _ _ _ w
 have HX:=hidOf (Bx.new w o d s f i)
 have HW:=hidOf hW;have HT1:=hidOf hT1;have HT2:=hidOf hT2;have HT3:=hidOf hT3
 clear hW hT1 hT2 hT3
 go_enter Tryz.func29,Tryz.ntmps29
 go_wp2_with (first | (go_at_call 55;refine (CM.out _ ((Out.refl w).alloc _)).mono ?_;rintro e w1 ⟨rfl,ho⟩;have H1:=hidOf ho;obtain ⟨c0,c1,c2,c3,c4⟩:=HX.out.out ho;clear ho) | (go_at_call 56;refine (CF.out _ (Out.trans ((Out.refl w).alloc _) H1.out)).mono ?_;rintro e w2 ⟨rfl,ho⟩;have H2:=hidOf (Out.trans H1.out ho);have c0:∀ O,(w2.alloc O).cell? ⟨w.heap.size,0,none⟩=some (.int .i64 o):=fun O=>(HX.out.out (Out.trans H1.out (ho.alloc O))).1;have c1:∀ O,(w2.alloc O).cell? ⟨w.heap.size,1,none⟩=some (.int .i64 d):=fun O=>(HX.out.out (Out.trans H1.out (ho.alloc O))).2.1;have c2:∀ O,(w2.alloc O).cell? ⟨w.heap.size,2,none⟩=some (.int .i64 s):=fun O=>(HX.out.out (Out.trans H1.out (ho.alloc O))).2.2.1;have c3:∀ O,(w2.alloc O).cell? ⟨w.heap.size,3,none⟩=some (.int .i64 f):=fun O=>(HX.out.out (Out.trans H1.out (ho.alloc O))).2.2.2.1;have c4:∀ O,(w2.alloc O).cell? ⟨w.heap.size,4,none⟩=some (.int .i64 i):=fun O=>(HX.out.out (Out.trans H1.out (ho.alloc O))).2.2.2.2;clear ho) | (go_at_call 57;refine (CW.out _ (Out.trans (Out.trans ((Out.refl w).alloc _) H2.out) ((Out.refl w2).alloc _))).mono ?_;rintro e w3 ⟨rfl,ho⟩;have B3:=hidOf ((Bd.new w2).out ho);clear ho) | (go_at_call 34;refine (B3.out.write W (by have:=HW.out;simp;omega)).mono ?_;rintro e w4 ⟨⟨v4,rfl⟩,hb⟩;have B4:=hidOf hb;obtain ⟨c0,c1,c2,c3,c4⟩:=hb.box (HX.out.out H2.out);clear hb) | (go_at_call 58;refine (CO.out _ (Out.trans (Out.trans ((Out.refl w).alloc _) H2.out) B4.out.2)).mono ?_;rintro e w5 ⟨rfl,ho⟩;have B5:=hidOf (B4.out.out ho);clear ho))
 refine wp_loop_rounds 4 ?_
 rw [rounds_succ]
 go_wp2_with (first | (go_at_call 34;refine (B7.out.write T1 (by have l0:=HW.out;have l1:=HT1.out;simp;omega)).mono ?_;rintro e w8 ⟨⟨v8,rfl⟩,hb⟩;have B8:=hidOf hb;clear hb) | (go_at_call 59;refine (C1.out _ (Out.trans (Out.trans ((Out.refl w).alloc _) H2.out) B6.out.2)).mono ?_;rintro e w7 ⟨rfl,ho⟩;have B7:=hidOf (B6.out.out ho);clear ho) | (go_at_call 34;refine (B5.out.write [32] (by have l0:=HW.out;have l1:=HT1.out;simp;omega)).mono ?_;rintro e w6 ⟨⟨v6,rfl⟩,hb⟩;have B6:=hidOf hb;obtain ⟨c0,c1,c2,c3,c4⟩:=hb.box (HX.out.out H2.out);clear hb))
 rw [rounds_succ]
 go_wp2_with (first | (go_at_call 34;refine (B10.out.write T2 (by have l0:=HW.out;have l1:=HT1.out;have l2:=HT2.out;simp;omega)).mono ?_;rintro e w11 ⟨⟨v11,rfl⟩,hb⟩;have B11:=hidOf hb;clear hb) | (go_at_call 59;refine (C2.out _ (Out.trans (Out.trans ((Out.refl w).alloc _) H2.out) B9.out.2)).mono ?_;rintro e w10 ⟨rfl,ho⟩;have B10:=hidOf (B9.out.out ho);clear ho) | (go_at_call 34;refine (B8.out.write [44,32] (by have l0:=HW.out;have l1:=HT1.out;have l2:=HT2.out;simp;omega)).mono ?_;rintro e w9 ⟨⟨v9,rfl⟩,hb⟩;have B9:=hidOf hb;obtain ⟨c0,c1,c2,c3,c4⟩:=hb.box (HX.out.out H2.out);clear hb))
 rw [rounds_succ]
 go_wp2_with (first | (go_at_call 34;refine (B13.out.write T3 (by have l0:=HW.out;have l1:=HT1.out;have l2:=HT2.out;have l3:=HT3.out;simp;omega)).mono ?_;rintro e w14 ⟨⟨v14,rfl⟩,hb⟩;have B14:=hidOf hb;clear hb) | (go_at_call 59;refine (C3.out _ (Out.trans (Out.trans ((Out.refl w).alloc _) H2.out) B12.out.2)).mono ?_;rintro e w13 ⟨rfl,ho⟩;have B13:=hidOf (B12.out.out ho);clear ho) | (go_at_call 34;refine (B11.out.write [44,32] (by have l0:=HW.out;have l1:=HT1.out;have l2:=HT2.out;have l3:=HT3.out;simp;omega)).mono ?_;rintro e w12 ⟨⟨v12,rfl⟩,hb⟩;have B12:=hidOf hb;obtain ⟨c0,c1,c2,c3,c4⟩:=hb.box (HX.out.out H2.out);clear hb))
 rw [rounds_succ]
 go_wp2_with (go_at_call 17;refine B14.out.text.mono ?_;rintro e wz ⟨rfl,ho⟩;have HZ:=hidOf ho;clear ho)
 go_ret2
 exact ⟨by first | rfl | simp [List.append_assoc],Out.trans (Out.trans ((Out.refl w).alloc _) H2.out) HZ.out⟩
end Go.Proofs.YtadneimllbfdnaaGreatDoor
