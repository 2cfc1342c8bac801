import Derived.Test.YtadneimllbfdnaaGreatDoorGu37
namespace Go.Proofs.YtadneimllbfdnaaGreatDoor
open Go.RowKit
set_option linter.unusedVariables false
set_option linter.unusedSimpArgs false
set_option maxRecDepth 8000 in
set_option maxHeartbeats 4000000 in
theorem shape4_any (o d s f i:Int) (h0 : -9223372036854775808<=o) (h1:o<9223372036854775808) (w:World):Calls Tryz.prog 93 #[.agg #[.int .i64 o,.int .i64 d,.int .i64 s,.int .i64 f,.int .i64 i]] w fun e w'=>e=.returned (.int .i64 (shapeR o s f))/\Out w w':=by
 obtain ⟨m,hm⟩:∃ m:Int,o.tmod 8=m:=⟨_,rfl⟩
 obtain ⟨q,hq⟩:∃ q:Int,o.tdiv 16=q:=⟨_,rfl⟩
 have hq2:IntKind.i64.wrap q=q:=by
  rw [IntKind.wrap_i64]
  rw [<-hq]
  have e:=Int.mul_tdiv_add_tmod o 16
  have a1 : -16<o.tmod 16:=Int.lt_tmod_of_pos o (by omega)
  have a2:o.tmod 16<16:=Int.tmod_lt_of_pos o (by omega)
  omega
 obtain ⟨X,hX⟩:∃ X,shapeR o s f=X:=⟨_,rfl⟩
 have HX:=hidOf hX
 rw [hX]
 unfold shapeR at HX
 rw [hm,hq] at HX
 clear hX h0 h1
 by_cases c0:o=149
 ·
  have b0:(o == 149)=true:=by simp [c0]
  have hE:=HX.out
  simp [c0] at hE
  subst hE
  clear HX
  go_enter Tryz.func93,Tryz.ntmps93
  go_wp2
  go_ret
  exact ⟨rfl,(Out.refl w).alloc _⟩
 have b0:(o == 149)=false:=by simp [c0]
 by_cases c1:o=133
 ·
  have b1:(o == 133)=true:=by simp [c1]
  have hE:=HX.out
  simp [c0,c1] at hE
  subst hE
  clear HX
  go_enter Tryz.func93,Tryz.ntmps93
  go_wp2
  go_ret
  exact ⟨rfl,(Out.refl w).alloc _⟩
 have b1:(o == 133)=false:=by simp [c1]
 by_cases c2:o=24
 ·
  have b2:(o == 24)=true:=by simp [c2]
  by_cases t1:s=1
  ·
   have t2:(s == 1)=true:=by simp [t1]
   have hE:=HX.out
   simp [c0,c1,c2,t1] at hE
   subst hE
   clear HX
   go_enter Tryz.func93,Tryz.ntmps93
   go_wp2
   go_ret
   exact ⟨rfl,(Out.refl w).alloc _⟩
  ·
   have t2:(s == 1)=false:=by simp [t1]
   have hE:=HX.out
   simp [c0,c1,c2,t1] at hE
   subst hE
   clear HX
   go_enter Tryz.func93,Tryz.ntmps93
   go_wp2
   go_ret
   exact ⟨rfl,(Out.refl w).alloc _⟩
 have b2:(o == 24)=false:=by simp [c2]
 by_cases c3:o=5
 ·
  have b3:(o == 5)=true:=by simp [c3]
  have hE:=HX.out
  simp [c0,c1,c2,c3] at hE
  subst hE
  clear HX
  go_enter Tryz.func93,Tryz.ntmps93
  go_wp2
  go_ret
  exact ⟨rfl,(Out.refl w).alloc _⟩
 have b3:(o == 5)=false:=by simp [c3]
 by_cases c4:o=6
 ·
  have b4:(o == 6)=true:=by simp [c4]
  have hE:=HX.out
  simp [c0,c1,c2,c3,c4] at hE
  subst hE
  clear HX
  go_enter Tryz.func93,Tryz.ntmps93
  go_wp2
  go_ret
  exact ⟨rfl,(Out.refl w).alloc _⟩
 have b4:(o == 6)=false:=by simp [c4]
 by_cases c5:m=1
 ·
  have b5:(m == 1)=true:=by simp [c5]
  have hE:=HX.out
  simp [c0,c1,c2,c3,c4,c5] at hE
  subst hE
  clear HX
  go_enter Tryz.func93,Tryz.ntmps93
  go_wp2
  go_ret
  exact ⟨rfl,(Out.refl w).alloc _⟩
 have b5:(m == 1)=false:=by simp [c5]
 by_cases c6:m=2
 ·
  have b6:(m == 2)=true:=by simp [c6]
  have hE:=HX.out
  simp [c0,c1,c2,c3,c4,c5,c6] at hE
  subst hE
  clear HX
  go_enter Tryz.func93,Tryz.ntmps93
  go_wp2
  go_ret
  exact ⟨rfl,(Out.refl w).alloc _⟩
 have b6:(m == 2)=false:=by simp [c6]
 by_cases c7:m=3
 ·
  have b7:(m == 3)=true:=by simp [c7]
  have hE:=HX.out
  simp [c0,c1,c2,c3,c4,c5,c6,c7] at hE
  subst hE
  clear HX
  go_enter Tryz.func93,Tryz.ntmps93
  go_wp2
  go_ret
  exact ⟨rfl,(Out.refl w).alloc _⟩
 have b7:(m == 3)=false:=by simp [c7]
 by_cases c8:m=5
 ·
  have b8:(m == 5)=true:=by simp [c8]
  have hE:=HX.out
  simp [c0,c1,c2,c3,c4,c5,c6,c7,c8] at hE
  subst hE
  clear HX
  go_enter Tryz.func93,Tryz.ntmps93
  go_wp2
  go_ret
  exact ⟨rfl,(Out.refl w).alloc _⟩
 have b8:(m == 5)=false:=by simp [c8]
 by_cases c9:m=6
 ·
  have b9:(m == 6)=true:=by simp [c9]
  have hE:=HX.out
  simp [c0,c1,c2,c3,c4,c5,c6,c7,c8,c9] at hE
  subst hE
  clear HX
  go_enter Tryz.func93,Tryz.ntmps93
  go_wp2
  go_ret
  exact ⟨rfl,(Out.refl w).alloc _⟩
 have b9:(m == 6)=false:=by simp [c9]
 by_cases c10:q=8
 ·
  have b10:(q == 8)=true:=by simp [c10]
  have hE:=HX.out
  simp [c0,c1,c2,c3,c4,c5,c6,c7,c8,c9,c10] at hE
  subst hE
  clear HX
  go_enter Tryz.func93,Tryz.ntmps93
  go_wp2
  go_ret
  exact ⟨rfl,(Out.refl w).alloc _⟩
 have b10:(q == 8)=false:=by simp [c10]
 by_cases c11:q=13
 ·
  have b11:(q == 13)=true:=by simp [c11]
  have hE:=HX.out
  simp [c0,c1,c2,c3,c4,c5,c6,c7,c8,c9,c10,c11] at hE
  subst hE
  clear HX
  go_enter Tryz.func93,Tryz.ntmps93
  go_wp2
  go_ret
  exact ⟨rfl,(Out.refl w).alloc _⟩
 have b11:(q == 13)=false:=by simp [c11]
 by_cases c12:q=11
 ·
  have b12:(q == 11)=true:=by simp [c12]
  by_cases t1:f=0
  ·
   have t2:(f != 0)=false:=by simp [t1]
   have hE:=HX.out
   simp [c0,c1,c2,c3,c4,c5,c6,c7,c8,c9,c10,c11,c12,t1] at hE
   subst hE
   clear HX
   go_enter Tryz.func93,Tryz.ntmps93
   go_wp2
   go_ret
   exact ⟨rfl,(Out.refl w).alloc _⟩
  ·
   have t2:(f != 0)=true:=by simp [t1]
   have hE:=HX.out
   simp [c0,c1,c2,c3,c4,c5,c6,c7,c8,c9,c10,c11,c12,t1] at hE
   subst hE
   clear HX
   go_enter Tryz.func93,Tryz.ntmps93
   go_wp2
   go_ret
   exact ⟨rfl,(Out.refl w).alloc _⟩
 have b12:(q == 11)=false:=by simp [c12]
 have hE:=HX.out
 simp [c0,c1,c2,c3,c4,c5,c6,c7,c8,c9,c10,c11,c12] at hE
 subst hE
 clear HX
 go_enter Tryz.func93,Tryz.ntmps93
 go_wp2
 go_ret
 exact ⟨rfl,(Out.refl w).alloc _⟩
theorem sh9 {o s f:Int} (h:shapeR o s f=9):o=133:=by
 unfold shapeR at h
 apply Classical.byContradiction
 intro hn
 rw [if_neg hn] at h
 repeat' split at h
 all_goals omega
set_option maxRecDepth 8000 in
set_option maxHeartbeats 4000000 in
theorem targeted4_any (o d s f i:Int) (h0 : -9223372036854775808<=o) (h1:o<9223372036854775808) (i0 : -9223372036854775808<=i) (i1:o=133->i<9223372036854775807) (w:World):Calls Tryz.prog 64 #[.agg #[.int .i64 o,.int .i64 d,.int .i64 s,.int .i64 f,.int .i64 i]] w fun e w'=>e=.returned (.tuple #[.bool (tgtR o s f i).1,.int .i64 (tgtR o s f i).2])/\Out w w':=by
 have CS:=hidOf (fun wx=>shape4_any o d s f i h0 h1 wx)
 obtain ⟨X,hX⟩:∃ X,tgtR o s f i=X:=⟨_,rfl⟩
 have HX:=hidOf hX
 rw [hX]
 unfold tgtR at HX
 have hi:shapeR o s f=9->IntKind.i64.wrap (i+1)=i+1:=fun h9=>by
  have:=i1 (sh9 h9)
  rw [IntKind.wrap_i64];omega
 obtain ⟨j,hj⟩:∃ j,i+1=j:=⟨_,rfl⟩
 rw [hj] at HX hi
 generalize shapeR o s f=sh at *
 clear hX h0 h1 i0 i1
 by_cases c7:sh=7
 ·
  have b7:(sh == 7)=true:=by simp [c7]
  by_cases t1:o=6
  ·
   have t2:(o == 6)=true:=by simp [t1]
   have hE:=HX.out
   simp [c7,t1] at hE
   subst hE
   clear HX c7 t1
   go_enter Tryz.func64,Tryz.ntmps64
   go_upto_region 1 with fail
   obtain ⟨wb,hwb⟩:∃ wb,wb=w.alloc (.cells #[.int .i64 o,.int .i64 d,.int .i64 s,.int .i64 f,.int .i64 i] 40):=⟨_,rfl⟩
   obtain ⟨p,hp⟩:∃ p,p=w.heap.size:=⟨_,rfl⟩
   have ob:Out w wb:=by rw [hwb];exact (Out.refl w).alloc _
   have hb:wb.heap[p]? = some (.cells #[.int .i64 o,.int .i64 d,.int .i64 s,.int .i64 f,.int .i64 i] 40 (0,0)):=by rw [hwb,hp];exact heap_alloc_new w _
   have HB:=hidOf (fun wx (ox:Out wb wx)=>blk_out ox hb)
   have OB:=hidOf ob
   rw [<-hwb, <-hp]
   have e0:wb.cell? ⟨p,0,none⟩=some (.int .i64 o):=by rw [cell_atL hb];rfl
   have e1:wb.cell? ⟨p,1,none⟩=some (.int .i64 d):=by rw [cell_atL hb];rfl
   have e2:wb.cell? ⟨p,2,none⟩=some (.int .i64 s):=by rw [cell_atL hb];rfl
   have e3:wb.cell? ⟨p,3,none⟩=some (.int .i64 f):=by rw [cell_atL hb];rfl
   have e4:wb.cell? ⟨p,4,none⟩=some (.int .i64 i):=by rw [cell_atL hb];rfl
   clear hwb hp ob hb
   go_upto_region 2 with (go_at_call 93;refine (CS.out _).mono ?_;rintro e w1 ⟨rfl,ho⟩;have O1:=hidOf ho;clear ho)
   have h1:=HB.out w1 O1.out
   have f0:w1.cell? ⟨p,0,none⟩=some (.int .i64 o):=by rw [cell_atL h1];rfl
   have f2:w1.cell? ⟨p,2,none⟩=some (.int .i64 s):=by rw [cell_atL h1];rfl
   have f3:w1.cell? ⟨p,3,none⟩=some (.int .i64 f):=by rw [cell_atL h1];rfl
   have f4:w1.cell? ⟨p,4,none⟩=some (.int .i64 i):=by rw [cell_atL h1];rfl
   clear e0 e1 e2 e3 e4 h1 HB
   go_upto_region 5 with fail
   go_quiet (fail)
   go_wp2
   go_ret2
   exact ⟨rfl,Out.trans OB.out (Out.dN O1.out _)⟩
  ·
   have t2:(o == 6)=false:=by simp [t1]
   have hE:=HX.out
   simp [c7,t1] at hE
   subst hE
   clear HX c7 t1
   go_enter Tryz.func64,Tryz.ntmps64
   go_upto_region 1 with fail
   obtain ⟨wb,hwb⟩:∃ wb,wb=w.alloc (.cells #[.int .i64 o,.int .i64 d,.int .i64 s,.int .i64 f,.int .i64 i] 40):=⟨_,rfl⟩
   obtain ⟨p,hp⟩:∃ p,p=w.heap.size:=⟨_,rfl⟩
   have ob:Out w wb:=by rw [hwb];exact (Out.refl w).alloc _
   have hb:wb.heap[p]? = some (.cells #[.int .i64 o,.int .i64 d,.int .i64 s,.int .i64 f,.int .i64 i] 40 (0,0)):=by rw [hwb,hp];exact heap_alloc_new w _
   have HB:=hidOf (fun wx (ox:Out wb wx)=>blk_out ox hb)
   have OB:=hidOf ob
   rw [<-hwb, <-hp]
   have e0:wb.cell? ⟨p,0,none⟩=some (.int .i64 o):=by rw [cell_atL hb];rfl
   have e1:wb.cell? ⟨p,1,none⟩=some (.int .i64 d):=by rw [cell_atL hb];rfl
   have e2:wb.cell? ⟨p,2,none⟩=some (.int .i64 s):=by rw [cell_atL hb];rfl
   have e3:wb.cell? ⟨p,3,none⟩=some (.int .i64 f):=by rw [cell_atL hb];rfl
   have e4:wb.cell? ⟨p,4,none⟩=some (.int .i64 i):=by rw [cell_atL hb];rfl
   clear hwb hp ob hb
   go_upto_region 2 with (go_at_call 93;refine (CS.out _).mono ?_;rintro e w1 ⟨rfl,ho⟩;have O1:=hidOf ho;clear ho)
   have h1:=HB.out w1 O1.out
   have f0:w1.cell? ⟨p,0,none⟩=some (.int .i64 o):=by rw [cell_atL h1];rfl
   have f2:w1.cell? ⟨p,2,none⟩=some (.int .i64 s):=by rw [cell_atL h1];rfl
   have f3:w1.cell? ⟨p,3,none⟩=some (.int .i64 f):=by rw [cell_atL h1];rfl
   have f4:w1.cell? ⟨p,4,none⟩=some (.int .i64 i):=by rw [cell_atL h1];rfl
   clear e0 e1 e2 e3 e4 h1 HB
   go_upto_region 6 with fail
   go_quiet (fail)
   go_wp2
   go_ret2
   exact ⟨rfl,Out.trans OB.out (Out.dN O1.out _)⟩
 by_cases c8:sh=8
 ·
  have b8:(sh == 8)=true:=by simp [c8]
  have b7:(sh == 7)=false:=by simp [c7]
  by_cases t1:o=6
  ·
   have t2:(o == 6)=true:=by simp [t1]
   have hE:=HX.out
   simp [c7,c8,t1] at hE
   subst hE
   clear HX c7 c8 t1
   go_enter Tryz.func64,Tryz.ntmps64
   go_upto_region 1 with fail
   obtain ⟨wb,hwb⟩:∃ wb,wb=w.alloc (.cells #[.int .i64 o,.int .i64 d,.int .i64 s,.int .i64 f,.int .i64 i] 40):=⟨_,rfl⟩
   obtain ⟨p,hp⟩:∃ p,p=w.heap.size:=⟨_,rfl⟩
   have ob:Out w wb:=by rw [hwb];exact (Out.refl w).alloc _
   have hb:wb.heap[p]? = some (.cells #[.int .i64 o,.int .i64 d,.int .i64 s,.int .i64 f,.int .i64 i] 40 (0,0)):=by rw [hwb,hp];exact heap_alloc_new w _
   have HB:=hidOf (fun wx (ox:Out wb wx)=>blk_out ox hb)
   have OB:=hidOf ob
   rw [<-hwb, <-hp]
   have e0:wb.cell? ⟨p,0,none⟩=some (.int .i64 o):=by rw [cell_atL hb];rfl
   have e1:wb.cell? ⟨p,1,none⟩=some (.int .i64 d):=by rw [cell_atL hb];rfl
   have e2:wb.cell? ⟨p,2,none⟩=some (.int .i64 s):=by rw [cell_atL hb];rfl
   have e3:wb.cell? ⟨p,3,none⟩=some (.int .i64 f):=by rw [cell_atL hb];rfl
   have e4:wb.cell? ⟨p,4,none⟩=some (.int .i64 i):=by rw [cell_atL hb];rfl
   clear hwb hp ob hb
   go_upto_region 2 with (go_at_call 93;refine (CS.out _).mono ?_;rintro e w1 ⟨rfl,ho⟩;have O1:=hidOf ho;clear ho)
   have h1:=HB.out w1 O1.out
   have f0:w1.cell? ⟨p,0,none⟩=some (.int .i64 o):=by rw [cell_atL h1];rfl
   have f2:w1.cell? ⟨p,2,none⟩=some (.int .i64 s):=by rw [cell_atL h1];rfl
   have f3:w1.cell? ⟨p,3,none⟩=some (.int .i64 f):=by rw [cell_atL h1];rfl
   have f4:w1.cell? ⟨p,4,none⟩=some (.int .i64 i):=by rw [cell_atL h1];rfl
   clear e0 e1 e2 e3 e4 h1 HB
   go_upto_region 5 with fail
   go_quiet (fail)
   go_wp2
   go_ret2
   exact ⟨rfl,Out.trans OB.out (Out.dN O1.out _)⟩
  ·
   have t2:(o == 6)=false:=by simp [t1]
   have hE:=HX.out
   simp [c7,c8,t1] at hE
   subst hE
   clear HX c7 c8 t1
   go_enter Tryz.func64,Tryz.ntmps64
   go_upto_region 1 with fail
   obtain ⟨wb,hwb⟩:∃ wb,wb=w.alloc (.cells #[.int .i64 o,.int .i64 d,.int .i64 s,.int .i64 f,.int .i64 i] 40):=⟨_,rfl⟩
   obtain ⟨p,hp⟩:∃ p,p=w.heap.size:=⟨_,rfl⟩
   have ob:Out w wb:=by rw [hwb];exact (Out.refl w).alloc _
   have hb:wb.heap[p]? = some (.cells #[.int .i64 o,.int .i64 d,.int .i64 s,.int .i64 f,.int .i64 i] 40 (0,0)):=by rw [hwb,hp];exact heap_alloc_new w _
   have HB:=hidOf (fun wx (ox:Out wb wx)=>blk_out ox hb)
   have OB:=hidOf ob
   rw [<-hwb, <-hp]
   have e0:wb.cell? ⟨p,0,none⟩=some (.int .i64 o):=by rw [cell_atL hb];rfl
   have e1:wb.cell? ⟨p,1,none⟩=some (.int .i64 d):=by rw [cell_atL hb];rfl
   have e2:wb.cell? ⟨p,2,none⟩=some (.int .i64 s):=by rw [cell_atL hb];rfl
   have e3:wb.cell? ⟨p,3,none⟩=some (.int .i64 f):=by rw [cell_atL hb];rfl
   have e4:wb.cell? ⟨p,4,none⟩=some (.int .i64 i):=by rw [cell_atL hb];rfl
   clear hwb hp ob hb
   go_upto_region 2 with (go_at_call 93;refine (CS.out _).mono ?_;rintro e w1 ⟨rfl,ho⟩;have O1:=hidOf ho;clear ho)
   have h1:=HB.out w1 O1.out
   have f0:w1.cell? ⟨p,0,none⟩=some (.int .i64 o):=by rw [cell_atL h1];rfl
   have f2:w1.cell? ⟨p,2,none⟩=some (.int .i64 s):=by rw [cell_atL h1];rfl
   have f3:w1.cell? ⟨p,3,none⟩=some (.int .i64 f):=by rw [cell_atL h1];rfl
   have f4:w1.cell? ⟨p,4,none⟩=some (.int .i64 i):=by rw [cell_atL h1];rfl
   clear e0 e1 e2 e3 e4 h1 HB
   go_upto_region 6 with fail
   go_quiet (fail)
   go_wp2
   go_ret2
   exact ⟨rfl,Out.trans OB.out (Out.dN O1.out _)⟩
 have b7:(sh == 7)=false:=by simp [c7]
 have b8:(sh == 8)=false:=by simp [c8]
 by_cases c9:sh=9
 ·
  have b9:(sh == 9)=true:=by simp [c9]
  have hi:=hi c9
  have hE:=HX.out
  simp [c7,c8,c9] at hE
  subst hE
  clear HX c7 c8 c9
  go_enter Tryz.func64,Tryz.ntmps64
  go_upto_region 1 with fail
  obtain ⟨wb,hwb⟩:∃ wb,wb=w.alloc (.cells #[.int .i64 o,.int .i64 d,.int .i64 s,.int .i64 f,.int .i64 i] 40):=⟨_,rfl⟩
  obtain ⟨p,hp⟩:∃ p,p=w.heap.size:=⟨_,rfl⟩
  have ob:Out w wb:=by rw [hwb];exact (Out.refl w).alloc _
  have hb:wb.heap[p]? = some (.cells #[.int .i64 o,.int .i64 d,.int .i64 s,.int .i64 f,.int .i64 i] 40 (0,0)):=by rw [hwb,hp];exact heap_alloc_new w _
  have HB:=hidOf (fun wx (ox:Out wb wx)=>blk_out ox hb)
  have OB:=hidOf ob
  rw [<-hwb, <-hp]
  have e0:wb.cell? ⟨p,0,none⟩=some (.int .i64 o):=by rw [cell_atL hb];rfl
  have e1:wb.cell? ⟨p,1,none⟩=some (.int .i64 d):=by rw [cell_atL hb];rfl
  have e2:wb.cell? ⟨p,2,none⟩=some (.int .i64 s):=by rw [cell_atL hb];rfl
  have e3:wb.cell? ⟨p,3,none⟩=some (.int .i64 f):=by rw [cell_atL hb];rfl
  have e4:wb.cell? ⟨p,4,none⟩=some (.int .i64 i):=by rw [cell_atL hb];rfl
  clear hwb hp ob hb
  go_upto_region 2 with (go_at_call 93;refine (CS.out _).mono ?_;rintro e w1 ⟨rfl,ho⟩;have O1:=hidOf ho;clear ho)
  have h1:=HB.out w1 O1.out
  have f0:w1.cell? ⟨p,0,none⟩=some (.int .i64 o):=by rw [cell_atL h1];rfl
  have f2:w1.cell? ⟨p,2,none⟩=some (.int .i64 s):=by rw [cell_atL h1];rfl
  have f3:w1.cell? ⟨p,3,none⟩=some (.int .i64 f):=by rw [cell_atL h1];rfl
  have f4:w1.cell? ⟨p,4,none⟩=some (.int .i64 i):=by rw [cell_atL h1];rfl
  clear e0 e1 e2 e3 e4 h1 HB
  go_upto_region 8 with fail
  go_quiet (fail)
  go_wp2
  go_ret2
  exact ⟨rfl,Out.trans OB.out (Out.dN O1.out _)⟩
 have b9:(sh == 9)=false:=by simp [c9]
 by_cases c12:sh=12
 ·
  have b12:(sh == 12)=true:=by simp [c12]
  have hE:=HX.out
  simp [c7,c8,c9,c12] at hE
  subst hE
  clear HX c7 c8 c9 c12
  go_enter Tryz.func64,Tryz.ntmps64
  go_upto_region 1 with fail
  obtain ⟨wb,hwb⟩:∃ wb,wb=w.alloc (.cells #[.int .i64 o,.int .i64 d,.int .i64 s,.int .i64 f,.int .i64 i] 40):=⟨_,rfl⟩
  obtain ⟨p,hp⟩:∃ p,p=w.heap.size:=⟨_,rfl⟩
  have ob:Out w wb:=by rw [hwb];exact (Out.refl w).alloc _
  have hb:wb.heap[p]? = some (.cells #[.int .i64 o,.int .i64 d,.int .i64 s,.int .i64 f,.int .i64 i] 40 (0,0)):=by rw [hwb,hp];exact heap_alloc_new w _
  have HB:=hidOf (fun wx (ox:Out wb wx)=>blk_out ox hb)
  have OB:=hidOf ob
  rw [<-hwb, <-hp]
  have e0:wb.cell? ⟨p,0,none⟩=some (.int .i64 o):=by rw [cell_atL hb];rfl
  have e1:wb.cell? ⟨p,1,none⟩=some (.int .i64 d):=by rw [cell_atL hb];rfl
  have e2:wb.cell? ⟨p,2,none⟩=some (.int .i64 s):=by rw [cell_atL hb];rfl
  have e3:wb.cell? ⟨p,3,none⟩=some (.int .i64 f):=by rw [cell_atL hb];rfl
  have e4:wb.cell? ⟨p,4,none⟩=some (.int .i64 i):=by rw [cell_atL hb];rfl
  clear hwb hp ob hb
  go_upto_region 2 with (go_at_call 93;refine (CS.out _).mono ?_;rintro e w1 ⟨rfl,ho⟩;have O1:=hidOf ho;clear ho)
  have h1:=HB.out w1 O1.out
  have f0:w1.cell? ⟨p,0,none⟩=some (.int .i64 o):=by rw [cell_atL h1];rfl
  have f2:w1.cell? ⟨p,2,none⟩=some (.int .i64 s):=by rw [cell_atL h1];rfl
  have f3:w1.cell? ⟨p,3,none⟩=some (.int .i64 f):=by rw [cell_atL h1];rfl
  have f4:w1.cell? ⟨p,4,none⟩=some (.int .i64 i):=by rw [cell_atL h1];rfl
  clear e0 e1 e2 e3 e4 h1 HB
  go_upto_region 10 with fail
  go_quiet (fail)
  go_wp2
  go_ret2
  exact ⟨rfl,Out.trans OB.out (Out.dN O1.out _)⟩
 have b12:(sh == 12)=false:=by simp [c12]
 have hE:=HX.out
 simp [c7,c8,c9,c12] at hE
 subst hE
 clear HX c7 c8 c9 c12
 go_enter Tryz.func64,Tryz.ntmps64
 go_upto_region 1 with fail
 obtain ⟨wb,hwb⟩:∃ wb,wb=w.alloc (.cells #[.int .i64 o,.int .i64 d,.int .i64 s,.int .i64 f,.int .i64 i] 40):=⟨_,rfl⟩
 obtain ⟨p,hp⟩:∃ p,p=w.heap.size:=⟨_,rfl⟩
 have ob:Out w wb:=by rw [hwb];exact (Out.refl w).alloc _
 have hb:wb.heap[p]? = some (.cells #[.int .i64 o,.int .i64 d,.int .i64 s,.int .i64 f,.int .i64 i] 40 (0,0)):=by rw [hwb,hp];exact heap_alloc_new w _
 have HB:=hidOf (fun wx (ox:Out wb wx)=>blk_out ox hb)
 have OB:=hidOf ob
 rw [<-hwb, <-hp]
 have e0:wb.cell? ⟨p,0,none⟩=some (.int .i64 o):=by rw [cell_atL hb];rfl
 have e1:wb.cell? ⟨p,1,none⟩=some (.int .i64 d):=by rw [cell_atL hb];rfl
 have e2:wb.cell? ⟨p,2,none⟩=some (.int .i64 s):=by rw [cell_atL hb];rfl
 have e3:wb.cell? ⟨p,3,none⟩=some (.int .i64 f):=by rw [cell_atL hb];rfl
 have e4:wb.cell? ⟨p,4,none⟩=some (.int .i64 i):=by rw [cell_atL hb];rfl
 clear hwb hp ob hb
 go_upto_region 2 with (go_at_call 93;refine (CS.out _).mono ?_;rintro e w1 ⟨rfl,ho⟩;have O1:=hidOf ho;clear ho)
 have h1:=HB.out w1 O1.out
 have f0:w1.cell? ⟨p,0,none⟩=some (.int .i64 o):=by rw [cell_atL h1];rfl
 have f2:w1.cell? ⟨p,2,none⟩=some (.int .i64 s):=by rw [cell_atL h1];rfl
 have f3:w1.cell? ⟨p,3,none⟩=some (.int .i64 f):=by rw [cell_atL h1];rfl
 have f4:w1.cell? ⟨p,4,none⟩=some (.int .i64 i):=by rw [cell_atL h1];rfl
 clear e0 e1 e2 e3 e4 h1 HB
 go_wp2
 go_ret2
 exact ⟨rfl,Out.trans OB.out O1.out⟩
end Go.Proofs.YtadneimllbfdnaaGreatDoor
