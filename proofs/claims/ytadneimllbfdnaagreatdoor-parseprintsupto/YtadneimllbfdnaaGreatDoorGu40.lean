import Derived.Test.YtadneimllbfdnaaGreatDoorGu39
import Derived.Deep.DeepCutAuto
namespace Go.Proofs.YtadneimllbfdnaaGreatDoor
open Go.RowKit
set_option linter.unusedVariables false
set_option linter.unusedSimpArgs false
theorem sizeB4:(Tryz.prog.info? 171).map (·.size)=some 4:=by kernel_rfl
theorem set4b_heap {w:World} {b:Nat} {t:TypeId} {x y z u a1 a2 a3 a4:Value} (h:w.heap[b]? = some (.cells #[a1,a2,a3,a4] t (0,0))):((((w.setCell ⟨b,0,none⟩ x).setCell ⟨b,1,none⟩ y).setCell ⟨b,2,none⟩ z).setCell ⟨b,3,none⟩ u).heap[b]? = some (.cells #[x,y,z,u] t (0,0)):=by
 simp [World.setCell,Array.getElem?_modify,h]
theorem set4_out {w0 w:World} {b:Nat} {x y z u:Value} (h:Out w0 w) (hb:w0.heap.size<=b):Out w0 ((((w.setCell ⟨b,0,none⟩ x).setCell ⟨b,1,none⟩ y).setCell ⟨b,2,none⟩ z).setCell ⟨b,3,none⟩ u):=Out.setCell (Out.setCell (Out.setCell (Out.setCell h hb _) hb _) hb _) hb _
set_option maxRecDepth 8000 in
set_option maxHeartbeats 4000000 in
theorem uses4_any (L:List UInt8) (sh op off imm o d s f i:Int) (h0:0<=op) (h1:op<=1000) (s1:1<=sh) (s2:sh<=12) (w:World):Calls Tryz.prog 130 #[.agg #[.string ⟨L.toArray⟩,.int .i64 sh,.int .i64 op,.int .i64 off,.int .i64 imm],.agg #[.int .i64 o,.int .i64 d,.int .i64 s,.int .i64 f,.int .i64 i]] w fun e w'=>e=.returned (.agg #[.bool (usR ⟨L,sh,op,off,imm⟩ o).1,.bool (usR ⟨L,sh,op,off,imm⟩ o).2.1,.bool (usR ⟨L,sh,op,off,imm⟩ o).2.2.1,.bool (usR ⟨L,sh,op,off,imm⟩ o).2.2.2])/\Out w w':=by
 rcases (show sh=1\/sh=2\/sh=3\/sh=4\/sh=5\/sh=6\/sh=7\/sh=8\/sh=9\/sh=10\/sh=11\/sh=12 by omega) with rfl | rfl | rfl | rfl | rfl | rfl | rfl | rfl | rfl | rfl | rfl | rfl
 ·
  have HU:Hid (usR ⟨L,1,op,off,imm⟩ o=(true,(o == op+8),false,(!(o == op+8)))):=hidOf (by simp [usR,secR,twoR])
  have CT:Hid (∀ wx,Calls Tryz.prog 66 #[.agg #[.string ⟨L.toArray⟩,.int .i64 1,.int .i64 op,.int .i64 off,.int .i64 imm]] wx fun e w'=>e=.returned (.bool true)/\Out wx w'):=hidOf (fun wx=>two4_any L 1 op off imm wx)
  rw [HU.out]
  go_enter Tryz.func130,Tryz.ntmps130
  go_upto_region 1 with fail
  obtain ⟨wB,hwB⟩:∃ wB,wB=(w.alloc (.cells #[.string ⟨L.toArray⟩,.int .i64 1,.int .i64 op,.int .i64 off,.int .i64 imm] 111)).alloc (.cells #[.int .i64 o,.int .i64 d,.int .i64 s,.int .i64 f,.int .i64 i] 40):=⟨_,rfl⟩
  obtain ⟨wC,hwC⟩:∃ wC,wC=wB.alloc (.cells #[.bool false,.bool false,.bool false,.bool false] 171):=⟨_,rfl⟩
  have hsB:wB.heap.size=w.heap.size+1+1:=by rw [hwB,size_alloc,size_alloc]
  obtain ⟨qa,hqa⟩:∃ qa,qa=w.heap.size+1+1:=⟨_,rfl⟩
  obtain ⟨qi,hqi⟩:∃ qi,qi=w.heap.size+1:=⟨_,rfl⟩
  obtain ⟨qr,hqr⟩:∃ qr,qr=w.heap.size:=⟨_,rfl⟩
  have hRI:RI wC qr qi L 1 op off imm o d s f i:=by rw [hwC,hwB,hqi,hqr];exact (RI.new w L 1 op off imm o d s f i).on ((Out.refl _).alloc _)
  have hA:wC.heap[qa]? = some (.cells #[.bool false,.bool false,.bool false,.bool false] 171 (0,0)):=by rw [hwC,hqa, <-hsB];exact heap_alloc_new wB _
  have oC:Out w wC:=by rw [hwC,hwB];exact (((Out.refl w).alloc _).alloc _).alloc _
  have hqs:w.heap.size<=qa:=by omega
  change Code.wp _ _ _ _ (((w.alloc (.cells #[.string ⟨L.toArray⟩,.int .i64 1,.int .i64 op,.int .i64 off,.int .i64 imm] 111)).alloc (.cells #[.int .i64 o,.int .i64 d,.int .i64 s,.int .i64 f,.int .i64 i] 40)).alloc (.cells #[.bool false,.bool false,.bool false,.bool false] 171))
  rw [<-hwB, <-hwC]
  first | rw [<-hqa] | rw [show w.heap.size+2=qa by omega]
  rw [<-hqi, <-hqr]
  have HRI:=hidOf hRI
  have HA:=hidOf hA
  have OC:=hidOf oC
  have Hqs:=hidOf hqs
  obtain ⟨⟨a0,a1,a2,a3,a4⟩,b0,b1,b2,b3,b4⟩:=hRI.cells
  clear hwB hwC hsB hqa hqi hqr hRI hA oC hqs
  go_upto_region 2 with (go_at_call 66;refine (CT.out _).mono ?_;rintro e w1 ⟨rfl,ho⟩;have O1:=hidOf ho;obtain ⟨⟨x0,x1,x2,x3,x4⟩,z0,z1,z2,z3,z4⟩:=(HRI.out.on ho).cells;clear ho)
  have hA1:=blk_out O1.out HA.out
  have HA1:=hidOf hA1
  have y0:w1.cell? ⟨qa,0,none⟩=some (.bool false):=by rw [cell_atL hA1];rfl
  have y1:w1.cell? ⟨qa,1,none⟩=some (.bool false):=by rw [cell_atL hA1];rfl
  have y2:w1.cell? ⟨qa,2,none⟩=some (.bool false):=by rw [cell_atL hA1];rfl
  have y3:w1.cell? ⟨qa,3,none⟩=some (.bool false):=by rw [cell_atL hA1];rfl
  have g0:=frozen_atL hA1 0
  have g1:=frozen_atL hA1 1
  have g2:=frozen_atL hA1 2
  have g3:=frozen_atL hA1 3
  clear a0 a1 a2 a3 a4 b0 b1 b2 b3 b4 hA1
  go_wp2
  refine bodyPost_ret (results_cell_row rfl _ _ qa 171 _ (0,0) _ rfl (set4b_heap HA1.out) Tryz.underlying171 rfl sizeB4) rfl ?_
  exact ⟨rfl,set4_out (OC.out.trans O1.out) Hqs.out⟩
 ·
  have HU:Hid (usR ⟨L,2,op,off,imm⟩ o=(true,true,false,false)):=hidOf (by simp [usR,secR,twoR])
  have CT:Hid (∀ wx,Calls Tryz.prog 66 #[.agg #[.string ⟨L.toArray⟩,.int .i64 2,.int .i64 op,.int .i64 off,.int .i64 imm]] wx fun e w'=>e=.returned (.bool false)/\Out wx w'):=hidOf (fun wx=>two4_any L 2 op off imm wx)
  rw [HU.out]
  go_enter Tryz.func130,Tryz.ntmps130
  go_upto_region 1 with fail
  obtain ⟨wB,hwB⟩:∃ wB,wB=(w.alloc (.cells #[.string ⟨L.toArray⟩,.int .i64 2,.int .i64 op,.int .i64 off,.int .i64 imm] 111)).alloc (.cells #[.int .i64 o,.int .i64 d,.int .i64 s,.int .i64 f,.int .i64 i] 40):=⟨_,rfl⟩
  obtain ⟨wC,hwC⟩:∃ wC,wC=wB.alloc (.cells #[.bool false,.bool false,.bool false,.bool false] 171):=⟨_,rfl⟩
  have hsB:wB.heap.size=w.heap.size+1+1:=by rw [hwB,size_alloc,size_alloc]
  obtain ⟨qa,hqa⟩:∃ qa,qa=w.heap.size+1+1:=⟨_,rfl⟩
  obtain ⟨qi,hqi⟩:∃ qi,qi=w.heap.size+1:=⟨_,rfl⟩
  obtain ⟨qr,hqr⟩:∃ qr,qr=w.heap.size:=⟨_,rfl⟩
  have hRI:RI wC qr qi L 2 op off imm o d s f i:=by rw [hwC,hwB,hqi,hqr];exact (RI.new w L 2 op off imm o d s f i).on ((Out.refl _).alloc _)
  have hA:wC.heap[qa]? = some (.cells #[.bool false,.bool false,.bool false,.bool false] 171 (0,0)):=by rw [hwC,hqa, <-hsB];exact heap_alloc_new wB _
  have oC:Out w wC:=by rw [hwC,hwB];exact (((Out.refl w).alloc _).alloc _).alloc _
  have hqs:w.heap.size<=qa:=by omega
  change Code.wp _ _ _ _ (((w.alloc (.cells #[.string ⟨L.toArray⟩,.int .i64 2,.int .i64 op,.int .i64 off,.int .i64 imm] 111)).alloc (.cells #[.int .i64 o,.int .i64 d,.int .i64 s,.int .i64 f,.int .i64 i] 40)).alloc (.cells #[.bool false,.bool false,.bool false,.bool false] 171))
  rw [<-hwB, <-hwC]
  first | rw [<-hqa] | rw [show w.heap.size+2=qa by omega]
  rw [<-hqi, <-hqr]
  have HRI:=hidOf hRI
  have HA:=hidOf hA
  have OC:=hidOf oC
  have Hqs:=hidOf hqs
  obtain ⟨⟨a0,a1,a2,a3,a4⟩,b0,b1,b2,b3,b4⟩:=hRI.cells
  clear hwB hwC hsB hqa hqi hqr hRI hA oC hqs
  go_upto_region 2 with (go_at_call 66;refine (CT.out _).mono ?_;rintro e w1 ⟨rfl,ho⟩;have O1:=hidOf ho;obtain ⟨⟨x0,x1,x2,x3,x4⟩,z0,z1,z2,z3,z4⟩:=(HRI.out.on ho).cells;clear ho)
  have hA1:=blk_out O1.out HA.out
  have HA1:=hidOf hA1
  have y0:w1.cell? ⟨qa,0,none⟩=some (.bool false):=by rw [cell_atL hA1];rfl
  have y1:w1.cell? ⟨qa,1,none⟩=some (.bool false):=by rw [cell_atL hA1];rfl
  have y2:w1.cell? ⟨qa,2,none⟩=some (.bool false):=by rw [cell_atL hA1];rfl
  have y3:w1.cell? ⟨qa,3,none⟩=some (.bool false):=by rw [cell_atL hA1];rfl
  have g0:=frozen_atL hA1 0
  have g1:=frozen_atL hA1 1
  have g2:=frozen_atL hA1 2
  have g3:=frozen_atL hA1 3
  clear a0 a1 a2 a3 a4 b0 b1 b2 b3 b4 hA1
  go_wp2
  refine bodyPost_ret (results_cell_row rfl _ _ qa 171 _ (0,0) _ rfl (set4b_heap HA1.out) Tryz.underlying171 rfl sizeB4) rfl ?_
  exact ⟨rfl,set4_out (OC.out.trans O1.out) Hqs.out⟩
 ·
  have HU:Hid (usR ⟨L,3,op,off,imm⟩ o=(true,false,false,false)):=hidOf (by simp [usR,secR,twoR])
  have CT:Hid (∀ wx,Calls Tryz.prog 66 #[.agg #[.string ⟨L.toArray⟩,.int .i64 3,.int .i64 op,.int .i64 off,.int .i64 imm]] wx fun e w'=>e=.returned (.bool false)/\Out wx w'):=hidOf (fun wx=>two4_any L 3 op off imm wx)
  rw [HU.out]
  go_enter Tryz.func130,Tryz.ntmps130
  go_upto_region 1 with fail
  obtain ⟨wB,hwB⟩:∃ wB,wB=(w.alloc (.cells #[.string ⟨L.toArray⟩,.int .i64 3,.int .i64 op,.int .i64 off,.int .i64 imm] 111)).alloc (.cells #[.int .i64 o,.int .i64 d,.int .i64 s,.int .i64 f,.int .i64 i] 40):=⟨_,rfl⟩
  obtain ⟨wC,hwC⟩:∃ wC,wC=wB.alloc (.cells #[.bool false,.bool false,.bool false,.bool false] 171):=⟨_,rfl⟩
  have hsB:wB.heap.size=w.heap.size+1+1:=by rw [hwB,size_alloc,size_alloc]
  obtain ⟨qa,hqa⟩:∃ qa,qa=w.heap.size+1+1:=⟨_,rfl⟩
  obtain ⟨qi,hqi⟩:∃ qi,qi=w.heap.size+1:=⟨_,rfl⟩
  obtain ⟨qr,hqr⟩:∃ qr,qr=w.heap.size:=⟨_,rfl⟩
  have hRI:RI wC qr qi L 3 op off imm o d s f i:=by rw [hwC,hwB,hqi,hqr];exact (RI.new w L 3 op off imm o d s f i).on ((Out.refl _).alloc _)
  have hA:wC.heap[qa]? = some (.cells #[.bool false,.bool false,.bool false,.bool false] 171 (0,0)):=by rw [hwC,hqa, <-hsB];exact heap_alloc_new wB _
  have oC:Out w wC:=by rw [hwC,hwB];exact (((Out.refl w).alloc _).alloc _).alloc _
  have hqs:w.heap.size<=qa:=by omega
  change Code.wp _ _ _ _ (((w.alloc (.cells #[.string ⟨L.toArray⟩,.int .i64 3,.int .i64 op,.int .i64 off,.int .i64 imm] 111)).alloc (.cells #[.int .i64 o,.int .i64 d,.int .i64 s,.int .i64 f,.int .i64 i] 40)).alloc (.cells #[.bool false,.bool false,.bool false,.bool false] 171))
  rw [<-hwB, <-hwC]
  first | rw [<-hqa] | rw [show w.heap.size+2=qa by omega]
  rw [<-hqi, <-hqr]
  have HRI:=hidOf hRI
  have HA:=hidOf hA
  have OC:=hidOf oC
  have Hqs:=hidOf hqs
  obtain ⟨⟨a0,a1,a2,a3,a4⟩,b0,b1,b2,b3,b4⟩:=hRI.cells
  clear hwB hwC hsB hqa hqi hqr hRI hA oC hqs
  go_upto_region 2 with (go_at_call 66;refine (CT.out _).mono ?_;rintro e w1 ⟨rfl,ho⟩;have O1:=hidOf ho;obtain ⟨⟨x0,x1,x2,x3,x4⟩,z0,z1,z2,z3,z4⟩:=(HRI.out.on ho).cells;clear ho)
  have hA1:=blk_out O1.out HA.out
  have HA1:=hidOf hA1
  have y0:w1.cell? ⟨qa,0,none⟩=some (.bool false):=by rw [cell_atL hA1];rfl
  have y1:w1.cell? ⟨qa,1,none⟩=some (.bool false):=by rw [cell_atL hA1];rfl
  have y2:w1.cell? ⟨qa,2,none⟩=some (.bool false):=by rw [cell_atL hA1];rfl
  have y3:w1.cell? ⟨qa,3,none⟩=some (.bool false):=by rw [cell_atL hA1];rfl
  have g0:=frozen_atL hA1 0
  have g1:=frozen_atL hA1 1
  have g2:=frozen_atL hA1 2
  have g3:=frozen_atL hA1 3
  clear a0 a1 a2 a3 a4 b0 b1 b2 b3 b4 hA1
  go_wp2
  refine bodyPost_ret (results_cell_row rfl _ _ qa 171 _ (0,0) _ rfl (set4b_heap HA1.out) Tryz.underlying171 rfl sizeB4) rfl ?_
  exact ⟨rfl,set4_out (OC.out.trans O1.out) Hqs.out⟩
 ·
  have HU:Hid (usR ⟨L,4,op,off,imm⟩ o=(true,true,true,false)):=hidOf (by simp [usR,secR,twoR])
  have CT:Hid (∀ wx,Calls Tryz.prog 66 #[.agg #[.string ⟨L.toArray⟩,.int .i64 4,.int .i64 op,.int .i64 off,.int .i64 imm]] wx fun e w'=>e=.returned (.bool false)/\Out wx w'):=hidOf (fun wx=>two4_any L 4 op off imm wx)
  rw [HU.out]
  go_enter Tryz.func130,Tryz.ntmps130
  go_upto_region 1 with fail
  obtain ⟨wB,hwB⟩:∃ wB,wB=(w.alloc (.cells #[.string ⟨L.toArray⟩,.int .i64 4,.int .i64 op,.int .i64 off,.int .i64 imm] 111)).alloc (.cells #[.int .i64 o,.int .i64 d,.int .i64 s,.int .i64 f,.int .i64 i] 40):=⟨_,rfl⟩
  obtain ⟨wC,hwC⟩:∃ wC,wC=wB.alloc (.cells #[.bool false,.bool false,.bool false,.bool false] 171):=⟨_,rfl⟩
  have hsB:wB.heap.size=w.heap.size+1+1:=by rw [hwB,size_alloc,size_alloc]
  obtain ⟨qa,hqa⟩:∃ qa,qa=w.heap.size+1+1:=⟨_,rfl⟩
  obtain ⟨qi,hqi⟩:∃ qi,qi=w.heap.size+1:=⟨_,rfl⟩
  obtain ⟨qr,hqr⟩:∃ qr,qr=w.heap.size:=⟨_,rfl⟩
  have hRI:RI wC qr qi L 4 op off imm o d s f i:=by rw [hwC,hwB,hqi,hqr];exact (RI.new w L 4 op off imm o d s f i).on ((Out.refl _).alloc _)
  have hA:wC.heap[qa]? = some (.cells #[.bool false,.bool false,.bool false,.bool false] 171 (0,0)):=by rw [hwC,hqa, <-hsB];exact heap_alloc_new wB _
  have oC:Out w wC:=by rw [hwC,hwB];exact (((Out.refl w).alloc _).alloc _).alloc _
  have hqs:w.heap.size<=qa:=by omega
  change Code.wp _ _ _ _ (((w.alloc (.cells #[.string ⟨L.toArray⟩,.int .i64 4,.int .i64 op,.int .i64 off,.int .i64 imm] 111)).alloc (.cells #[.int .i64 o,.int .i64 d,.int .i64 s,.int .i64 f,.int .i64 i] 40)).alloc (.cells #[.bool false,.bool false,.bool false,.bool false] 171))
  rw [<-hwB, <-hwC]
  first | rw [<-hqa] | rw [show w.heap.size+2=qa by omega]
  rw [<-hqi, <-hqr]
  have HRI:=hidOf hRI
  have HA:=hidOf hA
  have OC:=hidOf oC
  have Hqs:=hidOf hqs
  obtain ⟨⟨a0,a1,a2,a3,a4⟩,b0,b1,b2,b3,b4⟩:=hRI.cells
  clear hwB hwC hsB hqa hqi hqr hRI hA oC hqs
  go_upto_region 2 with (go_at_call 66;refine (CT.out _).mono ?_;rintro e w1 ⟨rfl,ho⟩;have O1:=hidOf ho;obtain ⟨⟨x0,x1,x2,x3,x4⟩,z0,z1,z2,z3,z4⟩:=(HRI.out.on ho).cells;clear ho)
  have hA1:=blk_out O1.out HA.out
  have HA1:=hidOf hA1
  have y0:w1.cell? ⟨qa,0,none⟩=some (.bool false):=by rw [cell_atL hA1];rfl
  have y1:w1.cell? ⟨qa,1,none⟩=some (.bool false):=by rw [cell_atL hA1];rfl
  have y2:w1.cell? ⟨qa,2,none⟩=some (.bool false):=by rw [cell_atL hA1];rfl
  have y3:w1.cell? ⟨qa,3,none⟩=some (.bool false):=by rw [cell_atL hA1];rfl
  have g0:=frozen_atL hA1 0
  have g1:=frozen_atL hA1 1
  have g2:=frozen_atL hA1 2
  have g3:=frozen_atL hA1 3
  clear a0 a1 a2 a3 a4 b0 b1 b2 b3 b4 hA1
  go_wp2
  refine bodyPost_ret (results_cell_row rfl _ _ qa 171 _ (0,0) _ rfl (set4b_heap HA1.out) Tryz.underlying171 rfl sizeB4) rfl ?_
  exact ⟨rfl,set4_out (OC.out.trans O1.out) Hqs.out⟩
 ·
  have HU:Hid (usR ⟨L,5,op,off,imm⟩ o=(true,false,true,true)):=hidOf (by simp [usR,secR,twoR])
  have CT:Hid (∀ wx,Calls Tryz.prog 66 #[.agg #[.string ⟨L.toArray⟩,.int .i64 5,.int .i64 op,.int .i64 off,.int .i64 imm]] wx fun e w'=>e=.returned (.bool false)/\Out wx w'):=hidOf (fun wx=>two4_any L 5 op off imm wx)
  rw [HU.out]
  go_enter Tryz.func130,Tryz.ntmps130
  go_upto_region 1 with fail
  obtain ⟨wB,hwB⟩:∃ wB,wB=(w.alloc (.cells #[.string ⟨L.toArray⟩,.int .i64 5,.int .i64 op,.int .i64 off,.int .i64 imm] 111)).alloc (.cells #[.int .i64 o,.int .i64 d,.int .i64 s,.int .i64 f,.int .i64 i] 40):=⟨_,rfl⟩
  obtain ⟨wC,hwC⟩:∃ wC,wC=wB.alloc (.cells #[.bool false,.bool false,.bool false,.bool false] 171):=⟨_,rfl⟩
  have hsB:wB.heap.size=w.heap.size+1+1:=by rw [hwB,size_alloc,size_alloc]
  obtain ⟨qa,hqa⟩:∃ qa,qa=w.heap.size+1+1:=⟨_,rfl⟩
  obtain ⟨qi,hqi⟩:∃ qi,qi=w.heap.size+1:=⟨_,rfl⟩
  obtain ⟨qr,hqr⟩:∃ qr,qr=w.heap.size:=⟨_,rfl⟩
  have hRI:RI wC qr qi L 5 op off imm o d s f i:=by rw [hwC,hwB,hqi,hqr];exact (RI.new w L 5 op off imm o d s f i).on ((Out.refl _).alloc _)
  have hA:wC.heap[qa]? = some (.cells #[.bool false,.bool false,.bool false,.bool false] 171 (0,0)):=by rw [hwC,hqa, <-hsB];exact heap_alloc_new wB _
  have oC:Out w wC:=by rw [hwC,hwB];exact (((Out.refl w).alloc _).alloc _).alloc _
  have hqs:w.heap.size<=qa:=by omega
  change Code.wp _ _ _ _ (((w.alloc (.cells #[.string ⟨L.toArray⟩,.int .i64 5,.int .i64 op,.int .i64 off,.int .i64 imm] 111)).alloc (.cells #[.int .i64 o,.int .i64 d,.int .i64 s,.int .i64 f,.int .i64 i] 40)).alloc (.cells #[.bool false,.bool false,.bool false,.bool false] 171))
  rw [<-hwB, <-hwC]
  first | rw [<-hqa] | rw [show w.heap.size+2=qa by omega]
  rw [<-hqi, <-hqr]
  have HRI:=hidOf hRI
  have HA:=hidOf hA
  have OC:=hidOf oC
  have Hqs:=hidOf hqs
  obtain ⟨⟨a0,a1,a2,a3,a4⟩,b0,b1,b2,b3,b4⟩:=hRI.cells
  clear hwB hwC hsB hqa hqi hqr hRI hA oC hqs
  go_upto_region 2 with (go_at_call 66;refine (CT.out _).mono ?_;rintro e w1 ⟨rfl,ho⟩;have O1:=hidOf ho;obtain ⟨⟨x0,x1,x2,x3,x4⟩,z0,z1,z2,z3,z4⟩:=(HRI.out.on ho).cells;clear ho)
  have hA1:=blk_out O1.out HA.out
  have HA1:=hidOf hA1
  have y0:w1.cell? ⟨qa,0,none⟩=some (.bool false):=by rw [cell_atL hA1];rfl
  have y1:w1.cell? ⟨qa,1,none⟩=some (.bool false):=by rw [cell_atL hA1];rfl
  have y2:w1.cell? ⟨qa,2,none⟩=some (.bool false):=by rw [cell_atL hA1];rfl
  have y3:w1.cell? ⟨qa,3,none⟩=some (.bool false):=by rw [cell_atL hA1];rfl
  have g0:=frozen_atL hA1 0
  have g1:=frozen_atL hA1 1
  have g2:=frozen_atL hA1 2
  have g3:=frozen_atL hA1 3
  clear a0 a1 a2 a3 a4 b0 b1 b2 b3 b4 hA1
  go_wp2
  refine bodyPost_ret (results_cell_row rfl _ _ qa 171 _ (0,0) _ rfl (set4b_heap HA1.out) Tryz.underlying171 rfl sizeB4) rfl ?_
  exact ⟨rfl,set4_out (OC.out.trans O1.out) Hqs.out⟩
 ·
  have HU:Hid (usR ⟨L,6,op,off,imm⟩ o=(true,true,true,false)):=hidOf (by simp [usR,secR,twoR])
  have CT:Hid (∀ wx,Calls Tryz.prog 66 #[.agg #[.string ⟨L.toArray⟩,.int .i64 6,.int .i64 op,.int .i64 off,.int .i64 imm]] wx fun e w'=>e=.returned (.bool false)/\Out wx w'):=hidOf (fun wx=>two4_any L 6 op off imm wx)
  rw [HU.out]
  go_enter Tryz.func130,Tryz.ntmps130
  go_upto_region 1 with fail
  obtain ⟨wB,hwB⟩:∃ wB,wB=(w.alloc (.cells #[.string ⟨L.toArray⟩,.int .i64 6,.int .i64 op,.int .i64 off,.int .i64 imm] 111)).alloc (.cells #[.int .i64 o,.int .i64 d,.int .i64 s,.int .i64 f,.int .i64 i] 40):=⟨_,rfl⟩
  obtain ⟨wC,hwC⟩:∃ wC,wC=wB.alloc (.cells #[.bool false,.bool false,.bool false,.bool false] 171):=⟨_,rfl⟩
  have hsB:wB.heap.size=w.heap.size+1+1:=by rw [hwB,size_alloc,size_alloc]
  obtain ⟨qa,hqa⟩:∃ qa,qa=w.heap.size+1+1:=⟨_,rfl⟩
  obtain ⟨qi,hqi⟩:∃ qi,qi=w.heap.size+1:=⟨_,rfl⟩
  obtain ⟨qr,hqr⟩:∃ qr,qr=w.heap.size:=⟨_,rfl⟩
  have hRI:RI wC qr qi L 6 op off imm o d s f i:=by rw [hwC,hwB,hqi,hqr];exact (RI.new w L 6 op off imm o d s f i).on ((Out.refl _).alloc _)
  have hA:wC.heap[qa]? = some (.cells #[.bool false,.bool false,.bool false,.bool false] 171 (0,0)):=by rw [hwC,hqa, <-hsB];exact heap_alloc_new wB _
  have oC:Out w wC:=by rw [hwC,hwB];exact (((Out.refl w).alloc _).alloc _).alloc _
  have hqs:w.heap.size<=qa:=by omega
  change Code.wp _ _ _ _ (((w.alloc (.cells #[.string ⟨L.toArray⟩,.int .i64 6,.int .i64 op,.int .i64 off,.int .i64 imm] 111)).alloc (.cells #[.int .i64 o,.int .i64 d,.int .i64 s,.int .i64 f,.int .i64 i] 40)).alloc (.cells #[.bool false,.bool false,.bool false,.bool false] 171))
  rw [<-hwB, <-hwC]
  first | rw [<-hqa] | rw [show w.heap.size+2=qa by omega]
  rw [<-hqi, <-hqr]
  have HRI:=hidOf hRI
  have HA:=hidOf hA
  have OC:=hidOf oC
  have Hqs:=hidOf hqs
  obtain ⟨⟨a0,a1,a2,a3,a4⟩,b0,b1,b2,b3,b4⟩:=hRI.cells
  clear hwB hwC hsB hqa hqi hqr hRI hA oC hqs
  go_upto_region 2 with (go_at_call 66;refine (CT.out _).mono ?_;rintro e w1 ⟨rfl,ho⟩;have O1:=hidOf ho;obtain ⟨⟨x0,x1,x2,x3,x4⟩,z0,z1,z2,z3,z4⟩:=(HRI.out.on ho).cells;clear ho)
  have hA1:=blk_out O1.out HA.out
  have HA1:=hidOf hA1
  have y0:w1.cell? ⟨qa,0,none⟩=some (.bool false):=by rw [cell_atL hA1];rfl
  have y1:w1.cell? ⟨qa,1,none⟩=some (.bool false):=by rw [cell_atL hA1];rfl
  have y2:w1.cell? ⟨qa,2,none⟩=some (.bool false):=by rw [cell_atL hA1];rfl
  have y3:w1.cell? ⟨qa,3,none⟩=some (.bool false):=by rw [cell_atL hA1];rfl
  have g0:=frozen_atL hA1 0
  have g1:=frozen_atL hA1 1
  have g2:=frozen_atL hA1 2
  have g3:=frozen_atL hA1 3
  clear a0 a1 a2 a3 a4 b0 b1 b2 b3 b4 hA1
  go_wp2
  refine bodyPost_ret (results_cell_row rfl _ _ qa 171 _ (0,0) _ rfl (set4b_heap HA1.out) Tryz.underlying171 rfl sizeB4) rfl ?_
  exact ⟨rfl,set4_out (OC.out.trans O1.out) Hqs.out⟩
 ·
  have HU:Hid (usR ⟨L,7,op,off,imm⟩ o=(false,false,(op == 5),(op == 6))):=hidOf (by simp [usR,secR,twoR])
  have CT:Hid (∀ wx,Calls Tryz.prog 66 #[.agg #[.string ⟨L.toArray⟩,.int .i64 7,.int .i64 op,.int .i64 off,.int .i64 imm]] wx fun e w'=>e=.returned (.bool false)/\Out wx w'):=hidOf (fun wx=>two4_any L 7 op off imm wx)
  rw [HU.out]
  go_enter Tryz.func130,Tryz.ntmps130
  go_upto_region 1 with fail
  obtain ⟨wB,hwB⟩:∃ wB,wB=(w.alloc (.cells #[.string ⟨L.toArray⟩,.int .i64 7,.int .i64 op,.int .i64 off,.int .i64 imm] 111)).alloc (.cells #[.int .i64 o,.int .i64 d,.int .i64 s,.int .i64 f,.int .i64 i] 40):=⟨_,rfl⟩
  obtain ⟨wC,hwC⟩:∃ wC,wC=wB.alloc (.cells #[.bool false,.bool false,.bool false,.bool false] 171):=⟨_,rfl⟩
  have hsB:wB.heap.size=w.heap.size+1+1:=by rw [hwB,size_alloc,size_alloc]
  obtain ⟨qa,hqa⟩:∃ qa,qa=w.heap.size+1+1:=⟨_,rfl⟩
  obtain ⟨qi,hqi⟩:∃ qi,qi=w.heap.size+1:=⟨_,rfl⟩
  obtain ⟨qr,hqr⟩:∃ qr,qr=w.heap.size:=⟨_,rfl⟩
  have hRI:RI wC qr qi L 7 op off imm o d s f i:=by rw [hwC,hwB,hqi,hqr];exact (RI.new w L 7 op off imm o d s f i).on ((Out.refl _).alloc _)
  have hA:wC.heap[qa]? = some (.cells #[.bool false,.bool false,.bool false,.bool false] 171 (0,0)):=by rw [hwC,hqa, <-hsB];exact heap_alloc_new wB _
  have oC:Out w wC:=by rw [hwC,hwB];exact (((Out.refl w).alloc _).alloc _).alloc _
  have hqs:w.heap.size<=qa:=by omega
  change Code.wp _ _ _ _ (((w.alloc (.cells #[.string ⟨L.toArray⟩,.int .i64 7,.int .i64 op,.int .i64 off,.int .i64 imm] 111)).alloc (.cells #[.int .i64 o,.int .i64 d,.int .i64 s,.int .i64 f,.int .i64 i] 40)).alloc (.cells #[.bool false,.bool false,.bool false,.bool false] 171))
  rw [<-hwB, <-hwC]
  first | rw [<-hqa] | rw [show w.heap.size+2=qa by omega]
  rw [<-hqi, <-hqr]
  have HRI:=hidOf hRI
  have HA:=hidOf hA
  have OC:=hidOf oC
  have Hqs:=hidOf hqs
  obtain ⟨⟨a0,a1,a2,a3,a4⟩,b0,b1,b2,b3,b4⟩:=hRI.cells
  clear hwB hwC hsB hqa hqi hqr hRI hA oC hqs
  go_upto_region 2 with (go_at_call 66;refine (CT.out _).mono ?_;rintro e w1 ⟨rfl,ho⟩;have O1:=hidOf ho;obtain ⟨⟨x0,x1,x2,x3,x4⟩,z0,z1,z2,z3,z4⟩:=(HRI.out.on ho).cells;clear ho)
  have hA1:=blk_out O1.out HA.out
  have HA1:=hidOf hA1
  have y0:w1.cell? ⟨qa,0,none⟩=some (.bool false):=by rw [cell_atL hA1];rfl
  have y1:w1.cell? ⟨qa,1,none⟩=some (.bool false):=by rw [cell_atL hA1];rfl
  have y2:w1.cell? ⟨qa,2,none⟩=some (.bool false):=by rw [cell_atL hA1];rfl
  have y3:w1.cell? ⟨qa,3,none⟩=some (.bool false):=by rw [cell_atL hA1];rfl
  have g0:=frozen_atL hA1 0
  have g1:=frozen_atL hA1 1
  have g2:=frozen_atL hA1 2
  have g3:=frozen_atL hA1 3
  clear a0 a1 a2 a3 a4 b0 b1 b2 b3 b4 hA1
  go_wp2
  refine bodyPost_ret (results_cell_row rfl _ _ qa 171 _ (0,0) _ rfl (set4b_heap HA1.out) Tryz.underlying171 rfl sizeB4) rfl ?_
  exact ⟨rfl,set4_out (OC.out.trans O1.out) Hqs.out⟩
 ·
  have HU:Hid (usR ⟨L,8,op,off,imm⟩ o=(true,(o == op+8),true,(!(o == op+8)))):=hidOf (by simp [usR,secR,twoR])
  have CT:Hid (∀ wx,Calls Tryz.prog 66 #[.agg #[.string ⟨L.toArray⟩,.int .i64 8,.int .i64 op,.int .i64 off,.int .i64 imm]] wx fun e w'=>e=.returned (.bool true)/\Out wx w'):=hidOf (fun wx=>two4_any L 8 op off imm wx)
  rw [HU.out]
  go_enter Tryz.func130,Tryz.ntmps130
  go_upto_region 1 with fail
  obtain ⟨wB,hwB⟩:∃ wB,wB=(w.alloc (.cells #[.string ⟨L.toArray⟩,.int .i64 8,.int .i64 op,.int .i64 off,.int .i64 imm] 111)).alloc (.cells #[.int .i64 o,.int .i64 d,.int .i64 s,.int .i64 f,.int .i64 i] 40):=⟨_,rfl⟩
  obtain ⟨wC,hwC⟩:∃ wC,wC=wB.alloc (.cells #[.bool false,.bool false,.bool false,.bool false] 171):=⟨_,rfl⟩
  have hsB:wB.heap.size=w.heap.size+1+1:=by rw [hwB,size_alloc,size_alloc]
  obtain ⟨qa,hqa⟩:∃ qa,qa=w.heap.size+1+1:=⟨_,rfl⟩
  obtain ⟨qi,hqi⟩:∃ qi,qi=w.heap.size+1:=⟨_,rfl⟩
  obtain ⟨qr,hqr⟩:∃ qr,qr=w.heap.size:=⟨_,rfl⟩
  have hRI:RI wC qr qi L 8 op off imm o d s f i:=by rw [hwC,hwB,hqi,hqr];exact (RI.new w L 8 op off imm o d s f i).on ((Out.refl _).alloc _)
  have hA:wC.heap[qa]? = some (.cells #[.bool false,.bool false,.bool false,.bool false] 171 (0,0)):=by rw [hwC,hqa, <-hsB];exact heap_alloc_new wB _
  have oC:Out w wC:=by rw [hwC,hwB];exact (((Out.refl w).alloc _).alloc _).alloc _
  have hqs:w.heap.size<=qa:=by omega
  change Code.wp _ _ _ _ (((w.alloc (.cells #[.string ⟨L.toArray⟩,.int .i64 8,.int .i64 op,.int .i64 off,.int .i64 imm] 111)).alloc (.cells #[.int .i64 o,.int .i64 d,.int .i64 s,.int .i64 f,.int .i64 i] 40)).alloc (.cells #[.bool false,.bool false,.bool false,.bool false] 171))
  rw [<-hwB, <-hwC]
  first | rw [<-hqa] | rw [show w.heap.size+2=qa by omega]
  rw [<-hqi, <-hqr]
  have HRI:=hidOf hRI
  have HA:=hidOf hA
  have OC:=hidOf oC
  have Hqs:=hidOf hqs
  obtain ⟨⟨a0,a1,a2,a3,a4⟩,b0,b1,b2,b3,b4⟩:=hRI.cells
  clear hwB hwC hsB hqa hqi hqr hRI hA oC hqs
  go_upto_region 2 with (go_at_call 66;refine (CT.out _).mono ?_;rintro e w1 ⟨rfl,ho⟩;have O1:=hidOf ho;obtain ⟨⟨x0,x1,x2,x3,x4⟩,z0,z1,z2,z3,z4⟩:=(HRI.out.on ho).cells;clear ho)
  have hA1:=blk_out O1.out HA.out
  have HA1:=hidOf hA1
  have y0:w1.cell? ⟨qa,0,none⟩=some (.bool false):=by rw [cell_atL hA1];rfl
  have y1:w1.cell? ⟨qa,1,none⟩=some (.bool false):=by rw [cell_atL hA1];rfl
  have y2:w1.cell? ⟨qa,2,none⟩=some (.bool false):=by rw [cell_atL hA1];rfl
  have y3:w1.cell? ⟨qa,3,none⟩=some (.bool false):=by rw [cell_atL hA1];rfl
  have g0:=frozen_atL hA1 0
  have g1:=frozen_atL hA1 1
  have g2:=frozen_atL hA1 2
  have g3:=frozen_atL hA1 3
  clear a0 a1 a2 a3 a4 b0 b1 b2 b3 b4 hA1
  go_wp2
  refine bodyPost_ret (results_cell_row rfl _ _ qa 171 _ (0,0) _ rfl (set4b_heap HA1.out) Tryz.underlying171 rfl sizeB4) rfl ?_
  exact ⟨rfl,set4_out (OC.out.trans O1.out) Hqs.out⟩
 ·
  have HU:Hid (usR ⟨L,9,op,off,imm⟩ o=(false,false,false,true)):=hidOf (by simp [usR,secR,twoR])
  have CT:Hid (∀ wx,Calls Tryz.prog 66 #[.agg #[.string ⟨L.toArray⟩,.int .i64 9,.int .i64 op,.int .i64 off,.int .i64 imm]] wx fun e w'=>e=.returned (.bool false)/\Out wx w'):=hidOf (fun wx=>two4_any L 9 op off imm wx)
  rw [HU.out]
  go_enter Tryz.func130,Tryz.ntmps130
  go_upto_region 1 with fail
  obtain ⟨wB,hwB⟩:∃ wB,wB=(w.alloc (.cells #[.string ⟨L.toArray⟩,.int .i64 9,.int .i64 op,.int .i64 off,.int .i64 imm] 111)).alloc (.cells #[.int .i64 o,.int .i64 d,.int .i64 s,.int .i64 f,.int .i64 i] 40):=⟨_,rfl⟩
  obtain ⟨wC,hwC⟩:∃ wC,wC=wB.alloc (.cells #[.bool false,.bool false,.bool false,.bool false] 171):=⟨_,rfl⟩
  have hsB:wB.heap.size=w.heap.size+1+1:=by rw [hwB,size_alloc,size_alloc]
  obtain ⟨qa,hqa⟩:∃ qa,qa=w.heap.size+1+1:=⟨_,rfl⟩
  obtain ⟨qi,hqi⟩:∃ qi,qi=w.heap.size+1:=⟨_,rfl⟩
  obtain ⟨qr,hqr⟩:∃ qr,qr=w.heap.size:=⟨_,rfl⟩
  have hRI:RI wC qr qi L 9 op off imm o d s f i:=by rw [hwC,hwB,hqi,hqr];exact (RI.new w L 9 op off imm o d s f i).on ((Out.refl _).alloc _)
  have hA:wC.heap[qa]? = some (.cells #[.bool false,.bool false,.bool false,.bool false] 171 (0,0)):=by rw [hwC,hqa, <-hsB];exact heap_alloc_new wB _
  have oC:Out w wC:=by rw [hwC,hwB];exact (((Out.refl w).alloc _).alloc _).alloc _
  have hqs:w.heap.size<=qa:=by omega
  change Code.wp _ _ _ _ (((w.alloc (.cells #[.string ⟨L.toArray⟩,.int .i64 9,.int .i64 op,.int .i64 off,.int .i64 imm] 111)).alloc (.cells #[.int .i64 o,.int .i64 d,.int .i64 s,.int .i64 f,.int .i64 i] 40)).alloc (.cells #[.bool false,.bool false,.bool false,.bool false] 171))
  rw [<-hwB, <-hwC]
  first | rw [<-hqa] | rw [show w.heap.size+2=qa by omega]
  rw [<-hqi, <-hqr]
  have HRI:=hidOf hRI
  have HA:=hidOf hA
  have OC:=hidOf oC
  have Hqs:=hidOf hqs
  obtain ⟨⟨a0,a1,a2,a3,a4⟩,b0,b1,b2,b3,b4⟩:=hRI.cells
  clear hwB hwC hsB hqa hqi hqr hRI hA oC hqs
  go_upto_region 2 with (go_at_call 66;refine (CT.out _).mono ?_;rintro e w1 ⟨rfl,ho⟩;have O1:=hidOf ho;obtain ⟨⟨x0,x1,x2,x3,x4⟩,z0,z1,z2,z3,z4⟩:=(HRI.out.on ho).cells;clear ho)
  have hA1:=blk_out O1.out HA.out
  have HA1:=hidOf hA1
  have y0:w1.cell? ⟨qa,0,none⟩=some (.bool false):=by rw [cell_atL hA1];rfl
  have y1:w1.cell? ⟨qa,1,none⟩=some (.bool false):=by rw [cell_atL hA1];rfl
  have y2:w1.cell? ⟨qa,2,none⟩=some (.bool false):=by rw [cell_atL hA1];rfl
  have y3:w1.cell? ⟨qa,3,none⟩=some (.bool false):=by rw [cell_atL hA1];rfl
  have g0:=frozen_atL hA1 0
  have g1:=frozen_atL hA1 1
  have g2:=frozen_atL hA1 2
  have g3:=frozen_atL hA1 3
  clear a0 a1 a2 a3 a4 b0 b1 b2 b3 b4 hA1
  go_wp2
  refine bodyPost_ret (results_cell_row rfl _ _ qa 171 _ (0,0) _ rfl (set4b_heap HA1.out) Tryz.underlying171 rfl sizeB4) rfl ?_
  exact ⟨rfl,set4_out (OC.out.trans O1.out) Hqs.out⟩
 ·
  have HU:Hid (usR ⟨L,10,op,off,imm⟩ o=(false,false,false,false)):=hidOf (by simp [usR,secR,twoR])
  have CT:Hid (∀ wx,Calls Tryz.prog 66 #[.agg #[.string ⟨L.toArray⟩,.int .i64 10,.int .i64 op,.int .i64 off,.int .i64 imm]] wx fun e w'=>e=.returned (.bool false)/\Out wx w'):=hidOf (fun wx=>two4_any L 10 op off imm wx)
  rw [HU.out]
  go_enter Tryz.func130,Tryz.ntmps130
  go_upto_region 1 with fail
  obtain ⟨wB,hwB⟩:∃ wB,wB=(w.alloc (.cells #[.string ⟨L.toArray⟩,.int .i64 10,.int .i64 op,.int .i64 off,.int .i64 imm] 111)).alloc (.cells #[.int .i64 o,.int .i64 d,.int .i64 s,.int .i64 f,.int .i64 i] 40):=⟨_,rfl⟩
  obtain ⟨wC,hwC⟩:∃ wC,wC=wB.alloc (.cells #[.bool false,.bool false,.bool false,.bool false] 171):=⟨_,rfl⟩
  have hsB:wB.heap.size=w.heap.size+1+1:=by rw [hwB,size_alloc,size_alloc]
  obtain ⟨qa,hqa⟩:∃ qa,qa=w.heap.size+1+1:=⟨_,rfl⟩
  obtain ⟨qi,hqi⟩:∃ qi,qi=w.heap.size+1:=⟨_,rfl⟩
  obtain ⟨qr,hqr⟩:∃ qr,qr=w.heap.size:=⟨_,rfl⟩
  have hRI:RI wC qr qi L 10 op off imm o d s f i:=by rw [hwC,hwB,hqi,hqr];exact (RI.new w L 10 op off imm o d s f i).on ((Out.refl _).alloc _)
  have hA:wC.heap[qa]? = some (.cells #[.bool false,.bool false,.bool false,.bool false] 171 (0,0)):=by rw [hwC,hqa, <-hsB];exact heap_alloc_new wB _
  have oC:Out w wC:=by rw [hwC,hwB];exact (((Out.refl w).alloc _).alloc _).alloc _
  have hqs:w.heap.size<=qa:=by omega
  change Code.wp _ _ _ _ (((w.alloc (.cells #[.string ⟨L.toArray⟩,.int .i64 10,.int .i64 op,.int .i64 off,.int .i64 imm] 111)).alloc (.cells #[.int .i64 o,.int .i64 d,.int .i64 s,.int .i64 f,.int .i64 i] 40)).alloc (.cells #[.bool false,.bool false,.bool false,.bool false] 171))
  rw [<-hwB, <-hwC]
  first | rw [<-hqa] | rw [show w.heap.size+2=qa by omega]
  rw [<-hqi, <-hqr]
  have HRI:=hidOf hRI
  have HA:=hidOf hA
  have OC:=hidOf oC
  have Hqs:=hidOf hqs
  obtain ⟨⟨a0,a1,a2,a3,a4⟩,b0,b1,b2,b3,b4⟩:=hRI.cells
  clear hwB hwC hsB hqa hqi hqr hRI hA oC hqs
  go_upto_region 2 with (go_at_call 66;refine (CT.out _).mono ?_;rintro e w1 ⟨rfl,ho⟩;have O1:=hidOf ho;obtain ⟨⟨x0,x1,x2,x3,x4⟩,z0,z1,z2,z3,z4⟩:=(HRI.out.on ho).cells;clear ho)
  have hA1:=blk_out O1.out HA.out
  have HA1:=hidOf hA1
  have y0:w1.cell? ⟨qa,0,none⟩=some (.bool false):=by rw [cell_atL hA1];rfl
  have y1:w1.cell? ⟨qa,1,none⟩=some (.bool false):=by rw [cell_atL hA1];rfl
  have y2:w1.cell? ⟨qa,2,none⟩=some (.bool false):=by rw [cell_atL hA1];rfl
  have y3:w1.cell? ⟨qa,3,none⟩=some (.bool false):=by rw [cell_atL hA1];rfl
  have g0:=frozen_atL hA1 0
  have g1:=frozen_atL hA1 1
  have g2:=frozen_atL hA1 2
  have g3:=frozen_atL hA1 3
  clear a0 a1 a2 a3 a4 b0 b1 b2 b3 b4 hA1
  go_wp2
  refine bodyPost_ret (results_cell_row rfl _ _ qa 171 _ (0,0) _ rfl (set4b_heap HA1.out) Tryz.underlying171 rfl sizeB4) rfl ?_
  exact ⟨rfl,set4_out (OC.out.trans O1.out) Hqs.out⟩
 ·
  have HU:Hid (usR ⟨L,11,op,off,imm⟩ o=(true,false,false,true)):=hidOf (by simp [usR,secR,twoR])
  have CT:Hid (∀ wx,Calls Tryz.prog 66 #[.agg #[.string ⟨L.toArray⟩,.int .i64 11,.int .i64 op,.int .i64 off,.int .i64 imm]] wx fun e w'=>e=.returned (.bool false)/\Out wx w'):=hidOf (fun wx=>two4_any L 11 op off imm wx)
  rw [HU.out]
  go_enter Tryz.func130,Tryz.ntmps130
  go_upto_region 1 with fail
  obtain ⟨wB,hwB⟩:∃ wB,wB=(w.alloc (.cells #[.string ⟨L.toArray⟩,.int .i64 11,.int .i64 op,.int .i64 off,.int .i64 imm] 111)).alloc (.cells #[.int .i64 o,.int .i64 d,.int .i64 s,.int .i64 f,.int .i64 i] 40):=⟨_,rfl⟩
  obtain ⟨wC,hwC⟩:∃ wC,wC=wB.alloc (.cells #[.bool false,.bool false,.bool false,.bool false] 171):=⟨_,rfl⟩
  have hsB:wB.heap.size=w.heap.size+1+1:=by rw [hwB,size_alloc,size_alloc]
  obtain ⟨qa,hqa⟩:∃ qa,qa=w.heap.size+1+1:=⟨_,rfl⟩
  obtain ⟨qi,hqi⟩:∃ qi,qi=w.heap.size+1:=⟨_,rfl⟩
  obtain ⟨qr,hqr⟩:∃ qr,qr=w.heap.size:=⟨_,rfl⟩
  have hRI:RI wC qr qi L 11 op off imm o d s f i:=by rw [hwC,hwB,hqi,hqr];exact (RI.new w L 11 op off imm o d s f i).on ((Out.refl _).alloc _)
  have hA:wC.heap[qa]? = some (.cells #[.bool false,.bool false,.bool false,.bool false] 171 (0,0)):=by rw [hwC,hqa, <-hsB];exact heap_alloc_new wB _
  have oC:Out w wC:=by rw [hwC,hwB];exact (((Out.refl w).alloc _).alloc _).alloc _
  have hqs:w.heap.size<=qa:=by omega
  change Code.wp _ _ _ _ (((w.alloc (.cells #[.string ⟨L.toArray⟩,.int .i64 11,.int .i64 op,.int .i64 off,.int .i64 imm] 111)).alloc (.cells #[.int .i64 o,.int .i64 d,.int .i64 s,.int .i64 f,.int .i64 i] 40)).alloc (.cells #[.bool false,.bool false,.bool false,.bool false] 171))
  rw [<-hwB, <-hwC]
  first | rw [<-hqa] | rw [show w.heap.size+2=qa by omega]
  rw [<-hqi, <-hqr]
  have HRI:=hidOf hRI
  have HA:=hidOf hA
  have OC:=hidOf oC
  have Hqs:=hidOf hqs
  obtain ⟨⟨a0,a1,a2,a3,a4⟩,b0,b1,b2,b3,b4⟩:=hRI.cells
  clear hwB hwC hsB hqa hqi hqr hRI hA oC hqs
  go_upto_region 2 with (go_at_call 66;refine (CT.out _).mono ?_;rintro e w1 ⟨rfl,ho⟩;have O1:=hidOf ho;obtain ⟨⟨x0,x1,x2,x3,x4⟩,z0,z1,z2,z3,z4⟩:=(HRI.out.on ho).cells;clear ho)
  have hA1:=blk_out O1.out HA.out
  have HA1:=hidOf hA1
  have y0:w1.cell? ⟨qa,0,none⟩=some (.bool false):=by rw [cell_atL hA1];rfl
  have y1:w1.cell? ⟨qa,1,none⟩=some (.bool false):=by rw [cell_atL hA1];rfl
  have y2:w1.cell? ⟨qa,2,none⟩=some (.bool false):=by rw [cell_atL hA1];rfl
  have y3:w1.cell? ⟨qa,3,none⟩=some (.bool false):=by rw [cell_atL hA1];rfl
  have g0:=frozen_atL hA1 0
  have g1:=frozen_atL hA1 1
  have g2:=frozen_atL hA1 2
  have g3:=frozen_atL hA1 3
  clear a0 a1 a2 a3 a4 b0 b1 b2 b3 b4 hA1
  go_wp2
  refine bodyPost_ret (results_cell_row rfl _ _ qa 171 _ (0,0) _ rfl (set4b_heap HA1.out) Tryz.underlying171 rfl sizeB4) rfl ?_
  exact ⟨rfl,set4_out (OC.out.trans O1.out) Hqs.out⟩
 ·
  have HU:Hid (usR ⟨L,12,op,off,imm⟩ o=(true,false,false,true)):=hidOf (by simp [usR,secR,twoR])
  have CT:Hid (∀ wx,Calls Tryz.prog 66 #[.agg #[.string ⟨L.toArray⟩,.int .i64 12,.int .i64 op,.int .i64 off,.int .i64 imm]] wx fun e w'=>e=.returned (.bool false)/\Out wx w'):=hidOf (fun wx=>two4_any L 12 op off imm wx)
  rw [HU.out]
  go_enter Tryz.func130,Tryz.ntmps130
  go_upto_region 1 with fail
  obtain ⟨wB,hwB⟩:∃ wB,wB=(w.alloc (.cells #[.string ⟨L.toArray⟩,.int .i64 12,.int .i64 op,.int .i64 off,.int .i64 imm] 111)).alloc (.cells #[.int .i64 o,.int .i64 d,.int .i64 s,.int .i64 f,.int .i64 i] 40):=⟨_,rfl⟩
  obtain ⟨wC,hwC⟩:∃ wC,wC=wB.alloc (.cells #[.bool false,.bool false,.bool false,.bool false] 171):=⟨_,rfl⟩
  have hsB:wB.heap.size=w.heap.size+1+1:=by rw [hwB,size_alloc,size_alloc]
  obtain ⟨qa,hqa⟩:∃ qa,qa=w.heap.size+1+1:=⟨_,rfl⟩
  obtain ⟨qi,hqi⟩:∃ qi,qi=w.heap.size+1:=⟨_,rfl⟩
  obtain ⟨qr,hqr⟩:∃ qr,qr=w.heap.size:=⟨_,rfl⟩
  have hRI:RI wC qr qi L 12 op off imm o d s f i:=by rw [hwC,hwB,hqi,hqr];exact (RI.new w L 12 op off imm o d s f i).on ((Out.refl _).alloc _)
  have hA:wC.heap[qa]? = some (.cells #[.bool false,.bool false,.bool false,.bool false] 171 (0,0)):=by rw [hwC,hqa, <-hsB];exact heap_alloc_new wB _
  have oC:Out w wC:=by rw [hwC,hwB];exact (((Out.refl w).alloc _).alloc _).alloc _
  have hqs:w.heap.size<=qa:=by omega
  change Code.wp _ _ _ _ (((w.alloc (.cells #[.string ⟨L.toArray⟩,.int .i64 12,.int .i64 op,.int .i64 off,.int .i64 imm] 111)).alloc (.cells #[.int .i64 o,.int .i64 d,.int .i64 s,.int .i64 f,.int .i64 i] 40)).alloc (.cells #[.bool false,.bool false,.bool false,.bool false] 171))
  rw [<-hwB, <-hwC]
  first | rw [<-hqa] | rw [show w.heap.size+2=qa by omega]
  rw [<-hqi, <-hqr]
  have HRI:=hidOf hRI
  have HA:=hidOf hA
  have OC:=hidOf oC
  have Hqs:=hidOf hqs
  obtain ⟨⟨a0,a1,a2,a3,a4⟩,b0,b1,b2,b3,b4⟩:=hRI.cells
  clear hwB hwC hsB hqa hqi hqr hRI hA oC hqs
  go_upto_region 2 with (go_at_call 66;refine (CT.out _).mono ?_;rintro e w1 ⟨rfl,ho⟩;have O1:=hidOf ho;obtain ⟨⟨x0,x1,x2,x3,x4⟩,z0,z1,z2,z3,z4⟩:=(HRI.out.on ho).cells;clear ho)
  have hA1:=blk_out O1.out HA.out
  have HA1:=hidOf hA1
  have y0:w1.cell? ⟨qa,0,none⟩=some (.bool false):=by rw [cell_atL hA1];rfl
  have y1:w1.cell? ⟨qa,1,none⟩=some (.bool false):=by rw [cell_atL hA1];rfl
  have y2:w1.cell? ⟨qa,2,none⟩=some (.bool false):=by rw [cell_atL hA1];rfl
  have y3:w1.cell? ⟨qa,3,none⟩=some (.bool false):=by rw [cell_atL hA1];rfl
  have g0:=frozen_atL hA1 0
  have g1:=frozen_atL hA1 1
  have g2:=frozen_atL hA1 2
  have g3:=frozen_atL hA1 3
  clear a0 a1 a2 a3 a4 b0 b1 b2 b3 b4 hA1
  go_wp2
  refine bodyPost_ret (results_cell_row rfl _ _ qa 171 _ (0,0) _ rfl (set4b_heap HA1.out) Tryz.underlying171 rfl sizeB4) rfl ?_
  exact ⟨rfl,set4_out (OC.out.trans O1.out) Hqs.out⟩
end Go.Proofs.YtadneimllbfdnaaGreatDoor
