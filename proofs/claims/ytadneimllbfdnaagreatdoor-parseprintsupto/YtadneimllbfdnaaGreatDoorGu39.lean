import Derived.Test.YtadneimllbfdnaaGreatDoorGu38
namespace Go.Proofs.YtadneimllbfdnaaGreatDoor
open Go.RowKit
set_option linter.unusedVariables false
set_option linter.unusedSimpArgs false
theorem within4 (x a b:Int) (w:World):Calls Tryz.prog 131 #[.int .i64 x,.int .i64 a,.int .i64 b] w fun e w'=>e=.returned (.bool (inR x a b))/\w=w':=by
 by_cases h1:a<=x
 ·
  by_cases h2:x<=b
  ·
   have hR:Hid (inR x a b=true):=hidOf (by simp [inR,h1,h2])
   go_enter Tryz.func131,Tryz.ntmps131
   go_wp2
   go_ret
   exact ⟨by rw [hR.out];rfl,rfl⟩
  ·
   have hR:Hid (inR x a b=false):=hidOf (by simp [inR,h2])
   go_enter Tryz.func131,Tryz.ntmps131
   go_wp2
   go_ret
   exact ⟨by rw [hR.out];rfl,rfl⟩
 ·
  have hR:Hid (inR x a b=false):=hidOf (by simp [inR,h1])
  go_enter Tryz.func131,Tryz.ntmps131
  go_wp2
  go_ret
  exact ⟨by rw [hR.out];rfl,rfl⟩
def RI (w:World) (qr qi:Nat) (L:List UInt8) (sh op off imm o d s f i:Int):Prop:=w.heap[qr]? = some (.cells #[.string ⟨L.toArray⟩,.int .i64 sh,.int .i64 op,.int .i64 off,.int .i64 imm] 111 (0,0))/\w.heap[qi]? = some (.cells #[.int .i64 o,.int .i64 d,.int .i64 s,.int .i64 f,.int .i64 i] 40 (0,0))
theorem RI.on {w w':World} {qr qi:Nat} {L:List UInt8} {sh op off imm o d s f i:Int} (h:RI w qr qi L sh op off imm o d s f i) (k:Out w w'):RI w' qr qi L sh op off imm o d s f i:=⟨blk_out k h.1,blk_out k h.2⟩
theorem RI.cells {w:World} {qr qi:Nat} {L:List UInt8} {sh op off imm o d s f i:Int} (h:RI w qr qi L sh op off imm o d s f i):(w.cell? ⟨qr,0,none⟩=some (.string ⟨L.toArray⟩)/\w.cell? ⟨qr,1,none⟩=some (.int .i64 sh)/\w.cell? ⟨qr,2,none⟩=some (.int .i64 op)/\w.cell? ⟨qr,3,none⟩=some (.int .i64 off)/\w.cell? ⟨qr,4,none⟩=some (.int .i64 imm))/\w.cell? ⟨qi,0,none⟩=some (.int .i64 o)/\w.cell? ⟨qi,1,none⟩=some (.int .i64 d)/\w.cell? ⟨qi,2,none⟩=some (.int .i64 s)/\w.cell? ⟨qi,3,none⟩=some (.int .i64 f)/\w.cell? ⟨qi,4,none⟩=some (.int .i64 i):=by
 refine ⟨⟨?_, ?_, ?_, ?_, ?_⟩, ?_, ?_, ?_, ?_, ?_⟩
 · rw [cell_atL h.1];rfl
 · rw [cell_atL h.1];rfl
 · rw [cell_atL h.1];rfl
 · rw [cell_atL h.1];rfl
 · rw [cell_atL h.1];rfl
 · rw [cell_atL h.2];rfl
 · rw [cell_atL h.2];rfl
 · rw [cell_atL h.2];rfl
 · rw [cell_atL h.2];rfl
 · rw [cell_atL h.2];rfl
theorem RI.new (w:World) (L:List UInt8) (sh op off imm o d s f i:Int):RI ((w.alloc (.cells #[.string ⟨L.toArray⟩,.int .i64 sh,.int .i64 op,.int .i64 off,.int .i64 imm] 111)).alloc (.cells #[.int .i64 o,.int .i64 d,.int .i64 s,.int .i64 f,.int .i64 i] 40)) w.heap.size (w.heap.size+1) L sh op off imm o d s f i:=by
 refine ⟨blk_out ((Out.refl _).alloc _) (heap_alloc_new w _), ?_⟩
 have:=heap_alloc_new (w.alloc (.cells #[.string ⟨L.toArray⟩,.int .i64 sh,.int .i64 op,.int .i64 off,.int .i64 imm] 111)) (.cells #[.int .i64 o,.int .i64 d,.int .i64 s,.int .i64 f,.int .i64 i] 40)
 rw [size_alloc] at this
 exact this
set_option maxRecDepth 8000 in
set_option maxHeartbeats 2000000 in
theorem of4_any (L:List UInt8) (sh op off imm o d s f i:Int) (h0:0<=op) (h1:op<=1000) (w:World):Calls Tryz.prog 91 #[.agg #[.string ⟨L.toArray⟩,.int .i64 sh,.int .i64 op,.int .i64 off,.int .i64 imm],.agg #[.int .i64 o,.int .i64 d,.int .i64 s,.int .i64 f,.int .i64 i]] w fun e w'=>e=.returned (.bool (ofR ⟨L,sh,op,off,imm⟩ o s f i))/\Out w w':=by
 by_cases e1:sh=1
 ·
  subst e1
  have CO:=hidOf (fun wx=>op4_any L 1 op off imm o h0 h1 wx)
  cases hop:opR ⟨L,1,op,off,imm⟩ o
  ·
   rw [hop] at CO
   have hR:Hid (ofR ⟨L,1,op,off,imm⟩ o s f i=false):=hidOf (by simp [ofR,hop])
   go_enter Tryz.func91,Tryz.ntmps91
   go_upto_region 1 with fail
   obtain ⟨wB,hwB⟩:∃ wB,wB=(w.alloc (.cells #[.string ⟨L.toArray⟩,.int .i64 1,.int .i64 op,.int .i64 off,.int .i64 imm] 111)).alloc (.cells #[.int .i64 o,.int .i64 d,.int .i64 s,.int .i64 f,.int .i64 i] 40):=⟨_,rfl⟩
   obtain ⟨qi,hqi⟩:∃ qi,qi=w.heap.size+1:=⟨_,rfl⟩
   obtain ⟨qr,hqr⟩:∃ qr,qr=w.heap.size:=⟨_,rfl⟩
   have hRI:RI wB qr qi L 1 op off imm o d s f i:=by rw [hwB,hqi,hqr];exact RI.new w L 1 op off imm o d s f i
   have oB:Out w wB:=by rw [hwB];exact ((Out.refl w).alloc _).alloc _
   rw [<-hwB, <-hqi, <-hqr]
   have HRI:=hidOf hRI
   have OB:=hidOf oB
   obtain ⟨⟨a0,a1,a2,a3,a4⟩,b0,b1,b2,b3,b4⟩:=hRI.cells
   clear hwB hqi hqr hRI oB
   go_wp2_with (go_at_call 129;refine (CO.out _).mono ?_;rintro e w1 ⟨rfl,ho⟩;have O1:=hidOf (OB.out.trans ho);obtain ⟨⟨x0,x1,x2,x3,x4⟩,z0,z1,z2,z3,z4⟩:=(HRI.out.on ho).cells;clear ho)
   go_ret
   exact ⟨by rw [hR.out];rfl,O1.out⟩
  ·
   rw [hop] at CO
   have hR:Hid (ofR ⟨L,1,op,off,imm⟩ o s f i=(f == off)):=hidOf (by simp [ofR,hop])
   go_enter Tryz.func91,Tryz.ntmps91
   go_upto_region 1 with fail
   obtain ⟨wB,hwB⟩:∃ wB,wB=(w.alloc (.cells #[.string ⟨L.toArray⟩,.int .i64 1,.int .i64 op,.int .i64 off,.int .i64 imm] 111)).alloc (.cells #[.int .i64 o,.int .i64 d,.int .i64 s,.int .i64 f,.int .i64 i] 40):=⟨_,rfl⟩
   obtain ⟨qi,hqi⟩:∃ qi,qi=w.heap.size+1:=⟨_,rfl⟩
   obtain ⟨qr,hqr⟩:∃ qr,qr=w.heap.size:=⟨_,rfl⟩
   have hRI:RI wB qr qi L 1 op off imm o d s f i:=by rw [hwB,hqi,hqr];exact RI.new w L 1 op off imm o d s f i
   have oB:Out w wB:=by rw [hwB];exact ((Out.refl w).alloc _).alloc _
   rw [<-hwB, <-hqi, <-hqr]
   have HRI:=hidOf hRI
   have OB:=hidOf oB
   obtain ⟨⟨a0,a1,a2,a3,a4⟩,b0,b1,b2,b3,b4⟩:=hRI.cells
   clear hwB hqi hqr hRI oB
   go_wp2_with (go_at_call 129;refine (CO.out _).mono ?_;rintro e w1 ⟨rfl,ho⟩;have O1:=hidOf (OB.out.trans ho);obtain ⟨⟨x0,x1,x2,x3,x4⟩,z0,z1,z2,z3,z4⟩:=(HRI.out.on ho).cells;clear ho)
   go_ret
   exact ⟨by rw [hR.out];rfl,O1.out⟩
 by_cases e2:sh=2
 ·
  subst e2
  have CO:=hidOf (fun wx=>op4_any L 2 op off imm o h0 h1 wx)
  cases hop:opR ⟨L,2,op,off,imm⟩ o
  ·
   rw [hop] at CO
   have hR:Hid (ofR ⟨L,2,op,off,imm⟩ o s f i=false):=hidOf (by simp [ofR,hop])
   go_enter Tryz.func91,Tryz.ntmps91
   go_upto_region 1 with fail
   obtain ⟨wB,hwB⟩:∃ wB,wB=(w.alloc (.cells #[.string ⟨L.toArray⟩,.int .i64 2,.int .i64 op,.int .i64 off,.int .i64 imm] 111)).alloc (.cells #[.int .i64 o,.int .i64 d,.int .i64 s,.int .i64 f,.int .i64 i] 40):=⟨_,rfl⟩
   obtain ⟨qi,hqi⟩:∃ qi,qi=w.heap.size+1:=⟨_,rfl⟩
   obtain ⟨qr,hqr⟩:∃ qr,qr=w.heap.size:=⟨_,rfl⟩
   have hRI:RI wB qr qi L 2 op off imm o d s f i:=by rw [hwB,hqi,hqr];exact RI.new w L 2 op off imm o d s f i
   have oB:Out w wB:=by rw [hwB];exact ((Out.refl w).alloc _).alloc _
   rw [<-hwB, <-hqi, <-hqr]
   have HRI:=hidOf hRI
   have OB:=hidOf oB
   obtain ⟨⟨a0,a1,a2,a3,a4⟩,b0,b1,b2,b3,b4⟩:=hRI.cells
   clear hwB hqi hqr hRI oB
   go_wp2_with (go_at_call 129;refine (CO.out _).mono ?_;rintro e w1 ⟨rfl,ho⟩;have O1:=hidOf (OB.out.trans ho);obtain ⟨⟨x0,x1,x2,x3,x4⟩,z0,z1,z2,z3,z4⟩:=(HRI.out.on ho).cells;clear ho)
   go_ret
   exact ⟨by rw [hR.out];rfl,O1.out⟩
  ·
   rw [hop] at CO
   have hR:Hid (ofR ⟨L,2,op,off,imm⟩ o s f i=(f == off)):=hidOf (by simp [ofR,hop])
   go_enter Tryz.func91,Tryz.ntmps91
   go_upto_region 1 with fail
   obtain ⟨wB,hwB⟩:∃ wB,wB=(w.alloc (.cells #[.string ⟨L.toArray⟩,.int .i64 2,.int .i64 op,.int .i64 off,.int .i64 imm] 111)).alloc (.cells #[.int .i64 o,.int .i64 d,.int .i64 s,.int .i64 f,.int .i64 i] 40):=⟨_,rfl⟩
   obtain ⟨qi,hqi⟩:∃ qi,qi=w.heap.size+1:=⟨_,rfl⟩
   obtain ⟨qr,hqr⟩:∃ qr,qr=w.heap.size:=⟨_,rfl⟩
   have hRI:RI wB qr qi L 2 op off imm o d s f i:=by rw [hwB,hqi,hqr];exact RI.new w L 2 op off imm o d s f i
   have oB:Out w wB:=by rw [hwB];exact ((Out.refl w).alloc _).alloc _
   rw [<-hwB, <-hqi, <-hqr]
   have HRI:=hidOf hRI
   have OB:=hidOf oB
   obtain ⟨⟨a0,a1,a2,a3,a4⟩,b0,b1,b2,b3,b4⟩:=hRI.cells
   clear hwB hqi hqr hRI oB
   go_wp2_with (go_at_call 129;refine (CO.out _).mono ?_;rintro e w1 ⟨rfl,ho⟩;have O1:=hidOf (OB.out.trans ho);obtain ⟨⟨x0,x1,x2,x3,x4⟩,z0,z1,z2,z3,z4⟩:=(HRI.out.on ho).cells;clear ho)
   go_ret
   exact ⟨by rw [hR.out];rfl,O1.out⟩
 by_cases e3:sh=3
 ·
  subst e3
  cases k1:(o == op) <;> cases k2:(i == imm)
  all_goals
   obtain ⟨RR,hRR⟩:∃ RR,RR=ofR ⟨L,3,op,off,imm⟩ o s f i:=⟨_,rfl⟩
   have hR:=hRR
   simp only [ofR] at hR
   simp [k1,k2] at hR
   rw [<-hRR]
   have HR:=hidOf hR
   clear hRR hR
   go_enter Tryz.func91,Tryz.ntmps91
   go_upto_region 1 with fail
   obtain ⟨wB,hwB⟩:∃ wB,wB=(w.alloc (.cells #[.string ⟨L.toArray⟩,.int .i64 3,.int .i64 op,.int .i64 off,.int .i64 imm] 111)).alloc (.cells #[.int .i64 o,.int .i64 d,.int .i64 s,.int .i64 f,.int .i64 i] 40):=⟨_,rfl⟩
   obtain ⟨qi,hqi⟩:∃ qi,qi=w.heap.size+1:=⟨_,rfl⟩
   obtain ⟨qr,hqr⟩:∃ qr,qr=w.heap.size:=⟨_,rfl⟩
   have hRI:RI wB qr qi L 3 op off imm o d s f i:=by rw [hwB,hqi,hqr];exact RI.new w L 3 op off imm o d s f i
   have oB:Out w wB:=by rw [hwB];exact ((Out.refl w).alloc _).alloc _
   rw [<-hwB, <-hqi, <-hqr]
   have HRI:=hidOf hRI
   have OB:=hidOf oB
   obtain ⟨⟨a0,a1,a2,a3,a4⟩,b0,b1,b2,b3,b4⟩:=hRI.cells
   clear hwB hqi hqr hRI oB
   go_wp2
   go_ret
   exact ⟨by rw [HR.out];rfl,OB.out⟩
 by_cases e6:sh=6
 ·
  subst e6
  cases k1:(o == op) <;> cases k2:(i == imm) <;> cases k3:(op != 219)
  all_goals
   obtain ⟨RR,hRR⟩:∃ RR,RR=ofR ⟨L,6,op,off,imm⟩ o s f i:=⟨_,rfl⟩
   have hR:=hRR
   simp only [ofR] at hR
   simp [k1,k2,k3] at hR
   rw [<-hRR]
   have HR:=hidOf hR
   clear hRR hR
   go_enter Tryz.func91,Tryz.ntmps91
   go_upto_region 1 with fail
   obtain ⟨wB,hwB⟩:∃ wB,wB=(w.alloc (.cells #[.string ⟨L.toArray⟩,.int .i64 6,.int .i64 op,.int .i64 off,.int .i64 imm] 111)).alloc (.cells #[.int .i64 o,.int .i64 d,.int .i64 s,.int .i64 f,.int .i64 i] 40):=⟨_,rfl⟩
   obtain ⟨qi,hqi⟩:∃ qi,qi=w.heap.size+1:=⟨_,rfl⟩
   obtain ⟨qr,hqr⟩:∃ qr,qr=w.heap.size:=⟨_,rfl⟩
   have hRI:RI wB qr qi L 6 op off imm o d s f i:=by rw [hwB,hqi,hqr];exact RI.new w L 6 op off imm o d s f i
   have oB:Out w wB:=by rw [hwB];exact ((Out.refl w).alloc _).alloc _
   rw [<-hwB, <-hqi, <-hqr]
   have HRI:=hidOf hRI
   have OB:=hidOf oB
   obtain ⟨⟨a0,a1,a2,a3,a4⟩,b0,b1,b2,b3,b4⟩:=hRI.cells
   clear hwB hqi hqr hRI oB
   go_wp2
   go_ret
   exact ⟨by rw [HR.out];rfl,OB.out⟩
 by_cases e11:sh=11
 ·
  subst e11
  cases k1:(o == op) <;> cases k2:(s == 0)
  all_goals
   obtain ⟨RR,hRR⟩:∃ RR,RR=ofR ⟨L,11,op,off,imm⟩ o s f i:=⟨_,rfl⟩
   have hR:=hRR
   simp only [ofR] at hR
   simp [k1,k2] at hR
   rw [<-hRR]
   have HR:=hidOf hR
   clear hRR hR
   go_enter Tryz.func91,Tryz.ntmps91
   go_upto_region 1 with fail
   obtain ⟨wB,hwB⟩:∃ wB,wB=(w.alloc (.cells #[.string ⟨L.toArray⟩,.int .i64 11,.int .i64 op,.int .i64 off,.int .i64 imm] 111)).alloc (.cells #[.int .i64 o,.int .i64 d,.int .i64 s,.int .i64 f,.int .i64 i] 40):=⟨_,rfl⟩
   obtain ⟨qi,hqi⟩:∃ qi,qi=w.heap.size+1:=⟨_,rfl⟩
   obtain ⟨qr,hqr⟩:∃ qr,qr=w.heap.size:=⟨_,rfl⟩
   have hRI:RI wB qr qi L 11 op off imm o d s f i:=by rw [hwB,hqi,hqr];exact RI.new w L 11 op off imm o d s f i
   have oB:Out w wB:=by rw [hwB];exact ((Out.refl w).alloc _).alloc _
   rw [<-hwB, <-hqi, <-hqr]
   have HRI:=hidOf hRI
   have OB:=hidOf oB
   obtain ⟨⟨a0,a1,a2,a3,a4⟩,b0,b1,b2,b3,b4⟩:=hRI.cells
   clear hwB hqi hqr hRI oB
   go_wp2
   go_ret
   exact ⟨by rw [HR.out];rfl,OB.out⟩
 by_cases e12:sh=12
 ·
  subst e12
  cases k1:(o == op) <;> cases k2:(s == 1)
  all_goals
   obtain ⟨RR,hRR⟩:∃ RR,RR=ofR ⟨L,12,op,off,imm⟩ o s f i:=⟨_,rfl⟩
   have hR:=hRR
   simp only [ofR] at hR
   simp [k1,k2] at hR
   rw [<-hRR]
   have HR:=hidOf hR
   clear hRR hR
   go_enter Tryz.func91,Tryz.ntmps91
   go_upto_region 1 with fail
   obtain ⟨wB,hwB⟩:∃ wB,wB=(w.alloc (.cells #[.string ⟨L.toArray⟩,.int .i64 12,.int .i64 op,.int .i64 off,.int .i64 imm] 111)).alloc (.cells #[.int .i64 o,.int .i64 d,.int .i64 s,.int .i64 f,.int .i64 i] 40):=⟨_,rfl⟩
   obtain ⟨qi,hqi⟩:∃ qi,qi=w.heap.size+1:=⟨_,rfl⟩
   obtain ⟨qr,hqr⟩:∃ qr,qr=w.heap.size:=⟨_,rfl⟩
   have hRI:RI wB qr qi L 12 op off imm o d s f i:=by rw [hwB,hqi,hqr];exact RI.new w L 12 op off imm o d s f i
   have oB:Out w wB:=by rw [hwB];exact ((Out.refl w).alloc _).alloc _
   rw [<-hwB, <-hqi, <-hqr]
   have HRI:=hidOf hRI
   have OB:=hidOf oB
   obtain ⟨⟨a0,a1,a2,a3,a4⟩,b0,b1,b2,b3,b4⟩:=hRI.cells
   clear hwB hqi hqr hRI oB
   go_wp2
   go_ret
   exact ⟨by rw [HR.out];rfl,OB.out⟩
 have f1:(sh == 1)=false:=by simpa using e1
 have f2:(sh == 2)=false:=by simpa using e2
 have f3:(sh == 3)=false:=by simpa using e3
 have f6:(sh == 6)=false:=by simpa using e6
 have f11:(sh == 11)=false:=by simpa using e11
 have f12:(sh == 12)=false:=by simpa using e12
 have hR:Hid (ofR ⟨L,sh,op,off,imm⟩ o s f i=opR ⟨L,sh,op,off,imm⟩ o):=hidOf (by simp [ofR,e1,e2,e3,e6,e11,e12])
 have CO:=hidOf (fun wx=>op4_any L sh op off imm o h0 h1 wx)
 clear e1 e2 e3 e6 e11 e12
 generalize opR ⟨L,sh,op,off,imm⟩ o=RO at *
 go_enter Tryz.func91,Tryz.ntmps91
 go_upto_region 1 with fail
 obtain ⟨wB,hwB⟩:∃ wB,wB=(w.alloc (.cells #[.string ⟨L.toArray⟩,.int .i64 sh,.int .i64 op,.int .i64 off,.int .i64 imm] 111)).alloc (.cells #[.int .i64 o,.int .i64 d,.int .i64 s,.int .i64 f,.int .i64 i] 40):=⟨_,rfl⟩
 obtain ⟨qi,hqi⟩:∃ qi,qi=w.heap.size+1:=⟨_,rfl⟩
 obtain ⟨qr,hqr⟩:∃ qr,qr=w.heap.size:=⟨_,rfl⟩
 have hRI:RI wB qr qi L sh op off imm o d s f i:=by rw [hwB,hqi,hqr];exact RI.new w L sh op off imm o d s f i
 have oB:Out w wB:=by rw [hwB];exact ((Out.refl w).alloc _).alloc _
 rw [<-hwB, <-hqi, <-hqr]
 have HRI:=hidOf hRI
 have OB:=hidOf oB
 obtain ⟨⟨a0,a1,a2,a3,a4⟩,b0,b1,b2,b3,b4⟩:=hRI.cells
 clear hwB hqi hqr hRI oB
 go_wp2_with (go_at_call 129;refine (CO.out _).mono ?_;rintro e w1 ⟨rfl,ho⟩;have O1:=hidOf (OB.out.trans ho);obtain ⟨⟨x0,x1,x2,x3,x4⟩,z0,z1,z2,z3,z4⟩:=(HRI.out.on ho).cells;clear ho)
 go_ret
 exact ⟨by rw [hR.out];rfl,O1.out⟩
end Go.Proofs.YtadneimllbfdnaaGreatDoor
