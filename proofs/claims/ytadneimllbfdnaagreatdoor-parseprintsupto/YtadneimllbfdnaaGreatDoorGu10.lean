import Derived.Test.YtadneimllbfdnaaGreatDoorGu09
import Derived.Lib.AtoiErrMem
namespace Go.Proofs.YtadneimllbfdnaaGreatDoor
open Go.RowKit
set_option linter.unusedVariables false
set_option linter.unusedSimpArgs false
theorem opds_3t (o d s f i c g:Int) (u1 u2 u3 u4:Bool) (w:World) (CI:Hid (∀ wx:World,Out w wx->Calls Tryz.prog 79 #[.int .i64 o] wx fun e w'=>e=.returned (.tuple #[.agg #[.int .i64 c,.int .i64 g,.bool u1,.bool u2,.bool u3,.bool u4],.int .i64 0])/\Out wx w')) (hc:c=3) (hf:8<=f):Calls Tryz.prog 58 #[.agg #[.int .i64 o,.int .i64 d,.int .i64 s,.int .i64 f,.int .i64 i]] w fun e w'=>e=.returned (opdV (opdsP c s f u2))/\Out w w':=by
 subst hc
 have hd:decide (8<=f)=true:=by simpa using hf
 have HBX:Hid (((w.alloc (.cells #[.int .i64 o,.int .i64 d,.int .i64 s,.int .i64 f,.int .i64 i] 40)).alloc (.cells #[.int .u8 0,.int .u8 0,.int .u8 0] 106)).cell? ⟨w.heap.size,2,none⟩=some (.int .i64 s)/\((w.alloc (.cells #[.int .i64 o,.int .i64 d,.int .i64 s,.int .i64 f,.int .i64 i] 40)).alloc (.cells #[.int .u8 0,.int .u8 0,.int .u8 0] 106)).cell? ⟨w.heap.size,3,none⟩=some (.int .i64 f)/\(∀ j:Fin 3,((w.alloc (.cells #[.int .i64 o,.int .i64 d,.int .i64 s,.int .i64 f,.int .i64 i] 40)).alloc (.cells #[.int .u8 0,.int .u8 0,.int .u8 0] 106)).cell? ⟨w.heap.size+1,j.val,none⟩=some (.int .u8 0))/\((w.alloc (.cells #[.int .i64 o,.int .i64 d,.int .i64 s,.int .i64 f,.int .i64 i] 40)).alloc (.cells #[.int .u8 0,.int .u8 0,.int .u8 0] 106)).heap[w.heap.size+1]? = some (.cells #[.int .u8 0,.int .u8 0,.int .u8 0] 106 (0,0))):=by
  generalize hB:w.alloc (.cells #[.int .i64 o,.int .i64 d,.int .i64 s,.int .i64 f,.int .i64 i] 40)=wB
  have hz:wB.heap.size=w.heap.size+1:=by rw [<-hB,size_alloc]
  have hx:wB.heap[w.heap.size]? = some (.cells #[.int .i64 o,.int .i64 d,.int .i64 s,.int .i64 f,.int .i64 i] 40 (0,0)):=by rw [<-hB];exact heap_alloc_new w _
  have hn:(wB.alloc (.cells #[.int .u8 0,.int .u8 0,.int .u8 0] 106)).heap[w.heap.size+1]? = some (.cells #[.int .u8 0,.int .u8 0,.int .u8 0] 106 (0,0)):=by rw [<-hz];exact heap_alloc_new wB _
  have ho:(wB.alloc (.cells #[.int .u8 0,.int .u8 0,.int .u8 0] 106)).heap[w.heap.size]? = some (.cells #[.int .i64 o,.int .i64 d,.int .i64 s,.int .i64 f,.int .i64 i] 40 (0,0)):=(Below.heap_alloc wB _ _ (by omega)).trans hx
  refine ⟨by simp [World.cell?,ho],by simp [World.cell?,ho],fun j=>?_,hn⟩
  match j with
  | 0=>simp [World.cell?,hn]
  | 1=>simp [World.cell?,hn]
  | 2=>simp [World.cell?,hn]
 go_enter Tryz.func58,Tryz.ntmps58
 go_upto_region 2 with (go_at_call 79;go_loud (refine (CI.out _ (((Out.refl w).alloc _).alloc _)).mono ?_);rintro e w1 ⟨rfl,ho1⟩;have Hb:=hidOf ho1;clear ho1)
 have Ho1:=hidOf (Out.trans (((Out.refl w).alloc _).alloc _) Hb.out)
 have b3:=cell_later Hb.out HBX.out.2.1
 have b2:=cell_later Hb.out HBX.out.1
 have r0:=cell_later Hb.out (HBX.out.2.2.1 0)
 have r1:=cell_later Hb.out (HBX.out.2.2.1 1)
 have r2:=cell_later Hb.out (HBX.out.2.2.1 2)
 simp only [Fin.isValue,Fin.val_zero,Fin.val_one,Fin.val_two] at r0 r1 r2
 have HR:Hid (w1.heap[w.heap.size+1]? = some (.cells #[.int .u8 0,.int .u8 0,.int .u8 0] 106 (0,0))):=(Below.block Hb.out _ (by rw [size_alloc,size_alloc];omega)).trans HBX.out.2.2.2
 have k0:=cell_later Hb.out (cell_later ((Out.refl (w.alloc (.cells #[.int .i64 o,.int .i64 d,.int .i64 s,.int .i64 f,.int .i64 i] 40))).alloc (.cells #[.int .u8 0,.int .u8 0,.int .u8 0] 106)) (show (w.alloc (.cells #[.int .i64 o,.int .i64 d,.int .i64 s,.int .i64 f,.int .i64 i] 40)).cell? ⟨w.heap.size,0,none⟩=some (.int .i64 o) from by rw [new_cell];rfl))
 have k1:=cell_later Hb.out (cell_later ((Out.refl (w.alloc (.cells #[.int .i64 o,.int .i64 d,.int .i64 s,.int .i64 f,.int .i64 i] 40))).alloc (.cells #[.int .u8 0,.int .u8 0,.int .u8 0] 106)) (show (w.alloc (.cells #[.int .i64 o,.int .i64 d,.int .i64 s,.int .i64 f,.int .i64 i] 40)).cell? ⟨w.heap.size,1,none⟩=some (.int .i64 d) from by rw [new_cell];rfl))
 have k4:=cell_later Hb.out (cell_later ((Out.refl (w.alloc (.cells #[.int .i64 o,.int .i64 d,.int .i64 s,.int .i64 f,.int .i64 i] 40))).alloc (.cells #[.int .u8 0,.int .u8 0,.int .u8 0] 106)) (show (w.alloc (.cells #[.int .i64 o,.int .i64 d,.int .i64 s,.int .i64 f,.int .i64 i] 40)).cell? ⟨w.heap.size,4,none⟩=some (.int .i64 i) from by rw [new_cell];rfl))
 have m0:∀ O:Obj,(w1.alloc O).cell? ⟨w.heap.size,0,none⟩=some (.int .i64 o):=fun O=>cell_later ((Out.refl w1).alloc O) k0
 have m1:∀ O:Obj,(w1.alloc O).cell? ⟨w.heap.size,1,none⟩=some (.int .i64 d):=fun O=>cell_later ((Out.refl w1).alloc O) k1
 have m4:∀ O:Obj,(w1.alloc O).cell? ⟨w.heap.size,4,none⟩=some (.int .i64 i):=fun O=>cell_later ((Out.refl w1).alloc O) k4
 have a0:∀ O:Obj,(w1.alloc O).cell? ⟨w.heap.size+1,0,none⟩=some (.int .u8 0):=fun O=>cell_later ((Out.refl w1).alloc O) r0
 have a1:∀ O:Obj,(w1.alloc O).cell? ⟨w.heap.size+1,1,none⟩=some (.int .u8 0):=fun O=>cell_later ((Out.refl w1).alloc O) r1
 have a2:∀ O:Obj,(w1.alloc O).cell? ⟨w.heap.size+1,2,none⟩=some (.int .u8 0):=fun O=>cell_later ((Out.refl w1).alloc O) r2
 have a3:∀ O:Obj,(w1.alloc O).cell? ⟨w.heap.size,3,none⟩=some (.int .i64 f):=fun O=>cell_later ((Out.refl w1).alloc O) b3
 have a4:∀ O:Obj,(w1.alloc O).cell? ⟨w.heap.size,2,none⟩=some (.int .i64 s):=fun O=>cell_later ((Out.refl w1).alloc O) b2
 have HRa:Hid (∀ O:Obj,(w1.alloc O).heap[w.heap.size+1]? = some (.cells #[.int .u8 0,.int .u8 0,.int .u8 0] 106 (0,0))):=fun O=>(Below.heap_alloc w1 O _ (Array.getElem?_eq_some_iff.1 HR.out).1).trans HR.out
 have g0:∀ O:Obj,(w1.alloc O).frozen? ⟨w.heap.size+1,0,none⟩=false:=fun O=>by simp [World.frozen?,HRa.out O]
 have g1:∀ O:Obj,(w1.alloc O).frozen? ⟨w.heap.size+1,1,none⟩=false:=fun O=>by simp [World.frozen?,HRa.out O]
 have g2:∀ O:Obj,(w1.alloc O).frozen? ⟨w.heap.size+1,2,none⟩=false:=fun O=>by simp [World.frozen?,HRa.out O]
 go_upto_region 5 with (go_at_call 84;refine (carries_any _ _ _ _ _ _).mono ?_;rw [hd];rintro e w2 ⟨rfl,ho2⟩;have Hb2:=hidOf ho2;clear ho2)
 have HR2:Hid (w2.heap[w.heap.size+1]? = some (.cells #[.int .u8 0,.int .u8 0,.int .u8 0] 106 (0,0))):=(Below.block Hb2.out _ (Array.getElem?_eq_some_iff.1 (HRa.out _)).1).trans (HRa.out _)
 have Ho2:=hidOf (Out.trans (Ho1.out.alloc _) Hb2.out)
 have n0:=cell_later Hb2.out (a0 _)
 have n1:=cell_later Hb2.out (a1 _)
 have n2:=cell_later Hb2.out (a2 _)
 have p0:w2.frozen? ⟨w.heap.size+1,0,none⟩=false:=by simp [World.frozen?,HR2.out]
 have p1:w2.frozen? ⟨w.heap.size+1,1,none⟩=false:=by simp [World.frozen?,HR2.out]
 have p2:w2.frozen? ⟨w.heap.size+1,2,none⟩=false:=by simp [World.frozen?,HR2.out]
 go_wp2
 refine bodyPost_ret (results_cell_row rfl _ _ (w.heap.size+1) 106 _ (0,0) _ rfl (set3_heap HR2.out) Tryz.underlying106 rfl size64) rfl ?_
 exact ⟨by simp [opdV,opdsP,hf],((Ho2.out.setCell (a:=⟨w.heap.size+1,0,none⟩) (by simp) _).setCell (a:=⟨w.heap.size+1,1,none⟩) (by simp) _).setCell (a:=⟨w.heap.size+1,2,none⟩) (by simp) _⟩
theorem opds_3f (o d s f i c g:Int) (u1 u2 u3 u4:Bool) (w:World) (CI:Hid (∀ wx:World,Out w wx->Calls Tryz.prog 79 #[.int .i64 o] wx fun e w'=>e=.returned (.tuple #[.agg #[.int .i64 c,.int .i64 g,.bool u1,.bool u2,.bool u3,.bool u4],.int .i64 0])/\Out wx w')) (hc:c=3) (hf:¬8<=f):Calls Tryz.prog 58 #[.agg #[.int .i64 o,.int .i64 d,.int .i64 s,.int .i64 f,.int .i64 i]] w fun e w'=>e=.returned (opdV (opdsP c s f u2))/\Out w w':=by
 subst hc
 have hd:decide (8<=f)=false:=by simpa using hf
 have HBX:Hid (((w.alloc (.cells #[.int .i64 o,.int .i64 d,.int .i64 s,.int .i64 f,.int .i64 i] 40)).alloc (.cells #[.int .u8 0,.int .u8 0,.int .u8 0] 106)).cell? ⟨w.heap.size,2,none⟩=some (.int .i64 s)/\((w.alloc (.cells #[.int .i64 o,.int .i64 d,.int .i64 s,.int .i64 f,.int .i64 i] 40)).alloc (.cells #[.int .u8 0,.int .u8 0,.int .u8 0] 106)).cell? ⟨w.heap.size,3,none⟩=some (.int .i64 f)/\(∀ j:Fin 3,((w.alloc (.cells #[.int .i64 o,.int .i64 d,.int .i64 s,.int .i64 f,.int .i64 i] 40)).alloc (.cells #[.int .u8 0,.int .u8 0,.int .u8 0] 106)).cell? ⟨w.heap.size+1,j.val,none⟩=some (.int .u8 0))/\((w.alloc (.cells #[.int .i64 o,.int .i64 d,.int .i64 s,.int .i64 f,.int .i64 i] 40)).alloc (.cells #[.int .u8 0,.int .u8 0,.int .u8 0] 106)).heap[w.heap.size+1]? = some (.cells #[.int .u8 0,.int .u8 0,.int .u8 0] 106 (0,0))):=by
  generalize hB:w.alloc (.cells #[.int .i64 o,.int .i64 d,.int .i64 s,.int .i64 f,.int .i64 i] 40)=wB
  have hz:wB.heap.size=w.heap.size+1:=by rw [<-hB,size_alloc]
  have hx:wB.heap[w.heap.size]? = some (.cells #[.int .i64 o,.int .i64 d,.int .i64 s,.int .i64 f,.int .i64 i] 40 (0,0)):=by rw [<-hB];exact heap_alloc_new w _
  have hn:(wB.alloc (.cells #[.int .u8 0,.int .u8 0,.int .u8 0] 106)).heap[w.heap.size+1]? = some (.cells #[.int .u8 0,.int .u8 0,.int .u8 0] 106 (0,0)):=by rw [<-hz];exact heap_alloc_new wB _
  have ho:(wB.alloc (.cells #[.int .u8 0,.int .u8 0,.int .u8 0] 106)).heap[w.heap.size]? = some (.cells #[.int .i64 o,.int .i64 d,.int .i64 s,.int .i64 f,.int .i64 i] 40 (0,0)):=(Below.heap_alloc wB _ _ (by omega)).trans hx
  refine ⟨by simp [World.cell?,ho],by simp [World.cell?,ho],fun j=>?_,hn⟩
  match j with
  | 0=>simp [World.cell?,hn]
  | 1=>simp [World.cell?,hn]
  | 2=>simp [World.cell?,hn]
 go_enter Tryz.func58,Tryz.ntmps58
 go_upto_region 2 with (go_at_call 79;go_loud (refine (CI.out _ (((Out.refl w).alloc _).alloc _)).mono ?_);rintro e w1 ⟨rfl,ho1⟩;have Hb:=hidOf ho1;clear ho1)
 have Ho1:=hidOf (Out.trans (((Out.refl w).alloc _).alloc _) Hb.out)
 have b3:=cell_later Hb.out HBX.out.2.1
 have b2:=cell_later Hb.out HBX.out.1
 have r0:=cell_later Hb.out (HBX.out.2.2.1 0)
 have r1:=cell_later Hb.out (HBX.out.2.2.1 1)
 have r2:=cell_later Hb.out (HBX.out.2.2.1 2)
 simp only [Fin.isValue,Fin.val_zero,Fin.val_one,Fin.val_two] at r0 r1 r2
 have HR:Hid (w1.heap[w.heap.size+1]? = some (.cells #[.int .u8 0,.int .u8 0,.int .u8 0] 106 (0,0))):=(Below.block Hb.out _ (by rw [size_alloc,size_alloc];omega)).trans HBX.out.2.2.2
 have k0:=cell_later Hb.out (cell_later ((Out.refl (w.alloc (.cells #[.int .i64 o,.int .i64 d,.int .i64 s,.int .i64 f,.int .i64 i] 40))).alloc (.cells #[.int .u8 0,.int .u8 0,.int .u8 0] 106)) (show (w.alloc (.cells #[.int .i64 o,.int .i64 d,.int .i64 s,.int .i64 f,.int .i64 i] 40)).cell? ⟨w.heap.size,0,none⟩=some (.int .i64 o) from by rw [new_cell];rfl))
 have k1:=cell_later Hb.out (cell_later ((Out.refl (w.alloc (.cells #[.int .i64 o,.int .i64 d,.int .i64 s,.int .i64 f,.int .i64 i] 40))).alloc (.cells #[.int .u8 0,.int .u8 0,.int .u8 0] 106)) (show (w.alloc (.cells #[.int .i64 o,.int .i64 d,.int .i64 s,.int .i64 f,.int .i64 i] 40)).cell? ⟨w.heap.size,1,none⟩=some (.int .i64 d) from by rw [new_cell];rfl))
 have k4:=cell_later Hb.out (cell_later ((Out.refl (w.alloc (.cells #[.int .i64 o,.int .i64 d,.int .i64 s,.int .i64 f,.int .i64 i] 40))).alloc (.cells #[.int .u8 0,.int .u8 0,.int .u8 0] 106)) (show (w.alloc (.cells #[.int .i64 o,.int .i64 d,.int .i64 s,.int .i64 f,.int .i64 i] 40)).cell? ⟨w.heap.size,4,none⟩=some (.int .i64 i) from by rw [new_cell];rfl))
 have m0:∀ O:Obj,(w1.alloc O).cell? ⟨w.heap.size,0,none⟩=some (.int .i64 o):=fun O=>cell_later ((Out.refl w1).alloc O) k0
 have m1:∀ O:Obj,(w1.alloc O).cell? ⟨w.heap.size,1,none⟩=some (.int .i64 d):=fun O=>cell_later ((Out.refl w1).alloc O) k1
 have m4:∀ O:Obj,(w1.alloc O).cell? ⟨w.heap.size,4,none⟩=some (.int .i64 i):=fun O=>cell_later ((Out.refl w1).alloc O) k4
 have a0:∀ O:Obj,(w1.alloc O).cell? ⟨w.heap.size+1,0,none⟩=some (.int .u8 0):=fun O=>cell_later ((Out.refl w1).alloc O) r0
 have a1:∀ O:Obj,(w1.alloc O).cell? ⟨w.heap.size+1,1,none⟩=some (.int .u8 0):=fun O=>cell_later ((Out.refl w1).alloc O) r1
 have a2:∀ O:Obj,(w1.alloc O).cell? ⟨w.heap.size+1,2,none⟩=some (.int .u8 0):=fun O=>cell_later ((Out.refl w1).alloc O) r2
 have a3:∀ O:Obj,(w1.alloc O).cell? ⟨w.heap.size,3,none⟩=some (.int .i64 f):=fun O=>cell_later ((Out.refl w1).alloc O) b3
 have a4:∀ O:Obj,(w1.alloc O).cell? ⟨w.heap.size,2,none⟩=some (.int .i64 s):=fun O=>cell_later ((Out.refl w1).alloc O) b2
 have HRa:Hid (∀ O:Obj,(w1.alloc O).heap[w.heap.size+1]? = some (.cells #[.int .u8 0,.int .u8 0,.int .u8 0] 106 (0,0))):=fun O=>(Below.heap_alloc w1 O _ (Array.getElem?_eq_some_iff.1 HR.out).1).trans HR.out
 have g0:∀ O:Obj,(w1.alloc O).frozen? ⟨w.heap.size+1,0,none⟩=false:=fun O=>by simp [World.frozen?,HRa.out O]
 have g1:∀ O:Obj,(w1.alloc O).frozen? ⟨w.heap.size+1,1,none⟩=false:=fun O=>by simp [World.frozen?,HRa.out O]
 have g2:∀ O:Obj,(w1.alloc O).frozen? ⟨w.heap.size+1,2,none⟩=false:=fun O=>by simp [World.frozen?,HRa.out O]
 go_upto_region 6 with (go_at_call 84;refine (carries_any _ _ _ _ _ _).mono ?_;rw [hd];rintro e w2 ⟨rfl,ho2⟩;have Hb2:=hidOf ho2;clear ho2)
 have HR2:Hid (w2.heap[w.heap.size+1]? = some (.cells #[.int .u8 0,.int .u8 0,.int .u8 0] 106 (0,0))):=(Below.block Hb2.out _ (Array.getElem?_eq_some_iff.1 (HRa.out _)).1).trans (HRa.out _)
 have Ho2:=hidOf (Out.trans (Ho1.out.alloc _) Hb2.out)
 have n0:=cell_later Hb2.out (a0 _)
 have n1:=cell_later Hb2.out (a1 _)
 have n2:=cell_later Hb2.out (a2 _)
 have p0:w2.frozen? ⟨w.heap.size+1,0,none⟩=false:=by simp [World.frozen?,HR2.out]
 have p1:w2.frozen? ⟨w.heap.size+1,1,none⟩=false:=by simp [World.frozen?,HR2.out]
 have p2:w2.frozen? ⟨w.heap.size+1,2,none⟩=false:=by simp [World.frozen?,HR2.out]
 go_wp2
 refine bodyPost_ret (results_cell_row rfl _ _ (w.heap.size+1) 106 _ (0,0) _ rfl (set3_heap HR2.out) Tryz.underlying106 rfl size64) rfl ?_
 exact ⟨by rw [show opdsP 3 s f u2=(1,4,0) from by unfold opdsP;rw [if_pos rfl,if_neg (by omega)]];rfl,((Ho2.out.setCell (a:=⟨w.heap.size+1,0,none⟩) (by simp) _).setCell (a:=⟨w.heap.size+1,1,none⟩) (by simp) _).setCell (a:=⟨w.heap.size+1,2,none⟩) (by simp) _⟩
theorem opds_all (o d s f i c g:Int) (u1 u2 u3 u4:Bool) (w:World) (CI:Hid (∀ wx:World,Out w wx->Calls Tryz.prog 79 #[.int .i64 o] wx fun e w'=>e=.returned (.tuple #[.agg #[.int .i64 c,.int .i64 g,.bool u1,.bool u2,.bool u3,.bool u4],.int .i64 0])/\Out wx w')):Calls Tryz.prog 58 #[.agg #[.int .i64 o,.int .i64 d,.int .i64 s,.int .i64 f,.int .i64 i]] w fun e w'=>e=.returned (opdV (opdsP c s f u2))/\Out w w':=by
 by_cases h2:c=2
 · exact opds_S o d s f i c g u1 u2 u3 u4 w CI (.inl h2)
 by_cases h3:c=3
 ·
  by_cases hf:8<=f
  · exact opds_3t o d s f i c g u1 u2 u3 u4 w CI h3 hf
  · exact opds_3f o d s f i c g u1 u2 u3 u4 w CI h3 hf
 by_cases h4:c=4
 · exact opds_S o d s f i c g u1 u2 u3 u4 w CI (.inr (.inl h4))
 by_cases h5:c=5
 · exact opds_U o d s f i c g u1 u2 u3 u4 w CI (.inl h5)
 by_cases h6:c=6
 · exact opds_U o d s f i c g u1 u2 u3 u4 w CI (.inr h6)
 by_cases h7:c=7
 · exact opds_S o d s f i c g u1 u2 u3 u4 w CI (.inr (.inr (.inl h7)))
 by_cases h8:c=8
 · exact opds_S o d s f i c g u1 u2 u3 u4 w CI (.inr (.inr (.inr (.inl h8))))
 by_cases h9:c=9
 · exact opds_S o d s f i c g u1 u2 u3 u4 w CI (.inr (.inr (.inr (.inr h9))))
 by_cases h10:c=10
 ·
  by_cases hs:s=1
  · exact opds_10t o d s f i c g u1 u2 u3 u4 w CI h10 hs
  · exact opds_10f o d s f i c g u1 u2 u3 u4 w CI h10 hs
 exact opds_no o d s f i c g u1 u2 u3 u4 w CI h2 h3 h4 h5 h6 h7 h8 h9 h10
theorem pub16 (t:ByteArray) (hne:t.size ≠ 0) (h16:t.size<=16) (hall:∀ b ∈ t.data.toList,hexP (bI b)=true) (w:World) :
  Calls Tryz.prog 167 #[.string t,.int .i64 16,.int .i64 64] w fun e w'=>e=.returned (.tuple #[.int .u64 (hexV 0 t.data.toList),.nilIface])/\w'=Lib.bytesWorld w 5 t:=by
 have CP:=hidOf (parse16 t hne h16 hall w)
 clear hall
 go_enter Tryz.func167,Tryz.ntmps167
 go_wp2_with (go_at_call 184;refine CP.out.mono ?_;rintro e w1 ⟨rfl,rfl⟩)
 go_ret2
 exact ⟨rfl,rfl⟩
def hexU (b:UInt8):Bool:=hexP (bI b)
def dig16 (l:List UInt8):Int × Bool × Bool:=if l=[] then (0,false,false) else if l.all hexU then (hexV 0 l,false,true) else (0,false,false)
theorem hexDigit_of {c:Int} {b:Bool} (h:hexP c=b) (w:World):Calls Tryz.prog 208 #[.int .u8 c] w fun e w'=>e=.returned (.bool b)/\w=w':=h ▸ hexDigit_any c w
theorem all_not {α:Type} (p:α->Bool) (l:List α) (k:Nat) (b:α) (hb:l[k]? = some b) (hp:p b=false):l.all p=false:=by
 rw [List.all_eq_false]
 exact ⟨b,List.mem_of_getElem? hb,by simp [hp]⟩
theorem digits16 (s:ByteArray) (h16:s.size<=16) (w:World):Calls Tryz.prog 207 #[.string s,.int .i64 16,.func (Fn.func 208) #[] #[]] w fun e w'=>e=.returned (.tuple #[.int .u64 (dig16 s.toList).1,.bool (dig16 s.toList).2.1,.bool (dig16 s.toList).2.2])/\Below w.heap.size w w':=by
 by_cases h0:s.size=0
 ·
  have hl:s.toList=[]:=List.length_eq_zero_iff.1 (by rw [lsize,h0])
  have hN:dig16 s.toList=(0,false,false):=by rw [hl];rfl
  rw [hN]
  go_enter Tryz.func207,Tryz.ntmps207
  go_wp2
  go_ret3
  exact ⟨rfl,Below.refl _ _⟩
 ·
  obtain ⟨hie,hne⟩:=isEmpty_of h0
  have h0':(0:Int)<s.size:=by omega
  have HN:Hid (dig16 s.toList=if s.toList.all hexU then (hexV 0 s.toList,false,true) else (0,false,false)):=by show _=_;simp [dig16,hne]
  go_enter Tryz.func207,Tryz.ntmps207
  go_wp2
  have HY:Hid (s.toList.all hexU=true->dig16 s.toList=(hexV 0 s.data.toList,false,true)):=fun h=>by rw [HN.out,if_pos h,ByteArray.toList_eq]
  have HX:Hid (s.toList.all hexU=false->dig16 s.toList=(0,false,false)):=fun h=>by rw [HN.out,h];rfl
  clear HN
  go_loopw [15] (fun iv wr=>∃ k:Nat,k<=s.size/\iv=.int .i64 k/\Hid ((s.toList.take k).all hexU=true)/\wr=w) (fun iv _=>s.size - (intOf iv).toNat)
  case atStart=>exact ⟨0,by omega,rfl,hidOf (by simp),rfl⟩
  case round=>
   obtain ⟨k,hk2,rfl,Ha,rfl⟩:=hrel
   by_cases hk:k<s.size
   ·
    have hlt:(k:Int)<s.size:=by omega
    have h0k:(0:Int)<=k:=by omega
    have Hg:=hidOf (lget s k hk)
    cases hr:hexP (bI s[k])
    ·
     have Hf:=hidOf (HX.out (all_not hexU _ k _ Hg.out hr))
     go_wp2_with (go_at_call 208;refine (hexDigit_of hr _).mono ?_;rintro e w3 ⟨rfl,rfl⟩)
     go_ret3
     rw [Hf.out]
     exact ⟨rfl,Below.refl _ _⟩
    ·
     have Ha':=hidOf (all_step hexU _ k _ Ha.out Hg.out hr)
     go_wp2_with (go_at_call 208;refine (hexDigit_of hr _).mono ?_;rintro e w3 ⟨rfl,rfl⟩)
     go_roundw
     case rel=>exact ⟨k+1,by omega,by simp,Ha',trivial⟩
     case measure=>simp [intOf];omega
   ·
    have hlt:¬(k:Int)<s.size:=by omega
    have hall:s.toList.all hexU=true:=by have:=Ha.out;rwa [List.take_of_length_le (by rw [lsize];omega)] at this
    have Hf:=hidOf (HY.out hall)
    have CP:=hidOf (pub16 s h0 h16 (fun b hb=>by rw [<-ByteArray.toList_eq] at hb;exact List.all_eq_true.1 hall b hb) wr)
    clear hall
    go_wp2_with (go_at_call 167;refine CP.out.mono ?_;rintro e w3 ⟨rfl,rfl⟩)
    go_ret3
    rw [Hf.out]
    exact ⟨rfl,Lib.bytesWorld_below _ _ _⟩
def digU (b:UInt8):Bool:=digP (bI b)
def decV:Nat->List UInt8->Nat
 | a,[]=>a
 | a,b::l=>decV (a*10+(b.toNat - 48)) l
theorem decV_ge:∀ (l:List UInt8) (a:Nat),a<=decV a l
 | [],a=>Nat.le_refl a
 | b::l,a=>Nat.le_trans (by omega) (decV_ge l (a*10+(b.toNat - 48)))
theorem digU_iff (b:UInt8):digU b=true ↔ 48<=b.toNat/\b.toNat<=57:=by
 unfold digU digP bI
 simp only [Bool.and_eq_true,decide_eq_true_eq]
 omega
theorem pM_dec (M:Nat) (hM:M=18446744073709551615) (l:List UInt8):∀ (a:Nat),a<=M->l.all digU=true->Lib.parseUintM M a l=if decV a l<=M then .ok (decV a l) else .range:=by
 induction l with
 | nil=>
  intro a ha _
  have hd:decV a []=a:=rfl
  have hp:Lib.parseUintM M a []=.ok a:=rfl
  rw [hd,hp,if_pos ha]
 | cons b l ih=>
  intro a ha hl
  simp only [List.all_cons,Bool.and_eq_true] at hl
  have hb:=(digU_iff b).1 hl.1
  have hge:=decV_ge l (a*10+(b.toNat - 48))
  have hd:decV a (b::l)=decV (a*10+(b.toNat - 48)) l:=rfl
  rw [hd]
  simp only [Lib.parseUintM]
  rw [if_pos hb]
  by_cases h1:1844674407370955162<=a
  · rw [if_pos h1,if_neg (by omega)]
  ·
   rw [if_neg h1]
   by_cases h2:M<a*10+(b.toNat - 48)
   · rw [if_pos h2,if_neg (by omega)]
   ·
    rw [if_neg h2]
    exact ih _ (by omega) hl.2
theorem pB_dec (l:List UInt8) (hne:¬l=[]) (hl:l.all digU=true):Lib.parseUintB 64 l=if decV 0 l<=18446744073709551615 then .ok (decV 0 l) else .range:=by
 unfold Lib.parseUintB
 rw [if_neg hne]
 exact pM_dec _ (by decide) l 0 (by omega) hl
def dig10 (l:List UInt8):Int × Bool × Bool:=if l=[] then (0,false,false) else if l.all digU then (if decV 0 l<=18446744073709551615 then (((decV 0 l:Nat):Int),false,true) else (0,true,true)) else (0,false,false)
def ErrR (w:World):Prop:=∃ ev,w.cell? ⟨13,0,none⟩=some ev/\(ev=.nilIface\/∃ te pe,ev=.iface te pe)
theorem digits10 (s:ByteArray) (hs:s.size<=281474976710656) (w:World) (HE:Hid (ErrR w)):Calls Tryz.prog 207 #[.string s,.int .i64 10,.func (Fn.func 154) #[] #[]] w fun e w'=>e=.returned (.tuple #[.int .u64 (dig10 s.toList).1,.bool (dig10 s.toList).2.1,.bool (dig10 s.toList).2.2])/\Below w.heap.size w w':=by
 by_cases h0:s.size=0
 ·
  have hl:s.toList=[]:=List.length_eq_zero_iff.1 (by rw [lsize,h0])
  have hN:dig10 s.toList=(0,false,false):=by rw [hl];rfl
  rw [hN]
  go_enter Tryz.func207,Tryz.ntmps207
  go_wp2
  go_ret3
  exact ⟨rfl,Below.refl _ _⟩
 ·
  obtain ⟨hie,hne⟩:=isEmpty_of h0
  have h0':(0:Int)<s.size:=by omega
  have HN:Hid (dig10 s.toList=if s.toList.all digU then (if decV 0 s.toList<=18446744073709551615 then (((decV 0 s.toList:Nat):Int),false,true) else (0,true,true)) else (0,false,false)):=by show _=_;simp [dig10,hne]
  have Hne:=hidOf hne
  go_enter Tryz.func207,Tryz.ntmps207
  go_wp2
  go_loopw [15] (fun iv wr=>∃ k:Nat,k<=s.size/\iv=.int .i64 k/\Hid ((s.toList.take k).all digU=true)/\wr=w) (fun iv _=>s.size - (intOf iv).toNat)
  case atStart=>exact ⟨0,by omega,rfl,hidOf (by simp),rfl⟩
  case round=>
   obtain ⟨k,hk2,rfl,Ha,rfl⟩:=hrel
   by_cases hk:k<s.size
   ·
    have hlt:(k:Int)<s.size:=by omega
    have h0k:(0:Int)<=k:=by omega
    have Hg:=hidOf (lget s k hk)
    cases hr:digP (bI s[k])
    ·
     have Hf:Hid (dig10 s.toList=(0,false,false)):=by show _=_;rw [HN.out,all_not digU _ k _ Hg.out hr];rfl
     go_wp2_with (go_at_call 154;refine (digit_of hr _).mono ?_;rintro e w3 ⟨rfl,rfl⟩)
     go_ret3
     rw [Hf.out]
     exact ⟨rfl,Below.refl _ _⟩
    ·
     have Ha':=hidOf (all_step digU _ k _ Ha.out Hg.out hr)
     go_wp2_with (go_at_call 154;refine (digit_of hr _).mono ?_;rintro e w3 ⟨rfl,rfl⟩)
     go_roundw
     case rel=>exact ⟨k+1,by omega,by simp,Ha',trivial⟩
     case measure=>simp [intOf];omega
   ·
    have hlt:¬(k:Int)<s.size:=by omega
    have hall:s.toList.all digU=true:=by have:=Ha.out;rwa [List.take_of_length_le (by rw [lsize];omega)] at this
    have hN:=HN.out
    rw [hall] at hN
    have hB:=pB_dec s.toList Hne.out hall
    rw [ByteArray.toList_eq] at hB
    by_cases hv:decV 0 s.toList<=18446744073709551615
    ·
     have Hf:Hid (dig10 s.toList=(((decV 0 s.toList:Nat):Int),false,true)):=by show _=_;rw [hN];simp [hv]
     rw [<-ByteArray.toList_eq,if_pos hv] at hB
     have CP:=hidOf (Tryz.strconv_ParseUint_10_at64_ok s (by omega) _ (by rw [<-ByteArray.toList_eq];exact hB) wr)
     clear hall hB hN hv
     go_wp2_with (go_at_call 167;refine CP.out.mono ?_;rintro e w3 ⟨rfl,hw3⟩;have HW:=hidOf hw3;clear hw3)
     go_ret3
     rw [Hf.out]
     refine ⟨rfl, ?_⟩
     rcases HW.out with rfl | rfl
     · exact Below.refl _ _
     · exact Lib.bytesWorld_below _ _ _
    ·
     have Hf:Hid (dig10 s.toList=(0,true,true)):=by show _=_;rw [hN];simp [hv]
     rw [<-ByteArray.toList_eq,if_neg hv] at hB
     obtain ⟨ev,hev,hev'⟩:=HE.out
     have CP:=hidOf (Tryz.strconv_ParseUint_10_at64_range s hs (by rw [<-ByteArray.toList_eq];exact hB) ev wr hev hev')
     clear hall hB hN hv hev hev'
     go_wp2_with (go_at_call 167;refine CP.out.mono ?_;rintro e w3 ⟨N,rfl,hN1,hN2,hw3⟩;have HW:=hidOf hw3;clear hw3 hN1 hN2)
     go_ret3
     rw [Hf.out]
     exact ⟨rfl,HW.out⟩
def valP (l:List UInt8):Int × Bool × Bool:=
 if l=[48] then (0,false,true)
 else if Lib.hasPrefix l [48,120] then (if 16<(Lib.trimPrefix l [48,120]).length then (0,false,false) else dig16 (Lib.trimPrefix l [48,120]))
 else if Lib.hasPrefix l [48] then (0,false,false) else dig10 l
theorem valueOf_any (s:ByteArray) (hs:s.size<=281474976710656) (w:World) (HE:Hid (ErrR w)):Calls Tryz.prog 199 #[.string s] w fun e w'=>e=.returned (.tuple #[.int .u64 (valP s.toList).1,.bool (valP s.toList).2.1,.bool (valP s.toList).2.2])/\Below w.heap.size w w':=by
 obtain ⟨d,hd⟩:∃ d:ByteArray,d=⟨(Lib.trimPrefix s.data.toList [48,120]).toArray⟩:=⟨_,rfl⟩
 have hdl:d.toList=Lib.trimPrefix s.toList [48,120]:=by rw [hd,mk_list,ByteArray.toList_eq]
 have CC:∀ b,Lib.hasPrefix s.toList [48,120]=b->Hid (Calls Tryz.prog 121 #[.string s,.string ⟨#[48,120]⟩] w fun e w'=>e=.returned (.tuple #[.string d,.bool b])/\w'=w):=fun b hb=>by
  have h:=Tryz.strings_CutPrefix s ⟨#[48,120]⟩ w
  rw [ByteArray.toList_eq] at hb
  subst hb
  rw [hd]
  exact h
 have CH:∀ b,Lib.hasPrefix s.toList [48]=b->Hid (Calls Tryz.prog 209 #[.string s,.string ⟨#[48]⟩] w fun e w'=>e=.returned (.bool b)/\w'=w):=fun b hb=>by
  have h:=Tryz.strings_HasPrefix s ⟨#[48]⟩ w
  rw [ByteArray.toList_eq] at hb
  subst hb
  exact h
 have CD:=hidOf (digits10 s hs w HE)
 have HV:Hid (valP s.toList=if s.toList=[48] then (0,false,true) else if Lib.hasPrefix s.toList [48,120] then (if 16<d.size then (0,false,false) else dig16 d.toList) else if Lib.hasPrefix s.toList [48] then (0,false,false) else dig10 s.toList):=by
  show _=_
  rw [<-lsize d,hdl]
  rfl
 clear hd hdl HE
 cases h1:(s.toList == [48])
 ·
  have h1':¬s.toList=[48]:=by simpa using h1
  cases h2:Lib.hasPrefix s.toList [48,120]
  ·
   have C1:=CC _ h2
   cases h3:Lib.hasPrefix s.toList [48]
   ·
    have C2:=CH _ h3
    have Hf:Hid (dig10 s.toList=valP s.toList):=by show _=_;rw [HV.out,if_neg h1',h2,h3];rfl
    rw [Hf.out] at CD
    clear CC CH HV h1' h2 h3
    go_enter Tryz.func199,Tryz.ntmps199
    go_wp2_with (first | (go_at_call 121;refine C1.out.mono ?_;rintro e w1 ⟨rfl,hw1⟩;have hw1:=hw1.symm;subst hw1) | (go_at_call 209;refine C2.out.mono ?_;rintro e w2 ⟨rfl,hw2⟩;have hw2:=hw2.symm;subst hw2) | (go_at_call 207;refine CD.out.mono ?_;rintro e w3 ⟨rfl,hw3⟩;have HW:=hidOf hw3;clear hw3))
    go_ret3
    exact ⟨rfl,HW.out⟩
   ·
    have C2:=CH _ h3
    have Hf:Hid (valP s.toList=(0,false,false)):=by show _=_;rw [HV.out,if_neg h1',h2,h3];rfl
    clear CC CH HV h1' h2 h3
    go_enter Tryz.func199,Tryz.ntmps199
    go_wp2_with (first | (go_at_call 121;refine C1.out.mono ?_;rintro e w1 ⟨rfl,hw1⟩;have hw1:=hw1.symm;subst hw1) | (go_at_call 209;refine C2.out.mono ?_;rintro e w2 ⟨rfl,hw2⟩;have hw2:=hw2.symm;subst hw2))
    go_ret3
    rw [Hf.out]
    exact ⟨rfl,Below.refl _ _⟩
  ·
   have C1:=CC _ h2
   by_cases h3:16<d.size
   ·
    have Hf:Hid (valP s.toList=(0,false,false)):=by show _=_;rw [HV.out,if_neg h1',h2,if_pos h3];rfl
    have h3':(16:Int)<d.size:=by omega
    clear CC CH HV h1' h2
    go_enter Tryz.func199,Tryz.ntmps199
    go_wp2_with (go_at_call 121;refine C1.out.mono ?_;rintro e w1 ⟨rfl,hw1⟩;have hw1:=hw1.symm;subst hw1)
    go_ret3
    rw [Hf.out]
    exact ⟨rfl,Below.refl _ _⟩
   ·
    have Hf:Hid (dig16 d.toList=valP s.toList):=by show _=_;rw [HV.out,if_neg h1',h2,if_neg h3];rfl
    have h3':¬(16:Int)<d.size:=by omega
    have C6:=hidOf (digits16 d (by omega) w)
    rw [Hf.out] at C6
    clear CC CH HV h1' h2 CD
    go_enter Tryz.func199,Tryz.ntmps199
    go_wp2_with (first | (go_at_call 121;refine C1.out.mono ?_;rintro e w1 ⟨rfl,hw1⟩;have hw1:=hw1.symm;subst hw1) | (go_at_call 207;refine C6.out.mono ?_;rintro e w3 ⟨rfl,hw3⟩;have HW:=hidOf hw3;clear hw3))
    go_ret3
    exact ⟨rfl,HW.out⟩
 ·
  have h1':s.toList=[48]:=by simpa using h1
  have Hf:Hid (valP s.toList=(0,false,true)):=by show _=_;rw [h1'];rfl
  clear CC CH HV h1' CD
  go_enter Tryz.func199,Tryz.ntmps199
  go_wp2
  go_ret3
  rw [Hf.out]
  exact ⟨rfl,Below.refl _ _⟩
end Go.Proofs.YtadneimllbfdnaaGreatDoor
