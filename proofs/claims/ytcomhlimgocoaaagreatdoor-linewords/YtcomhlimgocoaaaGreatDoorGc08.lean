import Derived.Test.YtcomhlimgocoaaaGreatDoorGc07
namespace Go.Proofs.YtcomhlimgocoaaaGreatDoor
open Go.RowKit
set_option linter.unusedVariables false
set_option linter.unusedSimpArgs false
theorem opds_3t (o d s f i c g : Int) (u1 u2 u3 u4 : Bool) (w : World) (CI : Hid (∀ wx : World, Out w wx → Calls Tryz.prog 50 #[.int .i64 o] wx fun e w' => e = .returned (.tuple #[.agg #[.int .i64 c, .int .i64 g, .bool u1, .bool u2, .bool u3, .bool u4], .int .i64 0]) ∧ Out wx w')) (hc : c = 3) (hf : 8 ≤ f) : Calls Tryz.prog 23 #[.agg #[.int .i64 o, .int .i64 d, .int .i64 s, .int .i64 f, .int .i64 i]] w fun e w' => e = .returned (opdV (opdsP c s f u2)) ∧ Out w w' := by
  subst hc
  have hd : decide (8 ≤ f) = true := by simpa using hf
  have HBX : Hid (((w.alloc (.cells #[.int .i64 o, .int .i64 d, .int .i64 s, .int .i64 f, .int .i64 i] 25)).alloc (.cells #[.int .u8 0, .int .u8 0, .int .u8 0] 62)).cell? ⟨w.heap.size, 2, none⟩ = some (.int .i64 s) ∧ ((w.alloc (.cells #[.int .i64 o, .int .i64 d, .int .i64 s, .int .i64 f, .int .i64 i] 25)).alloc (.cells #[.int .u8 0, .int .u8 0, .int .u8 0] 62)).cell? ⟨w.heap.size, 3, none⟩ = some (.int .i64 f) ∧ (∀ j : Fin 3, ((w.alloc (.cells #[.int .i64 o, .int .i64 d, .int .i64 s, .int .i64 f, .int .i64 i] 25)).alloc (.cells #[.int .u8 0, .int .u8 0, .int .u8 0] 62)).cell? ⟨w.heap.size + 1, j.val, none⟩ = some (.int .u8 0)) ∧ ((w.alloc (.cells #[.int .i64 o, .int .i64 d, .int .i64 s, .int .i64 f, .int .i64 i] 25)).alloc (.cells #[.int .u8 0, .int .u8 0, .int .u8 0] 62)).heap[w.heap.size + 1]? = some (.cells #[.int .u8 0, .int .u8 0, .int .u8 0] 62 (0, 0))) := by
    generalize hB : w.alloc (.cells #[.int .i64 o, .int .i64 d, .int .i64 s, .int .i64 f, .int .i64 i] 25) = wB
    have hz : wB.heap.size = w.heap.size + 1 := by rw [← hB, size_alloc]
    have hx : wB.heap[w.heap.size]? = some (.cells #[.int .i64 o, .int .i64 d, .int .i64 s, .int .i64 f, .int .i64 i] 25 (0, 0)) := by rw [← hB]; exact heap_alloc_new w _
    have hn : (wB.alloc (.cells #[.int .u8 0, .int .u8 0, .int .u8 0] 62)).heap[w.heap.size + 1]? = some (.cells #[.int .u8 0, .int .u8 0, .int .u8 0] 62 (0, 0)) := by rw [← hz]; exact heap_alloc_new wB _
    have ho : (wB.alloc (.cells #[.int .u8 0, .int .u8 0, .int .u8 0] 62)).heap[w.heap.size]? = some (.cells #[.int .i64 o, .int .i64 d, .int .i64 s, .int .i64 f, .int .i64 i] 25 (0, 0)) := (Below.heap_alloc wB _ _ (by omega)).trans hx
    refine ⟨by simp [World.cell?, ho], by simp [World.cell?, ho], fun j => ?_, hn⟩
    match j with
    | 0 => simp [World.cell?, hn]
    | 1 => simp [World.cell?, hn]
    | 2 => simp [World.cell?, hn]
  go_enter Tryz.func23, Tryz.ntmps23
  go_upto_region 2 with (go_at_call 50; go_loud (refine (CI.out _ (((Out.refl w).alloc _).alloc _)).mono ?_); rintro e w1 ⟨rfl, ho1⟩; have Hb := hidOf ho1; clear ho1)
  have Ho1 := hidOf (Out.trans (((Out.refl w).alloc _).alloc _) Hb.out)
  have b3 := cell_later Hb.out HBX.out.2.1
  have b2 := cell_later Hb.out HBX.out.1
  have r0 := cell_later Hb.out (HBX.out.2.2.1 0)
  have r1 := cell_later Hb.out (HBX.out.2.2.1 1)
  have r2 := cell_later Hb.out (HBX.out.2.2.1 2)
  simp only [Fin.isValue, Fin.val_zero, Fin.val_one, Fin.val_two] at r0 r1 r2
  have HR : Hid (w1.heap[w.heap.size + 1]? = some (.cells #[.int .u8 0, .int .u8 0, .int .u8 0] 62 (0, 0))) := (Below.block Hb.out _ (by rw [size_alloc, size_alloc]; omega)).trans HBX.out.2.2.2
  have k0 := cell_later Hb.out (cell_later ((Out.refl (w.alloc (.cells #[.int .i64 o, .int .i64 d, .int .i64 s, .int .i64 f, .int .i64 i] 25))).alloc (.cells #[.int .u8 0, .int .u8 0, .int .u8 0] 62)) (show (w.alloc (.cells #[.int .i64 o, .int .i64 d, .int .i64 s, .int .i64 f, .int .i64 i] 25)).cell? ⟨w.heap.size, 0, none⟩ = some (.int .i64 o) from by rw [new_cell]; rfl))
  have k1 := cell_later Hb.out (cell_later ((Out.refl (w.alloc (.cells #[.int .i64 o, .int .i64 d, .int .i64 s, .int .i64 f, .int .i64 i] 25))).alloc (.cells #[.int .u8 0, .int .u8 0, .int .u8 0] 62)) (show (w.alloc (.cells #[.int .i64 o, .int .i64 d, .int .i64 s, .int .i64 f, .int .i64 i] 25)).cell? ⟨w.heap.size, 1, none⟩ = some (.int .i64 d) from by rw [new_cell]; rfl))
  have k4 := cell_later Hb.out (cell_later ((Out.refl (w.alloc (.cells #[.int .i64 o, .int .i64 d, .int .i64 s, .int .i64 f, .int .i64 i] 25))).alloc (.cells #[.int .u8 0, .int .u8 0, .int .u8 0] 62)) (show (w.alloc (.cells #[.int .i64 o, .int .i64 d, .int .i64 s, .int .i64 f, .int .i64 i] 25)).cell? ⟨w.heap.size, 4, none⟩ = some (.int .i64 i) from by rw [new_cell]; rfl))
  have m0 : ∀ O : Obj, (w1.alloc O).cell? ⟨w.heap.size, 0, none⟩ = some (.int .i64 o) := fun O => cell_later ((Out.refl w1).alloc O) k0
  have m1 : ∀ O : Obj, (w1.alloc O).cell? ⟨w.heap.size, 1, none⟩ = some (.int .i64 d) := fun O => cell_later ((Out.refl w1).alloc O) k1
  have m4 : ∀ O : Obj, (w1.alloc O).cell? ⟨w.heap.size, 4, none⟩ = some (.int .i64 i) := fun O => cell_later ((Out.refl w1).alloc O) k4
  have a0 : ∀ O : Obj, (w1.alloc O).cell? ⟨w.heap.size + 1, 0, none⟩ = some (.int .u8 0) := fun O => cell_later ((Out.refl w1).alloc O) r0
  have a1 : ∀ O : Obj, (w1.alloc O).cell? ⟨w.heap.size + 1, 1, none⟩ = some (.int .u8 0) := fun O => cell_later ((Out.refl w1).alloc O) r1
  have a2 : ∀ O : Obj, (w1.alloc O).cell? ⟨w.heap.size + 1, 2, none⟩ = some (.int .u8 0) := fun O => cell_later ((Out.refl w1).alloc O) r2
  have a3 : ∀ O : Obj, (w1.alloc O).cell? ⟨w.heap.size, 3, none⟩ = some (.int .i64 f) := fun O => cell_later ((Out.refl w1).alloc O) b3
  have a4 : ∀ O : Obj, (w1.alloc O).cell? ⟨w.heap.size, 2, none⟩ = some (.int .i64 s) := fun O => cell_later ((Out.refl w1).alloc O) b2
  have HRa : Hid (∀ O : Obj, (w1.alloc O).heap[w.heap.size + 1]? = some (.cells #[.int .u8 0, .int .u8 0, .int .u8 0] 62 (0, 0))) := fun O => (Below.heap_alloc w1 O _ (Array.getElem?_eq_some_iff.1 HR.out).1).trans HR.out
  have g0 : ∀ O : Obj, (w1.alloc O).frozen? ⟨w.heap.size + 1, 0, none⟩ = false := fun O => by simp [World.frozen?, HRa.out O]
  have g1 : ∀ O : Obj, (w1.alloc O).frozen? ⟨w.heap.size + 1, 1, none⟩ = false := fun O => by simp [World.frozen?, HRa.out O]
  have g2 : ∀ O : Obj, (w1.alloc O).frozen? ⟨w.heap.size + 1, 2, none⟩ = false := fun O => by simp [World.frozen?, HRa.out O]
  go_upto_region 5 with (go_at_call 56; refine (carries_any _ _ _ _ _ _).mono ?_; rw [hd]; rintro e w2 ⟨rfl, ho2⟩; have Hb2 := hidOf ho2; clear ho2)
  have HR2 : Hid (w2.heap[w.heap.size + 1]? = some (.cells #[.int .u8 0, .int .u8 0, .int .u8 0] 62 (0, 0))) := (Below.block Hb2.out _ (Array.getElem?_eq_some_iff.1 (HRa.out _)).1).trans (HRa.out _)
  have Ho2 := hidOf (Out.trans (Ho1.out.alloc _) Hb2.out)
  have n0 := cell_later Hb2.out (a0 _)
  have n1 := cell_later Hb2.out (a1 _)
  have n2 := cell_later Hb2.out (a2 _)
  have p0 : w2.frozen? ⟨w.heap.size + 1, 0, none⟩ = false := by simp [World.frozen?, HR2.out]
  have p1 : w2.frozen? ⟨w.heap.size + 1, 1, none⟩ = false := by simp [World.frozen?, HR2.out]
  have p2 : w2.frozen? ⟨w.heap.size + 1, 2, none⟩ = false := by simp [World.frozen?, HR2.out]
  go_wp2
  refine bodyPost_ret (results_cell_row rfl _ _ (w.heap.size + 1) 62 _ (0, 0) _ rfl (set3_heap HR2.out) Tryz.underlying62 rfl size64) rfl ?_
  exact ⟨by simp [opdV, opdsP, hf], ((Ho2.out.setCell (a := ⟨w.heap.size + 1, 0, none⟩) (by simp) _).setCell (a := ⟨w.heap.size + 1, 1, none⟩) (by simp) _).setCell (a := ⟨w.heap.size + 1, 2, none⟩) (by simp) _⟩
theorem opds_3f (o d s f i c g : Int) (u1 u2 u3 u4 : Bool) (w : World) (CI : Hid (∀ wx : World, Out w wx → Calls Tryz.prog 50 #[.int .i64 o] wx fun e w' => e = .returned (.tuple #[.agg #[.int .i64 c, .int .i64 g, .bool u1, .bool u2, .bool u3, .bool u4], .int .i64 0]) ∧ Out wx w')) (hc : c = 3) (hf : ¬ 8 ≤ f) : Calls Tryz.prog 23 #[.agg #[.int .i64 o, .int .i64 d, .int .i64 s, .int .i64 f, .int .i64 i]] w fun e w' => e = .returned (opdV (opdsP c s f u2)) ∧ Out w w' := by
  subst hc
  have hd : decide (8 ≤ f) = false := by simpa using hf
  have HBX : Hid (((w.alloc (.cells #[.int .i64 o, .int .i64 d, .int .i64 s, .int .i64 f, .int .i64 i] 25)).alloc (.cells #[.int .u8 0, .int .u8 0, .int .u8 0] 62)).cell? ⟨w.heap.size, 2, none⟩ = some (.int .i64 s) ∧ ((w.alloc (.cells #[.int .i64 o, .int .i64 d, .int .i64 s, .int .i64 f, .int .i64 i] 25)).alloc (.cells #[.int .u8 0, .int .u8 0, .int .u8 0] 62)).cell? ⟨w.heap.size, 3, none⟩ = some (.int .i64 f) ∧ (∀ j : Fin 3, ((w.alloc (.cells #[.int .i64 o, .int .i64 d, .int .i64 s, .int .i64 f, .int .i64 i] 25)).alloc (.cells #[.int .u8 0, .int .u8 0, .int .u8 0] 62)).cell? ⟨w.heap.size + 1, j.val, none⟩ = some (.int .u8 0)) ∧ ((w.alloc (.cells #[.int .i64 o, .int .i64 d, .int .i64 s, .int .i64 f, .int .i64 i] 25)).alloc (.cells #[.int .u8 0, .int .u8 0, .int .u8 0] 62)).heap[w.heap.size + 1]? = some (.cells #[.int .u8 0, .int .u8 0, .int .u8 0] 62 (0, 0))) := by
    generalize hB : w.alloc (.cells #[.int .i64 o, .int .i64 d, .int .i64 s, .int .i64 f, .int .i64 i] 25) = wB
    have hz : wB.heap.size = w.heap.size + 1 := by rw [← hB, size_alloc]
    have hx : wB.heap[w.heap.size]? = some (.cells #[.int .i64 o, .int .i64 d, .int .i64 s, .int .i64 f, .int .i64 i] 25 (0, 0)) := by rw [← hB]; exact heap_alloc_new w _
    have hn : (wB.alloc (.cells #[.int .u8 0, .int .u8 0, .int .u8 0] 62)).heap[w.heap.size + 1]? = some (.cells #[.int .u8 0, .int .u8 0, .int .u8 0] 62 (0, 0)) := by rw [← hz]; exact heap_alloc_new wB _
    have ho : (wB.alloc (.cells #[.int .u8 0, .int .u8 0, .int .u8 0] 62)).heap[w.heap.size]? = some (.cells #[.int .i64 o, .int .i64 d, .int .i64 s, .int .i64 f, .int .i64 i] 25 (0, 0)) := (Below.heap_alloc wB _ _ (by omega)).trans hx
    refine ⟨by simp [World.cell?, ho], by simp [World.cell?, ho], fun j => ?_, hn⟩
    match j with
    | 0 => simp [World.cell?, hn]
    | 1 => simp [World.cell?, hn]
    | 2 => simp [World.cell?, hn]
  go_enter Tryz.func23, Tryz.ntmps23
  go_upto_region 2 with (go_at_call 50; go_loud (refine (CI.out _ (((Out.refl w).alloc _).alloc _)).mono ?_); rintro e w1 ⟨rfl, ho1⟩; have Hb := hidOf ho1; clear ho1)
  have Ho1 := hidOf (Out.trans (((Out.refl w).alloc _).alloc _) Hb.out)
  have b3 := cell_later Hb.out HBX.out.2.1
  have b2 := cell_later Hb.out HBX.out.1
  have r0 := cell_later Hb.out (HBX.out.2.2.1 0)
  have r1 := cell_later Hb.out (HBX.out.2.2.1 1)
  have r2 := cell_later Hb.out (HBX.out.2.2.1 2)
  simp only [Fin.isValue, Fin.val_zero, Fin.val_one, Fin.val_two] at r0 r1 r2
  have HR : Hid (w1.heap[w.heap.size + 1]? = some (.cells #[.int .u8 0, .int .u8 0, .int .u8 0] 62 (0, 0))) := (Below.block Hb.out _ (by rw [size_alloc, size_alloc]; omega)).trans HBX.out.2.2.2
  have k0 := cell_later Hb.out (cell_later ((Out.refl (w.alloc (.cells #[.int .i64 o, .int .i64 d, .int .i64 s, .int .i64 f, .int .i64 i] 25))).alloc (.cells #[.int .u8 0, .int .u8 0, .int .u8 0] 62)) (show (w.alloc (.cells #[.int .i64 o, .int .i64 d, .int .i64 s, .int .i64 f, .int .i64 i] 25)).cell? ⟨w.heap.size, 0, none⟩ = some (.int .i64 o) from by rw [new_cell]; rfl))
  have k1 := cell_later Hb.out (cell_later ((Out.refl (w.alloc (.cells #[.int .i64 o, .int .i64 d, .int .i64 s, .int .i64 f, .int .i64 i] 25))).alloc (.cells #[.int .u8 0, .int .u8 0, .int .u8 0] 62)) (show (w.alloc (.cells #[.int .i64 o, .int .i64 d, .int .i64 s, .int .i64 f, .int .i64 i] 25)).cell? ⟨w.heap.size, 1, none⟩ = some (.int .i64 d) from by rw [new_cell]; rfl))
  have k4 := cell_later Hb.out (cell_later ((Out.refl (w.alloc (.cells #[.int .i64 o, .int .i64 d, .int .i64 s, .int .i64 f, .int .i64 i] 25))).alloc (.cells #[.int .u8 0, .int .u8 0, .int .u8 0] 62)) (show (w.alloc (.cells #[.int .i64 o, .int .i64 d, .int .i64 s, .int .i64 f, .int .i64 i] 25)).cell? ⟨w.heap.size, 4, none⟩ = some (.int .i64 i) from by rw [new_cell]; rfl))
  have m0 : ∀ O : Obj, (w1.alloc O).cell? ⟨w.heap.size, 0, none⟩ = some (.int .i64 o) := fun O => cell_later ((Out.refl w1).alloc O) k0
  have m1 : ∀ O : Obj, (w1.alloc O).cell? ⟨w.heap.size, 1, none⟩ = some (.int .i64 d) := fun O => cell_later ((Out.refl w1).alloc O) k1
  have m4 : ∀ O : Obj, (w1.alloc O).cell? ⟨w.heap.size, 4, none⟩ = some (.int .i64 i) := fun O => cell_later ((Out.refl w1).alloc O) k4
  have a0 : ∀ O : Obj, (w1.alloc O).cell? ⟨w.heap.size + 1, 0, none⟩ = some (.int .u8 0) := fun O => cell_later ((Out.refl w1).alloc O) r0
  have a1 : ∀ O : Obj, (w1.alloc O).cell? ⟨w.heap.size + 1, 1, none⟩ = some (.int .u8 0) := fun O => cell_later ((Out.refl w1).alloc O) r1
  have a2 : ∀ O : Obj, (w1.alloc O).cell? ⟨w.heap.size + 1, 2, none⟩ = some (.int .u8 0) := fun O => cell_later ((Out.refl w1).alloc O) r2
  have a3 : ∀ O : Obj, (w1.alloc O).cell? ⟨w.heap.size, 3, none⟩ = some (.int .i64 f) := fun O => cell_later ((Out.refl w1).alloc O) b3
  have a4 : ∀ O : Obj, (w1.alloc O).cell? ⟨w.heap.size, 2, none⟩ = some (.int .i64 s) := fun O => cell_later ((Out.refl w1).alloc O) b2
  have HRa : Hid (∀ O : Obj, (w1.alloc O).heap[w.heap.size + 1]? = some (.cells #[.int .u8 0, .int .u8 0, .int .u8 0] 62 (0, 0))) := fun O => (Below.heap_alloc w1 O _ (Array.getElem?_eq_some_iff.1 HR.out).1).trans HR.out
  have g0 : ∀ O : Obj, (w1.alloc O).frozen? ⟨w.heap.size + 1, 0, none⟩ = false := fun O => by simp [World.frozen?, HRa.out O]
  have g1 : ∀ O : Obj, (w1.alloc O).frozen? ⟨w.heap.size + 1, 1, none⟩ = false := fun O => by simp [World.frozen?, HRa.out O]
  have g2 : ∀ O : Obj, (w1.alloc O).frozen? ⟨w.heap.size + 1, 2, none⟩ = false := fun O => by simp [World.frozen?, HRa.out O]
  go_upto_region 6 with (go_at_call 56; refine (carries_any _ _ _ _ _ _).mono ?_; rw [hd]; rintro e w2 ⟨rfl, ho2⟩; have Hb2 := hidOf ho2; clear ho2)
  have HR2 : Hid (w2.heap[w.heap.size + 1]? = some (.cells #[.int .u8 0, .int .u8 0, .int .u8 0] 62 (0, 0))) := (Below.block Hb2.out _ (Array.getElem?_eq_some_iff.1 (HRa.out _)).1).trans (HRa.out _)
  have Ho2 := hidOf (Out.trans (Ho1.out.alloc _) Hb2.out)
  have n0 := cell_later Hb2.out (a0 _)
  have n1 := cell_later Hb2.out (a1 _)
  have n2 := cell_later Hb2.out (a2 _)
  have p0 : w2.frozen? ⟨w.heap.size + 1, 0, none⟩ = false := by simp [World.frozen?, HR2.out]
  have p1 : w2.frozen? ⟨w.heap.size + 1, 1, none⟩ = false := by simp [World.frozen?, HR2.out]
  have p2 : w2.frozen? ⟨w.heap.size + 1, 2, none⟩ = false := by simp [World.frozen?, HR2.out]
  go_wp2
  refine bodyPost_ret (results_cell_row rfl _ _ (w.heap.size + 1) 62 _ (0, 0) _ rfl (set3_heap HR2.out) Tryz.underlying62 rfl size64) rfl ?_
  exact ⟨by rw [show opdsP 3 s f u2 = (1, 4, 0) from by unfold opdsP; rw [if_pos rfl, if_neg (by omega)]]; rfl, ((Ho2.out.setCell (a := ⟨w.heap.size + 1, 0, none⟩) (by simp) _).setCell (a := ⟨w.heap.size + 1, 1, none⟩) (by simp) _).setCell (a := ⟨w.heap.size + 1, 2, none⟩) (by simp) _⟩
theorem opds_all (o d s f i c g : Int) (u1 u2 u3 u4 : Bool) (w : World) (CI : Hid (∀ wx : World, Out w wx → Calls Tryz.prog 50 #[.int .i64 o] wx fun e w' => e = .returned (.tuple #[.agg #[.int .i64 c, .int .i64 g, .bool u1, .bool u2, .bool u3, .bool u4], .int .i64 0]) ∧ Out wx w')) : Calls Tryz.prog 23 #[.agg #[.int .i64 o, .int .i64 d, .int .i64 s, .int .i64 f, .int .i64 i]] w fun e w' => e = .returned (opdV (opdsP c s f u2)) ∧ Out w w' := by
  by_cases h2 : c = 2
  · exact opds_2 o d s f i c g u1 u2 u3 u4 w CI h2
  by_cases h3 : c = 3
  · by_cases hf : 8 ≤ f
    · exact opds_3t o d s f i c g u1 u2 u3 u4 w CI h3 hf
    · exact opds_3f o d s f i c g u1 u2 u3 u4 w CI h3 hf
  by_cases h4 : c = 4
  · exact opds_4 o d s f i c g u1 u2 u3 u4 w CI h4
  by_cases h5 : c = 5
  · cases hu : u2
    · rw [hu] at CI; exact opds_5f o d s f i c g u1 false u3 u4 w CI h5 rfl
    · rw [hu] at CI; exact opds_5t o d s f i c g u1 true u3 u4 w CI h5 rfl
  by_cases h6 : c = 6
  · cases hu : u2
    · rw [hu] at CI; exact opds_6f o d s f i c g u1 false u3 u4 w CI h6 rfl
    · rw [hu] at CI; exact opds_6t o d s f i c g u1 true u3 u4 w CI h6 rfl
  by_cases h7 : c = 7
  · exact opds_7 o d s f i c g u1 u2 u3 u4 w CI h7
  by_cases h8 : c = 8
  · exact opds_8 o d s f i c g u1 u2 u3 u4 w CI h8
  by_cases h9 : c = 9
  · exact opds_9 o d s f i c g u1 u2 u3 u4 w CI h9
  by_cases h10 : c = 10
  · by_cases hs : s = 1
    · exact opds_10t o d s f i c g u1 u2 u3 u4 w CI h10 hs
    · exact opds_10f o d s f i c g u1 u2 u3 u4 w CI h10 hs
  exact opds_no o d s f i c g u1 u2 u3 u4 w CI h2 h3 h4 h5 h6 h7 h8 h9 h10
end Go.Proofs.YtcomhlimgocoaaaGreatDoor
