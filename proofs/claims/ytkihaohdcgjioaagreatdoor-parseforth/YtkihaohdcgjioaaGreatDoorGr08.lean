import Derived.Test.YtkihaohdcgjioaaGreatDoorGr04
namespace Go.Proofs.YtkihaohdcgjioaaGreatDoor
open Go.RowKit
set_option linter.unusedVariables false
set_option linter.unusedSimpArgs false
theorem info_ok_out (op : Int) (w : World) (h : TabO w) (hf : (formP op == 0) = false) : Calls Tryz.prog 123 #[.int .i64 op] w fun e w' => e = .returned (.tuple #[.agg #[.int .i64 (formP op), .int .i64 (groupP op (formP op)), .bool (useD op (formP op)), .bool (useS op (formP op)), .bool (useO op (formP op)), .bool (useI op (formP op))], .int .i64 0]) ∧ Out w w' :=
  (info_ok op w h hf).mono fun e w' ⟨he, hw⟩ => ⟨he, by rw [← hw]; exact (((Out.refl w).alloc _).alloc _).alloc _⟩
theorem carries_any (o d s f i : Int) (w : World) : Calls Tryz.prog 128 #[.agg #[.int .i64 o, .int .i64 d, .int .i64 s, .int .i64 f, .int .i64 i]] w fun e w' => e = .returned (.bool (decide (8 ≤ f))) ∧ Out w w' := by
  go_enter Tryz.func128, Tryz.ntmps128
  go_wp2
  go_ret
  exact ⟨rfl, (Out.refl w).alloc _⟩
def opdsP (c s f : Int) (us : Bool) : Int × Int × Int :=
  if c = 3 then (if 8 ≤ f then (1, 2, 0) else (1, 4, 0)) else if c = 2 then (1, 0, 0) else if c = 4 then (1, 5, 0) else if c = 5 ∨ c = 6 then (if us then (6, 2, 0) else (6, 3, 0)) else if c = 7 then (7, 0, 0) else if c = 8 then (1, 4, 7) else if c = 9 then (8, 0, 0) else if c = 10 then (if s = 1 then (1, 7, 0) else (1, 3, 0)) else (0, 0, 0)
def opdV (t : Int × Int × Int) : Value := .agg #[.int .u8 t.1, .int .u8 t.2.1, .int .u8 t.2.2]
theorem Out.setCell {w w' : World} (h : Out w w') {a : Addr} (ha : w.heap.size ≤ a.block) (u : Value) : Out w (w'.setCell a u) := Below.setCell h ha u
theorem new_cell (w : World) (cs : Array Value) (t : TypeId) (j : Nat) : (w.alloc (.cells cs t)).cell? ⟨w.heap.size, j, none⟩ = cs[j]? := by
  have h : (w.alloc (.cells cs t)).heap[w.heap.size]? = some (.cells cs t (0, 0)) := heap_alloc_new w (.cells cs t)
  unfold World.cell?
  simp only
  rw [h]
  rfl
theorem size64 : (Tryz.prog.info? 133).map (·.size) = some 3 := by kernel_rfl
theorem set3_heap {w : World} {b : Nat} {t : TypeId} {x y z u v q : Value} (h : w.heap[b]? = some (.cells #[u, v, q] t (0, 0))) : (((w.setCell ⟨b, 0, none⟩ x).setCell ⟨b, 1, none⟩ y).setCell ⟨b, 2, none⟩ z).heap[b]? = some (.cells #[x, y, z] t (0, 0)) := by
  simp [World.setCell, Array.getElem?_modify, h]
theorem opds_2 (o d s f i c g : Int) (u1 u2 u3 u4 : Bool) (w : World) (CI : Hid (∀ wx : World, Out w wx → Calls Tryz.prog 123 #[.int .i64 o] wx fun e w' => e = .returned (.tuple #[.agg #[.int .i64 c, .int .i64 g, .bool u1, .bool u2, .bool u3, .bool u4], .int .i64 0]) ∧ Out wx w')) (hc : c = 2) : Calls Tryz.prog 85 #[.agg #[.int .i64 o, .int .i64 d, .int .i64 s, .int .i64 f, .int .i64 i]] w fun e w' => e = .returned (opdV (opdsP c s f u2)) ∧ Out w w' := by
  subst hc
  have HBX : Hid (((w.alloc (.cells #[.int .i64 o, .int .i64 d, .int .i64 s, .int .i64 f, .int .i64 i] 58)).alloc (.cells #[.int .u8 0, .int .u8 0, .int .u8 0] 133)).cell? ⟨w.heap.size, 2, none⟩ = some (.int .i64 s) ∧ ((w.alloc (.cells #[.int .i64 o, .int .i64 d, .int .i64 s, .int .i64 f, .int .i64 i] 58)).alloc (.cells #[.int .u8 0, .int .u8 0, .int .u8 0] 133)).cell? ⟨w.heap.size, 3, none⟩ = some (.int .i64 f) ∧ (∀ j : Fin 3, ((w.alloc (.cells #[.int .i64 o, .int .i64 d, .int .i64 s, .int .i64 f, .int .i64 i] 58)).alloc (.cells #[.int .u8 0, .int .u8 0, .int .u8 0] 133)).cell? ⟨w.heap.size + 1, j.val, none⟩ = some (.int .u8 0)) ∧ ((w.alloc (.cells #[.int .i64 o, .int .i64 d, .int .i64 s, .int .i64 f, .int .i64 i] 58)).alloc (.cells #[.int .u8 0, .int .u8 0, .int .u8 0] 133)).heap[w.heap.size + 1]? = some (.cells #[.int .u8 0, .int .u8 0, .int .u8 0] 133 (0, 0))) := by
    generalize hB : w.alloc (.cells #[.int .i64 o, .int .i64 d, .int .i64 s, .int .i64 f, .int .i64 i] 58) = wB
    have hz : wB.heap.size = w.heap.size + 1 := by rw [← hB, size_alloc]
    have hx : wB.heap[w.heap.size]? = some (.cells #[.int .i64 o, .int .i64 d, .int .i64 s, .int .i64 f, .int .i64 i] 58 (0, 0)) := by rw [← hB]; exact heap_alloc_new w _
    have hn : (wB.alloc (.cells #[.int .u8 0, .int .u8 0, .int .u8 0] 133)).heap[w.heap.size + 1]? = some (.cells #[.int .u8 0, .int .u8 0, .int .u8 0] 133 (0, 0)) := by rw [← hz]; exact heap_alloc_new wB _
    have ho : (wB.alloc (.cells #[.int .u8 0, .int .u8 0, .int .u8 0] 133)).heap[w.heap.size]? = some (.cells #[.int .i64 o, .int .i64 d, .int .i64 s, .int .i64 f, .int .i64 i] 58 (0, 0)) := (Below.heap_alloc wB _ _ (by omega)).trans hx
    refine ⟨by simp [World.cell?, ho], by simp [World.cell?, ho], fun j => ?_, hn⟩
    match j with
    | 0 => simp [World.cell?, hn]
    | 1 => simp [World.cell?, hn]
    | 2 => simp [World.cell?, hn]
  go_enter Tryz.func85, Tryz.ntmps85
  go_upto_region 2 with (go_at_call 123; go_loud (refine (CI.out _ (((Out.refl w).alloc _).alloc _)).mono ?_); rintro e w1 ⟨rfl, ho1⟩; have Hb := hidOf ho1; clear ho1)
  have Ho1 := hidOf (Out.trans (((Out.refl w).alloc _).alloc _) Hb.out)
  have b3 := cell_later Hb.out HBX.out.2.1
  have b2 := cell_later Hb.out HBX.out.1
  have r0 := cell_later Hb.out (HBX.out.2.2.1 0)
  have r1 := cell_later Hb.out (HBX.out.2.2.1 1)
  have r2 := cell_later Hb.out (HBX.out.2.2.1 2)
  simp only [Fin.isValue, Fin.val_zero, Fin.val_one, Fin.val_two] at r0 r1 r2
  have HR : Hid (w1.heap[w.heap.size + 1]? = some (.cells #[.int .u8 0, .int .u8 0, .int .u8 0] 133 (0, 0))) := (Below.block Hb.out _ (by rw [size_alloc, size_alloc]; omega)).trans HBX.out.2.2.2
  have a0 : ∀ O : Obj, (w1.alloc O).cell? ⟨w.heap.size + 1, 0, none⟩ = some (.int .u8 0) := fun O => cell_later ((Out.refl w1).alloc O) r0
  have a1 : ∀ O : Obj, (w1.alloc O).cell? ⟨w.heap.size + 1, 1, none⟩ = some (.int .u8 0) := fun O => cell_later ((Out.refl w1).alloc O) r1
  have a2 : ∀ O : Obj, (w1.alloc O).cell? ⟨w.heap.size + 1, 2, none⟩ = some (.int .u8 0) := fun O => cell_later ((Out.refl w1).alloc O) r2
  have a3 : ∀ O : Obj, (w1.alloc O).cell? ⟨w.heap.size, 3, none⟩ = some (.int .i64 f) := fun O => cell_later ((Out.refl w1).alloc O) b3
  have a4 : ∀ O : Obj, (w1.alloc O).cell? ⟨w.heap.size, 2, none⟩ = some (.int .i64 s) := fun O => cell_later ((Out.refl w1).alloc O) b2
  have HRa : Hid (∀ O : Obj, (w1.alloc O).heap[w.heap.size + 1]? = some (.cells #[.int .u8 0, .int .u8 0, .int .u8 0] 133 (0, 0))) := fun O => (Below.heap_alloc w1 O _ (Array.getElem?_eq_some_iff.1 HR.out).1).trans HR.out
  have g0 : ∀ O : Obj, (w1.alloc O).frozen? ⟨w.heap.size + 1, 0, none⟩ = false := fun O => by simp [World.frozen?, HRa.out O]
  have g1 : ∀ O : Obj, (w1.alloc O).frozen? ⟨w.heap.size + 1, 1, none⟩ = false := fun O => by simp [World.frozen?, HRa.out O]
  have g2 : ∀ O : Obj, (w1.alloc O).frozen? ⟨w.heap.size + 1, 2, none⟩ = false := fun O => by simp [World.frozen?, HRa.out O]
  go_wp2
  refine bodyPost_ret (results_cell_row rfl _ _ (w.heap.size + 1) 133 _ (0, 0) _ rfl (set3_heap (HRa.out _)) Tryz.underlying133 rfl size64) rfl ?_
  exact ⟨by first | rfl | simp [opdV, opdsP, *], (((Ho1.out.alloc _).setCell (a := ⟨w.heap.size + 1, 0, none⟩) (by simp) _).setCell (a := ⟨w.heap.size + 1, 1, none⟩) (by simp) _).setCell (a := ⟨w.heap.size + 1, 2, none⟩) (by simp) _⟩
theorem opds_4 (o d s f i c g : Int) (u1 u2 u3 u4 : Bool) (w : World) (CI : Hid (∀ wx : World, Out w wx → Calls Tryz.prog 123 #[.int .i64 o] wx fun e w' => e = .returned (.tuple #[.agg #[.int .i64 c, .int .i64 g, .bool u1, .bool u2, .bool u3, .bool u4], .int .i64 0]) ∧ Out wx w')) (hc : c = 4) : Calls Tryz.prog 85 #[.agg #[.int .i64 o, .int .i64 d, .int .i64 s, .int .i64 f, .int .i64 i]] w fun e w' => e = .returned (opdV (opdsP c s f u2)) ∧ Out w w' := by
  subst hc
  have HBX : Hid (((w.alloc (.cells #[.int .i64 o, .int .i64 d, .int .i64 s, .int .i64 f, .int .i64 i] 58)).alloc (.cells #[.int .u8 0, .int .u8 0, .int .u8 0] 133)).cell? ⟨w.heap.size, 2, none⟩ = some (.int .i64 s) ∧ ((w.alloc (.cells #[.int .i64 o, .int .i64 d, .int .i64 s, .int .i64 f, .int .i64 i] 58)).alloc (.cells #[.int .u8 0, .int .u8 0, .int .u8 0] 133)).cell? ⟨w.heap.size, 3, none⟩ = some (.int .i64 f) ∧ (∀ j : Fin 3, ((w.alloc (.cells #[.int .i64 o, .int .i64 d, .int .i64 s, .int .i64 f, .int .i64 i] 58)).alloc (.cells #[.int .u8 0, .int .u8 0, .int .u8 0] 133)).cell? ⟨w.heap.size + 1, j.val, none⟩ = some (.int .u8 0)) ∧ ((w.alloc (.cells #[.int .i64 o, .int .i64 d, .int .i64 s, .int .i64 f, .int .i64 i] 58)).alloc (.cells #[.int .u8 0, .int .u8 0, .int .u8 0] 133)).heap[w.heap.size + 1]? = some (.cells #[.int .u8 0, .int .u8 0, .int .u8 0] 133 (0, 0))) := by
    generalize hB : w.alloc (.cells #[.int .i64 o, .int .i64 d, .int .i64 s, .int .i64 f, .int .i64 i] 58) = wB
    have hz : wB.heap.size = w.heap.size + 1 := by rw [← hB, size_alloc]
    have hx : wB.heap[w.heap.size]? = some (.cells #[.int .i64 o, .int .i64 d, .int .i64 s, .int .i64 f, .int .i64 i] 58 (0, 0)) := by rw [← hB]; exact heap_alloc_new w _
    have hn : (wB.alloc (.cells #[.int .u8 0, .int .u8 0, .int .u8 0] 133)).heap[w.heap.size + 1]? = some (.cells #[.int .u8 0, .int .u8 0, .int .u8 0] 133 (0, 0)) := by rw [← hz]; exact heap_alloc_new wB _
    have ho : (wB.alloc (.cells #[.int .u8 0, .int .u8 0, .int .u8 0] 133)).heap[w.heap.size]? = some (.cells #[.int .i64 o, .int .i64 d, .int .i64 s, .int .i64 f, .int .i64 i] 58 (0, 0)) := (Below.heap_alloc wB _ _ (by omega)).trans hx
    refine ⟨by simp [World.cell?, ho], by simp [World.cell?, ho], fun j => ?_, hn⟩
    match j with
    | 0 => simp [World.cell?, hn]
    | 1 => simp [World.cell?, hn]
    | 2 => simp [World.cell?, hn]
  go_enter Tryz.func85, Tryz.ntmps85
  go_upto_region 2 with (go_at_call 123; go_loud (refine (CI.out _ (((Out.refl w).alloc _).alloc _)).mono ?_); rintro e w1 ⟨rfl, ho1⟩; have Hb := hidOf ho1; clear ho1)
  have Ho1 := hidOf (Out.trans (((Out.refl w).alloc _).alloc _) Hb.out)
  have b3 := cell_later Hb.out HBX.out.2.1
  have b2 := cell_later Hb.out HBX.out.1
  have r0 := cell_later Hb.out (HBX.out.2.2.1 0)
  have r1 := cell_later Hb.out (HBX.out.2.2.1 1)
  have r2 := cell_later Hb.out (HBX.out.2.2.1 2)
  simp only [Fin.isValue, Fin.val_zero, Fin.val_one, Fin.val_two] at r0 r1 r2
  have HR : Hid (w1.heap[w.heap.size + 1]? = some (.cells #[.int .u8 0, .int .u8 0, .int .u8 0] 133 (0, 0))) := (Below.block Hb.out _ (by rw [size_alloc, size_alloc]; omega)).trans HBX.out.2.2.2
  have a0 : ∀ O : Obj, (w1.alloc O).cell? ⟨w.heap.size + 1, 0, none⟩ = some (.int .u8 0) := fun O => cell_later ((Out.refl w1).alloc O) r0
  have a1 : ∀ O : Obj, (w1.alloc O).cell? ⟨w.heap.size + 1, 1, none⟩ = some (.int .u8 0) := fun O => cell_later ((Out.refl w1).alloc O) r1
  have a2 : ∀ O : Obj, (w1.alloc O).cell? ⟨w.heap.size + 1, 2, none⟩ = some (.int .u8 0) := fun O => cell_later ((Out.refl w1).alloc O) r2
  have a3 : ∀ O : Obj, (w1.alloc O).cell? ⟨w.heap.size, 3, none⟩ = some (.int .i64 f) := fun O => cell_later ((Out.refl w1).alloc O) b3
  have a4 : ∀ O : Obj, (w1.alloc O).cell? ⟨w.heap.size, 2, none⟩ = some (.int .i64 s) := fun O => cell_later ((Out.refl w1).alloc O) b2
  have HRa : Hid (∀ O : Obj, (w1.alloc O).heap[w.heap.size + 1]? = some (.cells #[.int .u8 0, .int .u8 0, .int .u8 0] 133 (0, 0))) := fun O => (Below.heap_alloc w1 O _ (Array.getElem?_eq_some_iff.1 HR.out).1).trans HR.out
  have g0 : ∀ O : Obj, (w1.alloc O).frozen? ⟨w.heap.size + 1, 0, none⟩ = false := fun O => by simp [World.frozen?, HRa.out O]
  have g1 : ∀ O : Obj, (w1.alloc O).frozen? ⟨w.heap.size + 1, 1, none⟩ = false := fun O => by simp [World.frozen?, HRa.out O]
  have g2 : ∀ O : Obj, (w1.alloc O).frozen? ⟨w.heap.size + 1, 2, none⟩ = false := fun O => by simp [World.frozen?, HRa.out O]
  go_wp2
  refine bodyPost_ret (results_cell_row rfl _ _ (w.heap.size + 1) 133 _ (0, 0) _ rfl (set3_heap (HRa.out _)) Tryz.underlying133 rfl size64) rfl ?_
  exact ⟨by first | rfl | simp [opdV, opdsP, *], (((Ho1.out.alloc _).setCell (a := ⟨w.heap.size + 1, 0, none⟩) (by simp) _).setCell (a := ⟨w.heap.size + 1, 1, none⟩) (by simp) _).setCell (a := ⟨w.heap.size + 1, 2, none⟩) (by simp) _⟩
theorem opds_7 (o d s f i c g : Int) (u1 u2 u3 u4 : Bool) (w : World) (CI : Hid (∀ wx : World, Out w wx → Calls Tryz.prog 123 #[.int .i64 o] wx fun e w' => e = .returned (.tuple #[.agg #[.int .i64 c, .int .i64 g, .bool u1, .bool u2, .bool u3, .bool u4], .int .i64 0]) ∧ Out wx w')) (hc : c = 7) : Calls Tryz.prog 85 #[.agg #[.int .i64 o, .int .i64 d, .int .i64 s, .int .i64 f, .int .i64 i]] w fun e w' => e = .returned (opdV (opdsP c s f u2)) ∧ Out w w' := by
  subst hc
  have HBX : Hid (((w.alloc (.cells #[.int .i64 o, .int .i64 d, .int .i64 s, .int .i64 f, .int .i64 i] 58)).alloc (.cells #[.int .u8 0, .int .u8 0, .int .u8 0] 133)).cell? ⟨w.heap.size, 2, none⟩ = some (.int .i64 s) ∧ ((w.alloc (.cells #[.int .i64 o, .int .i64 d, .int .i64 s, .int .i64 f, .int .i64 i] 58)).alloc (.cells #[.int .u8 0, .int .u8 0, .int .u8 0] 133)).cell? ⟨w.heap.size, 3, none⟩ = some (.int .i64 f) ∧ (∀ j : Fin 3, ((w.alloc (.cells #[.int .i64 o, .int .i64 d, .int .i64 s, .int .i64 f, .int .i64 i] 58)).alloc (.cells #[.int .u8 0, .int .u8 0, .int .u8 0] 133)).cell? ⟨w.heap.size + 1, j.val, none⟩ = some (.int .u8 0)) ∧ ((w.alloc (.cells #[.int .i64 o, .int .i64 d, .int .i64 s, .int .i64 f, .int .i64 i] 58)).alloc (.cells #[.int .u8 0, .int .u8 0, .int .u8 0] 133)).heap[w.heap.size + 1]? = some (.cells #[.int .u8 0, .int .u8 0, .int .u8 0] 133 (0, 0))) := by
    generalize hB : w.alloc (.cells #[.int .i64 o, .int .i64 d, .int .i64 s, .int .i64 f, .int .i64 i] 58) = wB
    have hz : wB.heap.size = w.heap.size + 1 := by rw [← hB, size_alloc]
    have hx : wB.heap[w.heap.size]? = some (.cells #[.int .i64 o, .int .i64 d, .int .i64 s, .int .i64 f, .int .i64 i] 58 (0, 0)) := by rw [← hB]; exact heap_alloc_new w _
    have hn : (wB.alloc (.cells #[.int .u8 0, .int .u8 0, .int .u8 0] 133)).heap[w.heap.size + 1]? = some (.cells #[.int .u8 0, .int .u8 0, .int .u8 0] 133 (0, 0)) := by rw [← hz]; exact heap_alloc_new wB _
    have ho : (wB.alloc (.cells #[.int .u8 0, .int .u8 0, .int .u8 0] 133)).heap[w.heap.size]? = some (.cells #[.int .i64 o, .int .i64 d, .int .i64 s, .int .i64 f, .int .i64 i] 58 (0, 0)) := (Below.heap_alloc wB _ _ (by omega)).trans hx
    refine ⟨by simp [World.cell?, ho], by simp [World.cell?, ho], fun j => ?_, hn⟩
    match j with
    | 0 => simp [World.cell?, hn]
    | 1 => simp [World.cell?, hn]
    | 2 => simp [World.cell?, hn]
  go_enter Tryz.func85, Tryz.ntmps85
  go_upto_region 2 with (go_at_call 123; go_loud (refine (CI.out _ (((Out.refl w).alloc _).alloc _)).mono ?_); rintro e w1 ⟨rfl, ho1⟩; have Hb := hidOf ho1; clear ho1)
  have Ho1 := hidOf (Out.trans (((Out.refl w).alloc _).alloc _) Hb.out)
  have b3 := cell_later Hb.out HBX.out.2.1
  have b2 := cell_later Hb.out HBX.out.1
  have r0 := cell_later Hb.out (HBX.out.2.2.1 0)
  have r1 := cell_later Hb.out (HBX.out.2.2.1 1)
  have r2 := cell_later Hb.out (HBX.out.2.2.1 2)
  simp only [Fin.isValue, Fin.val_zero, Fin.val_one, Fin.val_two] at r0 r1 r2
  have HR : Hid (w1.heap[w.heap.size + 1]? = some (.cells #[.int .u8 0, .int .u8 0, .int .u8 0] 133 (0, 0))) := (Below.block Hb.out _ (by rw [size_alloc, size_alloc]; omega)).trans HBX.out.2.2.2
  have a0 : ∀ O : Obj, (w1.alloc O).cell? ⟨w.heap.size + 1, 0, none⟩ = some (.int .u8 0) := fun O => cell_later ((Out.refl w1).alloc O) r0
  have a1 : ∀ O : Obj, (w1.alloc O).cell? ⟨w.heap.size + 1, 1, none⟩ = some (.int .u8 0) := fun O => cell_later ((Out.refl w1).alloc O) r1
  have a2 : ∀ O : Obj, (w1.alloc O).cell? ⟨w.heap.size + 1, 2, none⟩ = some (.int .u8 0) := fun O => cell_later ((Out.refl w1).alloc O) r2
  have a3 : ∀ O : Obj, (w1.alloc O).cell? ⟨w.heap.size, 3, none⟩ = some (.int .i64 f) := fun O => cell_later ((Out.refl w1).alloc O) b3
  have a4 : ∀ O : Obj, (w1.alloc O).cell? ⟨w.heap.size, 2, none⟩ = some (.int .i64 s) := fun O => cell_later ((Out.refl w1).alloc O) b2
  have HRa : Hid (∀ O : Obj, (w1.alloc O).heap[w.heap.size + 1]? = some (.cells #[.int .u8 0, .int .u8 0, .int .u8 0] 133 (0, 0))) := fun O => (Below.heap_alloc w1 O _ (Array.getElem?_eq_some_iff.1 HR.out).1).trans HR.out
  have g0 : ∀ O : Obj, (w1.alloc O).frozen? ⟨w.heap.size + 1, 0, none⟩ = false := fun O => by simp [World.frozen?, HRa.out O]
  have g1 : ∀ O : Obj, (w1.alloc O).frozen? ⟨w.heap.size + 1, 1, none⟩ = false := fun O => by simp [World.frozen?, HRa.out O]
  have g2 : ∀ O : Obj, (w1.alloc O).frozen? ⟨w.heap.size + 1, 2, none⟩ = false := fun O => by simp [World.frozen?, HRa.out O]
  go_wp2
  refine bodyPost_ret (results_cell_row rfl _ _ (w.heap.size + 1) 133 _ (0, 0) _ rfl (set3_heap (HRa.out _)) Tryz.underlying133 rfl size64) rfl ?_
  exact ⟨by first | rfl | simp [opdV, opdsP, *], (((Ho1.out.alloc _).setCell (a := ⟨w.heap.size + 1, 0, none⟩) (by simp) _).setCell (a := ⟨w.heap.size + 1, 1, none⟩) (by simp) _).setCell (a := ⟨w.heap.size + 1, 2, none⟩) (by simp) _⟩
theorem opds_8 (o d s f i c g : Int) (u1 u2 u3 u4 : Bool) (w : World) (CI : Hid (∀ wx : World, Out w wx → Calls Tryz.prog 123 #[.int .i64 o] wx fun e w' => e = .returned (.tuple #[.agg #[.int .i64 c, .int .i64 g, .bool u1, .bool u2, .bool u3, .bool u4], .int .i64 0]) ∧ Out wx w')) (hc : c = 8) : Calls Tryz.prog 85 #[.agg #[.int .i64 o, .int .i64 d, .int .i64 s, .int .i64 f, .int .i64 i]] w fun e w' => e = .returned (opdV (opdsP c s f u2)) ∧ Out w w' := by
  subst hc
  have HBX : Hid (((w.alloc (.cells #[.int .i64 o, .int .i64 d, .int .i64 s, .int .i64 f, .int .i64 i] 58)).alloc (.cells #[.int .u8 0, .int .u8 0, .int .u8 0] 133)).cell? ⟨w.heap.size, 2, none⟩ = some (.int .i64 s) ∧ ((w.alloc (.cells #[.int .i64 o, .int .i64 d, .int .i64 s, .int .i64 f, .int .i64 i] 58)).alloc (.cells #[.int .u8 0, .int .u8 0, .int .u8 0] 133)).cell? ⟨w.heap.size, 3, none⟩ = some (.int .i64 f) ∧ (∀ j : Fin 3, ((w.alloc (.cells #[.int .i64 o, .int .i64 d, .int .i64 s, .int .i64 f, .int .i64 i] 58)).alloc (.cells #[.int .u8 0, .int .u8 0, .int .u8 0] 133)).cell? ⟨w.heap.size + 1, j.val, none⟩ = some (.int .u8 0)) ∧ ((w.alloc (.cells #[.int .i64 o, .int .i64 d, .int .i64 s, .int .i64 f, .int .i64 i] 58)).alloc (.cells #[.int .u8 0, .int .u8 0, .int .u8 0] 133)).heap[w.heap.size + 1]? = some (.cells #[.int .u8 0, .int .u8 0, .int .u8 0] 133 (0, 0))) := by
    generalize hB : w.alloc (.cells #[.int .i64 o, .int .i64 d, .int .i64 s, .int .i64 f, .int .i64 i] 58) = wB
    have hz : wB.heap.size = w.heap.size + 1 := by rw [← hB, size_alloc]
    have hx : wB.heap[w.heap.size]? = some (.cells #[.int .i64 o, .int .i64 d, .int .i64 s, .int .i64 f, .int .i64 i] 58 (0, 0)) := by rw [← hB]; exact heap_alloc_new w _
    have hn : (wB.alloc (.cells #[.int .u8 0, .int .u8 0, .int .u8 0] 133)).heap[w.heap.size + 1]? = some (.cells #[.int .u8 0, .int .u8 0, .int .u8 0] 133 (0, 0)) := by rw [← hz]; exact heap_alloc_new wB _
    have ho : (wB.alloc (.cells #[.int .u8 0, .int .u8 0, .int .u8 0] 133)).heap[w.heap.size]? = some (.cells #[.int .i64 o, .int .i64 d, .int .i64 s, .int .i64 f, .int .i64 i] 58 (0, 0)) := (Below.heap_alloc wB _ _ (by omega)).trans hx
    refine ⟨by simp [World.cell?, ho], by simp [World.cell?, ho], fun j => ?_, hn⟩
    match j with
    | 0 => simp [World.cell?, hn]
    | 1 => simp [World.cell?, hn]
    | 2 => simp [World.cell?, hn]
  go_enter Tryz.func85, Tryz.ntmps85
  go_upto_region 2 with (go_at_call 123; go_loud (refine (CI.out _ (((Out.refl w).alloc _).alloc _)).mono ?_); rintro e w1 ⟨rfl, ho1⟩; have Hb := hidOf ho1; clear ho1)
  have Ho1 := hidOf (Out.trans (((Out.refl w).alloc _).alloc _) Hb.out)
  have b3 := cell_later Hb.out HBX.out.2.1
  have b2 := cell_later Hb.out HBX.out.1
  have r0 := cell_later Hb.out (HBX.out.2.2.1 0)
  have r1 := cell_later Hb.out (HBX.out.2.2.1 1)
  have r2 := cell_later Hb.out (HBX.out.2.2.1 2)
  simp only [Fin.isValue, Fin.val_zero, Fin.val_one, Fin.val_two] at r0 r1 r2
  have HR : Hid (w1.heap[w.heap.size + 1]? = some (.cells #[.int .u8 0, .int .u8 0, .int .u8 0] 133 (0, 0))) := (Below.block Hb.out _ (by rw [size_alloc, size_alloc]; omega)).trans HBX.out.2.2.2
  have a0 : ∀ O : Obj, (w1.alloc O).cell? ⟨w.heap.size + 1, 0, none⟩ = some (.int .u8 0) := fun O => cell_later ((Out.refl w1).alloc O) r0
  have a1 : ∀ O : Obj, (w1.alloc O).cell? ⟨w.heap.size + 1, 1, none⟩ = some (.int .u8 0) := fun O => cell_later ((Out.refl w1).alloc O) r1
  have a2 : ∀ O : Obj, (w1.alloc O).cell? ⟨w.heap.size + 1, 2, none⟩ = some (.int .u8 0) := fun O => cell_later ((Out.refl w1).alloc O) r2
  have a3 : ∀ O : Obj, (w1.alloc O).cell? ⟨w.heap.size, 3, none⟩ = some (.int .i64 f) := fun O => cell_later ((Out.refl w1).alloc O) b3
  have a4 : ∀ O : Obj, (w1.alloc O).cell? ⟨w.heap.size, 2, none⟩ = some (.int .i64 s) := fun O => cell_later ((Out.refl w1).alloc O) b2
  have HRa : Hid (∀ O : Obj, (w1.alloc O).heap[w.heap.size + 1]? = some (.cells #[.int .u8 0, .int .u8 0, .int .u8 0] 133 (0, 0))) := fun O => (Below.heap_alloc w1 O _ (Array.getElem?_eq_some_iff.1 HR.out).1).trans HR.out
  have g0 : ∀ O : Obj, (w1.alloc O).frozen? ⟨w.heap.size + 1, 0, none⟩ = false := fun O => by simp [World.frozen?, HRa.out O]
  have g1 : ∀ O : Obj, (w1.alloc O).frozen? ⟨w.heap.size + 1, 1, none⟩ = false := fun O => by simp [World.frozen?, HRa.out O]
  have g2 : ∀ O : Obj, (w1.alloc O).frozen? ⟨w.heap.size + 1, 2, none⟩ = false := fun O => by simp [World.frozen?, HRa.out O]
  go_wp2
  refine bodyPost_ret (results_cell_row rfl _ _ (w.heap.size + 1) 133 _ (0, 0) _ rfl (set3_heap (HRa.out _)) Tryz.underlying133 rfl size64) rfl ?_
  exact ⟨by first | rfl | simp [opdV, opdsP, *], (((Ho1.out.alloc _).setCell (a := ⟨w.heap.size + 1, 0, none⟩) (by simp) _).setCell (a := ⟨w.heap.size + 1, 1, none⟩) (by simp) _).setCell (a := ⟨w.heap.size + 1, 2, none⟩) (by simp) _⟩
theorem opds_9 (o d s f i c g : Int) (u1 u2 u3 u4 : Bool) (w : World) (CI : Hid (∀ wx : World, Out w wx → Calls Tryz.prog 123 #[.int .i64 o] wx fun e w' => e = .returned (.tuple #[.agg #[.int .i64 c, .int .i64 g, .bool u1, .bool u2, .bool u3, .bool u4], .int .i64 0]) ∧ Out wx w')) (hc : c = 9) : Calls Tryz.prog 85 #[.agg #[.int .i64 o, .int .i64 d, .int .i64 s, .int .i64 f, .int .i64 i]] w fun e w' => e = .returned (opdV (opdsP c s f u2)) ∧ Out w w' := by
  subst hc
  have HBX : Hid (((w.alloc (.cells #[.int .i64 o, .int .i64 d, .int .i64 s, .int .i64 f, .int .i64 i] 58)).alloc (.cells #[.int .u8 0, .int .u8 0, .int .u8 0] 133)).cell? ⟨w.heap.size, 2, none⟩ = some (.int .i64 s) ∧ ((w.alloc (.cells #[.int .i64 o, .int .i64 d, .int .i64 s, .int .i64 f, .int .i64 i] 58)).alloc (.cells #[.int .u8 0, .int .u8 0, .int .u8 0] 133)).cell? ⟨w.heap.size, 3, none⟩ = some (.int .i64 f) ∧ (∀ j : Fin 3, ((w.alloc (.cells #[.int .i64 o, .int .i64 d, .int .i64 s, .int .i64 f, .int .i64 i] 58)).alloc (.cells #[.int .u8 0, .int .u8 0, .int .u8 0] 133)).cell? ⟨w.heap.size + 1, j.val, none⟩ = some (.int .u8 0)) ∧ ((w.alloc (.cells #[.int .i64 o, .int .i64 d, .int .i64 s, .int .i64 f, .int .i64 i] 58)).alloc (.cells #[.int .u8 0, .int .u8 0, .int .u8 0] 133)).heap[w.heap.size + 1]? = some (.cells #[.int .u8 0, .int .u8 0, .int .u8 0] 133 (0, 0))) := by
    generalize hB : w.alloc (.cells #[.int .i64 o, .int .i64 d, .int .i64 s, .int .i64 f, .int .i64 i] 58) = wB
    have hz : wB.heap.size = w.heap.size + 1 := by rw [← hB, size_alloc]
    have hx : wB.heap[w.heap.size]? = some (.cells #[.int .i64 o, .int .i64 d, .int .i64 s, .int .i64 f, .int .i64 i] 58 (0, 0)) := by rw [← hB]; exact heap_alloc_new w _
    have hn : (wB.alloc (.cells #[.int .u8 0, .int .u8 0, .int .u8 0] 133)).heap[w.heap.size + 1]? = some (.cells #[.int .u8 0, .int .u8 0, .int .u8 0] 133 (0, 0)) := by rw [← hz]; exact heap_alloc_new wB _
    have ho : (wB.alloc (.cells #[.int .u8 0, .int .u8 0, .int .u8 0] 133)).heap[w.heap.size]? = some (.cells #[.int .i64 o, .int .i64 d, .int .i64 s, .int .i64 f, .int .i64 i] 58 (0, 0)) := (Below.heap_alloc wB _ _ (by omega)).trans hx
    refine ⟨by simp [World.cell?, ho], by simp [World.cell?, ho], fun j => ?_, hn⟩
    match j with
    | 0 => simp [World.cell?, hn]
    | 1 => simp [World.cell?, hn]
    | 2 => simp [World.cell?, hn]
  go_enter Tryz.func85, Tryz.ntmps85
  go_upto_region 2 with (go_at_call 123; go_loud (refine (CI.out _ (((Out.refl w).alloc _).alloc _)).mono ?_); rintro e w1 ⟨rfl, ho1⟩; have Hb := hidOf ho1; clear ho1)
  have Ho1 := hidOf (Out.trans (((Out.refl w).alloc _).alloc _) Hb.out)
  have b3 := cell_later Hb.out HBX.out.2.1
  have b2 := cell_later Hb.out HBX.out.1
  have r0 := cell_later Hb.out (HBX.out.2.2.1 0)
  have r1 := cell_later Hb.out (HBX.out.2.2.1 1)
  have r2 := cell_later Hb.out (HBX.out.2.2.1 2)
  simp only [Fin.isValue, Fin.val_zero, Fin.val_one, Fin.val_two] at r0 r1 r2
  have HR : Hid (w1.heap[w.heap.size + 1]? = some (.cells #[.int .u8 0, .int .u8 0, .int .u8 0] 133 (0, 0))) := (Below.block Hb.out _ (by rw [size_alloc, size_alloc]; omega)).trans HBX.out.2.2.2
  have a0 : ∀ O : Obj, (w1.alloc O).cell? ⟨w.heap.size + 1, 0, none⟩ = some (.int .u8 0) := fun O => cell_later ((Out.refl w1).alloc O) r0
  have a1 : ∀ O : Obj, (w1.alloc O).cell? ⟨w.heap.size + 1, 1, none⟩ = some (.int .u8 0) := fun O => cell_later ((Out.refl w1).alloc O) r1
  have a2 : ∀ O : Obj, (w1.alloc O).cell? ⟨w.heap.size + 1, 2, none⟩ = some (.int .u8 0) := fun O => cell_later ((Out.refl w1).alloc O) r2
  have a3 : ∀ O : Obj, (w1.alloc O).cell? ⟨w.heap.size, 3, none⟩ = some (.int .i64 f) := fun O => cell_later ((Out.refl w1).alloc O) b3
  have a4 : ∀ O : Obj, (w1.alloc O).cell? ⟨w.heap.size, 2, none⟩ = some (.int .i64 s) := fun O => cell_later ((Out.refl w1).alloc O) b2
  have HRa : Hid (∀ O : Obj, (w1.alloc O).heap[w.heap.size + 1]? = some (.cells #[.int .u8 0, .int .u8 0, .int .u8 0] 133 (0, 0))) := fun O => (Below.heap_alloc w1 O _ (Array.getElem?_eq_some_iff.1 HR.out).1).trans HR.out
  have g0 : ∀ O : Obj, (w1.alloc O).frozen? ⟨w.heap.size + 1, 0, none⟩ = false := fun O => by simp [World.frozen?, HRa.out O]
  have g1 : ∀ O : Obj, (w1.alloc O).frozen? ⟨w.heap.size + 1, 1, none⟩ = false := fun O => by simp [World.frozen?, HRa.out O]
  have g2 : ∀ O : Obj, (w1.alloc O).frozen? ⟨w.heap.size + 1, 2, none⟩ = false := fun O => by simp [World.frozen?, HRa.out O]
  go_wp2
  refine bodyPost_ret (results_cell_row rfl _ _ (w.heap.size + 1) 133 _ (0, 0) _ rfl (set3_heap (HRa.out _)) Tryz.underlying133 rfl size64) rfl ?_
  exact ⟨by first | rfl | simp [opdV, opdsP, *], (((Ho1.out.alloc _).setCell (a := ⟨w.heap.size + 1, 0, none⟩) (by simp) _).setCell (a := ⟨w.heap.size + 1, 1, none⟩) (by simp) _).setCell (a := ⟨w.heap.size + 1, 2, none⟩) (by simp) _⟩
theorem opds_5t (o d s f i c g : Int) (u1 u2 u3 u4 : Bool) (w : World) (CI : Hid (∀ wx : World, Out w wx → Calls Tryz.prog 123 #[.int .i64 o] wx fun e w' => e = .returned (.tuple #[.agg #[.int .i64 c, .int .i64 g, .bool u1, .bool u2, .bool u3, .bool u4], .int .i64 0]) ∧ Out wx w')) (hc : c = 5) (hu : u2 = true) : Calls Tryz.prog 85 #[.agg #[.int .i64 o, .int .i64 d, .int .i64 s, .int .i64 f, .int .i64 i]] w fun e w' => e = .returned (opdV (opdsP c s f u2)) ∧ Out w w' := by
  subst hc hu
  have HBX : Hid (((w.alloc (.cells #[.int .i64 o, .int .i64 d, .int .i64 s, .int .i64 f, .int .i64 i] 58)).alloc (.cells #[.int .u8 0, .int .u8 0, .int .u8 0] 133)).cell? ⟨w.heap.size, 2, none⟩ = some (.int .i64 s) ∧ ((w.alloc (.cells #[.int .i64 o, .int .i64 d, .int .i64 s, .int .i64 f, .int .i64 i] 58)).alloc (.cells #[.int .u8 0, .int .u8 0, .int .u8 0] 133)).cell? ⟨w.heap.size, 3, none⟩ = some (.int .i64 f) ∧ (∀ j : Fin 3, ((w.alloc (.cells #[.int .i64 o, .int .i64 d, .int .i64 s, .int .i64 f, .int .i64 i] 58)).alloc (.cells #[.int .u8 0, .int .u8 0, .int .u8 0] 133)).cell? ⟨w.heap.size + 1, j.val, none⟩ = some (.int .u8 0)) ∧ ((w.alloc (.cells #[.int .i64 o, .int .i64 d, .int .i64 s, .int .i64 f, .int .i64 i] 58)).alloc (.cells #[.int .u8 0, .int .u8 0, .int .u8 0] 133)).heap[w.heap.size + 1]? = some (.cells #[.int .u8 0, .int .u8 0, .int .u8 0] 133 (0, 0))) := by
    generalize hB : w.alloc (.cells #[.int .i64 o, .int .i64 d, .int .i64 s, .int .i64 f, .int .i64 i] 58) = wB
    have hz : wB.heap.size = w.heap.size + 1 := by rw [← hB, size_alloc]
    have hx : wB.heap[w.heap.size]? = some (.cells #[.int .i64 o, .int .i64 d, .int .i64 s, .int .i64 f, .int .i64 i] 58 (0, 0)) := by rw [← hB]; exact heap_alloc_new w _
    have hn : (wB.alloc (.cells #[.int .u8 0, .int .u8 0, .int .u8 0] 133)).heap[w.heap.size + 1]? = some (.cells #[.int .u8 0, .int .u8 0, .int .u8 0] 133 (0, 0)) := by rw [← hz]; exact heap_alloc_new wB _
    have ho : (wB.alloc (.cells #[.int .u8 0, .int .u8 0, .int .u8 0] 133)).heap[w.heap.size]? = some (.cells #[.int .i64 o, .int .i64 d, .int .i64 s, .int .i64 f, .int .i64 i] 58 (0, 0)) := (Below.heap_alloc wB _ _ (by omega)).trans hx
    refine ⟨by simp [World.cell?, ho], by simp [World.cell?, ho], fun j => ?_, hn⟩
    match j with
    | 0 => simp [World.cell?, hn]
    | 1 => simp [World.cell?, hn]
    | 2 => simp [World.cell?, hn]
  go_enter Tryz.func85, Tryz.ntmps85
  go_upto_region 2 with (go_at_call 123; go_loud (refine (CI.out _ (((Out.refl w).alloc _).alloc _)).mono ?_); rintro e w1 ⟨rfl, ho1⟩; have Hb := hidOf ho1; clear ho1)
  have Ho1 := hidOf (Out.trans (((Out.refl w).alloc _).alloc _) Hb.out)
  have b3 := cell_later Hb.out HBX.out.2.1
  have b2 := cell_later Hb.out HBX.out.1
  have r0 := cell_later Hb.out (HBX.out.2.2.1 0)
  have r1 := cell_later Hb.out (HBX.out.2.2.1 1)
  have r2 := cell_later Hb.out (HBX.out.2.2.1 2)
  simp only [Fin.isValue, Fin.val_zero, Fin.val_one, Fin.val_two] at r0 r1 r2
  have HR : Hid (w1.heap[w.heap.size + 1]? = some (.cells #[.int .u8 0, .int .u8 0, .int .u8 0] 133 (0, 0))) := (Below.block Hb.out _ (by rw [size_alloc, size_alloc]; omega)).trans HBX.out.2.2.2
  have a0 : ∀ O : Obj, (w1.alloc O).cell? ⟨w.heap.size + 1, 0, none⟩ = some (.int .u8 0) := fun O => cell_later ((Out.refl w1).alloc O) r0
  have a1 : ∀ O : Obj, (w1.alloc O).cell? ⟨w.heap.size + 1, 1, none⟩ = some (.int .u8 0) := fun O => cell_later ((Out.refl w1).alloc O) r1
  have a2 : ∀ O : Obj, (w1.alloc O).cell? ⟨w.heap.size + 1, 2, none⟩ = some (.int .u8 0) := fun O => cell_later ((Out.refl w1).alloc O) r2
  have a3 : ∀ O : Obj, (w1.alloc O).cell? ⟨w.heap.size, 3, none⟩ = some (.int .i64 f) := fun O => cell_later ((Out.refl w1).alloc O) b3
  have a4 : ∀ O : Obj, (w1.alloc O).cell? ⟨w.heap.size, 2, none⟩ = some (.int .i64 s) := fun O => cell_later ((Out.refl w1).alloc O) b2
  have HRa : Hid (∀ O : Obj, (w1.alloc O).heap[w.heap.size + 1]? = some (.cells #[.int .u8 0, .int .u8 0, .int .u8 0] 133 (0, 0))) := fun O => (Below.heap_alloc w1 O _ (Array.getElem?_eq_some_iff.1 HR.out).1).trans HR.out
  have g0 : ∀ O : Obj, (w1.alloc O).frozen? ⟨w.heap.size + 1, 0, none⟩ = false := fun O => by simp [World.frozen?, HRa.out O]
  have g1 : ∀ O : Obj, (w1.alloc O).frozen? ⟨w.heap.size + 1, 1, none⟩ = false := fun O => by simp [World.frozen?, HRa.out O]
  have g2 : ∀ O : Obj, (w1.alloc O).frozen? ⟨w.heap.size + 1, 2, none⟩ = false := fun O => by simp [World.frozen?, HRa.out O]
  go_wp2
  refine bodyPost_ret (results_cell_row rfl _ _ (w.heap.size + 1) 133 _ (0, 0) _ rfl (set3_heap (HRa.out _)) Tryz.underlying133 rfl size64) rfl ?_
  exact ⟨by first | rfl | simp [opdV, opdsP, *], (((Ho1.out.alloc _).setCell (a := ⟨w.heap.size + 1, 0, none⟩) (by simp) _).setCell (a := ⟨w.heap.size + 1, 1, none⟩) (by simp) _).setCell (a := ⟨w.heap.size + 1, 2, none⟩) (by simp) _⟩
theorem opds_5f (o d s f i c g : Int) (u1 u2 u3 u4 : Bool) (w : World) (CI : Hid (∀ wx : World, Out w wx → Calls Tryz.prog 123 #[.int .i64 o] wx fun e w' => e = .returned (.tuple #[.agg #[.int .i64 c, .int .i64 g, .bool u1, .bool u2, .bool u3, .bool u4], .int .i64 0]) ∧ Out wx w')) (hc : c = 5) (hu : u2 = false) : Calls Tryz.prog 85 #[.agg #[.int .i64 o, .int .i64 d, .int .i64 s, .int .i64 f, .int .i64 i]] w fun e w' => e = .returned (opdV (opdsP c s f u2)) ∧ Out w w' := by
  subst hc hu
  have HBX : Hid (((w.alloc (.cells #[.int .i64 o, .int .i64 d, .int .i64 s, .int .i64 f, .int .i64 i] 58)).alloc (.cells #[.int .u8 0, .int .u8 0, .int .u8 0] 133)).cell? ⟨w.heap.size, 2, none⟩ = some (.int .i64 s) ∧ ((w.alloc (.cells #[.int .i64 o, .int .i64 d, .int .i64 s, .int .i64 f, .int .i64 i] 58)).alloc (.cells #[.int .u8 0, .int .u8 0, .int .u8 0] 133)).cell? ⟨w.heap.size, 3, none⟩ = some (.int .i64 f) ∧ (∀ j : Fin 3, ((w.alloc (.cells #[.int .i64 o, .int .i64 d, .int .i64 s, .int .i64 f, .int .i64 i] 58)).alloc (.cells #[.int .u8 0, .int .u8 0, .int .u8 0] 133)).cell? ⟨w.heap.size + 1, j.val, none⟩ = some (.int .u8 0)) ∧ ((w.alloc (.cells #[.int .i64 o, .int .i64 d, .int .i64 s, .int .i64 f, .int .i64 i] 58)).alloc (.cells #[.int .u8 0, .int .u8 0, .int .u8 0] 133)).heap[w.heap.size + 1]? = some (.cells #[.int .u8 0, .int .u8 0, .int .u8 0] 133 (0, 0))) := by
    generalize hB : w.alloc (.cells #[.int .i64 o, .int .i64 d, .int .i64 s, .int .i64 f, .int .i64 i] 58) = wB
    have hz : wB.heap.size = w.heap.size + 1 := by rw [← hB, size_alloc]
    have hx : wB.heap[w.heap.size]? = some (.cells #[.int .i64 o, .int .i64 d, .int .i64 s, .int .i64 f, .int .i64 i] 58 (0, 0)) := by rw [← hB]; exact heap_alloc_new w _
    have hn : (wB.alloc (.cells #[.int .u8 0, .int .u8 0, .int .u8 0] 133)).heap[w.heap.size + 1]? = some (.cells #[.int .u8 0, .int .u8 0, .int .u8 0] 133 (0, 0)) := by rw [← hz]; exact heap_alloc_new wB _
    have ho : (wB.alloc (.cells #[.int .u8 0, .int .u8 0, .int .u8 0] 133)).heap[w.heap.size]? = some (.cells #[.int .i64 o, .int .i64 d, .int .i64 s, .int .i64 f, .int .i64 i] 58 (0, 0)) := (Below.heap_alloc wB _ _ (by omega)).trans hx
    refine ⟨by simp [World.cell?, ho], by simp [World.cell?, ho], fun j => ?_, hn⟩
    match j with
    | 0 => simp [World.cell?, hn]
    | 1 => simp [World.cell?, hn]
    | 2 => simp [World.cell?, hn]
  go_enter Tryz.func85, Tryz.ntmps85
  go_upto_region 2 with (go_at_call 123; go_loud (refine (CI.out _ (((Out.refl w).alloc _).alloc _)).mono ?_); rintro e w1 ⟨rfl, ho1⟩; have Hb := hidOf ho1; clear ho1)
  have Ho1 := hidOf (Out.trans (((Out.refl w).alloc _).alloc _) Hb.out)
  have b3 := cell_later Hb.out HBX.out.2.1
  have b2 := cell_later Hb.out HBX.out.1
  have r0 := cell_later Hb.out (HBX.out.2.2.1 0)
  have r1 := cell_later Hb.out (HBX.out.2.2.1 1)
  have r2 := cell_later Hb.out (HBX.out.2.2.1 2)
  simp only [Fin.isValue, Fin.val_zero, Fin.val_one, Fin.val_two] at r0 r1 r2
  have HR : Hid (w1.heap[w.heap.size + 1]? = some (.cells #[.int .u8 0, .int .u8 0, .int .u8 0] 133 (0, 0))) := (Below.block Hb.out _ (by rw [size_alloc, size_alloc]; omega)).trans HBX.out.2.2.2
  have a0 : ∀ O : Obj, (w1.alloc O).cell? ⟨w.heap.size + 1, 0, none⟩ = some (.int .u8 0) := fun O => cell_later ((Out.refl w1).alloc O) r0
  have a1 : ∀ O : Obj, (w1.alloc O).cell? ⟨w.heap.size + 1, 1, none⟩ = some (.int .u8 0) := fun O => cell_later ((Out.refl w1).alloc O) r1
  have a2 : ∀ O : Obj, (w1.alloc O).cell? ⟨w.heap.size + 1, 2, none⟩ = some (.int .u8 0) := fun O => cell_later ((Out.refl w1).alloc O) r2
  have a3 : ∀ O : Obj, (w1.alloc O).cell? ⟨w.heap.size, 3, none⟩ = some (.int .i64 f) := fun O => cell_later ((Out.refl w1).alloc O) b3
  have a4 : ∀ O : Obj, (w1.alloc O).cell? ⟨w.heap.size, 2, none⟩ = some (.int .i64 s) := fun O => cell_later ((Out.refl w1).alloc O) b2
  have HRa : Hid (∀ O : Obj, (w1.alloc O).heap[w.heap.size + 1]? = some (.cells #[.int .u8 0, .int .u8 0, .int .u8 0] 133 (0, 0))) := fun O => (Below.heap_alloc w1 O _ (Array.getElem?_eq_some_iff.1 HR.out).1).trans HR.out
  have g0 : ∀ O : Obj, (w1.alloc O).frozen? ⟨w.heap.size + 1, 0, none⟩ = false := fun O => by simp [World.frozen?, HRa.out O]
  have g1 : ∀ O : Obj, (w1.alloc O).frozen? ⟨w.heap.size + 1, 1, none⟩ = false := fun O => by simp [World.frozen?, HRa.out O]
  have g2 : ∀ O : Obj, (w1.alloc O).frozen? ⟨w.heap.size + 1, 2, none⟩ = false := fun O => by simp [World.frozen?, HRa.out O]
  go_wp2
  refine bodyPost_ret (results_cell_row rfl _ _ (w.heap.size + 1) 133 _ (0, 0) _ rfl (set3_heap (HRa.out _)) Tryz.underlying133 rfl size64) rfl ?_
  exact ⟨by first | rfl | simp [opdV, opdsP, *], (((Ho1.out.alloc _).setCell (a := ⟨w.heap.size + 1, 0, none⟩) (by simp) _).setCell (a := ⟨w.heap.size + 1, 1, none⟩) (by simp) _).setCell (a := ⟨w.heap.size + 1, 2, none⟩) (by simp) _⟩
theorem opds_6t (o d s f i c g : Int) (u1 u2 u3 u4 : Bool) (w : World) (CI : Hid (∀ wx : World, Out w wx → Calls Tryz.prog 123 #[.int .i64 o] wx fun e w' => e = .returned (.tuple #[.agg #[.int .i64 c, .int .i64 g, .bool u1, .bool u2, .bool u3, .bool u4], .int .i64 0]) ∧ Out wx w')) (hc : c = 6) (hu : u2 = true) : Calls Tryz.prog 85 #[.agg #[.int .i64 o, .int .i64 d, .int .i64 s, .int .i64 f, .int .i64 i]] w fun e w' => e = .returned (opdV (opdsP c s f u2)) ∧ Out w w' := by
  subst hc hu
  have HBX : Hid (((w.alloc (.cells #[.int .i64 o, .int .i64 d, .int .i64 s, .int .i64 f, .int .i64 i] 58)).alloc (.cells #[.int .u8 0, .int .u8 0, .int .u8 0] 133)).cell? ⟨w.heap.size, 2, none⟩ = some (.int .i64 s) ∧ ((w.alloc (.cells #[.int .i64 o, .int .i64 d, .int .i64 s, .int .i64 f, .int .i64 i] 58)).alloc (.cells #[.int .u8 0, .int .u8 0, .int .u8 0] 133)).cell? ⟨w.heap.size, 3, none⟩ = some (.int .i64 f) ∧ (∀ j : Fin 3, ((w.alloc (.cells #[.int .i64 o, .int .i64 d, .int .i64 s, .int .i64 f, .int .i64 i] 58)).alloc (.cells #[.int .u8 0, .int .u8 0, .int .u8 0] 133)).cell? ⟨w.heap.size + 1, j.val, none⟩ = some (.int .u8 0)) ∧ ((w.alloc (.cells #[.int .i64 o, .int .i64 d, .int .i64 s, .int .i64 f, .int .i64 i] 58)).alloc (.cells #[.int .u8 0, .int .u8 0, .int .u8 0] 133)).heap[w.heap.size + 1]? = some (.cells #[.int .u8 0, .int .u8 0, .int .u8 0] 133 (0, 0))) := by
    generalize hB : w.alloc (.cells #[.int .i64 o, .int .i64 d, .int .i64 s, .int .i64 f, .int .i64 i] 58) = wB
    have hz : wB.heap.size = w.heap.size + 1 := by rw [← hB, size_alloc]
    have hx : wB.heap[w.heap.size]? = some (.cells #[.int .i64 o, .int .i64 d, .int .i64 s, .int .i64 f, .int .i64 i] 58 (0, 0)) := by rw [← hB]; exact heap_alloc_new w _
    have hn : (wB.alloc (.cells #[.int .u8 0, .int .u8 0, .int .u8 0] 133)).heap[w.heap.size + 1]? = some (.cells #[.int .u8 0, .int .u8 0, .int .u8 0] 133 (0, 0)) := by rw [← hz]; exact heap_alloc_new wB _
    have ho : (wB.alloc (.cells #[.int .u8 0, .int .u8 0, .int .u8 0] 133)).heap[w.heap.size]? = some (.cells #[.int .i64 o, .int .i64 d, .int .i64 s, .int .i64 f, .int .i64 i] 58 (0, 0)) := (Below.heap_alloc wB _ _ (by omega)).trans hx
    refine ⟨by simp [World.cell?, ho], by simp [World.cell?, ho], fun j => ?_, hn⟩
    match j with
    | 0 => simp [World.cell?, hn]
    | 1 => simp [World.cell?, hn]
    | 2 => simp [World.cell?, hn]
  go_enter Tryz.func85, Tryz.ntmps85
  go_upto_region 2 with (go_at_call 123; go_loud (refine (CI.out _ (((Out.refl w).alloc _).alloc _)).mono ?_); rintro e w1 ⟨rfl, ho1⟩; have Hb := hidOf ho1; clear ho1)
  have Ho1 := hidOf (Out.trans (((Out.refl w).alloc _).alloc _) Hb.out)
  have b3 := cell_later Hb.out HBX.out.2.1
  have b2 := cell_later Hb.out HBX.out.1
  have r0 := cell_later Hb.out (HBX.out.2.2.1 0)
  have r1 := cell_later Hb.out (HBX.out.2.2.1 1)
  have r2 := cell_later Hb.out (HBX.out.2.2.1 2)
  simp only [Fin.isValue, Fin.val_zero, Fin.val_one, Fin.val_two] at r0 r1 r2
  have HR : Hid (w1.heap[w.heap.size + 1]? = some (.cells #[.int .u8 0, .int .u8 0, .int .u8 0] 133 (0, 0))) := (Below.block Hb.out _ (by rw [size_alloc, size_alloc]; omega)).trans HBX.out.2.2.2
  have a0 : ∀ O : Obj, (w1.alloc O).cell? ⟨w.heap.size + 1, 0, none⟩ = some (.int .u8 0) := fun O => cell_later ((Out.refl w1).alloc O) r0
  have a1 : ∀ O : Obj, (w1.alloc O).cell? ⟨w.heap.size + 1, 1, none⟩ = some (.int .u8 0) := fun O => cell_later ((Out.refl w1).alloc O) r1
  have a2 : ∀ O : Obj, (w1.alloc O).cell? ⟨w.heap.size + 1, 2, none⟩ = some (.int .u8 0) := fun O => cell_later ((Out.refl w1).alloc O) r2
  have a3 : ∀ O : Obj, (w1.alloc O).cell? ⟨w.heap.size, 3, none⟩ = some (.int .i64 f) := fun O => cell_later ((Out.refl w1).alloc O) b3
  have a4 : ∀ O : Obj, (w1.alloc O).cell? ⟨w.heap.size, 2, none⟩ = some (.int .i64 s) := fun O => cell_later ((Out.refl w1).alloc O) b2
  have HRa : Hid (∀ O : Obj, (w1.alloc O).heap[w.heap.size + 1]? = some (.cells #[.int .u8 0, .int .u8 0, .int .u8 0] 133 (0, 0))) := fun O => (Below.heap_alloc w1 O _ (Array.getElem?_eq_some_iff.1 HR.out).1).trans HR.out
  have g0 : ∀ O : Obj, (w1.alloc O).frozen? ⟨w.heap.size + 1, 0, none⟩ = false := fun O => by simp [World.frozen?, HRa.out O]
  have g1 : ∀ O : Obj, (w1.alloc O).frozen? ⟨w.heap.size + 1, 1, none⟩ = false := fun O => by simp [World.frozen?, HRa.out O]
  have g2 : ∀ O : Obj, (w1.alloc O).frozen? ⟨w.heap.size + 1, 2, none⟩ = false := fun O => by simp [World.frozen?, HRa.out O]
  go_wp2
  refine bodyPost_ret (results_cell_row rfl _ _ (w.heap.size + 1) 133 _ (0, 0) _ rfl (set3_heap (HRa.out _)) Tryz.underlying133 rfl size64) rfl ?_
  exact ⟨by first | rfl | simp [opdV, opdsP, *], (((Ho1.out.alloc _).setCell (a := ⟨w.heap.size + 1, 0, none⟩) (by simp) _).setCell (a := ⟨w.heap.size + 1, 1, none⟩) (by simp) _).setCell (a := ⟨w.heap.size + 1, 2, none⟩) (by simp) _⟩
theorem opds_6f (o d s f i c g : Int) (u1 u2 u3 u4 : Bool) (w : World) (CI : Hid (∀ wx : World, Out w wx → Calls Tryz.prog 123 #[.int .i64 o] wx fun e w' => e = .returned (.tuple #[.agg #[.int .i64 c, .int .i64 g, .bool u1, .bool u2, .bool u3, .bool u4], .int .i64 0]) ∧ Out wx w')) (hc : c = 6) (hu : u2 = false) : Calls Tryz.prog 85 #[.agg #[.int .i64 o, .int .i64 d, .int .i64 s, .int .i64 f, .int .i64 i]] w fun e w' => e = .returned (opdV (opdsP c s f u2)) ∧ Out w w' := by
  subst hc hu
  have HBX : Hid (((w.alloc (.cells #[.int .i64 o, .int .i64 d, .int .i64 s, .int .i64 f, .int .i64 i] 58)).alloc (.cells #[.int .u8 0, .int .u8 0, .int .u8 0] 133)).cell? ⟨w.heap.size, 2, none⟩ = some (.int .i64 s) ∧ ((w.alloc (.cells #[.int .i64 o, .int .i64 d, .int .i64 s, .int .i64 f, .int .i64 i] 58)).alloc (.cells #[.int .u8 0, .int .u8 0, .int .u8 0] 133)).cell? ⟨w.heap.size, 3, none⟩ = some (.int .i64 f) ∧ (∀ j : Fin 3, ((w.alloc (.cells #[.int .i64 o, .int .i64 d, .int .i64 s, .int .i64 f, .int .i64 i] 58)).alloc (.cells #[.int .u8 0, .int .u8 0, .int .u8 0] 133)).cell? ⟨w.heap.size + 1, j.val, none⟩ = some (.int .u8 0)) ∧ ((w.alloc (.cells #[.int .i64 o, .int .i64 d, .int .i64 s, .int .i64 f, .int .i64 i] 58)).alloc (.cells #[.int .u8 0, .int .u8 0, .int .u8 0] 133)).heap[w.heap.size + 1]? = some (.cells #[.int .u8 0, .int .u8 0, .int .u8 0] 133 (0, 0))) := by
    generalize hB : w.alloc (.cells #[.int .i64 o, .int .i64 d, .int .i64 s, .int .i64 f, .int .i64 i] 58) = wB
    have hz : wB.heap.size = w.heap.size + 1 := by rw [← hB, size_alloc]
    have hx : wB.heap[w.heap.size]? = some (.cells #[.int .i64 o, .int .i64 d, .int .i64 s, .int .i64 f, .int .i64 i] 58 (0, 0)) := by rw [← hB]; exact heap_alloc_new w _
    have hn : (wB.alloc (.cells #[.int .u8 0, .int .u8 0, .int .u8 0] 133)).heap[w.heap.size + 1]? = some (.cells #[.int .u8 0, .int .u8 0, .int .u8 0] 133 (0, 0)) := by rw [← hz]; exact heap_alloc_new wB _
    have ho : (wB.alloc (.cells #[.int .u8 0, .int .u8 0, .int .u8 0] 133)).heap[w.heap.size]? = some (.cells #[.int .i64 o, .int .i64 d, .int .i64 s, .int .i64 f, .int .i64 i] 58 (0, 0)) := (Below.heap_alloc wB _ _ (by omega)).trans hx
    refine ⟨by simp [World.cell?, ho], by simp [World.cell?, ho], fun j => ?_, hn⟩
    match j with
    | 0 => simp [World.cell?, hn]
    | 1 => simp [World.cell?, hn]
    | 2 => simp [World.cell?, hn]
  go_enter Tryz.func85, Tryz.ntmps85
  go_upto_region 2 with (go_at_call 123; go_loud (refine (CI.out _ (((Out.refl w).alloc _).alloc _)).mono ?_); rintro e w1 ⟨rfl, ho1⟩; have Hb := hidOf ho1; clear ho1)
  have Ho1 := hidOf (Out.trans (((Out.refl w).alloc _).alloc _) Hb.out)
  have b3 := cell_later Hb.out HBX.out.2.1
  have b2 := cell_later Hb.out HBX.out.1
  have r0 := cell_later Hb.out (HBX.out.2.2.1 0)
  have r1 := cell_later Hb.out (HBX.out.2.2.1 1)
  have r2 := cell_later Hb.out (HBX.out.2.2.1 2)
  simp only [Fin.isValue, Fin.val_zero, Fin.val_one, Fin.val_two] at r0 r1 r2
  have HR : Hid (w1.heap[w.heap.size + 1]? = some (.cells #[.int .u8 0, .int .u8 0, .int .u8 0] 133 (0, 0))) := (Below.block Hb.out _ (by rw [size_alloc, size_alloc]; omega)).trans HBX.out.2.2.2
  have a0 : ∀ O : Obj, (w1.alloc O).cell? ⟨w.heap.size + 1, 0, none⟩ = some (.int .u8 0) := fun O => cell_later ((Out.refl w1).alloc O) r0
  have a1 : ∀ O : Obj, (w1.alloc O).cell? ⟨w.heap.size + 1, 1, none⟩ = some (.int .u8 0) := fun O => cell_later ((Out.refl w1).alloc O) r1
  have a2 : ∀ O : Obj, (w1.alloc O).cell? ⟨w.heap.size + 1, 2, none⟩ = some (.int .u8 0) := fun O => cell_later ((Out.refl w1).alloc O) r2
  have a3 : ∀ O : Obj, (w1.alloc O).cell? ⟨w.heap.size, 3, none⟩ = some (.int .i64 f) := fun O => cell_later ((Out.refl w1).alloc O) b3
  have a4 : ∀ O : Obj, (w1.alloc O).cell? ⟨w.heap.size, 2, none⟩ = some (.int .i64 s) := fun O => cell_later ((Out.refl w1).alloc O) b2
  have HRa : Hid (∀ O : Obj, (w1.alloc O).heap[w.heap.size + 1]? = some (.cells #[.int .u8 0, .int .u8 0, .int .u8 0] 133 (0, 0))) := fun O => (Below.heap_alloc w1 O _ (Array.getElem?_eq_some_iff.1 HR.out).1).trans HR.out
  have g0 : ∀ O : Obj, (w1.alloc O).frozen? ⟨w.heap.size + 1, 0, none⟩ = false := fun O => by simp [World.frozen?, HRa.out O]
  have g1 : ∀ O : Obj, (w1.alloc O).frozen? ⟨w.heap.size + 1, 1, none⟩ = false := fun O => by simp [World.frozen?, HRa.out O]
  have g2 : ∀ O : Obj, (w1.alloc O).frozen? ⟨w.heap.size + 1, 2, none⟩ = false := fun O => by simp [World.frozen?, HRa.out O]
  go_wp2
  refine bodyPost_ret (results_cell_row rfl _ _ (w.heap.size + 1) 133 _ (0, 0) _ rfl (set3_heap (HRa.out _)) Tryz.underlying133 rfl size64) rfl ?_
  exact ⟨by first | rfl | simp [opdV, opdsP, *], (((Ho1.out.alloc _).setCell (a := ⟨w.heap.size + 1, 0, none⟩) (by simp) _).setCell (a := ⟨w.heap.size + 1, 1, none⟩) (by simp) _).setCell (a := ⟨w.heap.size + 1, 2, none⟩) (by simp) _⟩
theorem opds_10t (o d s f i c g : Int) (u1 u2 u3 u4 : Bool) (w : World) (CI : Hid (∀ wx : World, Out w wx → Calls Tryz.prog 123 #[.int .i64 o] wx fun e w' => e = .returned (.tuple #[.agg #[.int .i64 c, .int .i64 g, .bool u1, .bool u2, .bool u3, .bool u4], .int .i64 0]) ∧ Out wx w')) (hc : c = 10) (hs : s = 1) : Calls Tryz.prog 85 #[.agg #[.int .i64 o, .int .i64 d, .int .i64 s, .int .i64 f, .int .i64 i]] w fun e w' => e = .returned (opdV (opdsP c s f u2)) ∧ Out w w' := by
  subst hc
  have hs1 : (s == 1) = true := by simpa using hs
  have Hs := hidOf hs
  clear hs
  have HBX : Hid (((w.alloc (.cells #[.int .i64 o, .int .i64 d, .int .i64 s, .int .i64 f, .int .i64 i] 58)).alloc (.cells #[.int .u8 0, .int .u8 0, .int .u8 0] 133)).cell? ⟨w.heap.size, 2, none⟩ = some (.int .i64 s) ∧ ((w.alloc (.cells #[.int .i64 o, .int .i64 d, .int .i64 s, .int .i64 f, .int .i64 i] 58)).alloc (.cells #[.int .u8 0, .int .u8 0, .int .u8 0] 133)).cell? ⟨w.heap.size, 3, none⟩ = some (.int .i64 f) ∧ (∀ j : Fin 3, ((w.alloc (.cells #[.int .i64 o, .int .i64 d, .int .i64 s, .int .i64 f, .int .i64 i] 58)).alloc (.cells #[.int .u8 0, .int .u8 0, .int .u8 0] 133)).cell? ⟨w.heap.size + 1, j.val, none⟩ = some (.int .u8 0)) ∧ ((w.alloc (.cells #[.int .i64 o, .int .i64 d, .int .i64 s, .int .i64 f, .int .i64 i] 58)).alloc (.cells #[.int .u8 0, .int .u8 0, .int .u8 0] 133)).heap[w.heap.size + 1]? = some (.cells #[.int .u8 0, .int .u8 0, .int .u8 0] 133 (0, 0))) := by
    generalize hB : w.alloc (.cells #[.int .i64 o, .int .i64 d, .int .i64 s, .int .i64 f, .int .i64 i] 58) = wB
    have hz : wB.heap.size = w.heap.size + 1 := by rw [← hB, size_alloc]
    have hx : wB.heap[w.heap.size]? = some (.cells #[.int .i64 o, .int .i64 d, .int .i64 s, .int .i64 f, .int .i64 i] 58 (0, 0)) := by rw [← hB]; exact heap_alloc_new w _
    have hn : (wB.alloc (.cells #[.int .u8 0, .int .u8 0, .int .u8 0] 133)).heap[w.heap.size + 1]? = some (.cells #[.int .u8 0, .int .u8 0, .int .u8 0] 133 (0, 0)) := by rw [← hz]; exact heap_alloc_new wB _
    have ho : (wB.alloc (.cells #[.int .u8 0, .int .u8 0, .int .u8 0] 133)).heap[w.heap.size]? = some (.cells #[.int .i64 o, .int .i64 d, .int .i64 s, .int .i64 f, .int .i64 i] 58 (0, 0)) := (Below.heap_alloc wB _ _ (by omega)).trans hx
    refine ⟨by simp [World.cell?, ho], by simp [World.cell?, ho], fun j => ?_, hn⟩
    match j with
    | 0 => simp [World.cell?, hn]
    | 1 => simp [World.cell?, hn]
    | 2 => simp [World.cell?, hn]
  go_enter Tryz.func85, Tryz.ntmps85
  go_upto_region 2 with (go_at_call 123; go_loud (refine (CI.out _ (((Out.refl w).alloc _).alloc _)).mono ?_); rintro e w1 ⟨rfl, ho1⟩; have Hb := hidOf ho1; clear ho1)
  have Ho1 := hidOf (Out.trans (((Out.refl w).alloc _).alloc _) Hb.out)
  have b3 := cell_later Hb.out HBX.out.2.1
  have b2 := cell_later Hb.out HBX.out.1
  have r0 := cell_later Hb.out (HBX.out.2.2.1 0)
  have r1 := cell_later Hb.out (HBX.out.2.2.1 1)
  have r2 := cell_later Hb.out (HBX.out.2.2.1 2)
  simp only [Fin.isValue, Fin.val_zero, Fin.val_one, Fin.val_two] at r0 r1 r2
  have HR : Hid (w1.heap[w.heap.size + 1]? = some (.cells #[.int .u8 0, .int .u8 0, .int .u8 0] 133 (0, 0))) := (Below.block Hb.out _ (by rw [size_alloc, size_alloc]; omega)).trans HBX.out.2.2.2
  have a0 : ∀ O : Obj, (w1.alloc O).cell? ⟨w.heap.size + 1, 0, none⟩ = some (.int .u8 0) := fun O => cell_later ((Out.refl w1).alloc O) r0
  have a1 : ∀ O : Obj, (w1.alloc O).cell? ⟨w.heap.size + 1, 1, none⟩ = some (.int .u8 0) := fun O => cell_later ((Out.refl w1).alloc O) r1
  have a2 : ∀ O : Obj, (w1.alloc O).cell? ⟨w.heap.size + 1, 2, none⟩ = some (.int .u8 0) := fun O => cell_later ((Out.refl w1).alloc O) r2
  have a3 : ∀ O : Obj, (w1.alloc O).cell? ⟨w.heap.size, 3, none⟩ = some (.int .i64 f) := fun O => cell_later ((Out.refl w1).alloc O) b3
  have a4 : ∀ O : Obj, (w1.alloc O).cell? ⟨w.heap.size, 2, none⟩ = some (.int .i64 s) := fun O => cell_later ((Out.refl w1).alloc O) b2
  have HRa : Hid (∀ O : Obj, (w1.alloc O).heap[w.heap.size + 1]? = some (.cells #[.int .u8 0, .int .u8 0, .int .u8 0] 133 (0, 0))) := fun O => (Below.heap_alloc w1 O _ (Array.getElem?_eq_some_iff.1 HR.out).1).trans HR.out
  have g0 : ∀ O : Obj, (w1.alloc O).frozen? ⟨w.heap.size + 1, 0, none⟩ = false := fun O => by simp [World.frozen?, HRa.out O]
  have g1 : ∀ O : Obj, (w1.alloc O).frozen? ⟨w.heap.size + 1, 1, none⟩ = false := fun O => by simp [World.frozen?, HRa.out O]
  have g2 : ∀ O : Obj, (w1.alloc O).frozen? ⟨w.heap.size + 1, 2, none⟩ = false := fun O => by simp [World.frozen?, HRa.out O]
  go_wp2
  refine bodyPost_ret (results_cell_row rfl _ _ (w.heap.size + 1) 133 _ (0, 0) _ rfl (set3_heap (HRa.out _)) Tryz.underlying133 rfl size64) rfl ?_
  exact ⟨by simp [opdV, opdsP, Hs.out], (((Ho1.out.alloc _).setCell (a := ⟨w.heap.size + 1, 0, none⟩) (by simp) _).setCell (a := ⟨w.heap.size + 1, 1, none⟩) (by simp) _).setCell (a := ⟨w.heap.size + 1, 2, none⟩) (by simp) _⟩
theorem opds_10f (o d s f i c g : Int) (u1 u2 u3 u4 : Bool) (w : World) (CI : Hid (∀ wx : World, Out w wx → Calls Tryz.prog 123 #[.int .i64 o] wx fun e w' => e = .returned (.tuple #[.agg #[.int .i64 c, .int .i64 g, .bool u1, .bool u2, .bool u3, .bool u4], .int .i64 0]) ∧ Out wx w')) (hc : c = 10) (hs : ¬ s = 1) : Calls Tryz.prog 85 #[.agg #[.int .i64 o, .int .i64 d, .int .i64 s, .int .i64 f, .int .i64 i]] w fun e w' => e = .returned (opdV (opdsP c s f u2)) ∧ Out w w' := by
  subst hc
  have hs1 : (s == 1) = false := by simpa using hs
  have HBX : Hid (((w.alloc (.cells #[.int .i64 o, .int .i64 d, .int .i64 s, .int .i64 f, .int .i64 i] 58)).alloc (.cells #[.int .u8 0, .int .u8 0, .int .u8 0] 133)).cell? ⟨w.heap.size, 2, none⟩ = some (.int .i64 s) ∧ ((w.alloc (.cells #[.int .i64 o, .int .i64 d, .int .i64 s, .int .i64 f, .int .i64 i] 58)).alloc (.cells #[.int .u8 0, .int .u8 0, .int .u8 0] 133)).cell? ⟨w.heap.size, 3, none⟩ = some (.int .i64 f) ∧ (∀ j : Fin 3, ((w.alloc (.cells #[.int .i64 o, .int .i64 d, .int .i64 s, .int .i64 f, .int .i64 i] 58)).alloc (.cells #[.int .u8 0, .int .u8 0, .int .u8 0] 133)).cell? ⟨w.heap.size + 1, j.val, none⟩ = some (.int .u8 0)) ∧ ((w.alloc (.cells #[.int .i64 o, .int .i64 d, .int .i64 s, .int .i64 f, .int .i64 i] 58)).alloc (.cells #[.int .u8 0, .int .u8 0, .int .u8 0] 133)).heap[w.heap.size + 1]? = some (.cells #[.int .u8 0, .int .u8 0, .int .u8 0] 133 (0, 0))) := by
    generalize hB : w.alloc (.cells #[.int .i64 o, .int .i64 d, .int .i64 s, .int .i64 f, .int .i64 i] 58) = wB
    have hz : wB.heap.size = w.heap.size + 1 := by rw [← hB, size_alloc]
    have hx : wB.heap[w.heap.size]? = some (.cells #[.int .i64 o, .int .i64 d, .int .i64 s, .int .i64 f, .int .i64 i] 58 (0, 0)) := by rw [← hB]; exact heap_alloc_new w _
    have hn : (wB.alloc (.cells #[.int .u8 0, .int .u8 0, .int .u8 0] 133)).heap[w.heap.size + 1]? = some (.cells #[.int .u8 0, .int .u8 0, .int .u8 0] 133 (0, 0)) := by rw [← hz]; exact heap_alloc_new wB _
    have ho : (wB.alloc (.cells #[.int .u8 0, .int .u8 0, .int .u8 0] 133)).heap[w.heap.size]? = some (.cells #[.int .i64 o, .int .i64 d, .int .i64 s, .int .i64 f, .int .i64 i] 58 (0, 0)) := (Below.heap_alloc wB _ _ (by omega)).trans hx
    refine ⟨by simp [World.cell?, ho], by simp [World.cell?, ho], fun j => ?_, hn⟩
    match j with
    | 0 => simp [World.cell?, hn]
    | 1 => simp [World.cell?, hn]
    | 2 => simp [World.cell?, hn]
  go_enter Tryz.func85, Tryz.ntmps85
  go_upto_region 2 with (go_at_call 123; go_loud (refine (CI.out _ (((Out.refl w).alloc _).alloc _)).mono ?_); rintro e w1 ⟨rfl, ho1⟩; have Hb := hidOf ho1; clear ho1)
  have Ho1 := hidOf (Out.trans (((Out.refl w).alloc _).alloc _) Hb.out)
  have b3 := cell_later Hb.out HBX.out.2.1
  have b2 := cell_later Hb.out HBX.out.1
  have r0 := cell_later Hb.out (HBX.out.2.2.1 0)
  have r1 := cell_later Hb.out (HBX.out.2.2.1 1)
  have r2 := cell_later Hb.out (HBX.out.2.2.1 2)
  simp only [Fin.isValue, Fin.val_zero, Fin.val_one, Fin.val_two] at r0 r1 r2
  have HR : Hid (w1.heap[w.heap.size + 1]? = some (.cells #[.int .u8 0, .int .u8 0, .int .u8 0] 133 (0, 0))) := (Below.block Hb.out _ (by rw [size_alloc, size_alloc]; omega)).trans HBX.out.2.2.2
  have a0 : ∀ O : Obj, (w1.alloc O).cell? ⟨w.heap.size + 1, 0, none⟩ = some (.int .u8 0) := fun O => cell_later ((Out.refl w1).alloc O) r0
  have a1 : ∀ O : Obj, (w1.alloc O).cell? ⟨w.heap.size + 1, 1, none⟩ = some (.int .u8 0) := fun O => cell_later ((Out.refl w1).alloc O) r1
  have a2 : ∀ O : Obj, (w1.alloc O).cell? ⟨w.heap.size + 1, 2, none⟩ = some (.int .u8 0) := fun O => cell_later ((Out.refl w1).alloc O) r2
  have a3 : ∀ O : Obj, (w1.alloc O).cell? ⟨w.heap.size, 3, none⟩ = some (.int .i64 f) := fun O => cell_later ((Out.refl w1).alloc O) b3
  have a4 : ∀ O : Obj, (w1.alloc O).cell? ⟨w.heap.size, 2, none⟩ = some (.int .i64 s) := fun O => cell_later ((Out.refl w1).alloc O) b2
  have HRa : Hid (∀ O : Obj, (w1.alloc O).heap[w.heap.size + 1]? = some (.cells #[.int .u8 0, .int .u8 0, .int .u8 0] 133 (0, 0))) := fun O => (Below.heap_alloc w1 O _ (Array.getElem?_eq_some_iff.1 HR.out).1).trans HR.out
  have g0 : ∀ O : Obj, (w1.alloc O).frozen? ⟨w.heap.size + 1, 0, none⟩ = false := fun O => by simp [World.frozen?, HRa.out O]
  have g1 : ∀ O : Obj, (w1.alloc O).frozen? ⟨w.heap.size + 1, 1, none⟩ = false := fun O => by simp [World.frozen?, HRa.out O]
  have g2 : ∀ O : Obj, (w1.alloc O).frozen? ⟨w.heap.size + 1, 2, none⟩ = false := fun O => by simp [World.frozen?, HRa.out O]
  go_wp2
  refine bodyPost_ret (results_cell_row rfl _ _ (w.heap.size + 1) 133 _ (0, 0) _ rfl (set3_heap (HRa.out _)) Tryz.underlying133 rfl size64) rfl ?_
  exact ⟨by first | rfl | simp [opdV, opdsP, *], (((Ho1.out.alloc _).setCell (a := ⟨w.heap.size + 1, 0, none⟩) (by simp) _).setCell (a := ⟨w.heap.size + 1, 1, none⟩) (by simp) _).setCell (a := ⟨w.heap.size + 1, 2, none⟩) (by simp) _⟩
theorem opds_no (o d s f i c g : Int) (u1 u2 u3 u4 : Bool) (w : World) (CI : Hid (∀ wx : World, Out w wx → Calls Tryz.prog 123 #[.int .i64 o] wx fun e w' => e = .returned (.tuple #[.agg #[.int .i64 c, .int .i64 g, .bool u1, .bool u2, .bool u3, .bool u4], .int .i64 0]) ∧ Out wx w')) (h2 : ¬ c = 2) (h3 : ¬ c = 3) (h4 : ¬ c = 4) (h5 : ¬ c = 5) (h6 : ¬ c = 6) (h7 : ¬ c = 7) (h8 : ¬ c = 8) (h9 : ¬ c = 9) (h10 : ¬ c = 10) : Calls Tryz.prog 85 #[.agg #[.int .i64 o, .int .i64 d, .int .i64 s, .int .i64 f, .int .i64 i]] w fun e w' => e = .returned (opdV (opdsP c s f u2)) ∧ Out w w' := by
  have e2 : (c == 2) = false := by simpa using h2
  have e3 : (c == 3) = false := by simpa using h3
  have e4 : (c == 4) = false := by simpa using h4
  have e5 : (c == 5) = false := by simpa using h5
  have e6 : (c == 6) = false := by simpa using h6
  have e7 : (c == 7) = false := by simpa using h7
  have e8 : (c == 8) = false := by simpa using h8
  have e9 : (c == 9) = false := by simpa using h9
  have e10 : (c == 10) = false := by simpa using h10
  have HBX : Hid (((w.alloc (.cells #[.int .i64 o, .int .i64 d, .int .i64 s, .int .i64 f, .int .i64 i] 58)).alloc (.cells #[.int .u8 0, .int .u8 0, .int .u8 0] 133)).cell? ⟨w.heap.size, 2, none⟩ = some (.int .i64 s) ∧ ((w.alloc (.cells #[.int .i64 o, .int .i64 d, .int .i64 s, .int .i64 f, .int .i64 i] 58)).alloc (.cells #[.int .u8 0, .int .u8 0, .int .u8 0] 133)).cell? ⟨w.heap.size, 3, none⟩ = some (.int .i64 f) ∧ (∀ j : Fin 3, ((w.alloc (.cells #[.int .i64 o, .int .i64 d, .int .i64 s, .int .i64 f, .int .i64 i] 58)).alloc (.cells #[.int .u8 0, .int .u8 0, .int .u8 0] 133)).cell? ⟨w.heap.size + 1, j.val, none⟩ = some (.int .u8 0)) ∧ ((w.alloc (.cells #[.int .i64 o, .int .i64 d, .int .i64 s, .int .i64 f, .int .i64 i] 58)).alloc (.cells #[.int .u8 0, .int .u8 0, .int .u8 0] 133)).heap[w.heap.size + 1]? = some (.cells #[.int .u8 0, .int .u8 0, .int .u8 0] 133 (0, 0))) := by
    generalize hB : w.alloc (.cells #[.int .i64 o, .int .i64 d, .int .i64 s, .int .i64 f, .int .i64 i] 58) = wB
    have hz : wB.heap.size = w.heap.size + 1 := by rw [← hB, size_alloc]
    have hx : wB.heap[w.heap.size]? = some (.cells #[.int .i64 o, .int .i64 d, .int .i64 s, .int .i64 f, .int .i64 i] 58 (0, 0)) := by rw [← hB]; exact heap_alloc_new w _
    have hn : (wB.alloc (.cells #[.int .u8 0, .int .u8 0, .int .u8 0] 133)).heap[w.heap.size + 1]? = some (.cells #[.int .u8 0, .int .u8 0, .int .u8 0] 133 (0, 0)) := by rw [← hz]; exact heap_alloc_new wB _
    have ho : (wB.alloc (.cells #[.int .u8 0, .int .u8 0, .int .u8 0] 133)).heap[w.heap.size]? = some (.cells #[.int .i64 o, .int .i64 d, .int .i64 s, .int .i64 f, .int .i64 i] 58 (0, 0)) := (Below.heap_alloc wB _ _ (by omega)).trans hx
    refine ⟨by simp [World.cell?, ho], by simp [World.cell?, ho], fun j => ?_, hn⟩
    match j with
    | 0 => simp [World.cell?, hn]
    | 1 => simp [World.cell?, hn]
    | 2 => simp [World.cell?, hn]
  go_enter Tryz.func85, Tryz.ntmps85
  go_upto_region 2 with (go_at_call 123; go_loud (refine (CI.out _ (((Out.refl w).alloc _).alloc _)).mono ?_); rintro e w1 ⟨rfl, ho1⟩; have Hb := hidOf ho1; clear ho1)
  have Ho1 := hidOf (Out.trans (((Out.refl w).alloc _).alloc _) Hb.out)
  have b3 := cell_later Hb.out HBX.out.2.1
  have b2 := cell_later Hb.out HBX.out.1
  have r0 := cell_later Hb.out (HBX.out.2.2.1 0)
  have r1 := cell_later Hb.out (HBX.out.2.2.1 1)
  have r2 := cell_later Hb.out (HBX.out.2.2.1 2)
  simp only [Fin.isValue, Fin.val_zero, Fin.val_one, Fin.val_two] at r0 r1 r2
  have HR : Hid (w1.heap[w.heap.size + 1]? = some (.cells #[.int .u8 0, .int .u8 0, .int .u8 0] 133 (0, 0))) := (Below.block Hb.out _ (by rw [size_alloc, size_alloc]; omega)).trans HBX.out.2.2.2
  have a0 : ∀ O : Obj, (w1.alloc O).cell? ⟨w.heap.size + 1, 0, none⟩ = some (.int .u8 0) := fun O => cell_later ((Out.refl w1).alloc O) r0
  have a1 : ∀ O : Obj, (w1.alloc O).cell? ⟨w.heap.size + 1, 1, none⟩ = some (.int .u8 0) := fun O => cell_later ((Out.refl w1).alloc O) r1
  have a2 : ∀ O : Obj, (w1.alloc O).cell? ⟨w.heap.size + 1, 2, none⟩ = some (.int .u8 0) := fun O => cell_later ((Out.refl w1).alloc O) r2
  have a3 : ∀ O : Obj, (w1.alloc O).cell? ⟨w.heap.size, 3, none⟩ = some (.int .i64 f) := fun O => cell_later ((Out.refl w1).alloc O) b3
  have a4 : ∀ O : Obj, (w1.alloc O).cell? ⟨w.heap.size, 2, none⟩ = some (.int .i64 s) := fun O => cell_later ((Out.refl w1).alloc O) b2
  have HRa : Hid (∀ O : Obj, (w1.alloc O).heap[w.heap.size + 1]? = some (.cells #[.int .u8 0, .int .u8 0, .int .u8 0] 133 (0, 0))) := fun O => (Below.heap_alloc w1 O _ (Array.getElem?_eq_some_iff.1 HR.out).1).trans HR.out
  have g0 : ∀ O : Obj, (w1.alloc O).frozen? ⟨w.heap.size + 1, 0, none⟩ = false := fun O => by simp [World.frozen?, HRa.out O]
  have g1 : ∀ O : Obj, (w1.alloc O).frozen? ⟨w.heap.size + 1, 1, none⟩ = false := fun O => by simp [World.frozen?, HRa.out O]
  have g2 : ∀ O : Obj, (w1.alloc O).frozen? ⟨w.heap.size + 1, 2, none⟩ = false := fun O => by simp [World.frozen?, HRa.out O]
  go_wp2
  refine bodyPost_ret (results_cell_row rfl _ _ (w.heap.size + 1) 133 _ (0, 0) _ rfl (set3_heap (HRa.out _)) Tryz.underlying133 rfl size64) rfl ?_
  exact ⟨by first | rfl | simp [opdV, opdsP, *], (((Ho1.out.alloc _).setCell (a := ⟨w.heap.size + 1, 0, none⟩) (by simp) _).setCell (a := ⟨w.heap.size + 1, 1, none⟩) (by simp) _).setCell (a := ⟨w.heap.size + 1, 2, none⟩) (by simp) _⟩
end Go.Proofs.YtkihaohdcgjioaaGreatDoor
