import Derived.Test.YtcjhgihpahnnoabGreatDoorGp
namespace Go.Proofs.YtcjhgihpahnnoabGreatDoor
open Go.RowKit
open Go.Maps (Keyed)
set_option linter.unusedVariables false
set_option linter.unusedSimpArgs false
/-- all that Parse looks into -/
def PEnv (w : World) : Prop := Env w ∧ WTabs w
theorem PEnv.out {w w' : World} (h : PEnv w) (o : Out w w') : PEnv w' := ⟨h.1.out o, h.2.out o⟩
def zero5 : Array Value := #[.int .i64 0, .int .i64 0, .int .i64 0, .int .i64 0, .int .i64 0]
theorem box_later {w1 wx w2 : World} (cs : Array Value) (t : TypeId) (hx : wx.heap = (w1.alloc (.cells cs t)).heap) (ho : Out wx w2) : (∀ j, w2.cell? ⟨w1.heap.size, j, none⟩ = cs[j]?) ∧ (∀ j, w2.frozen? ⟨w1.heap.size, j, none⟩ = false) ∧ ∃ cs', w2.heap[w1.heap.size]? = some (.cells cs t (0, 0)) ∧ cs' = cs := by
  have h1 : wx.heap[w1.heap.size]? = some (.cells cs t (0, 0)) := by rw [hx]; exact heap_alloc_new w1 _
  have hlt : w1.heap.size < wx.heap.size := (Array.getElem?_eq_some_iff.1 h1).1
  have h2 : w2.heap[w1.heap.size]? = some (.cells cs t (0, 0)) := (Below.block ho _ hlt).trans h1
  refine ⟨fun j => ?_, fun j => ?_, cs, h2, rfl⟩
  · simp [World.cell?, h2]
  · simp [World.frozen?, h2]
theorem via_wp {P : Program} {c : Code} {Q : Exit → Act → World → Prop} {a : Act} {W : World} (Φ : World → Prop) (hW : Φ W) (h : ∀ wz, Φ wz → Code.wp P c Q a wz) : Code.wp P c Q a W := h W hW
theorem via_world {R : Exit → Act → World → Prop} {e : Exit} {a : Act} {W : World} (Φ : World → Prop) (hW : Φ W) (h : ∀ wz, Φ wz → R e a wz) : R e a W := h W hW
/-- the results' block, as it was made -/
theorem res_cells {w wz : World} (h : Out (w.alloc (.cells zero5 26)) wz) : wz.heap[w.heap.size]? = some (.cells zero5 26 (0, 0)) :=
  (Below.block h _ (by rw [size_alloc]; omega)).trans (heap_alloc_new w _)
theorem blk_cell {w : World} {b : Nat} {cs : Array Value} {t : TypeId} (h : w.heap[b]? = some (.cells cs t (0, 0))) (j : Nat) : w.cell? ⟨b, j, none⟩ = cs[j]? ∧ w.frozen? ⟨b, j, none⟩ = false := by
  constructor
  · simp [World.cell?, h]
  · simp [World.frozen?, h]
theorem set5_heap {w : World} {b : Nat} {t : TypeId} {x0 x1 x2 x3 x4 u0 u1 u2 u3 u4 : Value} (h : w.heap[b]? = some (.cells #[u0, u1, u2, u3, u4] t (0, 0))) : (((((w.setCell ⟨b, 0, none⟩ x0).setCell ⟨b, 1, none⟩ x1).setCell ⟨b, 2, none⟩ x2).setCell ⟨b, 3, none⟩ x3).setCell ⟨b, 4, none⟩ x4).heap[b]? = some (.cells #[x0, x1, x2, x3, x4] t (0, 0)) := by
  simp [World.setCell, Array.getElem?_modify, h]
theorem MEnd.insn {w w1 : World} {p : Nat} {r : RS} (a : MEnd p r w w1) (o d s f i : Int) : MEnd p { r with o := o, d := d, s := s, f := f, i := i } w (((((w1.setCell ⟨p, 2, none⟩ (.int .i64 o)).setCell ⟨p, 3, none⟩ (.int .i64 d)).setCell ⟨p, 4, none⟩ (.int .i64 s)).setCell ⟨p, 5, none⟩ (.int .i64 f)).setCell ⟨p, 6, none⟩ (.int .i64 i)) :=
  ((((a.set (r2 := { r with o := o }) 2 _ rfl).set (r2 := { r with o := o, d := d }) 3 _ rfl).set (r2 := { r with o := o, d := d, s := s }) 4 _ rfl).set (r2 := { r with o := o, d := d, s := s, f := f }) 5 _ rfl).set 6 _ rfl
theorem set4_heap {w : World} {b : Nat} {t : TypeId} {x0 x1 x2 x3 u0 u1 u2 u3 : Value} (h : w.heap[b]? = some (.cells #[u0, u1, u2, u3] t (0, 0))) : ((((w.setCell ⟨b, 0, none⟩ x0).setCell ⟨b, 1, none⟩ x1).setCell ⟨b, 2, none⟩ x2).setCell ⟨b, 3, none⟩ x3).heap[b]? = some (.cells #[x0, x1, x2, x3] t (0, 0)) := by
  simp [World.setCell, Array.getElem?_modify, h]
theorem Out.set5 {w0 w : World} {b : Nat} (h : Out w0 w) (hb : w0.heap.size ≤ b) (x0 x1 x2 x3 x4 : Value) : Out w0 (((((w.setCell ⟨b, 0, none⟩ x0).setCell ⟨b, 1, none⟩ x1).setCell ⟨b, 2, none⟩ x2).setCell ⟨b, 3, none⟩ x3).setCell ⟨b, 4, none⟩ x4) :=
  ((((h.setCell (a := ⟨b, 0, none⟩) hb _).setCell (a := ⟨b, 1, none⟩) hb _).setCell (a := ⟨b, 2, none⟩) hb _).setCell (a := ⟨b, 3, none⟩) hb _).setCell (a := ⟨b, 4, none⟩) hb _
set_option maxRecDepth 40000 in
set_option maxHeartbeats 8000000 in
theorem parse_none (w : World) (l : List UInt8) (hE : PEnv w) (hl : l.length ≤ 140737488355328) (hm : meanOf (newR l).tok = none) : Calls Tryz.prog 7 #[.string ⟨l.toArray⟩] w fun e w' => e = .returned (.tuple #[.agg zero5, .string ⟨#[]⟩, .int .i64 40]) ∧ Out w w' := by
  have CN : Hid (∀ wx, Calls Tryz.prog 12 #[.string ⟨l.toArray⟩] wx fun e w' => ∃ p, e = .returned (.pointer (some ⟨p, 0, none⟩)) ∧ wx.heap.size ≤ p ∧ RdAt w' p (newR l).cells ∧ Out wx w') := fun wx => newReader_any wx l hl
  have CM : Hid (∀ wx, Out w wx → Calls Tryz.prog 13 #[.string ⟨(newR l).tok.toArray⟩] wx fun e w' => e = .returned (.tuple #[.agg #[.int .u8 0, .int .u8 0, .int .u8 0, .int .u8 0], .bool false]) ∧ Out wx w') := fun wx ho => (meaning_any wx _ (hE.2.out ho)).mono fun e w' ⟨a, b⟩ => ⟨by rw [a, hm]; rfl, b⟩
  have HSm := hidOf (newR_sm hl)
  have HM := hidOf hm
  have HEnv := hidOf hE.1
  clear hE hl hm
  generalize newR l = r at *
  go_enter Tryz.func7, Tryz.ntmps7
  go_wp2_with (first | (go_at_call 12; refine (CN.out _).mono ?_; rintro e w1 ⟨p, rfl, hp, hR, ho⟩; have H1 := hidOf hR; have Hp := hidOf hp; have Ho1 := hidOf (Out.trans ((Out.refl w).alloc _) ho); have HoA := hidOf ho; have d1 : w1.cell? ⟨p, 1, none⟩ = some (.string ⟨r.tok.toArray⟩) := hR.cell 1; clear hp hR ho))
  have nw1 := World.new_ne w1 ⟨p, 1, none⟩ d1
  go_at_call 13
  refine (CM.out w1 Ho1.out).mono ?_
  rintro e w2 ⟨rfl, ho⟩
  have d1A : w2.cell? ⟨p, 1, none⟩ = some (.string ⟨r.tok.toArray⟩) := cell_later ho d1
  have Hw2 : Hid (Out w1 w2) := ho
  have nw := World.new_ne w2 ⟨p, 1, none⟩ d1A
  clear ho
  go_upto_if 19 with fail
  refine via_wp (fun wz => Out w1 wz) (Hw2.out.alloc _) ?_
  all_goals intro wz hz
  all_goals have HB := hidOf (res_cells (Out.trans HoA.out hz))
  all_goals have HZ := hidOf (Out.trans Ho1.out hz)
  all_goals (have r0 : wz.cell? ⟨w.heap.size, 0, none⟩ = some (.int .i64 0) := (blk_cell HB.out 0).1; have r1 : wz.cell? ⟨w.heap.size, 1, none⟩ = some (.int .i64 0) := (blk_cell HB.out 1).1; have r2 : wz.cell? ⟨w.heap.size, 2, none⟩ = some (.int .i64 0) := (blk_cell HB.out 2).1; have r3 : wz.cell? ⟨w.heap.size, 3, none⟩ = some (.int .i64 0) := (blk_cell HB.out 3).1; have r4 : wz.cell? ⟨w.heap.size, 4, none⟩ = some (.int .i64 0) := (blk_cell HB.out 4).1; have f0 := (blk_cell HB.out 0).2; have f1 := (blk_cell HB.out 1).2; have f2 := (blk_cell HB.out 2).2; have f3 := (blk_cell HB.out 3).2; have f4 := (blk_cell HB.out 4).2)
  all_goals clear hz d1 d1A CM CN
  all_goals go_wp2
  all_goals refine bodyPost_ret (results_row_tmp2 rfl _ _ w.heap.size 26 #[.int .i64 0, .int .i64 0, .int .i64 0, .int .i64 0, .int .i64 0] (0, 0) _ rfl (set5_heap HB.out) Tryz.underlying26 rfl size5) rfl ?_
  all_goals exact ⟨rfl, HZ.out.set5 (Nat.le_refl _) _ _ _ _ _⟩
end Go.Proofs.YtcjhgihpahnnoabGreatDoor
