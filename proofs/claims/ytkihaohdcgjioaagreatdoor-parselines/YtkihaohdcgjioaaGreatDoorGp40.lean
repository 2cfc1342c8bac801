import Derived.Test.YtkihaohdcgjioaaGreatDoorGp35
namespace Go.Proofs.YtkihaohdcgjioaaGreatDoor
open Go.RowKit
open Go.Maps (Keyed)
set_option linter.unusedVariables false
set_option linter.unusedSimpArgs false
/-- what Parse hands out behind the operands -/
def PEnd (r : RS) (e : Ending) : Prop := (r.wrong = true ∧ e = .returned (.tuple #[.agg zero5, .string ⟨#[]⟩, .int .i64 41])) ∨ (r.wrong = false ∧ r.outside = true ∧ e = .returned (.tuple #[.agg zero5, .string ⟨#[]⟩, .int .i64 42])) ∨
  (r.wrong = false ∧ r.outside = false ∧ e = .returned (.tuple #[.agg #[.int .i64 r.o, .int .i64 r.d, .int .i64 r.s, .int .i64 r.f, .int .i64 r.i], .string ⟨r.tgt.toArray⟩, .int .i64 0]))
theorem heap_drew' (w : World) : w.drew.heap = w.heap := rfl
theorem set5_drew {w : World} {b : Nat} {t : TypeId} {x0 x1 x2 x3 x4 u0 u1 u2 u3 u4 : Value} (h : w.heap[b]? = some (.cells #[u0, u1, u2, u3, u4] t (0, 0))) : (((((w.setCell ⟨b, 0, none⟩ x0).setCell ⟨b, 1, none⟩ x1).setCell ⟨b, 2, none⟩ x2).setCell ⟨b, 3, none⟩ x3).setCell ⟨b, 4, none⟩ x4).drew.heap[b]? = some (.cells #[x0, x1, x2, x3, x4] t (0, 0)) := by
  rw [heap_drew']
  exact set5_heap h
theorem out5_drew {w0 w : World} {b : Nat} (h : Out w0 w) (hb : w0.heap.size ≤ b) (x0 x1 x2 x3 x4 : Value) : Out w0 (((((w.setCell ⟨b, 0, none⟩ x0).setCell ⟨b, 1, none⟩ x1).setCell ⟨b, 2, none⟩ x2).setCell ⟨b, 3, none⟩ x3).setCell ⟨b, 4, none⟩ x4).drew := (h.set5 hb x0 x1 x2 x3 x4).drew
set_option maxRecDepth 40000 in
set_option maxHeartbeats 8000000 in
theorem parse_some (w : World) (l : List UInt8) (hE : PEnv w) (hl : l.length ≤ 140737488355328) (o s f i : Int) (hm : meanOf (newR l).tok = some (o, s, f, i)) : Calls Tryz.prog 137 #[.string ⟨l.toArray⟩] w fun e w' => PEnd (behindS (o, s, f, i) (newR l)) e ∧ Out w w' := by
  have CN : Hid (∀ wx, Calls Tryz.prog 175 #[.string ⟨l.toArray⟩] wx fun e w' => ∃ p, e = .returned (.pointer (some ⟨p, 0, none⟩)) ∧ wx.heap.size ≤ p ∧ RdAt w' p (newR l).cells ∧ Out wx w') := fun wx => newReader_any wx l hl
  have CM : Hid (∀ wx, Out w wx → Calls Tryz.prog 176 #[.string ⟨(newR l).tok.toArray⟩] wx fun e w' => e = .returned (.tuple #[.agg #[.int .u8 o, .int .u8 s, .int .u8 f, .int .u8 i], .bool true]) ∧ Out wx w') := fun wx ho => (meaning_any wx _ (hE.2.out ho)).mono fun e w' ⟨a, b⟩ => ⟨by rw [a, hm]; rfl, b⟩
  have HSm := hidOf (newR_sm hl)
  have HM := hidOf hm
  have HEnv := hidOf hE.1
  have CI : Hid (∀ wx, Calls Tryz.prog 177 #[.agg #[.int .u8 o, .int .u8 s, .int .u8 f, .int .u8 i]] wx fun e w' => e = .returned (.agg #[.int .i64 o, .int .i64 0, .int .i64 s, .int .i64 f, .int .i64 i]) ∧ Out wx w') := fun wx => insn_any o s f i wx (mean_bd _ _ hm)
  have HF : Hid ((formP o == 0) = false) := by
    obtain ⟨x, hx, hx0, hxe⟩ := mean_mem _ _ hm
    have := (mean_f x hx hx0).1
    rw [hxe] at this
    simp only at this
    exact hidOf (by simp only [beq_eq_false_iff_ne]; omega)
  clear hE hl hm
  generalize newR l = r at *
  go_enter Tryz.func137, Tryz.ntmps137
  go_wp2_with (first | (go_at_call 175; refine (CN.out _).mono ?_; rintro e w1 ⟨p, rfl, hp, hR, ho⟩; have H1 := hidOf hR; have Hp := hidOf hp; have Ho1 := hidOf (Out.trans ((Out.refl w).alloc _) ho); have HoA := hidOf ho; have d1 : w1.cell? ⟨p, 1, none⟩ = some (.string ⟨r.tok.toArray⟩) := hR.cell 1; clear hp hR ho))
  have nw1 := World.new_ne w1 ⟨p, 1, none⟩ d1
  go_at_call 176
  refine (CM.out w1 Ho1.out).mono ?_
  rintro e w2 ⟨rfl, ho⟩
  have d1A : w2.cell? ⟨p, 1, none⟩ = some (.string ⟨r.tok.toArray⟩) := cell_later ho d1
  have Hw2 : Hid (Out w1 w2) := ho
  have nw := World.new_ne w2 ⟨p, 1, none⟩ d1A
  clear ho
  go_upto_if 19 with fail
  refine via_wp (fun wz => Out w1 wz ∧ ∀ j, wz.cell? ⟨w2.heap.size, j, none⟩ = (#[.int .u8 o, .int .u8 s, .int .u8 f, .int .u8 i] : Array Value)[j]?) ⟨Hw2.out.alloc _, fun j => new_cell w2 _ _ j⟩ ?_
  all_goals rintro wz ⟨hz, hbx⟩
  all_goals have HB := hidOf (res_cells (Out.trans HoA.out hz))
  all_goals have M0 : Hid (MEnd p r wz wz) := MEnd.refl (H1.out.below hz)
  all_goals have HRd : Hid (∀ wx r', MEnd p r' wz wx → Rdr (w.alloc (.cells #[.int .i64 0, .int .i64 0, .int .i64 0, .int .i64 0, .int .i64 0] 58)) p wx ∧ Out w wx) := fun wx r' m => (fun (hR : Rdr (w.alloc (.cells #[.int .i64 0, .int .i64 0, .int .i64 0, .int .i64 0, .int .i64 0] 58)) p wz) => ⟨hR.next m, Out.trans ((Out.refl w).alloc _) (m.out hR)⟩) ⟨HEnv.out.out ((Out.refl w).alloc _), Out.trans HoA.out hz, Hp.out⟩
  all_goals have CX : Hid (∀ wx, MEnd p { r with o := o, d := 0, s := s, f := f, i := i } wz wx → Calls Tryz.prog 178 #[.pointer (some ⟨p, 0, none⟩)] wx fun e w' => (∃ v, e = .returned v) ∧ MEnd p (RS.next { r with o := o, d := 0, s := s, f := f, i := i }) wz w') := nextM wz p { r with o := o, d := 0, s := s, f := f, i := i } HSm.out
  all_goals have CO : Hid (∀ wx, MEnd p (RS.next { r with o := o, d := 0, s := s, f := f, i := i }) wz wx → Calls Tryz.prog 179 #[.pointer (some ⟨p, 0, none⟩)] wx fun e w' => (∃ v, e = .returned v) ∧ MEnd p (behindS (o, s, f, i) r) wz w') := fun wx m => (operands_any (w.alloc (.cells #[.int .i64 0, .int .i64 0, .int .i64 0, .int .i64 0, .int .i64 0] 58)) wx p (hidOf (HRd.out wx _ m).1) _ m.1 (Sm.next (r := { r with o := o, d := 0, s := s, f := f, i := i }) HSm.out) HF.out).mono fun e w' ⟨a, b⟩ => ⟨a, m.trans b⟩
  all_goals (obtain ⟨rz, Hrz⟩ : ∃ rz, Hid (behindS (o, s, f, i) r = rz) := ⟨_, hidOf rfl⟩; rw [Hrz.out] at CO; generalize RS.next { r with o := o, d := 0, s := s, f := f, i := i } = rn at *)
  all_goals (first | (have c0 : wz.cell? ⟨w2.heap.size, 0, none⟩ = some (.int .u8 o) := hbx 0; have c1 : wz.cell? ⟨w2.heap.size, 1, none⟩ = some (.int .u8 s) := hbx 1; have c2 : wz.cell? ⟨w2.heap.size, 2, none⟩ = some (.int .u8 f) := hbx 2; have c3 : wz.cell? ⟨w2.heap.size, 3, none⟩ = some (.int .u8 i) := hbx 3) | (have c0 : wz.cell? ⟨w1.heap.size, 0, none⟩ = some (.int .u8 o) := hbx 0; have c1 : wz.cell? ⟨w1.heap.size, 1, none⟩ = some (.int .u8 s) := hbx 1; have c2 : wz.cell? ⟨w1.heap.size, 2, none⟩ = some (.int .u8 f) := hbx 2; have c3 : wz.cell? ⟨w1.heap.size, 3, none⟩ = some (.int .u8 i) := hbx 3))
  all_goals clear hz hbx d1 d1A CM CN
  all_goals go_wp2_with (first | (go_at_call 179; refine (CO.out _ M3.out).mono ?_; rintro e w6 ⟨⟨v6, rfl⟩, hm⟩; have M6 := hidOf hm; have HB6 := hidOf (res_cells (HRd.out _ _ hm).1.2.1); have HO6 := hidOf (HRd.out _ _ hm).2; have q8 := hm.cw.1; have q9 : w6.cell? ⟨p, 9, none⟩ = some (.bool rz.outside) := hm.1.cell 9; have q2 := hm.co.1; have q3 := hm.cd.1; have q4 := hm.cs.1; have q5 := hm.cf.1; have q6 := hm.ci.1; have q7 : w6.cell? ⟨p, 7, none⟩ = some (.string ⟨rz.tgt.toArray⟩) := hm.1.cell 7; have r0 : w6.cell? ⟨w.heap.size, 0, none⟩ = some (.int .i64 0) := (blk_cell HB6.out 0).1; have r1 : w6.cell? ⟨w.heap.size, 1, none⟩ = some (.int .i64 0) := (blk_cell HB6.out 1).1; have r2 : w6.cell? ⟨w.heap.size, 2, none⟩ = some (.int .i64 0) := (blk_cell HB6.out 2).1; have r3 : w6.cell? ⟨w.heap.size, 3, none⟩ = some (.int .i64 0) := (blk_cell HB6.out 3).1; have r4 : w6.cell? ⟨w.heap.size, 4, none⟩ = some (.int .i64 0) := (blk_cell HB6.out 4).1; have f0 := (blk_cell HB6.out 0).2; have f1 := (blk_cell HB6.out 1).2; have f2 := (blk_cell HB6.out 2).2; have f3 := (blk_cell HB6.out 3).2; have f4 := (blk_cell HB6.out 4).2; clear hm) | (go_at_call 178; refine (CX.out _ (M1.out.insn o 0 s f i)).mono ?_; rintro e w5 ⟨⟨v5, rfl⟩, hm⟩; have M3 := hidOf hm; clear hm) | (go_at_call 177; refine (CI.out _).mono ?_; rintro e w3 ⟨rfl, ho⟩; have hm : MEnd p r wz w3 := ⟨M0.out.1.below ho, Chg.of_out ho⟩; have M1 := hidOf hm; have p2 := hm.co.1; have p3 := hm.cd.1; have p4 := hm.cs.1; have p5 := hm.cf.1; have p6 := hm.ci.1; have g2 := hm.co.2; have g3 := hm.cd.2; have g4 := hm.cs.2; have g5 := hm.cf.2; have g6 := hm.ci.2; clear ho hm))
  all_goals have hn1 : ¬ p = w.heap.size := by have := Hp.out; rw [size_alloc] at this; omega
  all_goals have hn2 : ¬ w.heap.size = p := fun h => hn1 h.symm
  all_goals first | (refine bodyPost_ret (results_row_tmp2 rfl _ _ w.heap.size 58 #[.int .i64 0, .int .i64 0, .int .i64 0, .int .i64 0, .int .i64 0] (0, 0) _ rfl (set5_heap HB6.out) Tryz.underlying58 rfl size5) rfl ?_; rw [Hrz.out]; exact ⟨.inl ⟨by assumption, rfl⟩, HO6.out.set5 (Nat.le_refl _) _ _ _ _ _⟩) | (refine bodyPost_ret (results_row_tmp2 rfl _ _ w.heap.size 58 #[.int .i64 0, .int .i64 0, .int .i64 0, .int .i64 0, .int .i64 0] (0, 0) _ rfl (set5_heap HB6.out) Tryz.underlying58 rfl size5) rfl ?_; rw [Hrz.out]; exact ⟨.inr (.inl ⟨by assumption, by assumption, rfl⟩), HO6.out.set5 (Nat.le_refl _) _ _ _ _ _⟩) | skip
  all_goals go_region_law (fail)
  all_goals refine via_world (fun wz => wz.heap[w.heap.size]? = some (.cells #[.int .i64 rz.o, .int .i64 rz.d, .int .i64 rz.s, .int .i64 rz.f, .int .i64 rz.i] 58 (0, 0)) ∧ Out w wz) ⟨set5_drew HB6.out, out5_drew HO6.out (Nat.le_refl _) _ _ _ _ _⟩ ?_
  all_goals rintro wq ⟨hq, hoq⟩
  all_goals have HQ := hidOf hq
  all_goals have HOQ := hidOf hoq
  all_goals clear hq hoq q2 q3 q4 q5 q6 q7 q8 q9 r0 r1 r2 r3 r4 f0 f1 f2 f3 f4 CX CO CI HRd M0 M1 M3 M6 HB6 HO6 p2 p3 p4 p5 p6 g2 g3 g4 g5 g6 hn1 hn2 c0 c1 c2 c3 HB HF HM HSm HEnv H1 Hp Ho1 HoA
  all_goals go_simp
  all_goals go_wp2
  all_goals refine bodyPost_ret (results_row_tmp2 rfl _ _ w.heap.size 58 #[.int .i64 rz.o, .int .i64 rz.d, .int .i64 rz.s, .int .i64 rz.f, .int .i64 rz.i] (0, 0) _ rfl HQ.out Tryz.underlying58 rfl size5) rfl ?_
  all_goals rw [Hrz.out]
  all_goals exact ⟨.inr (.inr ⟨by assumption, by assumption, rfl⟩), HOQ.out⟩
end Go.Proofs.YtkihaohdcgjioaaGreatDoor
