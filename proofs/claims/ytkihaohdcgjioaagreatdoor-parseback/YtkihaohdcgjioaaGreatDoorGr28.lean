import Derived.Test.YtkihaohdcgjioaaGreatDoorGr26
import Derived.Test.YtkihaohdcgjioaaGreatDoorGr27
import Derived.Test.YtkihaohdcgjioaaGreatDoorGr22
namespace Go.Proofs.YtkihaohdcgjioaaGreatDoor
open Go.RowKit
set_option linter.unusedVariables false
set_option linter.unusedSimpArgs false
theorem behind_law (l : List UInt8) (m : Mn) (hm : meanOf (newR l).tok = some m) (h1 : (behindS m (newR l)).wrong = false) (h2 : (behindS m (newR l)).outside = false) : Lawful (flds (behindS m (newR l))) := by
  obtain ⟨r1, hr1⟩ : ∃ r1, r1 = RS.next { newR l with o := m.1, d := 0, s := m.2.1, f := m.2.2.1, i := m.2.2.2 } := ⟨_, rfl⟩
  have hfl : flds r1 = (m.1, 0, m.2.1, m.2.2.1, m.2.2.2, []) := by rw [hr1]; rfl
  have hb : behindS m (newR l) = opsS (tOf m.1 m.2.1 m.2.2.1) r1 := by rw [hr1]; rfl
  rw [hb] at h1 h2 ⊢
  have e1 : flds (opsS (tOf m.1 m.2.1 m.2.2.1) r1) = flds (opdL (tOf m.1 m.2.1 m.2.2.1) r1) := rfl
  rw [e1]
  have hfine : fine (opdL (tOf m.1 m.2.1 m.2.2.1) r1) := by
    have : ((opdL (tOf m.1 m.2.1 m.2.2.1) r1).wrong || !(opdL (tOf m.1 m.2.1 m.2.2.1) r1).tok.isEmpty) = false := h1
    rw [Bool.or_eq_false_iff] at this
    exact ⟨this.1, h2⟩
  have hrng := opds_rng (formP m.1) m.2.1 m.2.2.1 (useS m.1 (formP m.1))
  have hst := steps_of (tOf m.1 m.2.1 m.2.2.1) r1 hrng.1 hrng.2.1 hrng.2.2 hfine
  generalize flds (opdL (tOf m.1 m.2.1 m.2.2.1) r1) = x at hst ⊢
  clear h1 h2 hfine hrng e1 hb hr1
  obtain ⟨y, hy, hy0, rfl⟩ := mean_mem _ _ hm
  have hf := mean_f y hy hy0
  rcases (show formP y.2.1 = 1 ∨ formP y.2.1 = 2 ∨ formP y.2.1 = 3 ∨ formP y.2.1 = 4 ∨ formP y.2.1 = 5 ∨ formP y.2.1 = 6 ∨ formP y.2.1 = 7 ∨ formP y.2.1 = 8 ∨ formP y.2.1 = 9 ∨ formP y.2.1 = 10 from by omega) with hk | hk | hk | hk | hk | hk | hk | hk | hk | hk
  · have e := mean_1 y hy hy0 hk
    rw [e] at hst hfl
    exact law_1 r1 x hfl hst
  · obtain ⟨a1, a2, a3, a4, a5⟩ := mean_2 y hy hy0 hk
    rw [a1, a2] at hst hfl
    exact law_2 r1 x _ _ hk a3 a4 a5 hfl hst
  · obtain ⟨a1, a2, a3, a4, a5, a6, a7, a8⟩ := mean_3 y hy hy0 hk
    rw [a1] at hst
    rw [a1, a2] at hfl
    exact law_3 r1 x _ _ hk a3 a4 a5 a6 a7 a8 hfl hst
  · obtain ⟨a1, a3, a4⟩ := mean_4 y hy hy0 hk
    rw [a1] at hst hfl
    exact law_4 r1 x _ hk a3 a4 hfl hst
  · obtain ⟨a1, a3, a4, a5, a6⟩ := mean_5 y hy hy0 hk
    rw [a1] at hst hfl
    exact law_5 r1 x _ hk a3 a4 a5 a6 hfl hst
  · obtain ⟨a1, a2, a3, a4, a5⟩ := mean_6 y hy hy0 hk
    rw [a1, a2] at hst hfl
    exact law_6 r1 x _ _ hk a3 a4 a5 hfl hst
  · obtain ⟨a1, a3, a4, a5⟩ := mean_7 y hy hy0 hk
    rw [a1] at hst hfl
    exact law_7 r1 x _ hk a3 a4 a5 hfl hst
  · obtain ⟨a1, a3, a4, a5, a6, a7, a8, a9⟩ := mean_8 y hy hy0 hk
    rw [a1] at hst hfl
    exact law_8 r1 x _ hk a3 a4 a5 a6 a7 a8 a9 hfl hst
  · have e := mean_9 y hy hy0 hk
    rw [e] at hst hfl
    exact law_9 r1 x hfl hst
  · rcases mean_10 y hy hy0 hk with e | e
    · rw [e] at hst hfl
      exact law_10 r1 x 0 (.inl rfl) hfl hst
    · rw [e] at hst hfl
      exact law_10 r1 x 1 (.inr rfl) hfl hst
def PR.fl (p : PR) : Int × Int × Int × Int × Int × List UInt8 := (p.o, p.d, p.s, p.f, p.i, p.tgt)
theorem parse_law (l : List UInt8) : ((parseP l).e = 0 ∧ Lawful (parseP l).fl) ∨ (¬ (parseP l).e = 0 ∧ (parseP l).fl = (0, 0, 0, 0, 0, [])) := by
  unfold parseP
  split
  · exact .inr ⟨by decide, rfl⟩
  · rename_i m hm
    split
    · exact .inr ⟨by decide, rfl⟩
    · split
      · exact .inr ⟨by decide, rfl⟩
      · rename_i h1 h2
        exact .inl ⟨rfl, behind_law l m hm (by simpa using h1) (by simpa using h2)⟩
end Go.Proofs.YtkihaohdcgjioaaGreatDoor
namespace Go.Proofs.YtkihaohdcgjioaaGreatDoor
open Go.RowKit
open Go.Maps (Keyed)
set_option linter.unusedVariables false
set_option linter.unusedSimpArgs false
theorem size5 : (Tryz.prog.info? 58).map (·.size) = some 5 := by kernel_rfl
theorem insn_any (o s f i : Int) (w : World) (h : (0 ≤ o ∧ o < 256) ∧ (0 ≤ s ∧ s < 256) ∧ (0 ≤ f ∧ f < 256) ∧ (0 ≤ i ∧ i < 256)) : Calls Tryz.prog 177 #[.agg #[.int .u8 o, .int .u8 s, .int .u8 f, .int .u8 i]] w fun e w' => e = .returned (.agg #[.int .i64 o, .int .i64 0, .int .i64 s, .int .i64 f, .int .i64 i]) ∧ Out w w' := by
  obtain ⟨⟨o1, o2⟩, ⟨s1, s2⟩, ⟨f1, f2⟩, ⟨i1, i2⟩⟩ := h
  go_enter Tryz.func177, Tryz.ntmps177
  go_wp2
  refine bodyPost_ret (results_cell_row rfl _ _ (w.heap.size + 1) 58 #[.int .i64 o, .int .i64 0, .int .i64 s, .int .i64 f, .int .i64 i] (0, 0) _ rfl (by rw [← size_alloc w (.cells #[.int .u8 o, .int .u8 s, .int .u8 f, .int .u8 i] 216)]; exact heap_alloc_new _ _) Tryz.underlying58 rfl size5) rfl ?_
  exact ⟨rfl, ((Out.refl w).alloc _).alloc _⟩
theorem mean_bd (l : List UInt8) (m : Mn) (h : meanOf l = some m) : (0 ≤ m.1 ∧ m.1 < 256) ∧ (0 ≤ m.2.1 ∧ m.2.1 < 256) ∧ (0 ≤ m.2.2.1 ∧ m.2.2.1 < 256) ∧ (0 ≤ m.2.2.2 ∧ m.2.2.2 < 256) := by
  obtain ⟨x, hx, _, rfl⟩ := mean_mem l m h
  exact (show ∀ x ∈ mnAll, (0 ≤ x.2.1 ∧ x.2.1 < 256) ∧ (0 ≤ x.2.2.1 ∧ x.2.2.1 < 256) ∧ (0 ≤ x.2.2.2.1 ∧ x.2.2.2.1 < 256) ∧ (0 ≤ x.2.2.2.2 ∧ x.2.2.2.2 < 256) by decide +kernel) x hx
theorem results_row_tmp2 {P : Program} {fn : Func} {p u v : Tmp} {ty : TypeId} (h : fn.results = #[.cell p ty, .tmp u, .tmp v]) (tmps : Array Value) (w : World) (g : Nat) (t : TypeId) (cs : Array Value) (fr : Nat × Nat) (d : TypeDesc)
    (hp : tmps.getD p undef = .pointer (some ⟨g, 0, none⟩)) (hg : w.heap[g]? = some (.cells cs t fr))
    (hu : P.underlying ty = some d) (hd : (match d with | .struct _ | .array _ _ => true | _ => false) = true) (hi : (P.info? ty).map (·.size) = some cs.size) :
    (results fn tmps).run P w = .ok (.tuple #[.agg cs, tmps.getD u undef, tmps.getD v undef]) w := by
  have hp' : tmps[p]?.getD undef = .pointer (some ⟨g, 0, none⟩) := by simpa using hp
  simp [results, h, hp', asAddr, run_loadVar_row w g t ty cs fr d hg hu hd hi, Sem.run_bind, Result.andThen]
def PEnv (w : World) : Prop := Env w ∧ WTabs w
theorem PEnv.out {w w' : World} (h : PEnv w) (o : Out w w') : PEnv w' := ⟨h.1.out o, h.2.out o⟩
def zero5 : Array Value := #[.int .i64 0, .int .i64 0, .int .i64 0, .int .i64 0, .int .i64 0]
theorem via_wp {P : Program} {c : Code} {Q : Exit → Act → World → Prop} {a : Act} {W : World} (Φ : World → Prop) (hW : Φ W) (h : ∀ wz, Φ wz → Code.wp P c Q a wz) : Code.wp P c Q a W := h W hW
theorem via_world {R : Exit → Act → World → Prop} {e : Exit} {a : Act} {W : World} (Φ : World → Prop) (hW : Φ W) (h : ∀ wz, Φ wz → R e a wz) : R e a W := h W hW
theorem res_cells {w wz : World} (h : Out (w.alloc (.cells zero5 58)) wz) : wz.heap[w.heap.size]? = some (.cells zero5 58 (0, 0)) :=
  (Below.block h _ (by rw [size_alloc]; omega)).trans (heap_alloc_new w _)
theorem blk_cell {w : World} {b : Nat} {cs : Array Value} {t : TypeId} (h : w.heap[b]? = some (.cells cs t (0, 0))) (j : Nat) : w.cell? ⟨b, j, none⟩ = cs[j]? ∧ w.frozen? ⟨b, j, none⟩ = false := by
  constructor
  · simp [World.cell?, h]
  · simp [World.frozen?, h]
theorem set5_heap {w : World} {b : Nat} {t : TypeId} {x0 x1 x2 x3 x4 u0 u1 u2 u3 u4 : Value} (h : w.heap[b]? = some (.cells #[u0, u1, u2, u3, u4] t (0, 0))) : (((((w.setCell ⟨b, 0, none⟩ x0).setCell ⟨b, 1, none⟩ x1).setCell ⟨b, 2, none⟩ x2).setCell ⟨b, 3, none⟩ x3).setCell ⟨b, 4, none⟩ x4).heap[b]? = some (.cells #[x0, x1, x2, x3, x4] t (0, 0)) := by
  simp [World.setCell, Array.getElem?_modify, h]
theorem MEnd.insn {w w1 : World} {p : Nat} {r : RS} (a : MEnd p r w w1) (o d s f i : Int) : MEnd p { r with o := o, d := d, s := s, f := f, i := i } w (((((w1.setCell ⟨p, 2, none⟩ (.int .i64 o)).setCell ⟨p, 3, none⟩ (.int .i64 d)).setCell ⟨p, 4, none⟩ (.int .i64 s)).setCell ⟨p, 5, none⟩ (.int .i64 f)).setCell ⟨p, 6, none⟩ (.int .i64 i)) :=
  ((((a.set (r2 := { r with o := o }) 2 _ rfl).set (r2 := { r with o := o, d := d }) 3 _ rfl).set (r2 := { r with o := o, d := d, s := s }) 4 _ rfl).set (r2 := { r with o := o, d := d, s := s, f := f }) 5 _ rfl).set 6 _ rfl
theorem Out.set5 {w0 w : World} {b : Nat} (h : Out w0 w) (hb : w0.heap.size ≤ b) (x0 x1 x2 x3 x4 : Value) : Out w0 (((((w.setCell ⟨b, 0, none⟩ x0).setCell ⟨b, 1, none⟩ x1).setCell ⟨b, 2, none⟩ x2).setCell ⟨b, 3, none⟩ x3).setCell ⟨b, 4, none⟩ x4) :=
  ((((h.setCell (a := ⟨b, 0, none⟩) hb _).setCell (a := ⟨b, 1, none⟩) hb _).setCell (a := ⟨b, 2, none⟩) hb _).setCell (a := ⟨b, 3, none⟩) hb _).setCell (a := ⟨b, 4, none⟩) hb _
set_option maxRecDepth 40000 in
set_option maxHeartbeats 8000000 in
theorem parse_none (w : World) (l : List UInt8) (hE : PEnv w) (hl : l.length ≤ 140737488355328) (hm : meanOf (newR l).tok = none) : Calls Tryz.prog 137 #[.string ⟨l.toArray⟩] w fun e w' => e = .returned (.tuple #[.agg zero5, .string ⟨#[]⟩, .int .i64 40]) ∧ Out w w' := by
  have CN : Hid (∀ wx, Calls Tryz.prog 175 #[.string ⟨l.toArray⟩] wx fun e w' => ∃ p, e = .returned (.pointer (some ⟨p, 0, none⟩)) ∧ wx.heap.size ≤ p ∧ RdAt w' p (newR l).cells ∧ Out wx w') := fun wx => newReader_any wx l hl
  have CM : Hid (∀ wx, Out w wx → Calls Tryz.prog 176 #[.string ⟨(newR l).tok.toArray⟩] wx fun e w' => e = .returned (.tuple #[.agg #[.int .u8 0, .int .u8 0, .int .u8 0, .int .u8 0], .bool false]) ∧ Out wx w') := fun wx ho => (meaning_any wx _ (hE.2.out ho)).mono fun e w' ⟨a, b⟩ => ⟨by rw [a, hm]; rfl, b⟩
  have HSm := hidOf (newR_sm hl)
  have HM := hidOf hm
  have HEnv := hidOf hE.1
  clear hE hl hm
  generalize newR l = r at *
  go_enter Tryz.func137, Tryz.ntmps137
  go_wp2_with (first | (go_at_call 175; refine (CN.out _).mono ?_; rintro e w1 ⟨p, rfl, hp, hR, ho⟩; have H1 := hidOf hR; have Hp := hidOf hp; have Ho1 := hidOf (Out.trans ((Out.refl w).alloc _) ho); have HoA := hidOf ho; have d1 : w1.cell? ⟨p, 1, none⟩ = some (.string ⟨r.tok.toArray⟩) := hR.cell 1; clear hp hR ho))
  have nw1 := World.new_ne w1 ⟨p, 1, none⟩ d1
  go_at_call 176
  refine (CM.out w1 Ho1.out).mono ?_
  rintro e w2 ⟨rfl, ho⟩
  have d1A : w2.cell? ⟨p, 1, none⟩ = some (.string ⟨r.tok.toArray⟩) := cell_later ho d1
  have Hw2 : Hid (Out w1 w2) := ho
  have nw := World.new_ne w2 ⟨p, 1, none⟩ d1A
  clear ho
  go_upto_if 19 with fail
  refine via_wp (fun wz => Out w1 wz) (Hw2.out.alloc _) ?_
  all_goals intro wz hz
  all_goals have HB := hidOf (res_cells (Out.trans HoA.out hz))
  all_goals have HZ := hidOf (Out.trans Ho1.out hz)
  all_goals (have r0 : wz.cell? ⟨w.heap.size, 0, none⟩ = some (.int .i64 0) := (blk_cell HB.out 0).1; have r1 : wz.cell? ⟨w.heap.size, 1, none⟩ = some (.int .i64 0) := (blk_cell HB.out 1).1; have r2 : wz.cell? ⟨w.heap.size, 2, none⟩ = some (.int .i64 0) := (blk_cell HB.out 2).1; have r3 : wz.cell? ⟨w.heap.size, 3, none⟩ = some (.int .i64 0) := (blk_cell HB.out 3).1; have r4 : wz.cell? ⟨w.heap.size, 4, none⟩ = some (.int .i64 0) := (blk_cell HB.out 4).1; have f0 := (blk_cell HB.out 0).2; have f1 := (blk_cell HB.out 1).2; have f2 := (blk_cell HB.out 2).2; have f3 := (blk_cell HB.out 3).2; have f4 := (blk_cell HB.out 4).2)
  all_goals clear hz d1 d1A CM CN
  all_goals go_wp2
  all_goals refine bodyPost_ret (results_row_tmp2 rfl _ _ w.heap.size 58 #[.int .i64 0, .int .i64 0, .int .i64 0, .int .i64 0, .int .i64 0] (0, 0) _ rfl (set5_heap HB.out) Tryz.underlying58 rfl size5) rfl ?_
  all_goals exact ⟨rfl, HZ.out.set5 (Nat.le_refl _) _ _ _ _ _⟩
end Go.Proofs.YtkihaohdcgjioaaGreatDoor
