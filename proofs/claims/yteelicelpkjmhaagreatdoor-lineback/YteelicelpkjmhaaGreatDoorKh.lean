import Derived.Test.YteelicelpkjmhaaGreatDoorKg
import Derived.Test.YteelicelpkjmhaaGreatDoorKd
import Derived.Test.YteelicelpkjmhaaGreatDoorKf
namespace Go.Proofs.YteelicelpkjmhaaGreatDoor
open Go.RowKit Go.Shelf
set_option linter.unusedVariables false
set_option linter.unusedSimpArgs false
theorem pR : ∀ k, k ≤ 13 → mnR k <+: mnAll := fun k hk => (show ∀ k : Fin 14, mnR k.val <+: mnAll by decide +kernel) ⟨k, by omega⟩
theorem pJ : ∀ k, k ≤ 14 → mnJ k <+: mnAll := fun k hk => (show ∀ k : Fin 15, mnJ k.val <+: mnAll by decide +kernel) ⟨k, by omega⟩
theorem pM : ∀ k j, k < 4 → j ≤ 4 → mnM k j <+: mnAll := fun k j hk hj => (show ∀ k : Fin 4, ∀ j : Fin 5, mnM k.val j.val <+: mnAll by decide +kernel) ⟨k, by omega⟩ ⟨j, by omega⟩
theorem pO : ∀ k, k ≤ 9 → mnO k <+: mnAll := fun k hk => (show ∀ k : Fin 10, mnO k.val <+: mnAll by decide +kernel) ⟨k, by omega⟩
theorem pI : ∀ k, k ≤ 29 → mnI k <+: mnAll := fun k hk => (show ∀ k : Fin 30, mnI k.val <+: mnAll by decide +kernel) ⟨k, by omega⟩
theorem mnAll_len : mnAll.length < 111 := by decide +kernel
theorem live_mean : ∀ x ∈ live mnAll, meanOf x.1 = some x.2 := by decide +kernel
theorem live_none (t : List UInt8) (h : ∀ x ∈ live mnAll, x.1 ≠ t) : meanOf t = none := by
  unfold meanOf
  by_cases ht : t = []
  · rw [if_pos ht]
  · rw [if_neg ht]
    unfold lastAt
    rw [Option.map_eq_none_iff, List.find?_eq_none]
    intro x hx e
    have he : x.1 = t := eq_of_beq e
    refine h x (List.mem_filter.2 ⟨List.mem_reverse.1 hx, ?_⟩) he
    rw [he]
    cases t with
    | nil => exact absurd rfl ht
    | cons a b => rfl
theorem each_seq (F : Fence) (hd : F.depth = none) (hro : F.round = none) (h66 : F.fn 66) (h105 : F.fn 105) (n : Nat) (w0 : World) (hT : WTabs w0) :
    SeqStopsK F n Tryz.prog 66 #[] encM KC (fun ys => ys = live mnAll) (fun pre => pre <+: live mnAll) 111 w0 := fun l J Jx W hW hJ hJx hY h0 => by
  have hT := hT.out hW
  exact each_in F hd hro h66 h105 n l 111 mnAll_len J Jx W hJ hJx (fun m pre x W1 h1 hl => yield_any hd m (hY pre x W1 h1 hl)) h0
    reckCs hT.1 (show (Tryz.prog.info? 134).map (·.size) = some reckCs.length by kernel_rfl) reckA reckB (fun k hk w => reck_idx k (by omega) w) (fun k hk => by rw [mnR_step, reck_ent k hk, List.append_assoc]; rfl) pR
    jumpCs hT.2.1 (show (Tryz.prog.info? 108).map (·.size) = some jumpCs.length by kernel_rfl) jumpA jumpB (fun k hk w => jump_idx k (by omega) w) (fun k hk => by rw [mnJ_step, jump_ent k hk, List.append_assoc]; rfl) pJ
    memCs hT.2.2.1 (show (Tryz.prog.info? 137).map (·.size) = some memCs.length by kernel_rfl) memA memW (fun k hk w => mem_idx k (by omega) w) (fun k j hj w => idx4s (fun j => .string ⟨(memW k j).toArray⟩) j (by omega) w)
    (fun k j hk hj => (mem_all ⟨k, hk⟩ ⟨j, hj⟩).2.2.1) (fun k j hk hj => by rw [mnM_step, (mem_all ⟨k, hk⟩ ⟨j, hj⟩).1]) pM
    offCs hT.2.2.2.1 (show (Tryz.prog.info? 143).map (·.size) = some offCs.length by kernel_rfl) offA offB offS3 (fun k hk w => off_idx k (by omega) w) (fun k hk => by rw [mnO_step, off_ent k hk]) pO
    immCs hT.2.2.2.2 (show (Tryz.prog.info? 145).map (·.size) = some immCs.length by kernel_rfl) immA immB immS3 (fun k hk w => imm_idx k (by omega) w) (fun k hk => by rw [mnI_step, imm_ent k hk]) pI
/-- the contract of meaningOf -/
theorem meaning_any (w : World) (t : List UInt8) (hT : WTabs w) : Calls Tryz.prog 36 #[.string ⟨t.toArray⟩] w fun e w' => e = .returned (.tuple #[mnV ((meanOf t).getD (0, 0, 0, 0)), .bool (meanOf t).isSome]) ∧ Out w w' := by
  refine (callsIn_wide (n := 5)).1 ?_
  refine (meaning_in Fence.wide rfl rfl trivial trivial trivial 5 111 (by omega) w t (fun w0 hB => each_seq Fence.wide rfl rfl trivial trivial 4 w0 (hT.out hB))).mono ?_
  rintro e W' ⟨⟨x, hx, rfl, rfl⟩ | ⟨hn, rfl⟩, hB⟩
  · rw [live_mean x hx]; exact ⟨rfl, hB⟩
  · rw [live_none t hn]; exact ⟨rfl, hB⟩
end Go.Proofs.YteelicelpkjmhaaGreatDoor
namespace Go.Proofs.YteelicelpkjmhaaGreatDoor
open Go.RowKit
open Go.Maps (Keyed)
set_option linter.unusedVariables false
set_option linter.unusedSimpArgs false
theorem size5 : (Tryz.prog.info? 25).map (·.size) = some 5 := by kernel_rfl
theorem insn_any (o s f i : Int) (w : World) (h : (0 ≤ o ∧ o < 256) ∧ (0 ≤ s ∧ s < 256) ∧ (0 ≤ f ∧ f < 256) ∧ (0 ≤ i ∧ i < 256)) : Calls Tryz.prog 37 #[.agg #[.int .u8 o, .int .u8 s, .int .u8 f, .int .u8 i]] w fun e w' => e = .returned (.agg #[.int .i64 o, .int .i64 0, .int .i64 s, .int .i64 f, .int .i64 i]) ∧ Out w w' := by
  obtain ⟨⟨o1, o2⟩, ⟨s1, s2⟩, ⟨f1, f2⟩, ⟨i1, i2⟩⟩ := h
  go_enter Tryz.func37, Tryz.ntmps37
  go_wp2
  refine bodyPost_ret (results_cell_row rfl _ _ (w.heap.size + 1) 25 #[.int .i64 o, .int .i64 0, .int .i64 s, .int .i64 f, .int .i64 i] (0, 0) _ rfl (by rw [← size_alloc w (.cells #[.int .u8 o, .int .u8 s, .int .u8 f, .int .u8 i] 79)]; exact heap_alloc_new _ _) Tryz.underlying25 rfl size5) rfl ?_
  exact ⟨rfl, ((Out.refl w).alloc _).alloc _⟩
theorem mean_bd (l : List UInt8) (m : Mn) (h : meanOf l = some m) : (0 ≤ m.1 ∧ m.1 < 256) ∧ (0 ≤ m.2.1 ∧ m.2.1 < 256) ∧ (0 ≤ m.2.2.1 ∧ m.2.2.1 < 256) ∧ (0 ≤ m.2.2.2 ∧ m.2.2.2 < 256) := by
  obtain ⟨x, hx, _, rfl⟩ := mean_mem l m h
  exact (show ∀ x ∈ mnAll, (0 ≤ x.2.1 ∧ x.2.1 < 256) ∧ (0 ≤ x.2.2.1 ∧ x.2.2.1 < 256) ∧ (0 ≤ x.2.2.2.1 ∧ x.2.2.2.1 < 256) ∧ (0 ≤ x.2.2.2.2 ∧ x.2.2.2.2 < 256) by decide +kernel) x hx
theorem results_row_tmp2 {P : Program} {fn : Func} {p u v : Tmp} {ty : TypeId} (h : fn.results = #[.cell p ty, .tmp u, .tmp v]) (tmps : Array Value) (w : World) (g : Nat) (t : TypeId) (cs : Array Value) (fr : Nat × Nat) (d : TypeDesc)
    (hp : tmps.getD p undef = .pointer (some ⟨g, 0, none⟩)) (hg : w.heap[g]? = some (.cells cs t fr))
    (hu : P.underlying ty = some d) (hd : (match d with | .struct _ | .array _ _ => true | _ => false) = true) (hi : (P.info? ty).map (·.size) = some cs.size) :
    (results fn tmps).run P w = .ok (.tuple #[.agg cs, tmps.getD u undef, tmps.getD v undef]) w := by
  have hp' : tmps[p]?.getD undef = .pointer (some ⟨g, 0, none⟩) := by simpa using hp
  simp [results, h, hp', asAddr, run_loadVar_row w g t ty cs fr d hg hu hd hi, Sem.run_bind, Result.andThen]
end Go.Proofs.YteelicelpkjmhaaGreatDoor
namespace Go.Proofs.YteelicelpkjmhaaGreatDoor
open Go.RowKit
open Go.Maps (Keyed)
set_option linter.unusedVariables false
set_option linter.unusedSimpArgs false
/-- all that Parse looks into -/
def PEnv (w : World) : Prop := Env w ∧ WTabs w
theorem PEnv.out {w w' : World} (h : PEnv w) (o : Out w w') : PEnv w' := ⟨h.1.out o, h.2.out o⟩
def zero5 : Array Value := #[.int .i64 0, .int .i64 0, .int .i64 0, .int .i64 0, .int .i64 0]
theorem box_later {w1 wx w2 : World} (cs : Array Value) (t : TypeId) (hx : wx.heap = (w1.alloc (.cells cs t)).heap) (ho : Out wx w2) : (∀ j, w2.cell? ⟨w1.heap.size, j, none⟩ = cs[j]?) ∧ (∀ j, w2.frozen? ⟨w1.heap.size, j, none⟩ = false) ∧ ∃ cs', w2.heap[w1.heap.size]? = some (.cells cs t (0, 0)) ∧ cs' = cs := by
  have h1 : wx.heap[w1.heap.size]? = some (.cells cs t (0, 0)) := by rw [hx]; exact heap_alloc_new w1 _
  have hlt : w1.heap.size < wx.heap.size := (Array.getElem?_eq_some_iff.1 h1).1
  have h2 : w2.heap[w1.heap.size]? = some (.cells cs t (0, 0)) := (Below.block ho _ hlt).trans h1
  refine ⟨fun j => ?_, fun j => ?_, cs, h2, rfl⟩
  · simp [World.cell?, h2]
  · simp [World.frozen?, h2]
theorem via_wp {P : Program} {c : Code} {Q : Exit → Act → World → Prop} {a : Act} {W : World} (Φ : World → Prop) (hW : Φ W) (h : ∀ wz, Φ wz → Code.wp P c Q a wz) : Code.wp P c Q a W := h W hW
theorem via_world {R : Exit → Act → World → Prop} {e : Exit} {a : Act} {W : World} (Φ : World → Prop) (hW : Φ W) (h : ∀ wz, Φ wz → R e a wz) : R e a W := h W hW
/-- the results' block, as it was made -/
theorem res_cells {w wz : World} (h : Out (w.alloc (.cells zero5 25)) wz) : wz.heap[w.heap.size]? = some (.cells zero5 25 (0, 0)) :=
  (Below.block h _ (by rw [size_alloc]; omega)).trans (heap_alloc_new w _)
theorem blk_cell {w : World} {b : Nat} {cs : Array Value} {t : TypeId} (h : w.heap[b]? = some (.cells cs t (0, 0))) (j : Nat) : w.cell? ⟨b, j, none⟩ = cs[j]? ∧ w.frozen? ⟨b, j, none⟩ = false := by
  constructor
  · simp [World.cell?, h]
  · simp [World.frozen?, h]
theorem set5_heap {w : World} {b : Nat} {t : TypeId} {x0 x1 x2 x3 x4 u0 u1 u2 u3 u4 : Value} (h : w.heap[b]? = some (.cells #[u0, u1, u2, u3, u4] t (0, 0))) : (((((w.setCell ⟨b, 0, none⟩ x0).setCell ⟨b, 1, none⟩ x1).setCell ⟨b, 2, none⟩ x2).setCell ⟨b, 3, none⟩ x3).setCell ⟨b, 4, none⟩ x4).heap[b]? = some (.cells #[x0, x1, x2, x3, x4] t (0, 0)) := by
  simp [World.setCell, Array.getElem?_modify, h]
theorem MEnd.insn {w w1 : World} {p : Nat} {r : RS} (a : MEnd p r w w1) (o d s f i : Int) : MEnd p { r with o := o, d := d, s := s, f := f, i := i } w (((((w1.setCell ⟨p, 2, none⟩ (.int .i64 o)).setCell ⟨p, 3, none⟩ (.int .i64 d)).setCell ⟨p, 4, none⟩ (.int .i64 s)).setCell ⟨p, 5, none⟩ (.int .i64 f)).setCell ⟨p, 6, none⟩ (.int .i64 i)) :=
  ((((a.set (r2 := { r with o := o }) 2 _ rfl).set (r2 := { r with o := o, d := d }) 3 _ rfl).set (r2 := { r with o := o, d := d, s := s }) 4 _ rfl).set (r2 := { r with o := o, d := d, s := s, f := f }) 5 _ rfl).set 6 _ rfl
theorem set4_heap {w : World} {b : Nat} {t : TypeId} {x0 x1 x2 x3 u0 u1 u2 u3 : Value} (h : w.heap[b]? = some (.cells #[u0, u1, u2, u3] t (0, 0))) : ((((w.setCell ⟨b, 0, none⟩ x0).setCell ⟨b, 1, none⟩ x1).setCell ⟨b, 2, none⟩ x2).setCell ⟨b, 3, none⟩ x3).heap[b]? = some (.cells #[x0, x1, x2, x3] t (0, 0)) := by
  simp [World.setCell, Array.getElem?_modify, h]
theorem Out.set5 {w0 w : World} {b : Nat} (h : Out w0 w) (hb : w0.heap.size ≤ b) (x0 x1 x2 x3 x4 : Value) : Out w0 (((((w.setCell ⟨b, 0, none⟩ x0).setCell ⟨b, 1, none⟩ x1).setCell ⟨b, 2, none⟩ x2).setCell ⟨b, 3, none⟩ x3).setCell ⟨b, 4, none⟩ x4) :=
  ((((h.setCell (a := ⟨b, 0, none⟩) hb _).setCell (a := ⟨b, 1, none⟩) hb _).setCell (a := ⟨b, 2, none⟩) hb _).setCell (a := ⟨b, 3, none⟩) hb _).setCell (a := ⟨b, 4, none⟩) hb _
set_option maxRecDepth 40000 in
set_option maxHeartbeats 8000000 in
theorem parse_none (w : World) (l : List UInt8) (hE : PEnv w) (hl : l.length ≤ 140737488355328) (hm : meanOf (newR l).tok = none) : Calls Tryz.prog 13 #[.string ⟨l.toArray⟩] w fun e w' => e = .returned (.tuple #[.agg zero5, .string ⟨#[]⟩, .int .i64 40]) ∧ Out w w' := by
  have CN : Hid (∀ wx, Calls Tryz.prog 35 #[.string ⟨l.toArray⟩] wx fun e w' => ∃ p, e = .returned (.pointer (some ⟨p, 0, none⟩)) ∧ wx.heap.size ≤ p ∧ RdAt w' p (newR l).cells ∧ Out wx w') := fun wx => newReader_any wx l hl
  have CM : Hid (∀ wx, Out w wx → Calls Tryz.prog 36 #[.string ⟨(newR l).tok.toArray⟩] wx fun e w' => e = .returned (.tuple #[.agg #[.int .u8 0, .int .u8 0, .int .u8 0, .int .u8 0], .bool false]) ∧ Out wx w') := fun wx ho => (meaning_any wx _ (hE.2.out ho)).mono fun e w' ⟨a, b⟩ => ⟨by rw [a, hm]; rfl, b⟩
  have HSm := hidOf (newR_sm hl)
  have HM := hidOf hm
  have HEnv := hidOf hE.1
  clear hE hl hm
  generalize newR l = r at *
  go_enter Tryz.func13, Tryz.ntmps13
  go_wp2_with (first | (go_at_call 35; refine (CN.out _).mono ?_; rintro e w1 ⟨p, rfl, hp, hR, ho⟩; have H1 := hidOf hR; have Hp := hidOf hp; have Ho1 := hidOf (Out.trans ((Out.refl w).alloc _) ho); have HoA := hidOf ho; have d1 : w1.cell? ⟨p, 1, none⟩ = some (.string ⟨r.tok.toArray⟩) := hR.cell 1; clear hp hR ho))
  have nw1 := World.new_ne w1 ⟨p, 1, none⟩ d1
  go_at_call 36
  refine (CM.out w1 Ho1.out).mono ?_
  rintro e w2 ⟨rfl, ho⟩
  have d1A : w2.cell? ⟨p, 1, none⟩ = some (.string ⟨r.tok.toArray⟩) := cell_later ho d1
  have Hw2 : Hid (Out w1 w2) := ho
  have nw := World.new_ne w2 ⟨p, 1, none⟩ d1A
  clear ho
  go_upto_if 19 with fail
  refine via_wp (fun wz => Out w1 wz) (Hw2.out.alloc _) ?_
  all_goals intro wz hz
  all_goals have HB := hidOf (res_cells (Out.trans HoA.out hz))
  all_goals have HZ := hidOf (Out.trans Ho1.out hz)
  all_goals (have r0 : wz.cell? ⟨w.heap.size, 0, none⟩ = some (.int .i64 0) := (blk_cell HB.out 0).1; have r1 : wz.cell? ⟨w.heap.size, 1, none⟩ = some (.int .i64 0) := (blk_cell HB.out 1).1; have r2 : wz.cell? ⟨w.heap.size, 2, none⟩ = some (.int .i64 0) := (blk_cell HB.out 2).1; have r3 : wz.cell? ⟨w.heap.size, 3, none⟩ = some (.int .i64 0) := (blk_cell HB.out 3).1; have r4 : wz.cell? ⟨w.heap.size, 4, none⟩ = some (.int .i64 0) := (blk_cell HB.out 4).1; have f0 := (blk_cell HB.out 0).2; have f1 := (blk_cell HB.out 1).2; have f2 := (blk_cell HB.out 2).2; have f3 := (blk_cell HB.out 3).2; have f4 := (blk_cell HB.out 4).2)
  all_goals clear hz d1 d1A CM CN
  all_goals go_wp2
  all_goals refine bodyPost_ret (results_row_tmp2 rfl _ _ w.heap.size 25 #[.int .i64 0, .int .i64 0, .int .i64 0, .int .i64 0, .int .i64 0] (0, 0) _ rfl (set5_heap HB.out) Tryz.underlying25 rfl size5) rfl ?_
  all_goals exact ⟨rfl, HZ.out.set5 (Nat.le_refl _) _ _ _ _ _⟩
end Go.Proofs.YteelicelpkjmhaaGreatDoor
namespace Go.Proofs.YteelicelpkjmhaaGreatDoor
open Go.RowKit
open Go.Maps (Keyed)
set_option linter.unusedVariables false
set_option linter.unusedSimpArgs false
/-- what Parse hands out behind the operands -/
def PEnd (r : RS) (e : Ending) : Prop := (r.wrong = true ∧ e = .returned (.tuple #[.agg zero5, .string ⟨#[]⟩, .int .i64 41])) ∨ (r.wrong = false ∧ r.outside = true ∧ e = .returned (.tuple #[.agg zero5, .string ⟨#[]⟩, .int .i64 42])) ∨
  (r.wrong = false ∧ r.outside = false ∧ e = .returned (.tuple #[.agg #[.int .i64 r.o, .int .i64 r.d, .int .i64 r.s, .int .i64 r.f, .int .i64 r.i], .string ⟨r.tgt.toArray⟩, .int .i64 0]))
theorem heap_drew' (w : World) : w.drew.heap = w.heap := rfl
theorem set5_drew {w : World} {b : Nat} {t : TypeId} {x0 x1 x2 x3 x4 u0 u1 u2 u3 u4 : Value} (h : w.heap[b]? = some (.cells #[u0, u1, u2, u3, u4] t (0, 0))) : (((((w.setCell ⟨b, 0, none⟩ x0).setCell ⟨b, 1, none⟩ x1).setCell ⟨b, 2, none⟩ x2).setCell ⟨b, 3, none⟩ x3).setCell ⟨b, 4, none⟩ x4).drew.heap[b]? = some (.cells #[x0, x1, x2, x3, x4] t (0, 0)) := by
  rw [heap_drew']
  exact set5_heap h
theorem out5_drew {w0 w : World} {b : Nat} (h : Out w0 w) (hb : w0.heap.size ≤ b) (x0 x1 x2 x3 x4 : Value) : Out w0 (((((w.setCell ⟨b, 0, none⟩ x0).setCell ⟨b, 1, none⟩ x1).setCell ⟨b, 2, none⟩ x2).setCell ⟨b, 3, none⟩ x3).setCell ⟨b, 4, none⟩ x4).drew := (h.set5 hb x0 x1 x2 x3 x4).drew
set_option maxRecDepth 40000 in
set_option maxHeartbeats 8000000 in
theorem parse_some (w : World) (l : List UInt8) (hE : PEnv w) (hl : l.length ≤ 140737488355328) (o s f i : Int) (hm : meanOf (newR l).tok = some (o, s, f, i)) : Calls Tryz.prog 13 #[.string ⟨l.toArray⟩] w fun e w' => PEnd (behindS (o, s, f, i) (newR l)) e ∧ Out w w' := by
  have CN : Hid (∀ wx, Calls Tryz.prog 35 #[.string ⟨l.toArray⟩] wx fun e w' => ∃ p, e = .returned (.pointer (some ⟨p, 0, none⟩)) ∧ wx.heap.size ≤ p ∧ RdAt w' p (newR l).cells ∧ Out wx w') := fun wx => newReader_any wx l hl
  have CM : Hid (∀ wx, Out w wx → Calls Tryz.prog 36 #[.string ⟨(newR l).tok.toArray⟩] wx fun e w' => e = .returned (.tuple #[.agg #[.int .u8 o, .int .u8 s, .int .u8 f, .int .u8 i], .bool true]) ∧ Out wx w') := fun wx ho => (meaning_any wx _ (hE.2.out ho)).mono fun e w' ⟨a, b⟩ => ⟨by rw [a, hm]; rfl, b⟩
  have HSm := hidOf (newR_sm hl)
  have HM := hidOf hm
  have HEnv := hidOf hE.1
  have CI : Hid (∀ wx, Calls Tryz.prog 37 #[.agg #[.int .u8 o, .int .u8 s, .int .u8 f, .int .u8 i]] wx fun e w' => e = .returned (.agg #[.int .i64 o, .int .i64 0, .int .i64 s, .int .i64 f, .int .i64 i]) ∧ Out wx w') := fun wx => insn_any o s f i wx (mean_bd _ _ hm)
  have HF : Hid ((formP o == 0) = false) := by
    obtain ⟨x, hx, hx0, hxe⟩ := mean_mem _ _ hm
    have := (mean_f x hx hx0).1
    rw [hxe] at this
    simp only at this
    exact hidOf (by simp only [beq_eq_false_iff_ne]; omega)
  clear hE hl hm
  generalize newR l = r at *
  go_enter Tryz.func13, Tryz.ntmps13
  go_wp2_with (first | (go_at_call 35; refine (CN.out _).mono ?_; rintro e w1 ⟨p, rfl, hp, hR, ho⟩; have H1 := hidOf hR; have Hp := hidOf hp; have Ho1 := hidOf (Out.trans ((Out.refl w).alloc _) ho); have HoA := hidOf ho; have d1 : w1.cell? ⟨p, 1, none⟩ = some (.string ⟨r.tok.toArray⟩) := hR.cell 1; clear hp hR ho))
  have nw1 := World.new_ne w1 ⟨p, 1, none⟩ d1
  go_at_call 36
  refine (CM.out w1 Ho1.out).mono ?_
  rintro e w2 ⟨rfl, ho⟩
  have d1A : w2.cell? ⟨p, 1, none⟩ = some (.string ⟨r.tok.toArray⟩) := cell_later ho d1
  have Hw2 : Hid (Out w1 w2) := ho
  have nw := World.new_ne w2 ⟨p, 1, none⟩ d1A
  clear ho
  go_upto_if 19 with fail
  refine via_wp (fun wz => Out w1 wz ∧ ∀ j, wz.cell? ⟨w2.heap.size, j, none⟩ = (#[.int .u8 o, .int .u8 s, .int .u8 f, .int .u8 i] : Array Value)[j]?) ⟨Hw2.out.alloc _, fun j => new_cell w2 _ _ j⟩ ?_
  all_goals rintro wz ⟨hz, hbx⟩
  all_goals have HB := hidOf (res_cells (Out.trans HoA.out hz))
  all_goals have M0 : Hid (MEnd p r wz wz) := MEnd.refl (H1.out.below hz)
  all_goals have HRd : Hid (∀ wx r', MEnd p r' wz wx → Rdr (w.alloc (.cells #[.int .i64 0, .int .i64 0, .int .i64 0, .int .i64 0, .int .i64 0] 25)) p wx ∧ Out w wx) := fun wx r' m => (fun (hR : Rdr (w.alloc (.cells #[.int .i64 0, .int .i64 0, .int .i64 0, .int .i64 0, .int .i64 0] 25)) p wz) => ⟨hR.next m, Out.trans ((Out.refl w).alloc _) (m.out hR)⟩) ⟨HEnv.out.out ((Out.refl w).alloc _), Out.trans HoA.out hz, Hp.out⟩
  all_goals have CX : Hid (∀ wx, MEnd p { r with o := o, d := 0, s := s, f := f, i := i } wz wx → Calls Tryz.prog 38 #[.pointer (some ⟨p, 0, none⟩)] wx fun e w' => (∃ v, e = .returned v) ∧ MEnd p (RS.next { r with o := o, d := 0, s := s, f := f, i := i }) wz w') := nextM wz p { r with o := o, d := 0, s := s, f := f, i := i } HSm.out
  all_goals have CO : Hid (∀ wx, MEnd p (RS.next { r with o := o, d := 0, s := s, f := f, i := i }) wz wx → Calls Tryz.prog 39 #[.pointer (some ⟨p, 0, none⟩)] wx fun e w' => (∃ v, e = .returned v) ∧ MEnd p (behindS (o, s, f, i) r) wz w') := fun wx m => (operands_any (w.alloc (.cells #[.int .i64 0, .int .i64 0, .int .i64 0, .int .i64 0, .int .i64 0] 25)) wx p (hidOf (HRd.out wx _ m).1) _ m.1 (Sm.next (r := { r with o := o, d := 0, s := s, f := f, i := i }) HSm.out) HF.out).mono fun e w' ⟨a, b⟩ => ⟨a, m.trans b⟩
  all_goals (obtain ⟨rz, Hrz⟩ : ∃ rz, Hid (behindS (o, s, f, i) r = rz) := ⟨_, hidOf rfl⟩; rw [Hrz.out] at CO; generalize RS.next { r with o := o, d := 0, s := s, f := f, i := i } = rn at *)
  all_goals (first | (have c0 : wz.cell? ⟨w2.heap.size, 0, none⟩ = some (.int .u8 o) := hbx 0; have c1 : wz.cell? ⟨w2.heap.size, 1, none⟩ = some (.int .u8 s) := hbx 1; have c2 : wz.cell? ⟨w2.heap.size, 2, none⟩ = some (.int .u8 f) := hbx 2; have c3 : wz.cell? ⟨w2.heap.size, 3, none⟩ = some (.int .u8 i) := hbx 3) | (have c0 : wz.cell? ⟨w1.heap.size, 0, none⟩ = some (.int .u8 o) := hbx 0; have c1 : wz.cell? ⟨w1.heap.size, 1, none⟩ = some (.int .u8 s) := hbx 1; have c2 : wz.cell? ⟨w1.heap.size, 2, none⟩ = some (.int .u8 f) := hbx 2; have c3 : wz.cell? ⟨w1.heap.size, 3, none⟩ = some (.int .u8 i) := hbx 3))
  all_goals clear hz hbx d1 d1A CM CN
  all_goals go_wp2_with (first | (go_at_call 39; refine (CO.out _ M3.out).mono ?_; rintro e w6 ⟨⟨v6, rfl⟩, hm⟩; have M6 := hidOf hm; have HB6 := hidOf (res_cells (HRd.out _ _ hm).1.2.1); have HO6 := hidOf (HRd.out _ _ hm).2; have q8 := hm.cw.1; have q9 : w6.cell? ⟨p, 9, none⟩ = some (.bool rz.outside) := hm.1.cell 9; have q2 := hm.co.1; have q3 := hm.cd.1; have q4 := hm.cs.1; have q5 := hm.cf.1; have q6 := hm.ci.1; have q7 : w6.cell? ⟨p, 7, none⟩ = some (.string ⟨rz.tgt.toArray⟩) := hm.1.cell 7; have r0 : w6.cell? ⟨w.heap.size, 0, none⟩ = some (.int .i64 0) := (blk_cell HB6.out 0).1; have r1 : w6.cell? ⟨w.heap.size, 1, none⟩ = some (.int .i64 0) := (blk_cell HB6.out 1).1; have r2 : w6.cell? ⟨w.heap.size, 2, none⟩ = some (.int .i64 0) := (blk_cell HB6.out 2).1; have r3 : w6.cell? ⟨w.heap.size, 3, none⟩ = some (.int .i64 0) := (blk_cell HB6.out 3).1; have r4 : w6.cell? ⟨w.heap.size, 4, none⟩ = some (.int .i64 0) := (blk_cell HB6.out 4).1; have f0 := (blk_cell HB6.out 0).2; have f1 := (blk_cell HB6.out 1).2; have f2 := (blk_cell HB6.out 2).2; have f3 := (blk_cell HB6.out 3).2; have f4 := (blk_cell HB6.out 4).2; clear hm) | (go_at_call 38; refine (CX.out _ (M1.out.insn o 0 s f i)).mono ?_; rintro e w5 ⟨⟨v5, rfl⟩, hm⟩; have M3 := hidOf hm; clear hm) | (go_at_call 37; refine (CI.out _).mono ?_; rintro e w3 ⟨rfl, ho⟩; have hm : MEnd p r wz w3 := ⟨M0.out.1.below ho, Chg.of_out ho⟩; have M1 := hidOf hm; have p2 := hm.co.1; have p3 := hm.cd.1; have p4 := hm.cs.1; have p5 := hm.cf.1; have p6 := hm.ci.1; have g2 := hm.co.2; have g3 := hm.cd.2; have g4 := hm.cs.2; have g5 := hm.cf.2; have g6 := hm.ci.2; clear ho hm))
  all_goals have hn1 : ¬ p = w.heap.size := by have := Hp.out; rw [size_alloc] at this; omega
  all_goals have hn2 : ¬ w.heap.size = p := fun h => hn1 h.symm
  all_goals first | (refine bodyPost_ret (results_row_tmp2 rfl _ _ w.heap.size 25 #[.int .i64 0, .int .i64 0, .int .i64 0, .int .i64 0, .int .i64 0] (0, 0) _ rfl (set5_heap HB6.out) Tryz.underlying25 rfl size5) rfl ?_; rw [Hrz.out]; exact ⟨.inl ⟨by assumption, rfl⟩, HO6.out.set5 (Nat.le_refl _) _ _ _ _ _⟩) | (refine bodyPost_ret (results_row_tmp2 rfl _ _ w.heap.size 25 #[.int .i64 0, .int .i64 0, .int .i64 0, .int .i64 0, .int .i64 0] (0, 0) _ rfl (set5_heap HB6.out) Tryz.underlying25 rfl size5) rfl ?_; rw [Hrz.out]; exact ⟨.inr (.inl ⟨by assumption, by assumption, rfl⟩), HO6.out.set5 (Nat.le_refl _) _ _ _ _ _⟩) | skip
  all_goals go_region_law (fail)
  all_goals refine via_world (fun wz => wz.heap[w.heap.size]? = some (.cells #[.int .i64 rz.o, .int .i64 rz.d, .int .i64 rz.s, .int .i64 rz.f, .int .i64 rz.i] 25 (0, 0)) ∧ Out w wz) ⟨set5_drew HB6.out, out5_drew HO6.out (Nat.le_refl _) _ _ _ _ _⟩ ?_
  all_goals rintro wq ⟨hq, hoq⟩
  all_goals have HQ := hidOf hq
  all_goals have HOQ := hidOf hoq
  all_goals clear hq hoq q2 q3 q4 q5 q6 q7 q8 q9 r0 r1 r2 r3 r4 f0 f1 f2 f3 f4 CX CO CI HRd M0 M1 M3 M6 HB6 HO6 p2 p3 p4 p5 p6 g2 g3 g4 g5 g6 hn1 hn2 c0 c1 c2 c3 HB HF HM HSm HEnv H1 Hp Ho1 HoA
  all_goals go_simp
  all_goals go_wp2
  all_goals refine bodyPost_ret (results_row_tmp2 rfl _ _ w.heap.size 25 #[.int .i64 rz.o, .int .i64 rz.d, .int .i64 rz.s, .int .i64 rz.f, .int .i64 rz.i] (0, 0) _ rfl HQ.out Tryz.underlying25 rfl size5) rfl ?_
  all_goals rw [Hrz.out]
  all_goals exact ⟨.inr (.inr ⟨by assumption, by assumption, rfl⟩), HOQ.out⟩
end Go.Proofs.YteelicelpkjmhaaGreatDoor
