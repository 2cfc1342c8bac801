import Derived.Test.YtcomhlimgocoaaaGreatDoorGc01
import Derived.Test.YtcomhlimgocoaaaGreatDoorGc00
import Derived.Test.YtcomhlimgocoaaaGreatDoorGc24
namespace Go.Proofs.YtcomhlimgocoaaaGreatDoor
open Go.RowKit
set_option linter.unusedVariables false
set_option linter.unusedSimpArgs false
theorem bldSize : (Tryz.prog.info? 55).map (·.size) = some 2 := Tryz.Builder_Extra_169.sizeBuilder
set_option maxRecDepth 100000 in
set_option maxHeartbeats 1000000 in
/-- a builder that was written into passes its own check -/
theorem chk_used (b : Nat) (w : World) (h0 : w.cell? ⟨b, 0, none⟩ = some (.pointer (some ⟨b, 0, none⟩))) : Calls Tryz.prog 53 #[.pointer (some ⟨b, 0, none⟩)] w fun e w' => e = .returned (.tuple #[]) ∧ w' = w := by
  obtain ⟨j, hj, _⟩ := Option.map_eq_some_iff.1 bldSize
  go_enter Tryz.func53, Tryz.ntmps53
  go_wp2
  rw [Lib.run_neq_ptr_same w _ Tryz.underlying52 hj]
  go_wp2
  go_end0
  exact ⟨rfl, rfl⟩
set_option maxRecDepth 100000 in
set_option maxHeartbeats 1000000 in
/-- a new one takes up its own address -/
theorem chk_new (b : Nat) (w : World) (h0 : w.cell? ⟨b, 0, none⟩ = some (.pointer none)) (hs : w.shape? b = some (55, 2)) (hf : w.frozen? ⟨b, 0, none⟩ = false) : Calls Tryz.prog 53 #[.pointer (some ⟨b, 0, none⟩)] w fun e w' => e = .returned (.tuple #[]) ∧ w' = w.setCell ⟨b, 0, none⟩ (.pointer (some ⟨b, 0, none⟩)) := by
  obtain ⟨j, hj, hj2⟩ := Option.map_eq_some_iff.1 bldSize
  go_enter Tryz.func53, Tryz.ntmps53
  go_wp2
  rw [Lib.run_to_unsafe w ⟨b, 0, none⟩ Tryz.underlying52 Tryz.underlying131 hj (by rw [hj2]; decide) hs (Nat.zero_lt_succ 1)]
  simp only [Result.andThen]
  rw [Oper.upon_value]
  go_wp2
  rw [run_callFunc_extern Tryz.func95 (by kernel_rfl) (by kernel_rfl) (by kernel_rfl) (e := Extern.AbiNoEscape.same) (by kernel_rfl), Lib.run_noEscape]
  simp only [Result.andThen]
  rw [Oper.upon_value]
  go_wp2
  rw [Lib.run_from_unsafe w ⟨b, 0, none⟩ Tryz.underlying131 Tryz.underlying52 hj hs Tryz.Builder_Extra_169.liesBuilder]
  simp only [Result.andThen]
  rw [Oper.upon_value]
  go_wp2
  go_end0
  exact ⟨rfl, rfl⟩
end Go.Proofs.YtcomhlimgocoaaaGreatDoor
namespace Go.Proofs.YtcomhlimgocoaaaGreatDoor
open Go.RowKit
set_option linter.unusedVariables false
set_option linter.unusedSimpArgs false
/-- the check, whatever the builder holds -/
theorem chk_any (B b : Nat) (bs : List Value) (w : World) (h : Lib.IsBuilder 55 5 B b bs w) : Calls Tryz.prog 53 #[.pointer (some ⟨b, 0, none⟩)] w fun e w' => e = .returned (.tuple #[]) ∧ Lib.BuilderAt 55 5 B b (.pointer (some ⟨b, 0, none⟩)) bs w' ∧ Below B w w' := by
  rcases h with h | h
  · exact (chk_new b w h.cell0 h.shape h.frozen0).mono fun e w' ⟨he, hw⟩ => ⟨he, hw ▸ h.used _, hw ▸ (Below.refl B w).setCell (p := ⟨b, 0, none⟩) h.1 _⟩
  · exact (chk_used b w h.cell0).mono fun e w' ⟨he, hw⟩ => ⟨he, hw ▸ h, hw ▸ Below.refl B _⟩
set_option maxRecDepth 100000 in
set_option maxHeartbeats 2000000 in
/-- a text is put behind what was written -/
theorem write_any (B b : Nat) (bs : List Value) (s : ByteArray) (w : World) (h : Lib.IsBuilder 55 5 B b bs w) (hlen : bs.length + s.size ≤ 140737488355328) (hBw : B ≤ w.heap.size) :
    Calls Tryz.prog 21 #[.pointer (some ⟨b, 0, none⟩), .string s] w fun e w' => (∃ v, e = .returned v) ∧ Lib.IsBuilder 55 5 B b (bs ++ Lib.strCells s) w' ∧ Below B w w' := by
  obtain ⟨i0, hi, hz0, hz1, hz2⟩ := info_parts (show (Tryz.prog.info? 5).map (fun i => (i.zero, i.size, i.bytes)) = some (some (.int .u8 0), 1, 1) from Tryz.Builder_Extra_169.infoByte)
  have CK := hidOf (chk_any B b bs w h)
  clear h
  go_enter Tryz.func21, Tryz.ntmps21
  go_wp2_with (go_at_call 53; refine CK.out.mono ?_)
  rintro e w1 ⟨rfl, ⟨hB, v, hbk, hown, hne⟩, hb1⟩
  have hsz := hb1.size
  have c0 : w1.cell? ⟨b, 0, none⟩ = some (.pointer (some ⟨b, 0, none⟩)) := by rw [Lib.cell_of_heap hbk]; rfl
  have c1 : w1.cell? ⟨b, 1, none⟩ = some v := by rw [Lib.cell_of_heap hbk]; rfl
  have hlt : b < w1.heap.size := (Array.getElem?_eq_some_iff.1 hbk).1
  go_wp2_with (at_builtin; refine Lib.wpList_append_own_string _ rfl _ _ 53 9 rfl B 5 i0 Tryz.underlying53 Tryz.underlying9 hi hz0 hz1 hz2 _ _ _ rfl hown s rfl (by unfold maxLen; omega) (by omega) (by omega) ?_)
  intro v' w2 hown' hgrow _
  have hb2 : w2.heap[b]? = some (.cells #[.pointer (some ⟨b, 0, none⟩), v] 55 (0, 0)) := (hgrow.block b hlt (fun e => hne e.symm)).trans hbk
  have d0 : w2.cell? ⟨b, 0, none⟩ = some (.pointer (some ⟨b, 0, none⟩)) := by rw [Lib.cell_of_heap hb2]; rfl
  have d1 : w2.cell? ⟨b, 1, none⟩ = some v := by rw [Lib.cell_of_heap hb2]; rfl
  have f1 : w2.frozen? ⟨b, 1, none⟩ = false := Lib.frozen_of_heap hb2 1
  have HW := hidOf ((hb1.grown hgrow (by omega) (fun k hk => (hown.lt k hk).1)).setCell (p := ⟨b, 1, none⟩) hB v')
  obtain ⟨ao, n', cap, rfl⟩ : ∃ ao n' cap, v' = .slice ao n' cap := by
    rcases hown'.2 with ⟨hv, _⟩ | ⟨g, cap, cur, hv, _⟩
    · exact ⟨_, _, _, hv⟩
    · exact ⟨_, _, _, hv⟩
  have HB : Hid (Lib.IsBuilder 55 5 B b (bs ++ Lib.strCells s) (w2.setCell ⟨b, 1, none⟩ (.slice ao n' cap))) := .inr (Lib.BuilderAt.put (T := 55) (e := 5) hB hb2 (bs' := bs ++ Lib.strCells s) (by rw [List.length_append, Lib.strCells_length]; exact hown') (by decide))
  clear hown' hgrow hb2 hbk hown hne hb1 c0 c1
  go_wp2
  go_ret2
  exact ⟨⟨_, rfl⟩, HB.out, HW.out⟩
end Go.Proofs.YtcomhlimgocoaaaGreatDoor
namespace Go.Proofs.YtcomhlimgocoaaaGreatDoor
open Go.RowKit
set_option linter.unusedVariables false
set_option linter.unusedSimpArgs false
theorem mem_row (k : Nat) (hk : k < 4) : ∃ l, memT[k]? = some (memA k, l) ∧ ∀ j, l.getD j [] = memW k j := by
  rcases (show k = 0 ∨ k = 1 ∨ k = 2 ∨ k = 3 from by omega) with rfl | rfl | rfl | rfl <;> exact ⟨_, rfl, fun j => rfl⟩
theorem mem_hit (o i : Int) (j : Nat) (hj : bits .and .i64 o 24 = (j : Int) * 8) (k : Nat) (hk : k < 4) (h : (bits .andNot .i64 o 24 == memA k) = true) (hno : ∀ q, q < k → (bits .andNot .i64 o 24 == memA q) = false) : wMem o i = memW k j := by
  unfold wMem
  obtain ⟨l, hl, hw⟩ := mem_row k hk
  rw [find_at (fun r : Int × List (List UInt8) => bits .andNot .i64 o 24 == r.1) memT k _ hl h (fun q y hq hy => by
    obtain ⟨l', hl', _⟩ := mem_row q (by omega)
    rw [hl'] at hy
    simp only [Option.some.injEq] at hy
    subst hy
    exact hno q hq)]
  simp only
  rw [hj, show ((j : Int) * 8 / 8).toNat = j from by omega]
  exact hw j
theorem mem_miss (o i : Int) (hno : ∀ q, q < 4 → (bits .andNot .i64 o 24 == memA q) = false) : wMem o i = wImm o i := by
  unfold wMem
  rw [find_no (fun r : Int × List (List UInt8) => bits .andNot .i64 o 24 == r.1) memT (fun q y hq hy => by
    obtain ⟨l', hl', _⟩ := mem_row q hq
    rw [hl'] at hy
    simp only [Option.some.injEq] at hy
    subst hy
    exact hno q hq)]
theorem and24 : ∀ o : Fin 256, ∃ j : Fin 4, bits .and .i64 (o.val : Int) 24 = (j.val : Int) * 8 := by decide +kernel
set_option maxRecDepth 20000 in
set_option maxHeartbeats 1600000 in
theorem memWord_at (o d s f i : Int) (j : Nat) (hj4 : j < 4) (hj : bits .and .i64 o 24 = (j : Int) * 8) (w : World) (hM : MemTb w) (hI : ImmTb w) : Calls Tryz.prog 55 #[.agg #[.int .i64 o, .int .i64 d, .int .i64 s, .int .i64 f, .int .i64 i]] w fun e w' => e = .returned (.string ⟨(wMem o i).toArray⟩) ∧ Out w w' := by
  have HH := hidOf (mem_hit o i j hj)
  have HM := hidOf (mem_miss o i)
  have CI : Hid (∀ wx, Out w wx → Calls Tryz.prog 97 #[.agg #[.int .i64 o, .int .i64 d, .int .i64 s, .int .i64 f, .int .i64 i]] wx fun e w' => e = .returned (.string ⟨(wImm o i).toArray⟩) ∧ Out wx w') := fun wx ho => immWord_any o d s f i wx (rangeAt_out hI ho)
  obtain ⟨A, HA⟩ : ∃ A : Nat → Int, Hid (A = memA) := ⟨_, hidOf rfl⟩
  obtain ⟨W, HW⟩ : ∃ W : Nat → Nat → List UInt8, Hid (W = memW) := ⟨_, hidOf rfl⟩
  obtain ⟨cs, hcs⟩ : ∃ cs, cs = memCs := ⟨_, rfl⟩
  rw [← HA.out] at HH HM
  rw [← HW.out] at HH
  generalize wMem o i = R at *
  generalize wImm o i = RI at *
  have hix : ∀ (k : Nat), (k : Int) < 4 → ∀ w : World, (Instr.index 136 (.agg cs.toArray) (.int .i64 k)).run Tryz.prog w = .ok (.agg #[.int .u8 (A k), .string ⟨(W k 0).toArray⟩, .string ⟨(W k 1).toArray⟩, .string ⟨(W k 2).toArray⟩, .string ⟨(W k 3).toArray⟩]) w := fun k hk w => by
    rw [hcs, mem_idx k (by omega) w, HA.out, HW.out]
  have HRg : Hid ((w.alloc (.cells #[.int .i64 o, .int .i64 d, .int .i64 s, .int .i64 f, .int .i64 i] 25)).rangeAt 3 0 cs) := by rw [hcs]; exact rangeAt_out hM ((Out.refl w).alloc _)
  have HSz : Hid ((Tryz.prog.info? 136).map (·.size) = some cs.length) := by
    rw [hcs]
    exact (show (Tryz.prog.info? 136).map (·.size) = some memCs.length by kernel_rfl)
  have HAB : Hid (∀ k : Nat, k < 4 → 0 ≤ A k ∧ A k < 256) := by
    rw [HA.out]
    intro k hk
    have := mem_all ⟨k, hk⟩ 0
    exact ⟨this.2.2.2.1, this.2.2.2.2⟩
  clear hM hI hcs
  go_enter Tryz.func55, Tryz.ntmps55
  go_wp2_with (refine wpList_load_mid rfl 136 (.global 3) rfl 3 0 rfl cs _ HRg.out Tryz.underlying136 rfl HSz.out ?_)
  go_loopw [6] (fun iv wr => ∃ k : Nat, k ≤ 4 ∧ iv = .int .i64 k ∧ Hid (∀ q, q < k → (bits .andNot .i64 o 24 == A q) = false) ∧ Out (w.alloc (.cells #[.int .i64 o, .int .i64 d, .int .i64 s, .int .i64 f, .int .i64 i] 25)) wr) (fun iv _ => 4 - (intOf iv).toNat)
  case atStart => exact ⟨0, by omega, rfl, fun j hj => by omega, Out.refl _⟩
  case round =>
    obtain ⟨k, hk, rfl, Hno, ho⟩ := hrel
    have q0 : ∀ O, (wr.alloc O).cell? ⟨w.heap.size, 0, none⟩ = some (.int .i64 o) := fun O => cell_later (ho.alloc O) (new_cell w _ _ 0)
    have Ho := hidOf ho
    by_cases hkN : k < 4
    · have hlt : (k : Int) < 4 := by omega
      obtain ⟨b1, b2⟩ := HAB.out k hkN
      clear ho
      cases h1 : (bits .andNot .i64 o 24 == (A k))
      · have Hno' : Hid (∀ q, q < k + 1 → (bits .andNot .i64 o 24 == A q) = false) := fun q hq => by
          by_cases z : q = k
          · subst z; exact h1
          · exact Hno.out q (by omega)
        go_wp2
        go_roundw
        case rel => exact ⟨k + 1, by omega, by simp, Hno', Ho.out.alloc _⟩
        case measure => simp [intOf]; omega
      · have HRes : Hid (R = W k j) := HH.out k hkN h1 Hno.out
        rcases (show j = 0 ∨ j = 1 ∨ j = 2 ∨ j = 3 from by omega) with rfl | rfl | rfl | rfl
        all_goals (first | (have hj' : bits .and .i64 o 24 = 0 := hj.trans rfl) | (have hj' : bits .and .i64 o 24 = 8 := hj.trans rfl) | (have hj' : bits .and .i64 o 24 = 16 := hj.trans rfl) | (have hj' : bits .and .i64 o 24 = 24 := hj.trans rfl))
        all_goals clear hj
        all_goals go_wp2
        all_goals go_ret
        all_goals exact ⟨by rw [HRes.out]; rfl, Out.trans ((Out.refl w).alloc _) (Ho.out.alloc _)⟩
    · have hlt : ¬ (k : Int) < 4 := by omega
      obtain rfl : k = 4 := by omega
      have HRes : Hid (R = RI) := HM.out Hno.out
      have c0 : wr.cell? ⟨w.heap.size, 0, none⟩ = some (.int .i64 o) := cell_later ho (new_cell w _ _ 0)
      have c1 : wr.cell? ⟨w.heap.size, 1, none⟩ = some (.int .i64 d) := cell_later ho (new_cell w _ _ 1)
      have c2 : wr.cell? ⟨w.heap.size, 2, none⟩ = some (.int .i64 s) := cell_later ho (new_cell w _ _ 2)
      have c3 : wr.cell? ⟨w.heap.size, 3, none⟩ = some (.int .i64 f) := cell_later ho (new_cell w _ _ 3)
      have c4 : wr.cell? ⟨w.heap.size, 4, none⟩ = some (.int .i64 i) := cell_later ho (new_cell w _ _ 4)
      have CIr := hidOf (CI.out wr (Out.trans ((Out.refl w).alloc _) ho))
      clear ho
      go_wp2_with (go_at_call 97; refine CIr.out.mono ?_; rintro e w1 ⟨rfl, ho1⟩; have Ho1 := hidOf ho1; clear ho1)
      go_ret
      exact ⟨by rw [HRes.out]; rfl, Out.trans (Out.trans ((Out.refl w).alloc _) Ho.out) Ho1.out⟩
theorem memoryWord_any (o d s f i : Int) (h0 : 0 ≤ o) (h1 : o < 256) (w : World) (hM : MemTb w) (hI : ImmTb w) : Calls Tryz.prog 55 #[.agg #[.int .i64 o, .int .i64 d, .int .i64 s, .int .i64 f, .int .i64 i]] w fun e w' => e = .returned (.string ⟨(wMem o i).toArray⟩) ∧ Out w w' := by
  obtain ⟨j, hj⟩ := and24 ⟨o.toNat, by omega⟩
  rw [show (((⟨o.toNat, by omega⟩ : Fin 256).val : Nat) : Int) = o from by simp only; omega] at hj
  exact memWord_at o d s f i j.val j.isLt hj w hM hI
end Go.Proofs.YtcomhlimgocoaaaGreatDoor
