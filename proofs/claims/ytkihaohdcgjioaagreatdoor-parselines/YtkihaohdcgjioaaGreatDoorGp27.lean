import Derived.Test.YtkihaohdcgjioaaGreatDoorGp24
namespace Go.Proofs.YtkihaohdcgjioaaGreatDoor
open Go.RowKit
open Go.Maps (Keyed)
set_option linter.unusedVariables false
set_option linter.unusedSimpArgs false
theorem mnLaw : Keyed Tryz.prog 9 := Maps.string_keyed Tryz.underlying9
theorem or_nat (x : Int) (k : Nat) (N : Nat) (h : ∀ j : Fin N, bits .or .i64 ((j.val : Int) * 16) x % 256 = (j.val : Int) * 16 + x) (hk : k < N) : R4 (.agg #[.int .u8 (bits .or .i64 ((k : Int) * 16) x % 256), .int .u8 0, .int .u8 0, .int .u8 0]) = some (mnD ((k : Int) * 16 + x, 0, 0, 0), []) := by
  rw [h ⟨k, hk⟩]
  rfl
theorem or_7 : ∀ j : Fin 13, bits .or .i64 ((j.val : Int) * 16) 7 % 256 = (j.val : Int) * 16 + 7 := by decide +kernel
theorem or_4 : ∀ j : Fin 13, bits .or .i64 ((j.val : Int) * 16) 4 % 256 = (j.val : Int) * 16 + 4 := by decide +kernel
theorem or_5 : ∀ j : Fin 14, bits .or .i64 ((j.val : Int) * 16) 5 % 256 = (j.val : Int) * 16 + 5 := by decide +kernel
theorem or_6 : ∀ j : Fin 14, bits .or .i64 ((j.val : Int) * 16) 6 % 256 = (j.val : Int) * 16 + 6 := by decide +kernel
theorem cell_grown {w w' : World} {b : Nat} (h : w.grownBy w' (some b)) {a : Addr} {v : Value} (hc : w.cell? a = some v) (hb : ¬ a.block = b) : w'.cell? a = some v := by
  rw [← hc]
  exact World.cell?_of_block (h.block _ (World.block_lt_of_cell? w a hc) (fun e => hb (by cases e; rfl)))
theorem out_grown {w0 w w' : World} {b : Nat} (h : Out w0 w) (g : w.grownBy w' (some b)) (hb : w0.heap.size ≤ b) : Out w0 w' := Chg.out (Chg.of_grown (S := fun k => k = b) g (fun k hk => by cases hk; rfl)) h (fun k hk => by rw [hk]; exact hb)
theorem keyOf_tx (l : List UInt8) (h : l.length ≤ 1000) : keyOf Tryz.prog 9 (.string ⟨l.toArray⟩) = some (.string l) := by
  have := WideMaps.keyOf_string_mk (P := Tryz.prog) (k := 9) Tryz.underlying9 (s := ⟨l.toArray⟩) (by show l.toArray.size ≤ _; rw [List.size_toArray]; unfold maxLen; omega)
  simpa using this
def reckCs : List Value := reckT.flatMap (fun r => [.string ⟨r.1.toArray⟩, .string ⟨r.2.toArray⟩])
def ReckTb (w : World) : Prop := w.rangeAt 3 0 reckCs
def reckA (k : Nat) : List UInt8 := match reckT[k]? with | some r => r.1 | none => []
def reckB (k : Nat) : List UInt8 := match reckT[k]? with | some r => r.2 | none => []
theorem reck_row (k : Nat) (hk : k < 13) : reckT[k]? = some (reckA k, reckB k) := by
  obtain ⟨r, hr⟩ : ∃ r, reckT[k]? = some r := ⟨_, List.getElem?_eq_getElem (show k < reckT.length from hk)⟩
  unfold reckA reckB
  rw [hr]
theorem reck_ent (k : Nat) (hk : k < 13) (x y : Int) : entA reckT x y k = [(reckA k, (k * 16 + x, 0, 0, 0)), (reckB k, (k * 16 + y, 0, 0, 0))] := by
  unfold entA
  rw [reck_row k hk]
theorem reck_len (k : Nat) : (reckA k).length ≤ 1000 ∧ (reckB k).length ≤ 1000 := by
  by_cases hk : k < 13
  · have h : ∀ r ∈ reckT, r.1.length ≤ 1000 ∧ r.2.length ≤ 1000 := by decide
    exact h _ (List.mem_of_getElem? (reck_row k hk))
  · unfold reckA reckB
    rw [List.getElem?_eq_none (show reckT.length ≤ k from by have : reckT.length = 13 := rfl; omega)]
    decide
set_option maxRecDepth 20000 in
theorem reck_idx (k : Nat) (hk : k < 13) (w : World) : (Instr.index 206 (.agg reckCs.toArray) (.int .i64 k)).run Tryz.prog w = .ok (.agg #[.string ⟨(reckA k).toArray⟩, .string ⟨(reckB k).toArray⟩]) w := by
  rcases (show k = 0 ∨ k = 1 ∨ k = 2 ∨ k = 3 ∨ k = 4 ∨ k = 5 ∨ k = 6 ∨ k = 7 ∨ k = 8 ∨ k = 9 ∨ k = 10 ∨ k = 11 ∨ k = 12 from by omega) with rfl | rfl | rfl | rfl | rfl | rfl | rfl | rfl | rfl | rfl | rfl | rfl | rfl <;> kernel_rfl
def jumpCs : List Value := jumpT.flatMap (fun r => [.string ⟨r.1.toArray⟩, .string ⟨r.2.toArray⟩])
def JumpTb (w : World) : Prop := w.rangeAt 0 0 jumpCs
def jumpA (k : Nat) : List UInt8 := match jumpT[k]? with | some r => r.1 | none => []
def jumpB (k : Nat) : List UInt8 := match jumpT[k]? with | some r => r.2 | none => []
theorem jump_row (k : Nat) (hk : k < 14) : jumpT[k]? = some (jumpA k, jumpB k) := by
  obtain ⟨r, hr⟩ : ∃ r, jumpT[k]? = some r := ⟨_, List.getElem?_eq_getElem (show k < jumpT.length from hk)⟩
  unfold jumpA jumpB
  rw [hr]
theorem jump_ent (k : Nat) (hk : k < 14) (x y : Int) : entA jumpT x y k = [(jumpA k, (k * 16 + x, 0, 0, 0)), (jumpB k, (k * 16 + y, 0, 0, 0))] := by
  unfold entA
  rw [jump_row k hk]
theorem jump_len (k : Nat) : (jumpA k).length ≤ 1000 ∧ (jumpB k).length ≤ 1000 := by
  by_cases hk : k < 14
  · have h : ∀ r ∈ jumpT, r.1.length ≤ 1000 ∧ r.2.length ≤ 1000 := by decide
    exact h _ (List.mem_of_getElem? (jump_row k hk))
  · unfold jumpA jumpB
    rw [List.getElem?_eq_none (show jumpT.length ≤ k from by have : jumpT.length = 14 := rfl; omega)]
    decide
set_option maxRecDepth 20000 in
theorem jump_idx (k : Nat) (hk : k < 14) (w : World) : (Instr.index 173 (.agg jumpCs.toArray) (.int .i64 k)).run Tryz.prog w = .ok (.agg #[.string ⟨(jumpA k).toArray⟩, .string ⟨(jumpB k).toArray⟩]) w := by
  rcases (show k = 0 ∨ k = 1 ∨ k = 2 ∨ k = 3 ∨ k = 4 ∨ k = 5 ∨ k = 6 ∨ k = 7 ∨ k = 8 ∨ k = 9 ∨ k = 10 ∨ k = 11 ∨ k = 12 ∨ k = 13 from by omega) with rfl | rfl | rfl | rfl | rfl | rfl | rfl | rfl | rfl | rfl | rfl | rfl | rfl | rfl <;> kernel_rfl
def memCs : List Value := memT.flatMap (fun r => .int .u8 r.1 :: r.2.map (fun l => .string ⟨l.toArray⟩))
def MemTb (w : World) : Prop := w.rangeAt 4 0 memCs
def memA (k : Nat) : Int := match memT[k]? with | some r => r.1 | none => 0
def memW (k j : Nat) : List UInt8 := match memT[k]? with | some r => r.2.getD j [] | none => []
set_option maxRecDepth 20000 in
theorem mem_idx (k : Nat) (hk : k < 4) (w : World) : (Instr.index 209 (.agg memCs.toArray) (.int .i64 k)).run Tryz.prog w = .ok (.agg #[.int .u8 (memA k), .string ⟨(memW k 0).toArray⟩, .string ⟨(memW k 1).toArray⟩, .string ⟨(memW k 2).toArray⟩, .string ⟨(memW k 3).toArray⟩]) w := by
  rcases (show k = 0 ∨ k = 1 ∨ k = 2 ∨ k = 3 from by omega) with rfl | rfl | rfl | rfl <;> kernel_rfl
theorem idx4s (s : Nat → Value) (k : Nat) (hk : k < 4) (w : World) : (Instr.index 207 (.agg #[s 0, s 1, s 2, s 3]) (.int .i64 k)).run Tryz.prog w = .ok (s k) w := by
  rcases (show k = 0 ∨ k = 1 ∨ k = 2 ∨ k = 3 from by omega) with rfl | rfl | rfl | rfl <;> kernel_rfl
theorem mem_all : ∀ k : Fin 4, ∀ j : Fin 4, entM k.val j.val = [(memW k.val j.val, (memA k.val + (j.val : Int) * 8, 0, 0, 0))] ∧ (memW k.val j.val).length ≤ 1000 ∧ bits .or .u8 (memA k.val) ((j.val : Int) * 8) = memA k.val + (j.val : Int) * 8 ∧ 0 ≤ memA k.val ∧ memA k.val < 256 := by decide +kernel
theorem off_ent (k : Nat) (hk : k < 9) : entO k = [(offS3 k, (offA k, 0, offB k, 0))] := by
  unfold entO
  rw [(off_row k hk).1]
theorem imm_ent (k : Nat) (hk : k < 29) : entI k = [(immS3 k, (immA k, 0, 0, immB k))] := by
  unfold entI
  rw [(imm_row k hk).1]
theorem off_len (k : Nat) (hk : k < 9) : (offS3 k).length ≤ 1000 := (show ∀ r ∈ offT, r.2.2.length ≤ 1000 by decide) _ (List.mem_of_getElem? (off_row k hk).1)
theorem imm_len (k : Nat) (hk : k < 29) : (immS3 k).length ≤ 1000 := (show ∀ r ∈ immT, r.2.2.length ≤ 1000 by decide) _ (List.mem_of_getElem? (imm_row k hk).1)
/-- the tables of words -/
def WTabs (w : World) : Prop := ReckTb w ∧ JumpTb w ∧ MemTb w ∧ OffTb w ∧ ImmTb w
theorem WTabs.out {w w' : World} (h : WTabs w) (o : Out w w') : WTabs w' := ⟨rangeAt_out h.1 o, rangeAt_out h.2.1 o, rangeAt_out h.2.2.1 o, rangeAt_out h.2.2.2.1 o, rangeAt_out h.2.2.2.2 o⟩
end Go.Proofs.YtkihaohdcgjioaaGreatDoor
namespace Go.Proofs.YtkihaohdcgjioaaGreatDoor
open Go.RowKit
set_option linter.unusedVariables false
set_option linter.unusedSimpArgs false
theorem mem_row (k : Nat) (hk : k < 4) : ∃ l, memT[k]? = some (memA k, l) ∧ ∀ j, l.getD j [] = memW k j := by
  rcases (show k = 0 ∨ k = 1 ∨ k = 2 ∨ k = 3 from by omega) with rfl | rfl | rfl | rfl <;> exact ⟨_, rfl, fun j => rfl⟩
theorem mem_hit (o i : Int) (j : Nat) (hj : bits .and .i64 o 24 = (j : Int) * 8) (k : Nat) (hk : k < 4) (h : (bits .andNot .i64 o 24 == memA k) = true) (hno : ∀ q, q < k → (bits .andNot .i64 o 24 == memA q) = false) : wMem o i = memW k j := by
  unfold wMem
  obtain ⟨l, hl, hw⟩ := mem_row k hk
  rw [find_at (fun r : Int × List (List UInt8) => bits .andNot .i64 o 24 == r.1) memT k _ hl h (fun q y hq hy => by
    obtain ⟨l', hl', _⟩ := mem_row q (by omega)
    rw [hl'] at hy
    simp only [Option.some.injEq] at hy
    subst hy
    exact hno q hq)]
  simp only
  rw [hj, show ((j : Int) * 8 / 8).toNat = j from by omega]
  exact hw j
theorem mem_miss (o i : Int) (hno : ∀ q, q < 4 → (bits .andNot .i64 o 24 == memA q) = false) : wMem o i = wImm o i := by
  unfold wMem
  rw [find_no (fun r : Int × List (List UInt8) => bits .andNot .i64 o 24 == r.1) memT (fun q y hq hy => by
    obtain ⟨l', hl', _⟩ := mem_row q hq
    rw [hl'] at hy
    simp only [Option.some.injEq] at hy
    subst hy
    exact hno q hq)]
theorem and24 : ∀ o : Fin 256, ∃ j : Fin 4, bits .and .i64 (o.val : Int) 24 = (j.val : Int) * 8 := by decide +kernel
set_option maxRecDepth 20000 in
set_option maxHeartbeats 1600000 in
theorem memWord_at (o d s f i : Int) (j : Nat) (hj4 : j < 4) (hj : bits .and .i64 o 24 = (j : Int) * 8) (w : World) (hM : MemTb w) (hI : ImmTb w) : Calls Tryz.prog 127 #[.agg #[.int .i64 o, .int .i64 d, .int .i64 s, .int .i64 f, .int .i64 i]] w fun e w' => e = .returned (.string ⟨(wMem o i).toArray⟩) ∧ Out w w' := by
  have HH := hidOf (mem_hit o i j hj)
  have HM := hidOf (mem_miss o i)
  have CI : Hid (∀ wx, Out w wx → Calls Tryz.prog 169 #[.agg #[.int .i64 o, .int .i64 d, .int .i64 s, .int .i64 f, .int .i64 i]] wx fun e w' => e = .returned (.string ⟨(wImm o i).toArray⟩) ∧ Out wx w') := fun wx ho => immWord_any o d s f i wx (rangeAt_out hI ho)
  obtain ⟨A, HA⟩ : ∃ A : Nat → Int, Hid (A = memA) := ⟨_, hidOf rfl⟩
  obtain ⟨W, HW⟩ : ∃ W : Nat → Nat → List UInt8, Hid (W = memW) := ⟨_, hidOf rfl⟩
  obtain ⟨cs, hcs⟩ : ∃ cs, cs = memCs := ⟨_, rfl⟩
  rw [← HA.out] at HH HM
  rw [← HW.out] at HH
  generalize wMem o i = R at *
  generalize wImm o i = RI at *
  have hix : ∀ (k : Nat), (k : Int) < 4 → ∀ w : World, (Instr.index 209 (.agg cs.toArray) (.int .i64 k)).run Tryz.prog w = .ok (.agg #[.int .u8 (A k), .string ⟨(W k 0).toArray⟩, .string ⟨(W k 1).toArray⟩, .string ⟨(W k 2).toArray⟩, .string ⟨(W k 3).toArray⟩]) w := fun k hk w => by
    rw [hcs, mem_idx k (by omega) w, HA.out, HW.out]
  have HRg : Hid ((w.alloc (.cells #[.int .i64 o, .int .i64 d, .int .i64 s, .int .i64 f, .int .i64 i] 58)).rangeAt 4 0 cs) := by rw [hcs]; exact rangeAt_out hM ((Out.refl w).alloc _)
  have HSz : Hid ((Tryz.prog.info? 209).map (·.size) = some cs.length) := by
    rw [hcs]
    exact (show (Tryz.prog.info? 209).map (·.size) = some memCs.length by kernel_rfl)
  have HAB : Hid (∀ k : Nat, k < 4 → 0 ≤ A k ∧ A k < 256) := by
    rw [HA.out]
    intro k hk
    have := mem_all ⟨k, hk⟩ 0
    exact ⟨this.2.2.2.1, this.2.2.2.2⟩
  clear hM hI hcs
  go_enter Tryz.func127, Tryz.ntmps127
  go_wp2_with (refine wpList_load_mid rfl 209 (.global 4) rfl 4 0 rfl cs _ HRg.out Tryz.underlying209 rfl HSz.out ?_)
  go_loopw [6] (fun iv wr => ∃ k : Nat, k ≤ 4 ∧ iv = .int .i64 k ∧ Hid (∀ q, q < k → (bits .andNot .i64 o 24 == A q) = false) ∧ Out (w.alloc (.cells #[.int .i64 o, .int .i64 d, .int .i64 s, .int .i64 f, .int .i64 i] 58)) wr) (fun iv _ => 4 - (intOf iv).toNat)
  case atStart => exact ⟨0, by omega, rfl, fun j hj => by omega, Out.refl _⟩
  case round =>
    obtain ⟨k, hk, rfl, Hno, ho⟩ := hrel
    have q0 : ∀ O, (wr.alloc O).cell? ⟨w.heap.size, 0, none⟩ = some (.int .i64 o) := fun O => cell_later (ho.alloc O) (new_cell w _ _ 0)
    have Ho := hidOf ho
    by_cases hkN : k < 4
    · have hlt : (k : Int) < 4 := by omega
      obtain ⟨b1, b2⟩ := HAB.out k hkN
      clear ho
      cases h1 : (bits .andNot .i64 o 24 == (A k))
      · have Hno' : Hid (∀ q, q < k + 1 → (bits .andNot .i64 o 24 == A q) = false) := fun q hq => by
          by_cases z : q = k
          · subst z; exact h1
          · exact Hno.out q (by omega)
        go_wp2
        go_roundw
        case rel => exact ⟨k + 1, by omega, by simp, Hno', Ho.out.alloc _⟩
        case measure => simp [intOf]; omega
      · have HRes : Hid (R = W k j) := HH.out k hkN h1 Hno.out
        rcases (show j = 0 ∨ j = 1 ∨ j = 2 ∨ j = 3 from by omega) with rfl | rfl | rfl | rfl
        all_goals (first | (have hj' : bits .and .i64 o 24 = 0 := hj.trans rfl) | (have hj' : bits .and .i64 o 24 = 8 := hj.trans rfl) | (have hj' : bits .and .i64 o 24 = 16 := hj.trans rfl) | (have hj' : bits .and .i64 o 24 = 24 := hj.trans rfl))
        all_goals clear hj
        all_goals go_wp2
        all_goals go_ret
        all_goals exact ⟨by rw [HRes.out]; rfl, Out.trans ((Out.refl w).alloc _) (Ho.out.alloc _)⟩
    · have hlt : ¬ (k : Int) < 4 := by omega
      obtain rfl : k = 4 := by omega
      have HRes : Hid (R = RI) := HM.out Hno.out
      have c0 : wr.cell? ⟨w.heap.size, 0, none⟩ = some (.int .i64 o) := cell_later ho (new_cell w _ _ 0)
      have c1 : wr.cell? ⟨w.heap.size, 1, none⟩ = some (.int .i64 d) := cell_later ho (new_cell w _ _ 1)
      have c2 : wr.cell? ⟨w.heap.size, 2, none⟩ = some (.int .i64 s) := cell_later ho (new_cell w _ _ 2)
      have c3 : wr.cell? ⟨w.heap.size, 3, none⟩ = some (.int .i64 f) := cell_later ho (new_cell w _ _ 3)
      have c4 : wr.cell? ⟨w.heap.size, 4, none⟩ = some (.int .i64 i) := cell_later ho (new_cell w _ _ 4)
      have CIr := hidOf (CI.out wr (Out.trans ((Out.refl w).alloc _) ho))
      clear ho
      go_wp2_with (go_at_call 169; refine CIr.out.mono ?_; rintro e w1 ⟨rfl, ho1⟩; have Ho1 := hidOf ho1; clear ho1)
      go_ret
      exact ⟨by rw [HRes.out]; rfl, Out.trans (Out.trans ((Out.refl w).alloc _) Ho.out) Ho1.out⟩
theorem memoryWord_any (o d s f i : Int) (h0 : 0 ≤ o) (h1 : o < 256) (w : World) (hM : MemTb w) (hI : ImmTb w) : Calls Tryz.prog 127 #[.agg #[.int .i64 o, .int .i64 d, .int .i64 s, .int .i64 f, .int .i64 i]] w fun e w' => e = .returned (.string ⟨(wMem o i).toArray⟩) ∧ Out w w' := by
  obtain ⟨j, hj⟩ := and24 ⟨o.toNat, by omega⟩
  rw [show (((⟨o.toNat, by omega⟩ : Fin 256).val : Nat) : Int) = o from by simp only; omega] at hj
  exact memWord_at o d s f i j.val j.isLt hj w hM hI
end Go.Proofs.YtkihaohdcgjioaaGreatDoor
