import Derived.Test.YtcomhlimgocoaaaGreatDoorGc23
namespace Go.Proofs.YtcomhlimgocoaaaGreatDoor
open Go.RowKit
set_option linter.unusedVariables false
set_option linter.unusedSimpArgs false
def offCs : List Value := offT.flatMap (fun r => [.int .u8 r.1, .int .u8 r.2.1, .string ⟨r.2.2.toArray⟩])
def OffTb (w : World) : Prop := w.rangeAt 4 0 offCs
theorem offT_len : offT.length = 9 := rfl
def offA (k : Nat) : Int := match offT[k]? with | some r => r.1 | none => 0
def offB (k : Nat) : Int := match offT[k]? with | some r => r.2.1 | none => 0
def offS3 (k : Nat) : List UInt8 := match offT[k]? with | some r => r.2.2 | none => []
theorem offT_bd : ∀ r ∈ offT, 0 ≤ r.1 ∧ r.1 < 256 ∧ 0 ≤ r.2.1 ∧ r.2.1 < 256 := by decide
theorem off_row (k : Nat) (hk : k < 9) : offT[k]? = some (offA k, offB k, offS3 k) ∧ 0 ≤ offA k ∧ offA k < 256 ∧ 0 ≤ offB k ∧ offB k < 256 := by
  obtain ⟨r, hr⟩ : ∃ r, offT[k]? = some r := ⟨_, List.getElem?_eq_getElem (by rw [offT_len]; exact hk)⟩
  have hb := offT_bd r (List.mem_of_getElem? hr)
  unfold offA offB offS3
  rw [hr]
  exact ⟨rfl, hb⟩
set_option maxRecDepth 20000 in
theorem off_idx (k : Nat) (hk : k < 9) (w : World) : (Instr.index 142 (.agg offCs.toArray) (.int .i64 k)).run Tryz.prog w = .ok (.agg #[.int .u8 (offA k), .int .u8 (offB k), .string ⟨(offS3 k).toArray⟩]) w := by
  rcases (show k = 0 ∨ k = 1 ∨ k = 2 ∨ k = 3 ∨ k = 4 ∨ k = 5 ∨ k = 6 ∨ k = 7 ∨ k = 8 from by omega) with rfl | rfl | rfl | rfl | rfl | rfl | rfl | rfl | rfl <;> kernel_rfl
theorem off_hit (o x : Int) (k : Nat) (hk : k < 9) (h : (bits .or .i64 o 8 == bits .or .i64 (offA k) 8 && x == offB k) = true) (hno : ∀ j, j < k → (bits .or .i64 o 8 == bits .or .i64 (offA j) 8 && x == offB j) = false) : wOff o x = offS3 k := by
  unfold wOff
  rw [find_at (fun r : Int × Int × List UInt8 => bits .or .i64 o 8 == bits .or .i64 r.1 8 && x == r.2.1) offT k _ (off_row k hk).1 h (fun j y hj hy => by
    rw [(off_row j (by omega)).1] at hy
    simp only [Option.some.injEq] at hy
    subst hy
    exact hno j hj)]
theorem off_miss (o x : Int) (hno : ∀ j, j < 9 → (bits .or .i64 o 8 == bits .or .i64 (offA j) 8 && x == offB j) = false) : wOff o x = [] := by
  unfold wOff
  rw [find_no (fun r : Int × Int × List UInt8 => bits .or .i64 o 8 == bits .or .i64 r.1 8 && x == r.2.1) offT (fun j y hj hy => by
    rw [offT_len] at hj
    rw [(off_row j hj).1] at hy
    simp only [Option.some.injEq] at hy
    subst hy
    exact hno j hj)]
set_option maxRecDepth 20000 in
set_option maxHeartbeats 1600000 in
theorem offWord_any (o d s f i : Int) (w : World) (hT : OffTb w) : Calls Tryz.prog 96 #[.agg #[.int .i64 o, .int .i64 d, .int .i64 s, .int .i64 f, .int .i64 i]] w fun e w' => e = .returned (.string ⟨(wOff o f).toArray⟩) ∧ Out w w' := by
  have HH := hidOf (off_hit o f)
  have HM := hidOf (off_miss o f)
  obtain ⟨A, HA⟩ : ∃ A : Nat → Int, Hid (A = offA) := ⟨_, hidOf rfl⟩
  obtain ⟨B, HB⟩ : ∃ B : Nat → Int, Hid (B = offB) := ⟨_, hidOf rfl⟩
  obtain ⟨T, HT⟩ : ∃ T : Nat → List UInt8, Hid (T = offS3) := ⟨_, hidOf rfl⟩
  obtain ⟨cs, hcs⟩ : ∃ cs, cs = offCs := ⟨_, rfl⟩
  rw [← HA.out, ← HB.out] at HH HM
  rw [← HT.out] at HH
  generalize wOff o f = R at *
  have HAB : Hid (∀ k : Nat, k < 9 → 0 ≤ A k ∧ A k < 256 ∧ 0 ≤ B k ∧ B k < 256) := by rw [HA.out, HB.out]; exact fun k hk => (off_row k hk).2
  have hix : ∀ (k : Nat), (k : Int) < 9 → ∀ w : World, (Instr.index 142 (.agg cs.toArray) (.int .i64 k)).run Tryz.prog w = .ok (.agg #[.int .u8 (A k), .int .u8 (B k), .string ⟨(T k).toArray⟩]) w := fun k hk w => by
    rw [hcs, off_idx k (by omega) w, HA.out, HB.out, HT.out]
  have HRg : Hid ((w.alloc (.cells #[.int .i64 o, .int .i64 d, .int .i64 s, .int .i64 f, .int .i64 i] 25)).rangeAt 4 0 cs) := by rw [hcs]; exact rangeAt_out hT ((Out.refl w).alloc _)
  have HSz : Hid ((Tryz.prog.info? 142).map (·.size) = some cs.length) := by
    rw [hcs]
    exact (show (Tryz.prog.info? 142).map (·.size) = some offCs.length by kernel_rfl)
  clear hT hcs
  go_enter Tryz.func96, Tryz.ntmps96
  go_wp2_with (refine wpList_load_mid rfl 142 (.global 4) rfl 4 0 rfl cs _ HRg.out Tryz.underlying142 rfl HSz.out ?_)
  go_loopw [6] (fun iv wr => ∃ k : Nat, k ≤ 9 ∧ iv = .int .i64 k ∧ Hid (∀ j, j < k → (bits .or .i64 o 8 == bits .or .i64 (A j) 8 && f == B j) = false) ∧ Out (w.alloc (.cells #[.int .i64 o, .int .i64 d, .int .i64 s, .int .i64 f, .int .i64 i] 25)) wr) (fun iv _ => 9 - (intOf iv).toNat)
  case atStart => exact ⟨0, by omega, rfl, fun j hj => by omega, Out.refl _⟩
  case round =>
    obtain ⟨k, hk, rfl, Hno, ho⟩ := hrel
    have q0 : ∀ O, (wr.alloc O).cell? ⟨w.heap.size, 0, none⟩ = some (.int .i64 o) := fun O => cell_later (ho.alloc O) (new_cell w _ _ 0)
    have q4 : ∀ O, (wr.alloc O).cell? ⟨w.heap.size, 3, none⟩ = some (.int .i64 f) := fun O => cell_later (ho.alloc O) (new_cell w _ _ 3)
    have Ho := hidOf ho
    clear ho
    by_cases hkN : k < 9
    · have hlt : (k : Int) < 9 := by omega
      obtain ⟨b1, b2, b3, b4⟩ := HAB.out k hkN
      cases h1 : (bits .or .i64 o 8 == bits .or .i64 (A k) 8)
      · have Hno' : Hid (∀ j, j < k + 1 → (bits .or .i64 o 8 == bits .or .i64 (A j) 8 && f == B j) = false) := fun j hj => by
          by_cases z : j = k
          · subst z; rw [h1]; rfl
          · exact Hno.out j (by omega)
        go_wp2
        go_roundw
        case rel => exact ⟨k + 1, by omega, by simp, Hno', Ho.out.alloc _⟩
        case measure => simp [intOf]; omega
      · cases h2 : (f == B k)
        · have Hno' : Hid (∀ j, j < k + 1 → (bits .or .i64 o 8 == bits .or .i64 (A j) 8 && f == B j) = false) := fun j hj => by
            by_cases z : j = k
            · subst z; rw [h2]; simp
            · exact Hno.out j (by omega)
          go_wp2
          go_roundw
          case rel => exact ⟨k + 1, by omega, by simp, Hno', Ho.out.alloc _⟩
          case measure => simp [intOf]; omega
        · have HRes : Hid (R = T k) := HH.out k hkN (by rw [h1, h2]; rfl) Hno.out
          go_wp2
          go_ret
          exact ⟨by rw [HRes.out]; rfl, Out.trans ((Out.refl w).alloc _) (Ho.out.alloc _)⟩
    · have hlt : ¬ (k : Int) < 9 := by omega
      obtain rfl : k = 9 := by omega
      have HRes : Hid (R = []) := HM.out Hno.out
      go_wp2
      go_ret
      exact ⟨by rw [HRes.out]; rfl, Out.trans ((Out.refl w).alloc _) Ho.out⟩
end Go.Proofs.YtcomhlimgocoaaaGreatDoor
namespace Go.Proofs.YtcomhlimgocoaaaGreatDoor
open Go.RowKit
open Go.Maps (Keyed)
set_option linter.unusedVariables false
set_option linter.unusedSimpArgs false
theorem mnLaw : Keyed Tryz.prog 9 := Maps.string_keyed Tryz.underlying9
theorem mk108 (w : World) : (Instr.makeMap 97 (some (.int .i64 108))).run Tryz.prog w = .ok (.map (some w.heap.size)) (w.alloc (.map #[] 0)) := by kernel_rfl
theorem or_nat (x : Int) (k : Nat) (N : Nat) (h : ∀ j : Fin N, bits .or .i64 ((j.val : Int) * 16) x % 256 = (j.val : Int) * 16 + x) (hk : k < N) : R4 (.agg #[.int .u8 (bits .or .i64 ((k : Int) * 16) x % 256), .int .u8 0, .int .u8 0, .int .u8 0]) = some (mnD ((k : Int) * 16 + x, 0, 0, 0), []) := by
  rw [h ⟨k, hk⟩]
  rfl
theorem or_7 : ∀ j : Fin 13, bits .or .i64 ((j.val : Int) * 16) 7 % 256 = (j.val : Int) * 16 + 7 := by decide +kernel
theorem or_4 : ∀ j : Fin 13, bits .or .i64 ((j.val : Int) * 16) 4 % 256 = (j.val : Int) * 16 + 4 := by decide +kernel
theorem or_5 : ∀ j : Fin 14, bits .or .i64 ((j.val : Int) * 16) 5 % 256 = (j.val : Int) * 16 + 5 := by decide +kernel
theorem or_6 : ∀ j : Fin 14, bits .or .i64 ((j.val : Int) * 16) 6 % 256 = (j.val : Int) * 16 + 6 := by decide +kernel
theorem cell_grown {w w' : World} {b : Nat} (h : w.grownBy w' (some b)) {a : Addr} {v : Value} (hc : w.cell? a = some v) (hb : ¬ a.block = b) : w'.cell? a = some v := by
  rw [← hc]
  exact World.cell?_of_block (h.block _ (World.block_lt_of_cell? w a hc) (fun e => hb (by cases e; rfl)))
theorem out_grown {w0 w w' : World} {b : Nat} (h : Out w0 w) (g : w.grownBy w' (some b)) (hb : w0.heap.size ≤ b) : Out w0 w' := Chg.out (Chg.of_grown (S := fun k => k = b) g (fun k hk => by cases hk; rfl)) h (fun k hk => by rw [hk]; exact hb)
theorem keyOf_tx (l : List UInt8) (h : l.length ≤ 1000) : keyOf Tryz.prog 9 (.string ⟨l.toArray⟩) = some (.string l) := by
  have := WideMaps.keyOf_string_mk (P := Tryz.prog) (k := 9) Tryz.underlying9 (s := ⟨l.toArray⟩) (by show l.toArray.size ≤ _; rw [List.size_toArray]; unfold maxLen; omega)
  simpa using this
def reckCs : List Value := reckT.flatMap (fun r => [.string ⟨r.1.toArray⟩, .string ⟨r.2.toArray⟩])
def ReckTb (w : World) : Prop := w.rangeAt 2 0 reckCs
def reckA (k : Nat) : List UInt8 := match reckT[k]? with | some r => r.1 | none => []
def reckB (k : Nat) : List UInt8 := match reckT[k]? with | some r => r.2 | none => []
theorem reck_row (k : Nat) (hk : k < 13) : reckT[k]? = some (reckA k, reckB k) := by
  obtain ⟨r, hr⟩ : ∃ r, reckT[k]? = some r := ⟨_, List.getElem?_eq_getElem (show k < reckT.length from hk)⟩
  unfold reckA reckB
  rw [hr]
theorem reck_ent (k : Nat) (hk : k < 13) (x y : Int) : entA reckT x y k = [(reckA k, (k * 16 + x, 0, 0, 0)), (reckB k, (k * 16 + y, 0, 0, 0))] := by
  unfold entA
  rw [reck_row k hk]
theorem reck_len (k : Nat) : (reckA k).length ≤ 1000 ∧ (reckB k).length ≤ 1000 := by
  by_cases hk : k < 13
  · have h : ∀ r ∈ reckT, r.1.length ≤ 1000 ∧ r.2.length ≤ 1000 := by decide
    exact h _ (List.mem_of_getElem? (reck_row k hk))
  · unfold reckA reckB
    rw [List.getElem?_eq_none (show reckT.length ≤ k from by have : reckT.length = 13 := rfl; omega)]
    decide
set_option maxRecDepth 20000 in
theorem reck_idx (k : Nat) (hk : k < 13) (w : World) : (Instr.index 133 (.agg reckCs.toArray) (.int .i64 k)).run Tryz.prog w = .ok (.agg #[.string ⟨(reckA k).toArray⟩, .string ⟨(reckB k).toArray⟩]) w := by
  rcases (show k = 0 ∨ k = 1 ∨ k = 2 ∨ k = 3 ∨ k = 4 ∨ k = 5 ∨ k = 6 ∨ k = 7 ∨ k = 8 ∨ k = 9 ∨ k = 10 ∨ k = 11 ∨ k = 12 from by omega) with rfl | rfl | rfl | rfl | rfl | rfl | rfl | rfl | rfl | rfl | rfl | rfl | rfl <;> kernel_rfl
def jumpCs : List Value := jumpT.flatMap (fun r => [.string ⟨r.1.toArray⟩, .string ⟨r.2.toArray⟩])
def JumpTb (w : World) : Prop := w.rangeAt 0 0 jumpCs
def jumpA (k : Nat) : List UInt8 := match jumpT[k]? with | some r => r.1 | none => []
def jumpB (k : Nat) : List UInt8 := match jumpT[k]? with | some r => r.2 | none => []
theorem jump_row (k : Nat) (hk : k < 14) : jumpT[k]? = some (jumpA k, jumpB k) := by
  obtain ⟨r, hr⟩ : ∃ r, jumpT[k]? = some r := ⟨_, List.getElem?_eq_getElem (show k < jumpT.length from hk)⟩
  unfold jumpA jumpB
  rw [hr]
theorem jump_ent (k : Nat) (hk : k < 14) (x y : Int) : entA jumpT x y k = [(jumpA k, (k * 16 + x, 0, 0, 0)), (jumpB k, (k * 16 + y, 0, 0, 0))] := by
  unfold entA
  rw [jump_row k hk]
theorem jump_len (k : Nat) : (jumpA k).length ≤ 1000 ∧ (jumpB k).length ≤ 1000 := by
  by_cases hk : k < 14
  · have h : ∀ r ∈ jumpT, r.1.length ≤ 1000 ∧ r.2.length ≤ 1000 := by decide
    exact h _ (List.mem_of_getElem? (jump_row k hk))
  · unfold jumpA jumpB
    rw [List.getElem?_eq_none (show jumpT.length ≤ k from by have : jumpT.length = 14 := rfl; omega)]
    decide
set_option maxRecDepth 20000 in
theorem jump_idx (k : Nat) (hk : k < 14) (w : World) : (Instr.index 107 (.agg jumpCs.toArray) (.int .i64 k)).run Tryz.prog w = .ok (.agg #[.string ⟨(jumpA k).toArray⟩, .string ⟨(jumpB k).toArray⟩]) w := by
  rcases (show k = 0 ∨ k = 1 ∨ k = 2 ∨ k = 3 ∨ k = 4 ∨ k = 5 ∨ k = 6 ∨ k = 7 ∨ k = 8 ∨ k = 9 ∨ k = 10 ∨ k = 11 ∨ k = 12 ∨ k = 13 from by omega) with rfl | rfl | rfl | rfl | rfl | rfl | rfl | rfl | rfl | rfl | rfl | rfl | rfl | rfl <;> kernel_rfl
def memCs : List Value := memT.flatMap (fun r => .int .u8 r.1 :: r.2.map (fun l => .string ⟨l.toArray⟩))
def MemTb (w : World) : Prop := w.rangeAt 3 0 memCs
def memA (k : Nat) : Int := match memT[k]? with | some r => r.1 | none => 0
def memW (k j : Nat) : List UInt8 := match memT[k]? with | some r => r.2.getD j [] | none => []
set_option maxRecDepth 20000 in
theorem mem_idx (k : Nat) (hk : k < 4) (w : World) : (Instr.index 136 (.agg memCs.toArray) (.int .i64 k)).run Tryz.prog w = .ok (.agg #[.int .u8 (memA k), .string ⟨(memW k 0).toArray⟩, .string ⟨(memW k 1).toArray⟩, .string ⟨(memW k 2).toArray⟩, .string ⟨(memW k 3).toArray⟩]) w := by
  rcases (show k = 0 ∨ k = 1 ∨ k = 2 ∨ k = 3 from by omega) with rfl | rfl | rfl | rfl <;> kernel_rfl
theorem idx4s (s : Nat → Value) (k : Nat) (hk : k < 4) (w : World) : (Instr.index 134 (.agg #[s 0, s 1, s 2, s 3]) (.int .i64 k)).run Tryz.prog w = .ok (s k) w := by
  rcases (show k = 0 ∨ k = 1 ∨ k = 2 ∨ k = 3 from by omega) with rfl | rfl | rfl | rfl <;> kernel_rfl
theorem mem_all : ∀ k : Fin 4, ∀ j : Fin 4, entM k.val j.val = [(memW k.val j.val, (memA k.val + (j.val : Int) * 8, 0, 0, 0))] ∧ (memW k.val j.val).length ≤ 1000 ∧ bits .or .u8 (memA k.val) ((j.val : Int) * 8) = memA k.val + (j.val : Int) * 8 ∧ 0 ≤ memA k.val ∧ memA k.val < 256 := by decide +kernel
theorem off_ent (k : Nat) (hk : k < 9) : entO k = [(offS3 k, (offA k, 0, offB k, 0))] := by
  unfold entO
  rw [(off_row k hk).1]
theorem imm_ent (k : Nat) (hk : k < 29) : entI k = [(immS3 k, (immA k, 0, 0, immB k))] := by
  unfold entI
  rw [(imm_row k hk).1]
theorem off_len (k : Nat) (hk : k < 9) : (offS3 k).length ≤ 1000 := (show ∀ r ∈ offT, r.2.2.length ≤ 1000 by decide) _ (List.mem_of_getElem? (off_row k hk).1)
theorem imm_len (k : Nat) (hk : k < 29) : (immS3 k).length ≤ 1000 := (show ∀ r ∈ immT, r.2.2.length ≤ 1000 by decide) _ (List.mem_of_getElem? (imm_row k hk).1)
/-- the tables of words -/
def WTabs (w : World) : Prop := ReckTb w ∧ JumpTb w ∧ MemTb w ∧ OffTb w ∧ ImmTb w
theorem WTabs.out {w w' : World} (h : WTabs w) (o : Out w w') : WTabs w' := ⟨rangeAt_out h.1 o, rangeAt_out h.2.1 o, rangeAt_out h.2.2.1 o, rangeAt_out h.2.2.2.1 o, rangeAt_out h.2.2.2.2 o⟩
end Go.Proofs.YtcomhlimgocoaaaGreatDoor
