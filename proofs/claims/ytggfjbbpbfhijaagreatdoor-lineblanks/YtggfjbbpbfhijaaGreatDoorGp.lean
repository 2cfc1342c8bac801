import Derived.Test.YtggfjbbpbfhijaaGreatDoorGo
import Derived.Test.YtggfjbbpbfhijaaGreatDoorGm
namespace Go.Proofs.YtggfjbbpbfhijaaGreatDoor
open Go.RowKit
open Go.Maps (Keyed)
set_option linter.unusedVariables false
set_option linter.unusedSimpArgs false
set_option maxRecDepth 40000 in
set_option maxHeartbeats 8000000 in
theorem mnemonics_any (w : World) (hT : WTabs w) : Calls Tryz.prog 36 #[] w fun e w' => e = .returned (.map (some w.heap.size)) ∧ w'.ownsMap Tryz.prog 9 R4 w.heap.size 110 mnDat ∧ Out w w' := by
  have hmm := mk108
  obtain ⟨c1, hc1⟩ : ∃ c, c = reckCs := ⟨_, rfl⟩
  have HR1 : Hid (∀ wx, Out w wx → wx.rangeAt 2 0 c1) := by rw [hc1]; exact fun wx ho => rangeAt_out hT.1 ho
  have HS1 : Hid ((Tryz.prog.info? 114).map (·.size) = some c1.length) := by
    rw [hc1]
    exact (show (Tryz.prog.info? 114).map (·.size) = some reckCs.length by kernel_rfl)
  obtain ⟨c2, hc2⟩ : ∃ c, c = jumpCs := ⟨_, rfl⟩
  have HR2 : Hid (∀ wx, Out w wx → wx.rangeAt 0 0 c2) := by rw [hc2]; exact fun wx ho => rangeAt_out hT.2.1 ho
  have HS2 : Hid ((Tryz.prog.info? 107).map (·.size) = some c2.length) := by
    rw [hc2]
    exact (show (Tryz.prog.info? 107).map (·.size) = some jumpCs.length by kernel_rfl)
  obtain ⟨c3, hc3⟩ : ∃ c, c = memCs := ⟨_, rfl⟩
  have HR3 : Hid (∀ wx, Out w wx → wx.rangeAt 3 0 c3) := by rw [hc3]; exact fun wx ho => rangeAt_out hT.2.2.1 ho
  have HS3 : Hid ((Tryz.prog.info? 117).map (·.size) = some c3.length) := by
    rw [hc3]
    exact (show (Tryz.prog.info? 117).map (·.size) = some memCs.length by kernel_rfl)
  obtain ⟨c4, hc4⟩ : ∃ c, c = offCs := ⟨_, rfl⟩
  have HR4 : Hid (∀ wx, Out w wx → wx.rangeAt 4 0 c4) := by rw [hc4]; exact fun wx ho => rangeAt_out hT.2.2.2.1 ho
  have HS4 : Hid ((Tryz.prog.info? 119).map (·.size) = some c4.length) := by
    rw [hc4]
    exact (show (Tryz.prog.info? 119).map (·.size) = some offCs.length by kernel_rfl)
  obtain ⟨c5, hc5⟩ : ∃ c, c = immCs := ⟨_, rfl⟩
  have HR5 : Hid (∀ wx, Out w wx → wx.rangeAt 5 0 c5) := by rw [hc5]; exact fun wx ho => rangeAt_out hT.2.2.2.2 ho
  have HS5 : Hid ((Tryz.prog.info? 121).map (·.size) = some c5.length) := by
    rw [hc5]
    exact (show (Tryz.prog.info? 121).map (·.size) = some immCs.length by kernel_rfl)
  obtain ⟨A1, HA1⟩ : ∃ A : Nat → List UInt8, Hid (A = reckA) := ⟨_, hidOf rfl⟩
  obtain ⟨B1, HB1⟩ : ∃ B : Nat → List UInt8, Hid (B = reckB) := ⟨_, hidOf rfl⟩
  have hix1 : ∀ (k : Nat), (k : Int) < 13 → ∀ w : World, (Instr.index 114 (.agg c1.toArray) (.int .i64 k)).run Tryz.prog w = .ok (.agg #[.string ⟨(A1 k).toArray⟩, .string ⟨(B1 k).toArray⟩]) w := fun k hk w => by
    rw [hc1, reck_idx k (by omega) w, HA1.out, HB1.out]
  have HL1 : Hid (∀ k, (A1 k).length ≤ 1000 ∧ (B1 k).length ≤ 1000) := by rw [HA1.out, HB1.out]; exact reck_len
  have HE1 : Hid (∀ k, k < 13 → mnR (k + 1) = (mnR k ++ [(A1 k, ((k : Int) * 16 + 7, 0, 0, 0))]) ++ [(B1 k, ((k : Int) * 16 + 4, 0, 0, 0))]) := by rw [HA1.out, HB1.out]; exact fun k hk => by rw [mnR_step, reck_ent k hk, List.append_assoc]; rfl
  obtain ⟨A2, HA2⟩ : ∃ A : Nat → List UInt8, Hid (A = jumpA) := ⟨_, hidOf rfl⟩
  obtain ⟨B2, HB2⟩ : ∃ B : Nat → List UInt8, Hid (B = jumpB) := ⟨_, hidOf rfl⟩
  have hix2 : ∀ (k : Nat), (k : Int) < 14 → ∀ w : World, (Instr.index 107 (.agg c2.toArray) (.int .i64 k)).run Tryz.prog w = .ok (.agg #[.string ⟨(A2 k).toArray⟩, .string ⟨(B2 k).toArray⟩]) w := fun k hk w => by
    rw [hc2, jump_idx k (by omega) w, HA2.out, HB2.out]
  have HL2 : Hid (∀ k, (A2 k).length ≤ 1000 ∧ (B2 k).length ≤ 1000) := by rw [HA2.out, HB2.out]; exact jump_len
  have HE2 : Hid (∀ k, k < 14 → mnJ (k + 1) = (mnJ k ++ [(A2 k, ((k : Int) * 16 + 5, 0, 0, 0))]) ++ [(B2 k, ((k : Int) * 16 + 6, 0, 0, 0))]) := by rw [HA2.out, HB2.out]; exact fun k hk => by rw [mnJ_step, jump_ent k hk, List.append_assoc]; rfl
  obtain ⟨A3, HA3⟩ : ∃ A : Nat → Int, Hid (A = memA) := ⟨_, hidOf rfl⟩
  obtain ⟨W3, HW3⟩ : ∃ W : Nat → Nat → List UInt8, Hid (W = memW) := ⟨_, hidOf rfl⟩
  have hix3 : ∀ (k : Nat), (k : Int) < 4 → ∀ w : World, (Instr.index 117 (.agg c3.toArray) (.int .i64 k)).run Tryz.prog w = .ok (.agg #[.int .u8 (A3 k), .string ⟨(W3 k 0).toArray⟩, .string ⟨(W3 k 1).toArray⟩, .string ⟨(W3 k 2).toArray⟩, .string ⟨(W3 k 3).toArray⟩]) w := fun k hk w => by
    rw [hc3, mem_idx k (by omega) w, HA3.out, HW3.out]
  have hix3' : ∀ (k j : Nat), (j : Int) < 4 → ∀ w : World, (Instr.index 115 (.agg #[.string ⟨(W3 k 0).toArray⟩, .string ⟨(W3 k 1).toArray⟩, .string ⟨(W3 k 2).toArray⟩, .string ⟨(W3 k 3).toArray⟩]) (.int .i64 j)).run Tryz.prog w = .ok (.string ⟨(W3 k j).toArray⟩) w := fun k j hj w => idx4s (fun j => .string ⟨(W3 k j).toArray⟩) j (by omega) w
  have HM3 : Hid (∀ k j : Nat, k < 4 → j < 4 → mnM k (j + 1) = mnM k j ++ [(W3 k j, (A3 k + (j : Int) * 8, 0, 0, 0))] ∧ (W3 k j).length ≤ 1000 ∧ R4 (.agg #[.int .u8 (bits .or .u8 (A3 k) ((j : Int) * 8)), .int .u8 0, .int .u8 0, .int .u8 0]) = some (mnD (A3 k + (j : Int) * 8, 0, 0, 0), [])) := by
    rw [HA3.out, HW3.out]
    intro k j hk hj
    obtain ⟨m1, m2, m3, _⟩ := mem_all ⟨k, hk⟩ ⟨j, hj⟩
    simp only at m1 m2 m3
    exact ⟨by rw [mnM_step, m1], m2, by rw [m3]; rfl⟩
  obtain ⟨A4, HA4⟩ : ∃ A : Nat → Int, Hid (A = offA) := ⟨_, hidOf rfl⟩
  obtain ⟨B4, HB4⟩ : ∃ B : Nat → Int, Hid (B = offB) := ⟨_, hidOf rfl⟩
  obtain ⟨T4, HT4⟩ : ∃ T : Nat → List UInt8, Hid (T = offS3) := ⟨_, hidOf rfl⟩
  have hix4 : ∀ (k : Nat), (k : Int) < 9 → ∀ w : World, (Instr.index 119 (.agg c4.toArray) (.int .i64 k)).run Tryz.prog w = .ok (.agg #[.int .u8 (A4 k), .int .u8 (B4 k), .string ⟨(T4 k).toArray⟩]) w := fun k hk w => by
    rw [hc4, off_idx k (by omega) w, HA4.out, HB4.out, HT4.out]
  have HE4 : Hid (∀ k, k < 9 → mnO (k + 1) = mnO k ++ [(T4 k, (A4 k, 0, B4 k, 0))] ∧ (T4 k).length ≤ 1000) := by rw [HA4.out, HB4.out, HT4.out]; exact fun k hk => ⟨by rw [mnO_step, off_ent k hk], off_len k hk⟩
  obtain ⟨A5, HA5⟩ : ∃ A : Nat → Int, Hid (A = immA) := ⟨_, hidOf rfl⟩
  obtain ⟨B5, HB5⟩ : ∃ B : Nat → Int, Hid (B = immB) := ⟨_, hidOf rfl⟩
  obtain ⟨T5, HT5⟩ : ∃ T : Nat → List UInt8, Hid (T = immS3) := ⟨_, hidOf rfl⟩
  have hix5 : ∀ (k : Nat), (k : Int) < 29 → ∀ w : World, (Instr.index 121 (.agg c5.toArray) (.int .i64 k)).run Tryz.prog w = .ok (.agg #[.int .u8 (A5 k), .int .u8 (B5 k), .string ⟨(T5 k).toArray⟩]) w := fun k hk w => by
    rw [hc5, imm_idx k (by omega) w, HA5.out, HB5.out, HT5.out]
  have HE5 : Hid (∀ k, k < 29 → mnI (k + 1) = mnI k ++ [(T5 k, (A5 k, 0, 0, B5 k))] ∧ (T5 k).length ≤ 1000) := by rw [HA5.out, HB5.out, HT5.out]; exact fun k hk => ⟨by rw [mnI_step, imm_ent k hk], imm_len k hk⟩
  clear hT hc1 hc2 hc3 hc4 hc5
  go_enter Tryz.func36, Tryz.ntmps36
  go_wp2_with (refine wpList_load_mid rfl 114 (.global 2) rfl 2 0 rfl c1 _ (HR1.out _ (by first | exact Ho.out | exact (Out.refl w).alloc _)) Tryz.underlying114 rfl HS1.out ?_)
  go_loopw [16] (fun iv wr => ∃ k : Nat, k ≤ 13 ∧ iv = .int .i64 k ∧ Hid (wr.ownsMap Tryz.prog 9 R4 w.heap.size (0 + 2 * k) (DL (mnR k))) ∧ Hid (Out w wr)) (fun iv _ => 13 - (intOf iv).toNat)
  case atStart => exact ⟨0, by omega, rfl, World.ownsMap_made _ _ _ _, (Out.refl w).alloc _⟩
  case round =>
    obtain ⟨k, hk, rfl, Hw, Ho⟩ := hrel
    by_cases hkN : k < 13
    · have hlt : (k : Int) < 13 := by omega
      have hkA := keyOf_tx (A1 k) (HL1.out k).1
      have hkB := keyOf_tx (B1 k) (HL1.out k).2
      go_wp2_with (first | (at_mapUpdate; refine wpList_mapUpdate_own _ rfl _ _ _ 81 rfl 9 79 mnLaw Tryz.underlying81 R4 w.heap.size (0 + 2 * k + 1) _ rfl HwA.out (by unfold maxLen; omega) _ _ _ rfl rfl hkB (mnD ((k : Int) * 16 + 4, 0, 0, 0)) [] (or_nat 4 k 13 or_4 hkN) ?_; intro w2 hown hgrow; rw [DL_snoc] at hown; have HwB := hidOf hown; have HgB := hidOf hgrow; clear hown hgrow) | (at_mapUpdate; refine wpList_mapUpdate_own _ rfl _ _ _ 81 rfl 9 79 mnLaw Tryz.underlying81 R4 w.heap.size (0 + 2 * k) _ rfl (Hw.out.alloc _) (by unfold maxLen; omega) _ _ _ rfl rfl hkA (mnD ((k : Int) * 16 + 7, 0, 0, 0)) [] (or_nat 7 k 13 or_7 hkN) ?_; intro w1 hown hgrow; rw [DL_snoc] at hown; have qb := cell_grown hgrow (new_cell wr #[.string ⟨(A1 k).toArray⟩, .string ⟨(B1 k).toArray⟩] 106 1) (show ¬ wr.heap.size = w.heap.size by have := Hw.out.lt; omega); have HwA := hidOf hown; have HgA := hidOf hgrow; clear hown hgrow))
      go_roundw
      case rel => exact ⟨k + 1, by omega, by simp, by rw [HE1.out k hkN]; exact HwB.out, out_grown (out_grown (Ho.out.alloc _) HgA.out (Nat.le_refl _)) HgB.out (Nat.le_refl _)⟩
      case measure => simp [intOf]; omega
    · have hlt : ¬ (k : Int) < 13 := by omega
      obtain rfl : k = 13 := by omega
      clear hlt hkN hk
      clear hix1
      go_wp2_with (refine wpList_load_mid rfl 107 (.global 0) rfl 0 0 rfl c2 _ (HR2.out _ (by first | exact Ho.out | exact (Out.refl w).alloc _)) Tryz.underlying107 rfl HS2.out ?_)
      go_loopw [38] (fun iv wr => ∃ k : Nat, k ≤ 14 ∧ iv = .int .i64 k ∧ Hid (wr.ownsMap Tryz.prog 9 R4 w.heap.size (26 + 2 * k) (DL (mnJ k))) ∧ Hid (Out w wr)) (fun iv _ => 14 - (intOf iv).toNat)
      case atStart => exact ⟨0, by omega, rfl, by rw [mnJ_0]; exact Hw.out, Ho.out⟩
      case round =>
        obtain ⟨k, hk, rfl, Hw, Ho⟩ := hrel
        by_cases hkN : k < 14
        · have hlt : (k : Int) < 14 := by omega
          have hkA := keyOf_tx (A2 k) (HL2.out k).1
          have hkB := keyOf_tx (B2 k) (HL2.out k).2
          go_wp2_with (first | (at_mapUpdate; refine wpList_mapUpdate_own _ rfl _ _ _ 81 rfl 9 79 mnLaw Tryz.underlying81 R4 w.heap.size (26 + 2 * k + 1) _ rfl HwA.out (by unfold maxLen; omega) _ _ _ rfl rfl hkB (mnD ((k : Int) * 16 + 6, 0, 0, 0)) [] (or_nat 6 k 14 or_6 hkN) ?_; intro w2 hown hgrow; rw [DL_snoc] at hown; have HwB := hidOf hown; have HgB := hidOf hgrow; clear hown hgrow) | (at_mapUpdate; refine wpList_mapUpdate_own _ rfl _ _ _ 81 rfl 9 79 mnLaw Tryz.underlying81 R4 w.heap.size (26 + 2 * k) _ rfl (Hw.out.alloc _) (by unfold maxLen; omega) _ _ _ rfl rfl hkA (mnD ((k : Int) * 16 + 5, 0, 0, 0)) [] (or_nat 5 k 14 or_5 hkN) ?_; intro w1 hown hgrow; rw [DL_snoc] at hown; have qb := cell_grown hgrow (new_cell wr #[.string ⟨(A2 k).toArray⟩, .string ⟨(B2 k).toArray⟩] 106 1) (show ¬ wr.heap.size = w.heap.size by have := Hw.out.lt; omega); have HwA := hidOf hown; have HgA := hidOf hgrow; clear hown hgrow))
          go_roundw
          case rel => exact ⟨k + 1, by omega, by simp, by rw [HE2.out k hkN]; exact HwB.out, out_grown (out_grown (Ho.out.alloc _) HgA.out (Nat.le_refl _)) HgB.out (Nat.le_refl _)⟩
          case measure => simp [intOf]; omega
        · have hlt : ¬ (k : Int) < 14 := by omega
          obtain rfl : k = 14 := by omega
          clear hlt hkN hk
          clear hix2
          go_wp2_with (refine wpList_load_mid rfl 117 (.global 3) rfl 3 0 rfl c3 _ (HR3.out _ (by first | exact Ho.out | exact (Out.refl w).alloc _)) Tryz.underlying117 rfl HS3.out ?_)
          go_loopw [60] (fun iv wr => ∃ k : Nat, k ≤ 4 ∧ iv = .int .i64 k ∧ Hid (wr.ownsMap Tryz.prog 9 R4 w.heap.size (54 + 4 * k) (DL (mnM k 0))) ∧ Hid (Out w wr)) (fun iv _ => 4 - (intOf iv).toNat)
          case atStart => exact ⟨0, by omega, rfl, by rw [mnM_0]; exact Hw.out, Ho.out⟩
          case round =>
            obtain ⟨k, hk, rfl, Hw, Ho⟩ := hrel
            by_cases hkN : k < 4
            · have hlt : (k : Int) < 4 := by omega
              have Hne : Hid (¬ wr.heap.size = w.heap.size) := by have := Hw.out.lt; exact hidOf (by omega)
              go_wp2
              have HwA := hidOf (Hw.out.alloc (.cells #[.int .u8 (A3 k), .string ⟨(W3 k 0).toArray⟩, .string ⟨(W3 k 1).toArray⟩, .string ⟨(W3 k 2).toArray⟩, .string ⟨(W3 k 3).toArray⟩] 116))
              have HoA := hidOf (Ho.out.alloc (.cells #[.int .u8 (A3 k), .string ⟨(W3 k 0).toArray⟩, .string ⟨(W3 k 1).toArray⟩, .string ⟨(W3 k 2).toArray⟩, .string ⟨(W3 k 3).toArray⟩] 116))
              have HcA : Hid ((wr.alloc (.cells #[.int .u8 (A3 k), .string ⟨(W3 k 0).toArray⟩, .string ⟨(W3 k 1).toArray⟩, .string ⟨(W3 k 2).toArray⟩, .string ⟨(W3 k 3).toArray⟩] 116)).cell? ⟨wr.heap.size, 0, none⟩ = some (.int .u8 (A3 k))) := new_cell wr _ _ 0
              generalize wr.heap.size = rb at *
              go_loopw [65] (fun iv wr => ∃ j : Nat, j ≤ 4 ∧ iv = .int .i64 j ∧ Hid (wr.ownsMap Tryz.prog 9 R4 w.heap.size (54 + 4 * k + j) (DL (mnM k j))) ∧ Hid (Out w wr) ∧ wr.cell? ⟨rb, 0, none⟩ = some (.int .u8 (A3 k))) (fun iv _ => 4 - (intOf iv).toNat)
              case atStart => exact ⟨0, by omega, rfl, HwA.out, HoA.out, HcA.out⟩
              case round =>
                obtain ⟨j, hj, rfl, HwJ, HoJ, hcJ⟩ := hrel
                by_cases hjN : j < 4
                · have hltj : (j : Int) < 4 := by omega
                  obtain ⟨m1, m2, m3⟩ := HM3.out k j hkN hjN
                  have hkW := keyOf_tx (W3 k j) m2
                  have M1 := hidOf m1
                  have M3 := hidOf m3
                  clear m1 m2 m3
                  go_wp2_with (at_mapUpdate; refine wpList_mapUpdate_own _ rfl _ _ _ 81 rfl 9 79 mnLaw Tryz.underlying81 R4 w.heap.size (54 + 4 * k + j) _ rfl HwJ.out (by unfold maxLen; omega) _ _ _ rfl rfl hkW (mnD (A3 k + (j : Int) * 8, 0, 0, 0)) [] M3.out ?_; intro w1 hown hgrow; rw [DL_snoc] at hown; have hcB := cell_grown hgrow hcJ Hne.out; have HwB := hidOf hown; have HgB := hidOf hgrow; clear hown hgrow)
                  go_roundw
                  case rel => exact ⟨j + 1, by omega, by simp, by rw [M1.out]; exact HwB.out, out_grown HoJ.out HgB.out (Nat.le_refl _), hcB⟩
                  case measure => simp [intOf]; omega
                · have hltj : ¬ (j : Int) < 4 := by omega
                  obtain rfl : j = 4 := by omega
                  clear hltj hjN hj
                  go_wp2
                  go_roundw
                  case rel => exact ⟨k + 1, by omega, by simp, by rw [mnM_next]; exact HwJ.out.mono (by omega), HoJ.out⟩
                  case measure => simp [intOf]; omega
            · have hlt : ¬ (k : Int) < 4 := by omega
              obtain rfl : k = 4 := by omega
              clear hlt hkN hk hix3 hix3'
              go_wp2_with (refine wpList_load_mid rfl 119 (.global 4) rfl 4 0 rfl c4 _ (HR4.out _ (by first | exact Ho.out | exact (Out.refl w).alloc _)) Tryz.underlying119 rfl HS4.out ?_)
              go_loopw [81] (fun iv wr => ∃ k : Nat, k ≤ 9 ∧ iv = .int .i64 k ∧ Hid (wr.ownsMap Tryz.prog 9 R4 w.heap.size (70 + k) (DL (mnO k))) ∧ Hid (Out w wr)) (fun iv _ => 9 - (intOf iv).toNat)
              case atStart => exact ⟨0, by omega, rfl, by rw [mnO_0]; exact Hw.out, Ho.out⟩
              case round =>
                obtain ⟨k, hk, rfl, Hw, Ho⟩ := hrel
                by_cases hkN : k < 9
                · have hlt : (k : Int) < 9 := by omega
                  have hkA := keyOf_tx (T4 k) (HE4.out k hkN).2
                  go_wp2_with (at_mapUpdate; refine wpList_mapUpdate_own _ rfl _ _ _ 81 rfl 9 79 mnLaw Tryz.underlying81 R4 w.heap.size (70 + k) _ rfl (Hw.out.alloc _) (by unfold maxLen; omega) _ _ _ rfl rfl hkA (mnD (A4 k, 0, B4 k, 0)) [] rfl ?_; intro w1 hown hgrow; rw [DL_snoc] at hown; have HwB := hidOf hown; have HgB := hidOf hgrow; clear hown hgrow)
                  go_roundw
                  case rel => exact ⟨k + 1, by omega, by simp, by rw [(HE4.out k hkN).1]; exact HwB.out, out_grown (Ho.out.alloc _) HgB.out (Nat.le_refl _)⟩
                  case measure => simp [intOf]; omega
                · have hlt : ¬ (k : Int) < 9 := by omega
                  obtain rfl : k = 9 := by omega
                  clear hlt hkN hk hix4
                  go_wp2_with (refine wpList_load_mid rfl 121 (.global 5) rfl 5 0 rfl c5 _ (HR5.out _ (by first | exact Ho.out | exact (Out.refl w).alloc _)) Tryz.underlying121 rfl HS5.out ?_)
                  go_loopw [94] (fun iv wr => ∃ k : Nat, k ≤ 29 ∧ iv = .int .i64 k ∧ Hid (wr.ownsMap Tryz.prog 9 R4 w.heap.size (79 + k) (DL (mnI k))) ∧ Hid (Out w wr)) (fun iv _ => 29 - (intOf iv).toNat)
                  case atStart => exact ⟨0, by omega, rfl, by rw [mnI_0]; exact Hw.out, Ho.out⟩
                  case round =>
                    obtain ⟨k, hk, rfl, Hw, Ho⟩ := hrel
                    by_cases hkN : k < 29
                    · have hlt : (k : Int) < 29 := by omega
                      have hkA := keyOf_tx (T5 k) (HE5.out k hkN).2
                      go_wp2_with (at_mapUpdate; refine wpList_mapUpdate_own _ rfl _ _ _ 81 rfl 9 79 mnLaw Tryz.underlying81 R4 w.heap.size (79 + k) _ rfl (Hw.out.alloc _) (by unfold maxLen; omega) _ _ _ rfl rfl hkA (mnD (A5 k, 0, 0, B5 k)) [] rfl ?_; intro w1 hown hgrow; rw [DL_snoc] at hown; have HwB := hidOf hown; have HgB := hidOf hgrow; clear hown hgrow)
                      go_roundw
                      case rel => exact ⟨k + 1, by omega, by simp, by rw [(HE5.out k hkN).1]; exact HwB.out, out_grown (Ho.out.alloc _) HgB.out (Nat.le_refl _)⟩
                      case measure => simp [intOf]; omega
                    · have hlt : ¬ (k : Int) < 29 := by omega
                      obtain rfl : k = 29 := by omega
                      clear hlt hkN hk hix5
                      have hk1 := keyOf_tx [108, 100, 100, 119] (by decide)
                      have hk2 := keyOf_tx [108, 100, 109, 97, 112] (by decide)
                      have hk3 := keyOf_tx [] (by decide)
                      go_wp2_with (first | (at_delete; refine wpList_delete_own _ rfl _ _ 81 9 rfl 79 mnLaw Tryz.underlying81 R4 w.heap.size 110 _ rfl HwB.out _ _ rfl hk3 ?_; intro w3 hown hturn; have HwC := hidOf hown; have HgC := hidOf hturn.grown; clear hown hturn) | (at_mapUpdate; refine wpList_mapUpdate_own _ rfl _ _ _ 81 rfl 9 79 mnLaw Tryz.underlying81 R4 w.heap.size 109 _ rfl HwA.out (by unfold maxLen; omega) _ _ _ rfl rfl hk2 (mnD (24, 1, 0, 0)) [] rfl ?_; intro w2 hown hgrow; rw [DL_snoc] at hown; have HwB := hidOf hown; have HgB := hidOf hgrow; clear hown hgrow) | (at_mapUpdate; refine wpList_mapUpdate_own _ rfl _ _ _ 81 rfl 9 79 mnLaw Tryz.underlying81 R4 w.heap.size 108 _ rfl (Hw.out.mono (Nat.le_refl _)) (by unfold maxLen; omega) _ _ _ rfl rfl hk1 (mnD (24, 0, 0, 0)) [] rfl ?_; intro w1 hown hgrow; rw [DL_snoc] at hown; have HwA := hidOf hown; have HgA := hidOf hgrow; clear hown hgrow))
                      go_ret
                      refine ⟨rfl, ?_, out_grown (out_grown (out_grown Ho.out HgA.out (Nat.le_refl _)) HgB.out (Nat.le_refl _)) HgC.out (Nat.le_refl _)⟩
                      have := HwC.out
                      rw [List.append_assoc] at this
                      exact this
end Go.Proofs.YtggfjbbpbfhijaaGreatDoor
namespace Go.Proofs.YtggfjbbpbfhijaaGreatDoor
open Go.RowKit
open Go.Maps (Keyed)
set_option linter.unusedVariables false
set_option linter.unusedSimpArgs false
theorem size5 : (Tryz.prog.info? 25).map (·.size) = some 5 := by kernel_rfl
theorem insn_any (o s f i : Int) (w : World) (h : (0 ≤ o ∧ o < 256) ∧ (0 ≤ s ∧ s < 256) ∧ (0 ≤ f ∧ f < 256) ∧ (0 ≤ i ∧ i < 256)) : Calls Tryz.prog 37 #[.agg #[.int .u8 o, .int .u8 s, .int .u8 f, .int .u8 i]] w fun e w' => e = .returned (.agg #[.int .i64 o, .int .i64 0, .int .i64 s, .int .i64 f, .int .i64 i]) ∧ Out w w' := by
  obtain ⟨⟨o1, o2⟩, ⟨s1, s2⟩, ⟨f1, f2⟩, ⟨i1, i2⟩⟩ := h
  go_enter Tryz.func37, Tryz.ntmps37
  go_wp2
  refine bodyPost_ret (results_cell_row rfl _ _ (w.heap.size + 1) 25 #[.int .i64 o, .int .i64 0, .int .i64 s, .int .i64 f, .int .i64 i] (0, 0) _ rfl (by rw [← size_alloc w (.cells #[.int .u8 o, .int .u8 s, .int .u8 f, .int .u8 i] 79)]; exact heap_alloc_new _ _) Tryz.underlying25 rfl size5) rfl ?_
  exact ⟨rfl, ((Out.refl w).alloc _).alloc _⟩
theorem mean_bd (l : List UInt8) (m : Mn) (h : meanOf l = some m) : (0 ≤ m.1 ∧ m.1 < 256) ∧ (0 ≤ m.2.1 ∧ m.2.1 < 256) ∧ (0 ≤ m.2.2.1 ∧ m.2.2.1 < 256) ∧ (0 ≤ m.2.2.2 ∧ m.2.2.2 < 256) := by
  obtain ⟨x, hx, _, rfl⟩ := mean_mem l m h
  exact (show ∀ x ∈ mnAll, (0 ≤ x.2.1 ∧ x.2.1 < 256) ∧ (0 ≤ x.2.2.1 ∧ x.2.2.1 < 256) ∧ (0 ≤ x.2.2.2.1 ∧ x.2.2.2.1 < 256) ∧ (0 ≤ x.2.2.2.2 ∧ x.2.2.2.2 < 256) by decide +kernel) x hx
theorem zeroMn (w : World) : (zeroValue 79).run Tryz.prog w = .ok (mnV (0, 0, 0, 0)) w := by kernel_rfl
/-- the look-up, its value written out -/
theorem look_run (w : World) (b n : Nat) (hown : w.ownsMap Tryz.prog 9 R4 b n mnDat) (l : List UInt8) (hl : l.length ≤ maxLen) (o s f i : Int) (known : Bool) (h1 : (match meanOf l with | some m => m | none => (0, 0, 0, 0)) = (o, s, f, i)) (h2 : (meanOf l).isSome = known) : (Instr.lookup 81 (.map (some b)) (.string ⟨l.toArray⟩) true).run Tryz.prog w = .ok (.tuple #[.agg #[.int .u8 o, .int .u8 s, .int .u8 f, .int .u8 i], .bool known]) w := by
  have hkey : keyOf Tryz.prog 9 (.string ⟨l.toArray⟩) = some (.string l) := by
    have := WideMaps.keyOf_string_mk (P := Tryz.prog) (k := 9) Tryz.underlying9 (s := ⟨l.toArray⟩) (by show l.toArray.size ≤ _; rw [List.size_toArray]; exact hl)
    simpa using this
  obtain ⟨v, ps, hrun, hv⟩ := hown.look_ok mnLaw Tryz.underlying81 (zeroMn w) (R4_mk (0, 0, 0, 0)) hkey
  obtain ⟨e1, e2⟩ := at_mn l (mnD (0, 0, 0, 0))
  have e3 : mnDat.atKey (.string l) (mnD (0, 0, 0, 0)) = mnD (o, s, f, i) := by
    rw [e1, ← h1]
    cases meanOf l <;> rfl
  rw [e3] at hv
  rw [hrun, e2, h2, R4_inv hv]
  rfl
theorem results_row_tmp2 {P : Program} {fn : Func} {p u v : Tmp} {ty : TypeId} (h : fn.results = #[.cell p ty, .tmp u, .tmp v]) (tmps : Array Value) (w : World) (g : Nat) (t : TypeId) (cs : Array Value) (fr : Nat × Nat) (d : TypeDesc)
    (hp : tmps.getD p undef = .pointer (some ⟨g, 0, none⟩)) (hg : w.heap[g]? = some (.cells cs t fr))
    (hu : P.underlying ty = some d) (hd : (match d with | .struct _ | .array _ _ => true | _ => false) = true) (hi : (P.info? ty).map (·.size) = some cs.size) :
    (results fn tmps).run P w = .ok (.tuple #[.agg cs, tmps.getD u undef, tmps.getD v undef]) w := by
  have hp' : tmps[p]?.getD undef = .pointer (some ⟨g, 0, none⟩) := by simpa using hp
  simp [results, h, hp', asAddr, run_loadVar_row w g t ty cs fr d hg hu hd hi, Sem.run_bind, Result.andThen]
end Go.Proofs.YtggfjbbpbfhijaaGreatDoor
