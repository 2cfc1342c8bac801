import Derived.Test.YtbnoaedkonnflaaDoorGw3
import Derived.Laws.Bits64b
import Derived.Deep.DeepAppendWide
namespace Go.Proofs.YtbnoaedkonnflaaDoor
open Go.RowKit
set_option linter.unusedVariables false
set_option linter.unusedSimpArgs false
theorem and62 (x : Int) : bits BinOp.and IntKind.i64 x 4611686018427387903 = x % 4611686018427387904 := by
  show IntKind.i64.wrap ((BitVec.ofInt 64 x &&& BitVec.ofInt 64 4611686018427387903).toNat : Int) = _
  have h2 : (BitVec.ofInt 64 4611686018427387903).toNat = 2 ^ 62 - 1 := by decide
  rw [BitVec.toNat_and, h2, Nat.and_two_pow_sub_one_eq_mod, BitVec.toNat_ofInt, IntKind.wrap_i64]
  omega
theorem rest_take {N : Nat} {w : World} {a : Option Addr} {l : List UInt8} (h : RestAt N w a l) (j : Nat) : RestAt N w a (l.take j) := by
  rcases h with rfl | ⟨b, off, hb, ha, hc⟩
  · exact .inl (by simp)
  · exact .inr ⟨b, off, hb, ha, fun k x hx => hc k x (by
      rw [List.getElem?_take] at hx
      split at hx
      · exact hx
      · cases hx)⟩
/-- Write's bytes, cut: no image -/
theorem cut_bad {m : Img} (hok : Ok17 m) (hi : ∀ x ∈ m.T, -9223372036854775808 ≤ x.i ∧ x.i ≤ 9223372036854775807) {j : Nat} (hj : j < (wrB m).length) : ∃ q, rdI ((wrB m).take j) = (nilM, q, 170) := by
  have hb := back_I m hok hi
  have hp := (pas_of hb).1
  have h1 := rd_out (k := (wrB m).take j) hp (by
    by_cases h : j < 28
    · left; rw [List.length_take]; omega
    · right; intro i hi
      simp only [List.getD_eq_getElem?_getD, List.getElem?_take]
      rw [if_pos (by omega)]) (by rw [List.length_take]; omega)
  have h2 := rd_err (l := (wrB m).take j) (by rw [h1]; decide)
  exact ⟨(rdI ((wrB m).take j)).2.1, Prod.ext h2 (Prod.ext rfl h1)⟩
/-- Write's bytes and more behind them: no image -/
theorem long_bad {m : Img} (hok : Ok17 m) (hi : ∀ x ∈ m.T, -9223372036854775808 ≤ x.i ∧ x.i ≤ 9223372036854775807) {r : List UInt8} (hr : r ≠ []) : ∃ q, rdI (wrB m ++ r) = (nilM, q, 170) := by
  have hb := back_I m hok hi
  have hp := (pas_of hb).1
  have hl : 28 ≤ (wrB m).length := by rw [wrB_len]; unfold sizP; omega
  have hr' : 0 < r.length := List.length_pos_iff.2 hr
  have h1 := rd_out (k := wrB m ++ r) hp (.inr (fun i hi => by
      simp only [List.getD_eq_getElem?_getD]
      rw [List.getElem?_append_left (by omega)])) (by rw [List.length_append]; omega)
  have h2 := rd_err (l := wrB m ++ r) (by rw [h1]; decide)
  exact ⟨(rdI (wrB m ++ r)).2.1, Prod.ext h2 (Prod.ext rfl h1)⟩
theorem wr_lim {m : Img} (h : Ok17 m) : 28 ≤ (wrB m).length ∧ (wrB m).length ≤ 10000000 := by
  have h1 := h.counts
  have h2 := h.small
  rw [wrB_len, byP_len]; unfold sizP; omega
end Go.Proofs.YtbnoaedkonnflaaDoor
namespace Go.Proofs.YtbnoaedkonnflaaDoor
open Go.RowKit
set_option linter.unusedVariables false
set_option linter.unusedSimpArgs false
theorem owns_void (w : World) (B size : Nat) (e : TypeId) (hB : B ≤ w.heap.size) : (w.alloc (.cells #[] e)).ownsRow B e size (.slice (some ⟨w.heap.size, 0, none⟩) 0 0) 0 [] :=
  ⟨by simp, .inr ⟨w.heap.size, 0, #[], rfl, hB, heap_alloc_new w _, Nat.le_refl _, by decide, by simp, by simp⟩⟩
set_option maxHeartbeats 800000 in
theorem copy17_any (w : World) (a : Option Addr) (cap : Nat) (l : List UInt8) (hr : RestAt w.heap.size w a l) (hll : l.length ≤ 140737488351232) : Calls Tryd.prog 10 #[.slice a l.length cap] w fun e w' => ∃ v, e = .returned v ∧ OwB w.heap.size v l w' ∧ Out w w' := by
  obtain ⟨i0, hi, hz0, hz1, hz2⟩ := info_parts infoB
  have H0 := hidOf (owns_void w w.heap.size 1 5 (Nat.le_refl _))
  cases a with
  | none =>
    obtain rfl : l = [] := by
      rcases hr with h | ⟨b, off, _, h, _⟩
      · exact h
      · cases h
    simp only [List.length_nil]
    go_enter Tryd.func10, Tryd.ntmps10
    go_wp2
    go_ret
    exact ⟨_, rfl, H0.out, Out.alloc (Out.refl _) _⟩
  | some ad =>
    have HC : Hid (∀ j u, (Lib.byteCells l)[j]? = some u → (w.alloc (.cells #[] 5)).cell? (ad.add j) = some u) := fun j u hu => by
      simp only [Lib.byteCells, List.getElem?_map, Option.map_eq_some_iff] at hu
      obtain ⟨x, hx, rfl⟩ := hu
      rcases hr with rfl | ⟨b, off, _, h, hc⟩
      · simp at hx
      · cases h
        rw [WideShapes.add_plain]
        exact cell_later ((Out.refl w).alloc _) (hc j x hx)
    clear hr
    go_enter Tryd.func10, Tryd.ntmps10
    go_wp2_with (at_builtin; refine wpList_append_own _ rfl (.tmp 3) (.tmp 4) 27 rfl w.heap.size 5 i0 _ 1 1 Tryd.underlying27 hi hz0 hz1 hz2 rfl (by decide) (.slice (some ⟨w.heap.size, 0, none⟩) 0 0) 0 [] rfl H0.out ad l.length cap (Lib.byteCells l) rfl (by rw [Lib.byteCells_length, Nat.mul_one]) HC.out (bc_one l) (by unfold maxLen; omega) (by omega) (by rw [size_alloc]; omega) ?_; intro v' w3 hown' hgrow _; have H3 := hidOf (out_row ((Out.refl w).alloc _) H0.out hgrow); have HN := hidOf hown'; clear hown' hgrow)
    go_ret
    refine ⟨_, rfl, ?_, H3.out⟩
    have := HN.out
    rw [Nat.zero_add, List.nil_append] at this
    exact this
set_option maxRecDepth 8000 in
set_option maxHeartbeats 2000000 in
theorem imageBack_walk (W : World) (hT : Tb64 W) (h1 : 1 < W.heap.size) (m : Img) (ta fa da : Option Addr) (tc fc dc : Nat) (hA : ImA W ta fa da m) (htc : m.T.length ≤ tc) (hi : ∀ x ∈ m.T, -9223372036854775808 ≤ x.i ∧ x.i ≤ 9223372036854775807) (hF : m.F.length ≤ 140737488355328) (hD : m.D.length ≤ 140737488355328) (x : Int) (a : Option Addr) (c : Nat) (l : List UInt8) (h : RestAt W.heap.size W a l) (hc : l.length ≤ c) (hn : l.length ≤ 140737488351232) :
    Calls Tryd.prog 3 #[.agg #[.slice ta m.T.length tc, .slice fa m.F.length fc, .slice da m.D.length dc, .int .i64 m.en], .int .i64 x, .slice a l.length c] W fun e W' => e = .returned (.bool true) ∧ Out W W' := by
  obtain ⟨W1, hW1⟩ : ∃ w2, Hid (w2 = W.alloc (.cells #[.slice ta m.T.length tc, .slice fa m.F.length fc, .slice da m.D.length dc, .int .i64 m.en] 26)) := ⟨_, rfl⟩
  have O1 : Hid (Out W W1) := hidOf (by rw [hW1.out]; exact Out.alloc (Out.refl _) _)
  have A1 : Hid (ImA W1 ta fa da m) := hidOf (hA.out O1.out)
  have B1 : Hid (W1.heap[W.heap.size]? = some (.cells #[.slice ta m.T.length tc, .slice fa m.F.length fc, .slice da m.D.length dc, .int .i64 m.en] 26 (0, 0))) := hidOf (by rw [hW1.out]; exact heap_alloc_new W _)
  have z0 : W1.cell? ⟨W.heap.size, 0, none⟩ = some (.slice ta m.T.length tc) := by rw [cell_atL B1.out]; rfl
  have z1 : W1.cell? ⟨W.heap.size, 1, none⟩ = some (.slice fa m.F.length fc) := by rw [cell_atL B1.out]; rfl
  have z2 : W1.cell? ⟨W.heap.size, 2, none⟩ = some (.slice da m.D.length dc) := by rw [cell_atL B1.out]; rfl
  have z3 : W1.cell? ⟨W.heap.size, 3, none⟩ = some (.int .i64 m.en) := by rw [cell_atL B1.out]; rfl
  obtain ⟨k, er, hck⟩ : ∃ k er, Hid (ckP m = (k, er)) := ⟨_, _, hidOf rfl⟩
  have C1 : Hid (Calls Tryd.prog 5 #[.agg #[.slice ta m.T.length tc, .slice fa m.F.length fc, .slice da m.D.length dc, .int .i64 m.en]] W1 fun e w' => e = .returned (.tuple #[.int .i64 (k : Nat), .int .i64 er]) ∧ Out W1 w') := hidOf (by
    have := check_any m W1 ta fa da tc fc dc A1.out
    rw [hck.out] at this; exact this)
  have CW : Hid (∀ wx, Out W1 wx → Calls Tryd.prog 6 #[.agg #[.slice ta m.T.length tc, .slice fa m.F.length fc, .slice da m.D.length dc, .int .i64 m.en]] wx (WriE m wx)) := hidOf (fun wx o => write_any m wx ta fa da tc fc dc (A1.out.out o) htc hi)
  have CA : Hid (∀ wx, Calls Tryd.prog 7 #[] wx fun e w' => e = .returned (.bool true) ∧ Out wx w') := hidOf (fun wx => awake17_any wx)
  have HL := hidOf h
  have HT := hidOf hT
  have HI := hidOf hi
  clear h hT hi
  have hTl := A1.out.n
  go_enter Tryd.func3, Tryd.ntmps3
  go_upto_region 1 with fail
  rw [← hW1.out]
  go_upto_region 2 with (go_at_call 5; refine C1.out.mono ?_; rintro e w2 ⟨rfl, o2⟩)
  have O2 := hidOf o2
  have y0 := cell_later o2 z0
  have y1 := cell_later o2 z1
  have y2 := cell_later o2 z2
  have y3 := cell_later o2 z3
  clear o2 z0 z1 z2 z3
  by_cases he : er = 0
  · subst he
    have hok : Hid (Ok17 m) := hidOf (ck_ok (by rw [hck.out]))
    have hk0 : k = 0 := by have := ok_ck hok.out; rw [hck.out] at this; cases this; rfl
    subst hk0
    obtain ⟨B, hB⟩ : ∃ B, Hid (B = wrB m) := ⟨_, rfl⟩
    have hlim := wr_lim hok.out
    rw [← hB.out] at hlim
    obtain ⟨N, hN⟩ : ∃ N, Hid (N = B.length) := ⟨_, rfl⟩
    rw [← hN.out] at hlim
    obtain ⟨hl28, hl10⟩ := hlim
    have C2 : Hid (∀ wx, Out W1 wx → Calls Tryd.prog 6 #[.agg #[.slice ta m.T.length tc, .slice fa m.F.length fc, .slice da m.D.length dc, .int .i64 m.en]] wx fun e w' => ∃ g off c', e = .returned (.tuple #[.slice (some ⟨g, off, none⟩) N c', .int .i64 0, .int .i64 0]) ∧ N ≤ c' ∧ RestAt w'.heap.size w' (some ⟨g, off, none⟩) B ∧ Out wx w') := hidOf (fun wx o => by
      refine (CW.out wx o).mono ?_
      rintro e w' (⟨_, a', c', rfl, ow, o'⟩ | ⟨h, _⟩)
      · obtain ⟨a2, c2, he2, hc2, hr2⟩ := ow.rest
        cases he2
        rw [← hB.out] at hr2 hc2 ⊢
        rw [← hN.out] at hc2 ⊢
        rcases hr2 with hz | ⟨b, off, hb, rfl, hcell⟩
        · rw [hz] at hN; have := hN.out; simp at this; omega
        · exact ⟨b, off, c', rfl, hc2, .inr ⟨b, off, hb, rfl, hcell⟩, o'⟩
      · exact absurd (by rw [hck.out]) h)
    go_upto_region 5 with (go_at_call 6; refine (C2.out _ O2.out).mono ?_; rintro e w3 ⟨g, off, c', rfl, hc', hr3, o3⟩)
    have R3 := hidOf hr3
    have O3 := hidOf (O2.out.trans o3)
    have x0 := cell_later o3 y0
    have x1 := cell_later o3 y1
    have x2 := cell_later o3 y2
    have x3 := cell_later o3 y3
    clear o3 y0 y1 y2 y3 hr3
    have CR : Hid (Calls Tryd.prog 8 #[.slice (some ⟨g, off, none⟩) N c'] w3 (RdL m 0 0 w3)) := hidOf (by
      have hsz := (O1.out.trans O3.out).size
      have := read17_rest w3 (some ⟨g, off, none⟩) c' B R3.out (by rw [← hN.out]; exact hc') (HT.out.out (O1.out.trans O3.out)) (by omega) (by rw [← hN.out]; omega)
      rw [← hN.out] at this
      exact this.mono (fun e w' r => r.l (by rw [hB.out]; exact back_I m hok.out HI.out)))
    go_upto_region 6 with (go_at_call 8; refine CR.out.mono ?_; rintro e w4 ⟨o4, ta4, fa4, da4, tc4, fc4, dc4, rfl, S4, htc4⟩)
    obtain ⟨w5, hw5⟩ : ∃ w2, Hid (w2 = w4.alloc (.cells #[.slice ta4 m.T.length tc4, .slice fa4 m.F.length fc4, .slice da4 m.D.length dc4, .int .i64 m.en] 26)) := ⟨_, rfl⟩
    rw [← hw5.out]
    have o35 : Out w3 w5 := by rw [hw5.out]; exact o4.alloc _
    have B5 : Hid (w5.heap[w4.heap.size]? = some (.cells #[.slice ta4 m.T.length tc4, .slice fa4 m.F.length fc4, .slice da4 m.D.length dc4, .int .i64 m.en] 26 (0, 0))) := hidOf (by rw [hw5.out]; exact heap_alloc_new w4 _)
    have O5 := hidOf (O3.out.trans o35)
    have R5 := hidOf (rest_out R3.out o35)
    have S5 : Hid (ImS w5 ta4 fa4 da4 m) := hidOf (S4.out (by rw [hw5.out]; exact Out.alloc (Out.refl _) _))
    have y0 := cell_later o35 x0
    have y1 := cell_later o35 x1
    have y2 := cell_later o35 x2
    have y3 := cell_later o35 x3
    have z0 : w5.cell? ⟨w4.heap.size, 0, none⟩ = some (.slice ta4 m.T.length tc4) := by rw [cell_atL B5.out]; rfl
    have z1 : w5.cell? ⟨w4.heap.size, 1, none⟩ = some (.slice fa4 m.F.length fc4) := by rw [cell_atL B5.out]; rfl
    have z2 : w5.cell? ⟨w4.heap.size, 2, none⟩ = some (.slice da4 m.D.length dc4) := by rw [cell_atL B5.out]; rfl
    have z3 : w5.cell? ⟨w4.heap.size, 3, none⟩ = some (.int .i64 m.en) := by rw [cell_atL B5.out]; rfl
    have R5' : Hid (RestAt w5.heap.size w5 (some ⟨g, off, none⟩) B) := hidOf (by
      have hs := o35.size
      rcases R5.out with h | ⟨b, o, hb, ha, hcell⟩
      · exact .inl h
      · exact .inr ⟨b, o, by omega, ha, hcell⟩)
    clear x0 x1 x2 x3 S4 htc4 o4 R5
    have CS := hidOf (sameImage_any w5 ta4 fa4 da4 ta fa da tc4 fc4 dc4 tc fc dc m S5.out (A1.out.s.out O5.out) (by omega) hF hD)
    have hN0 : ((N : Int) == 0) = false := by simp; omega
    go_upto_region 8 with (go_at_call 9; refine CS.out.mono ?_; rintro e w6 ⟨rfl, o6⟩)
    have O6 := hidOf (O5.out.trans o6)
    have R6 : Hid (RestAt w6.heap.size w6 (some ⟨g, off, none⟩) B) := hidOf (by
      have hs := o6.size
      rcases rest_out R5'.out o6 with h | ⟨b, o, hb, ha, hcell⟩
      · exact .inl h
      · exact .inr ⟨b, o, by omega, ha, hcell⟩)
    clear y0 y1 y2 y3 z0 z1 z2 z3 o6 o35
    obtain ⟨y, hy⟩ : ∃ y : Nat, x % 4611686018427387904 = y := ⟨(x % 4611686018427387904).toNat, by omega⟩
    have hand : bits BinOp.and IntKind.i64 x 4611686018427387903 = (y : Int) := by rw [and62, hy]
    have hNn : ¬ (N : Int) = 0 := by omega
    have hy62 : (y : Int) < 4611686018427387904 := by omega
    clear hy
    go_upto_region 9 with fail
    have hyN : (y : Int) % (N : Int) = ((y % N : Nat) : Int) := by omega
    have hjN : y % N < N := Nat.mod_lt _ (by omega)
    rw [hyN]
    clear hyN hand hy62
    generalize y % N = j at *
    have hjc : (j : Int) ≤ c' := by omega
    have CR2 : Hid (Calls Tryd.prog 8 #[.slice (some ⟨g, off, none⟩) j c'] w6 fun e w' => Out w6 w' ∧ ∃ (q : Nat) (t f d : Option Addr) (tc fc dc : Nat), e = .returned (.tuple #[.agg #[.slice t 0 tc, .slice f 0 fc, .slice d 0 dc, .int .i64 0], .int .i64 (q : Nat), .int .i64 170])) := hidOf (by
      have hsz := (O1.out.trans O6.out).size
      obtain ⟨q, hq⟩ := cut_bad hok.out HI.out (j := j) (by rw [← hB.out, ← hN.out]; exact hjN)
      rw [← hB.out] at hq
      have hjl : (B.take j).length = j := by rw [List.length_take, ← hN.out]; omega
      have := read17_rest w6 (some ⟨g, off, none⟩) c' (B.take j) (rest_take R6.out j) (by rw [hjl]; omega) (HT.out.out (O1.out.trans O6.out)) (by omega) (by rw [hjl]; omega)
      rw [hjl] at this
      refine this.mono (fun e w' r => ?_)
      obtain ⟨o, t, f, d, tc, fc, dc, he, _⟩ := r.l hq
      exact ⟨o, q, t, f, d, tc, fc, dc, he⟩)
    go_upto_region 10 with (go_at_call 8; refine CR2.out.mono ?_; rintro e w7 ⟨o7, q2, t2, f2, d2, tc2, fc2, dc2, rfl⟩)
    have O7 := hidOf (O6.out.trans o7)
    have R7 : Hid (RestAt w7.heap.size w7 (some ⟨g, off, none⟩) B) := hidOf (by
      have hs := o7.size
      rcases rest_out R6.out o7 with h | ⟨b, o, hb, ha, hcell⟩
      · exact .inl h
      · exact .inr ⟨b, o, by omega, ha, hcell⟩)
    clear o7
    have CC : Hid (Calls Tryd.prog 10 #[.slice (some ⟨g, off, none⟩) N c'] w7 fun e w' => ∃ a8 c8, e = .returned (.slice a8 N c8) ∧ w'.ownsRow w7.heap.size 5 1 (.slice a8 N c8) N (Lib.byteCells B) ∧ Out w7 w') := hidOf (by
      have := copy17_any w7 (some ⟨g, off, none⟩) c' B R7.out (by rw [← hN.out]; omega)
      rw [← hN.out] at this
      refine this.mono (fun e w' ⟨v, he, ow, o⟩ => ?_)
      unfold OwB at ow
      rw [← hN.out] at ow
      obtain ⟨a8, c8, rfl⟩ := own_form ow
      exact ⟨a8, c8, he, ow, o⟩)
    obtain ⟨i0, hi0, hz0, hz1, hz2⟩ := info_parts infoB
    go_upto_region 11 with (first
      | (go_at_call 10; refine CC.out.mono ?_; rintro e w8 ⟨a8, c8, rfl, ow8, o8⟩; have HO8 := hidOf ow8; have O8 := hidOf o8; clear ow8 o8)
      | (at_builtin; refine wpList_append_own _ rfl (.tmp 95) (.tmp 96) 27 rfl w7.heap.size 5 i0 _ 1 1 Tryd.underlying27 hi0 hz0 hz1 hz2 rfl (by decide) (.slice a8 N c8) N (Lib.byteCells B) rfl (owns_chg (S := fun _ => False) HO8.out (fun _ _ h => h) (Chg.of_out (Out.alloc (Out.refl _) _))) ⟨w8.heap.size, 0, none⟩ 1 1 [.int .u8 0] rfl rfl (news_new _ _ _ _ rfl) (fun u hu => by simp at hu; subst hu; rfl) (by unfold maxLen; omega) (by omega) (by rw [size_alloc]; have := O8.out.size; omega) ?_; intro v9 w9 hown9 hgrow9 _; have HO9 := hidOf hown9; have O9 := hidOf (out_row (w0 := w7) (Out.alloc O8.out _) (owns_chg (S := fun _ => False) HO8.out (fun _ _ h => h) (Chg.of_out (Out.alloc (Out.refl _) _))) hgrow9); obtain ⟨a9, c9, rfl⟩ := own_form hown9; clear hown9 hgrow9))
    have hc9 : N + 1 ≤ c9 := own_capN HO9.out
    obtain ⟨M, hM⟩ : ∃ M, Hid (M = N + 1 + l.length) := ⟨_, rfl⟩
    cases a with
    | none =>
      have hl0 : l = [] := by
        rcases HL.out with h | ⟨b, off, _, h, _⟩
        · exact h
        · cases h
      subst hl0
      replace hM : Hid (M = N + 1) := hidOf (by have := hM.out; simpa using this)
      simp only [List.length_nil]
      obtain ⟨g9, rfl⟩ : ∃ g9, a9 = some ⟨g9, 0, none⟩ := by
        rcases HO9.out.2 with ⟨hv, h0⟩ | ⟨g9, cap, cur, hv, _⟩
        · omega
        · cases hv; exact ⟨g9, rfl⟩
      have hc9i : (N : Int) + 1 ≤ c9 := by omega
      go_upto_region 12 with fail
      have L9 : Hid (OwB w7.heap.size (.slice (some ⟨g9, 0, none⟩) M c9) (B ++ ([0] : List UInt8)) w9) := hidOf (by
        have := HO9.out
        unfold OwB
        rw [show (B ++ ([0] : List UInt8)).length = M by rw [List.length_append, ← hN.out, hM.out]; rfl]
        rw [show Lib.byteCells (B ++ ([0] : List UInt8)) = Lib.byteCells B ++ [.int .u8 0] by simp [Lib.byteCells]]
        rw [hM.out]; exact this)
      have O10 := O9
      rw [← hM.out]
      have CR3 : Hid (Calls Tryd.prog 8 #[.slice (some ⟨g9, 0, none⟩) M c9] w9 fun e w' => Out w9 w' ∧ ∃ (q : Nat) (t f d : Option Addr) (tc fc dc : Nat), e = .returned (.tuple #[.agg #[.slice t 0 tc, .slice f 0 fc, .slice d 0 dc, .int .i64 0], .int .i64 (q : Nat), .int .i64 170])) := hidOf (by
        obtain ⟨q, hq⟩ := long_bad hok.out HI.out (r := [0]) (by simp)
        rw [← hB.out] at hq
        obtain ⟨a2, c2, he2, hc2, hr2⟩ := L9.out.rest
        have hM2 : (B ++ ([0] : List UInt8)).length = M := by rw [List.length_append, ← hN.out, hM.out]; rfl
        rw [hM2] at he2 hc2
        cases he2
        have := read17_rest w9 (some ⟨g9, 0, none⟩) c9 (B ++ ([0] : List UInt8)) hr2 (by rw [hM2]; exact hc2) (HT.out.out ((O1.out.trans O7.out).trans O10.out)) (by have := ((O1.out.trans O7.out).trans O10.out).size; omega) (by rw [hM2, hM.out]; omega)
        rw [hM2] at this
        refine this.mono (fun e w' r => ?_)
        obtain ⟨o, t, f, d, tc, fc, dc, he, _⟩ := r.l hq
        exact ⟨o, q, t, f, d, tc, fc, dc, he⟩)
      go_upto_region 13 with (go_at_call 8; refine CR3.out.mono ?_; rintro e w11 ⟨o11, q3, t3, f3, d3, tc3, fc3, dc3, rfl⟩)
      have O11 := hidOf (((O1.out.trans O7.out).trans O10.out).trans o11)
      clear o11
      go_wp2_with (go_at_call 7; refine (CA.out _).mono ?_; rintro e w12 ⟨rfl, o12⟩; have O12 := hidOf (Out.trans (Out.alloc O11.out _) o12); clear o12)
      go_ret
      exact ⟨by simp, O12.out⟩
    | some ad =>
      have HC : Hid (∀ j u, (Lib.byteCells l)[j]? = some u → w9.cell? (ad.add j) = some u) := hidOf (fun j u hu => by
        simp only [Lib.byteCells, List.getElem?_map, Option.map_eq_some_iff] at hu
        obtain ⟨z, hz, rfl⟩ := hu
        rcases rest_out HL.out ((O1.out.trans O7.out).trans O9.out) with rfl | ⟨b, off, _, h, hc⟩
        · simp at hz
        · cases h
          rw [WideShapes.add_plain]
          exact hc j z hz)
      go_upto_region 12 with (at_builtin; refine wpList_append_own_wide _ rfl (.tmp 98) (.tmp 99) 27 rfl w7.heap.size 5 i0 _ 1 1 Tryd.underlying27 hi0 hz0 hz1 hz2 rfl (by decide) (.slice a9 (N + 1) c9) (N + 1) (Lib.byteCells B ++ [.int .u8 0]) rfl HO9.out ad l.length c (Lib.byteCells l) rfl (by rw [Lib.byteCells_length, Nat.mul_one]) HC.out (bc_one l) (by unfold maxLen; omega) (by omega) (by have := O9.out.size; omega) ?_; intro v10 w10 hown10 hgrow10 _; rw [← hM.out] at hown10; have HO10 := hidOf hown10; have O10 := hidOf (out_row (w0 := w7) O9.out HO9.out hgrow10); obtain ⟨a10, c10, rfl⟩ := own_form hown10; clear hown10 hgrow10)
      have L9 : Hid (OwB w7.heap.size (.slice a10 M c10) (B ++ 0 :: l) w10) := hidOf (by
        have := HO10.out
        unfold OwB
        rw [show (B ++ 0 :: l).length = M by rw [List.length_append, List.length_cons, ← hN.out, hM.out]; omega]
        rw [show Lib.byteCells (B ++ 0 :: l) = Lib.byteCells B ++ [.int .u8 0] ++ Lib.byteCells l by simp [Lib.byteCells]]
        exact this)
      have CR3 : Hid (Calls Tryd.prog 8 #[.slice a10 M c10] w10 fun e w' => Out w10 w' ∧ ∃ (q : Nat) (t f d : Option Addr) (tc fc dc : Nat), e = .returned (.tuple #[.agg #[.slice t 0 tc, .slice f 0 fc, .slice d 0 dc, .int .i64 0], .int .i64 (q : Nat), .int .i64 170])) := hidOf (by
        obtain ⟨q, hq⟩ := long_bad hok.out HI.out (r := 0 :: l) (by simp)
        rw [← hB.out] at hq
        obtain ⟨a2, c2, he2, hc2, hr2⟩ := L9.out.rest
        have hM2 : (B ++ 0 :: l).length = M := by rw [List.length_append, List.length_cons, ← hN.out, hM.out]; omega
        rw [hM2] at he2 hc2
        cases he2
        have := read17_rest w10 a10 c10 (B ++ 0 :: l) hr2 (by rw [hM2]; exact hc2) (HT.out.out ((O1.out.trans O7.out).trans O10.out)) (by have := ((O1.out.trans O7.out).trans O10.out).size; omega) (by rw [hM2, hM.out]; omega)
        rw [hM2] at this
        refine this.mono (fun e w' r => ?_)
        obtain ⟨o, t, f, d, tc, fc, dc, he, _⟩ := r.l hq
        exact ⟨o, q, t, f, d, tc, fc, dc, he⟩)
      go_upto_region 13 with (go_at_call 8; refine CR3.out.mono ?_; rintro e w11 ⟨o11, q3, t3, f3, d3, tc3, fc3, dc3, rfl⟩)
      have O11 := hidOf (((O1.out.trans O7.out).trans O10.out).trans o11)
      clear o11
      go_wp2_with (go_at_call 7; refine (CA.out _).mono ?_; rintro e w12 ⟨rfl, o12⟩; have O12 := hidOf (Out.trans (Out.alloc O11.out _) o12); clear o12)
      go_ret
      exact ⟨by simp, O12.out⟩
  · have hbt : (er != 0) = true := by simp [he]
    have hbf : (er == 0) = false := by simp [he]
    have C2 : Hid (∀ wx, Out W1 wx → Calls Tryd.prog 6 #[.agg #[.slice ta m.T.length tc, .slice fa m.F.length fc, .slice da m.D.length dc, .int .i64 m.en]] wx fun e w' => e = .returned (.tuple #[.slice none 0 0, .int .i64 (k : Nat), .int .i64 er]) ∧ Out wx w') := hidOf (fun wx o => by
      refine (CW.out wx o).mono ?_
      rintro e w' (⟨hok, _⟩ | ⟨h, he, o'⟩)
      · have := ok_ck hok; rw [hck.out] at this; cases this; exact absurd rfl he
      · rw [hck.out] at he; exact ⟨he, o'⟩)
    go_wp2_with (first
      | (go_at_call 6; refine (C2.out _ O2.out).mono ?_; rintro e w3 ⟨rfl, o3⟩; have O3 := hidOf (O1.out.trans (O2.out.trans o3)); clear o3)
      | (go_at_call 7; refine (CA.out _).mono ?_; rintro e w7 ⟨rfl, o7⟩; have O7 := hidOf (O3.out.trans o7); clear o7))
    go_ret
    exact ⟨by simp, O7.out⟩
end Go.Proofs.YtbnoaedkonnflaaDoor
