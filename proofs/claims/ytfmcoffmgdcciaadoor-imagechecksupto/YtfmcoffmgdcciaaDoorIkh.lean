import Derived.Test.YtfmcoffmgdcciaaDoorIke
import Derived.Test.YtfmcoffmgdcciaaDoorImo
namespace Go.Proofs.YtfmcoffmgdcciaaDoor
open Go.RowKit
set_option linter.unusedVariables false
set_option linter.unusedSimpArgs false
theorem set1of5 (A C : List Value) (y0 y1 y2 y3 y4 x4 : Value) (k : Nat) (hk : A.length = k) : (A ++ ([y0, y1, y2, y3, y4] ++ C)).set (k + 4) x4 = A ++ ([y0, y1, y2, y3, x4] ++ C) := by
  subst hk
  simp [List.set_append]
theorem RowI.last {w : World} {g : Nat} {L : List Ins} {R : List Value} (h : RowI w g L R) {i : Nat} {x : Ins} (hx : L[i]? = some x) (v : Int) : RowI (w.setCell ⟨g, i * 5 + 4, none⟩ (.int .i64 v)) g (L.set i { x with i := v }) R := by
  have h5 := blk_setR (show w.heap[g]? = _ from h) (i * 5 + 4) (.int .i64 v)
  have hi : i < L.length := (List.getElem?_eq_some_iff.1 hx).1
  unfold RowI
  rw [h5]
  simp only [List.setIfInBounds_toArray]
  have e1 : rowI L ++ R = rowI (L.take i) ++ ([.int .i64 x.o, .int .i64 x.d, .int .i64 x.s, .int .i64 x.f, .int .i64 x.i] ++ (rowI (L.drop (i + 1)) ++ R)) := by
    conv => lhs; rw [split_atK L i x hx]
    rw [rowI_app, List.append_assoc]; rfl
  have e2 : rowI (L.set i { x with i := v }) ++ R = rowI (L.take i) ++ ([.int .i64 x.o, .int .i64 x.d, .int .i64 x.s, .int .i64 x.f, .int .i64 v] ++ (rowI (L.drop (i + 1)) ++ R)) := by
    rw [List.set_eq_take_append_cons_drop, if_pos hi, rowI_app, List.append_assoc]; rfl
  have hl : (rowI (L.take i)).length = i * 5 := by rw [rowI_len, List.length_take, Nat.min_eq_left (by omega)]
  rw [e1, e2, set1of5 _ _ _ _ _ _ _ _ (i * 5) hl]
theorem RowD.last {w : World} {g : Nat} {L : List Td} {R : List Value} (h : RowD w g L R) {i : Nat} {x : Td} (hx : L[i]? = some x) (v : Int) : RowD (w.setCell ⟨g, i * 5 + 4, none⟩ (.int .i64 v)) g (L.set i { x with en := v }) R := by
  have h5 := blk_setR (show w.heap[g]? = _ from h) (i * 5 + 4) (.int .i64 v)
  have hi : i < L.length := (List.getElem?_eq_some_iff.1 hx).1
  unfold RowD
  rw [h5]
  simp only [List.setIfInBounds_toArray]
  have e1 : rowD L ++ R = rowD (L.take i) ++ ([.string ⟨x.nm.toArray⟩, .int .i64 x.kd, .int .i64 x.ky, .int .i64 x.vl, .int .i64 x.en] ++ (rowD (L.drop (i + 1)) ++ R)) := by
    conv => lhs; rw [split_atK L i x hx]
    rw [rowD_app, List.append_assoc]; rfl
  have e2 : rowD (L.set i { x with en := v }) ++ R = rowD (L.take i) ++ ([.string ⟨x.nm.toArray⟩, .int .i64 x.kd, .int .i64 x.ky, .int .i64 x.vl, .int .i64 v] ++ (rowD (L.drop (i + 1)) ++ R)) := by
    rw [List.set_eq_take_append_cons_drop, if_pos hi, rowD_app, List.append_assoc]; rfl
  have hl : (rowD (L.take i)).length = i * 5 := by rw [rowD_len, List.length_take, Nat.min_eq_left (by omega)]
  rw [e1, e2, set1of5 _ _ _ _ _ _ _ _ (i * 5) hl]
theorem map_set {α : Type} (f : α → α) (L : List α) (j : Nat) (x : α) (h : L[j]? = some x) : ((L.take j).map f ++ L.drop j).set j (f x) = (L.take (j + 1)).map f ++ L.drop (j + 1) ∧ ((L.take j).map f ++ L.drop j)[j]? = some x := by
  have hj : j < L.length := (List.getElem?_eq_some_iff.1 h).1
  have hl : ((L.take j).map f).length = j := by rw [List.length_map, List.length_take]; omega
  have hx : L[j] = x := by rw [List.getElem?_eq_getElem hj] at h; exact Option.some.inj h
  constructor
  · rw [List.set_append_right _ _ (by omega), hl, Nat.sub_self, List.drop_eq_getElem_cons hj, List.set_cons_zero, List.take_add_one, h]
    simp
  · rw [List.getElem?_append_right (by omega), hl, Nat.sub_self, List.getElem?_drop, Nat.add_zero]
    exact h
theorem own_cap17 {B n sz cp : Nat} {w : World} {e : TypeId} {a : Option Addr} {xs : List Value} (h : w.ownsRow B e sz (.slice a n cp) n xs) : n ≤ cp := by
  obtain ⟨hl, ⟨hv, hn⟩ | ⟨g, cap, cur, hv, hb, hg, hc, hm, hs, ht⟩⟩ := h
  · omega
  · cases hv; exact hc
set_option maxRecDepth 8000 in
set_option maxHeartbeats 4000000 in
theorem copyImage_any (m : Img) (w : World) (ta fa da : Option Addr) (tc fc dc : Nat) (h : ImS w ta fa da m) (hT : m.T.length ≤ 1048576) (hF : m.F.length ≤ 1048576) (hD : m.D.length ≤ 1048576) : Calls Tryd.prog 14 #[.agg #[.slice ta m.T.length tc, .slice fa m.F.length fc, .slice da m.D.length dc, .int .i64 m.en]] w fun e w' => ∃ a2 c2 a3 c3 a4 c4, e = .returned (.agg #[.slice a2 m.T.length c2, .slice a3 m.F.length c3, .slice a4 m.D.length c4, .int .i64 m.en]) ∧ w'.ownsRow w.heap.size 40 5 (.slice a2 m.T.length c2) m.T.length (rowI m.T) ∧ w'.ownsRow w.heap.size 59 4 (.slice a3 m.F.length c3) m.F.length (rowF m.F) ∧ w'.ownsRow w.heap.size 42 5 (.slice a4 m.D.length c4) m.D.length (rowD m.D) ∧ Out w w' := by
  have C1 : Hid (∀ wx, Out w wx → Calls Tryd.prog 28 #[.slice ta m.T.length tc] wx fun e w' => ∃ a' c', e = .returned (.slice a' m.T.length c') ∧ w'.ownsRow wx.heap.size 40 5 (.slice a' m.T.length c') m.T.length (rowI m.T) ∧ Out wx w') := hidOf fun wx o => copyI17 wx ta _ tc m.T rfl (h.t.out o) (by omega)
  have C2 : Hid (∀ wx, Out w wx → Calls Tryd.prog 29 #[.slice fa m.F.length fc] wx fun e w' => ∃ a' c', e = .returned (.slice a' m.F.length c') ∧ w'.ownsRow wx.heap.size 59 4 (.slice a' m.F.length c') m.F.length (rowF m.F) ∧ Out wx w') := hidOf fun wx o => copyF17 wx fa _ fc m.F rfl (h.f.out o) (by omega)
  have C3 : Hid (∀ wx, Out w wx → Calls Tryd.prog 30 #[.slice da m.D.length dc] wx fun e w' => ∃ a' c', e = .returned (.slice a' m.D.length c') ∧ w'.ownsRow wx.heap.size 42 5 (.slice a' m.D.length c') m.D.length (rowD m.D) ∧ Out wx w') := hidOf fun wx o => copyD17 wx da _ dc m.D rfl (h.d.out o) (by omega)
  clear h hT hF hD
  obtain ⟨T, F, D, en⟩ := m
  dsimp only at *
  obtain ⟨nt, hnt⟩ : ∃ n, Hid (n = T.length) := ⟨_, rfl⟩
  obtain ⟨nf, hnf⟩ : ∃ n, Hid (n = F.length) := ⟨_, rfl⟩
  obtain ⟨nd, hnd⟩ : ∃ n, Hid (n = D.length) := ⟨_, rfl⟩
  rw [← hnt.out] at C1 ⊢
  rw [← hnf.out] at C2 ⊢
  rw [← hnd.out] at C3 ⊢
  obtain ⟨q, hq⟩ : ∃ q, Hid (q = w.heap.size) := ⟨_, rfl⟩
  obtain ⟨wA, hwA⟩ : ∃ wA, Hid (wA = (w.alloc (.cells #[.slice ta nt tc, .slice fa nf fc, .slice da nd dc, .int .i64 en] 26)).alloc (.cells #[.slice none 0 0, .slice none 0 0, .slice none 0 0, .int .i64 0] 26)) := ⟨_, rfl⟩
  have OA : Hid (Out w wA) := hidOf (by rw [hwA.out]; exact Out.alloc (Out.alloc (Out.refl _) _) _)
  have bxA : Hid (wA.heap[q]? = some (.cells #[.slice ta nt tc, .slice fa nf fc, .slice da nd dc, .int .i64 en] 26 (0, 0))) := hidOf (by rw [hwA.out, hq.out]; exact blk_al (heap_alloc_new w _) _)
  have rsA : Hid (wA.heap[q + 1]? = some (.cells #[.slice none 0 0, .slice none 0 0, .slice none 0 0, .int .i64 0] 26 (0, 0))) := hidOf (by
    have := heap_alloc_new (w.alloc (.cells #[.slice ta nt tc, .slice fa nf fc, .slice da nd dc, .int .i64 en] 26)) (.cells #[.slice none 0 0, .slice none 0 0, .slice none 0 0, .int .i64 0] 26)
    rw [size_alloc, ← hwA.out, ← hq.out] at this; exact this)
  have BX : Hid (∀ wx, Out wA wx → wx.cell? ⟨q, 0, none⟩ = some (.slice ta nt tc) ∧ wx.cell? ⟨q, 1, none⟩ = some (.slice fa nf fc) ∧ wx.cell? ⟨q, 2, none⟩ = some (.slice da nd dc) ∧ wx.cell? ⟨q, 3, none⟩ = some (.int .i64 en)) := hidOf fun wx o => by
    have hb : wx.heap[q]? = _ := (o.block q (Array.getElem?_eq_some_iff.1 bxA.out).1).trans bxA.out
    exact ⟨by rw [cell_atL hb]; rfl, by rw [cell_atL hb]; rfl, by rw [cell_atL hb]; rfl, by rw [cell_atL hb]; rfl⟩
  have RS : Hid (∀ wx, Out wA wx → wx.heap[q + 1]? = some (.cells #[.slice none 0 0, .slice none 0 0, .slice none 0 0, .int .i64 0] 26 (0, 0))) := hidOf fun wx o => (o.block (q + 1) (Array.getElem?_eq_some_iff.1 rsA.out).1).trans rsA.out
  have szA : Hid (wA.heap.size = q + 2) := hidOf (by rw [hwA.out, size_alloc, size_alloc, hq.out])
  obtain ⟨i0, i1, i2, i3⟩ := BX.out wA (Out.refl _)
  have nb2 : ¬ q = q + 1 := by omega
  go_enter Tryd.func14, Tryd.ntmps14
  go_upto_region 1 with fail
  rw [← hwA.out, ← hq.out]
  clear bxA rsA hwA
  go_region_held3 (fun wx => wx.cell? ⟨q, 0, none⟩ = some (.slice ta nt tc) ∧ wx.cell? ⟨q, 1, none⟩ = some (.slice fa nf fc) ∧ wx.cell? ⟨q, 2, none⟩ = some (.slice da nd dc) ∧ wx.cell? ⟨q, 3, none⟩ = some (.int .i64 en)) (first | go_keep | assumption | exact X2 | exact X3 | exact X4) (first
    | (go_at_call 28; refine (C1.out _ (by first | exact OA.out | exact Out.drew OA.out | exact Out.drewN OA.out _)).mono ?_; rintro e w2 ⟨a2, c2, rfl, ow2, o2⟩; have P2 : Hid (Out wA w2) := hidOf (by first | exact o2 | exact Out.trans (Out.drew (Out.refl _)) o2 | exact Out.trans (Out.drewN (Out.refl _) _) o2); have W2 := hidOf ow2; have X2 := BX.out w2 P2.out; clear ow2 o2)
    | (go_at_call 29; refine (C2.out _ (OA.out.trans P2.out)).mono ?_; rintro e w3 ⟨a3, c3, rfl, ow3, o3⟩; have P3 := hidOf (P2.out.trans o3); have Q3 := hidOf o3; have W3 := hidOf ow3; have X3 := BX.out w3 P3.out; clear ow3 o3)
    | (go_at_call 30; refine (C3.out _ (OA.out.trans P3.out)).mono ?_; rintro e w4 ⟨a4, c4, rfl, ow4, o4⟩; have P4 := hidOf (P3.out.trans o4); have Q4 := hidOf o4; have W4 := hidOf ow4; have X4 := BX.out w4 P4.out; have r0 : w4.cell? ⟨q + 1, 0, none⟩ = some (.slice none 0 0) := (by rw [cell_atL (RS.out w4 P4.out)]; rfl); have r1 : w4.cell? ⟨q + 1, 1, none⟩ = some (.slice none 0 0) := (by rw [cell_atL (RS.out w4 P4.out)]; rfl); have r2 : w4.cell? ⟨q + 1, 2, none⟩ = some (.slice none 0 0) := (by rw [cell_atL (RS.out w4 P4.out)]; rfl); have r3 : w4.cell? ⟨q + 1, 3, none⟩ = some (.int .i64 0) := (by rw [cell_atL (RS.out w4 P4.out)]; rfl); have z0 := frozen_atL (RS.out w4 P4.out) 0; have z1 := frozen_atL (RS.out w4 P4.out) 1; have z2 := frozen_atL (RS.out w4 P4.out) 2; have z3 := frozen_atL (RS.out w4 P4.out) 3; clear ow4 o4))
  go_wp2
  refine bodyPost_ret (results_cell_row rfl _ _ (q + 1) 26 _ (0, 0) _ rfl (blk_setR (blk_setR (blk_setR (blk_setR (RS.out w4 P4.out) 0 _) 1 _) 2 _) 3 _) Tryd.underlying26 rfl (by kernel_rfl)) rfl ?_
  have cF : ∀ y0 y1 y2 y3, Chg (fun k => k = q + 1) w4 ((((w4.setCell ⟨q + 1, 0, none⟩ y0).setCell ⟨q + 1, 1, none⟩ y1).setCell ⟨q + 1, 2, none⟩ y2).setCell ⟨q + 1, 3, none⟩ y3) := fun y0 y1 y2 y3 => Chg.put4 (S := fun k => k = q + 1) (Chg.refl _ w4) rfl 0 1 2 3 y0 y1 y2 y3
  have zA := szA.out
  have z2' := P2.out.size
  have z3' := P3.out.size
  refine ⟨a2, c2, a3, c3, a4, c4, rfl, ?_, ?_, ?_, ?_⟩
  · refine owns_base17 (owns_chg (owns_chg (S := fun _ => False) W2.out (fun _ _ h => h) (Chg.of_out (Q3.out.trans Q4.out))) (fun k hk e => ?_) (cF _ _ _ _)) ?_
    · have h1 : wA.heap.size ≤ k := (W2.out.lt k hk).1
      omega
    · show w.heap.size ≤ wA.heap.size
      rw [← hq.out]; omega
  · refine owns_base17 (owns_chg (owns_chg (S := fun _ => False) W3.out (fun _ _ h => h) (Chg.of_out Q4.out)) (fun k hk e => ?_) (cF _ _ _ _)) ?_
    · have h1 : w2.heap.size ≤ k := (W3.out.lt k hk).1
      omega
    · rw [← hq.out]; omega
  · refine owns_base17 (owns_chg W4.out (fun k hk e => ?_) (cF _ _ _ _)) ?_
    · have h1 : w3.heap.size ≤ k := (W4.out.lt k hk).1
      omega
    · rw [← hq.out]; omega
  · exact Chg.out (cF _ _ _ _) (OA.out.trans P4.out) (fun k hk => by rw [← hq.out]; omega)
def tI (x : Ins) : Ins := { x with i := bits BinOp.xor IntKind.i64 x.i 1 }
def tD (x : Td) : Td := { x with en := bits BinOp.xor IntKind.i64 x.en 1 }
def turnM (m : Img) : Img := ⟨m.T.map tI, m.F, m.D.map tD, m.en⟩
/-- what turned leaves -/
def TrnE (m : Img) (w : World) (e : Ending) (w' : World) : Prop := ∃ a2 c2 a3 c3 a4 c4, e = .returned (.agg #[.slice a2 m.T.length c2, .slice a3 m.F.length c3, .slice a4 m.D.length c4, .int .i64 m.en]) ∧ ImS w' a2 a3 a4 (turnM m) ∧ m.T.length ≤ c2 ∧ (∀ ad, a2 = some ad → w.heap.size ≤ ad.block) ∧ (∀ ad, a3 = some ad → w.heap.size ≤ ad.block) ∧ (∀ ad, a4 = some ad → w.heap.size ≤ ad.block) ∧ Out w w'
set_option maxRecDepth 8000 in
set_option maxHeartbeats 4000000 in
theorem turned_any (m : Img) (w : World) (ta fa da : Option Addr) (tc fc dc : Nat) (h : ImS w ta fa da m) (hT : m.T.length ≤ 1048576) (hF : m.F.length ≤ 1048576) (hD : m.D.length ≤ 1048576) : Calls Tryd.prog 6 #[.agg #[.slice ta m.T.length tc, .slice fa m.F.length fc, .slice da m.D.length dc, .int .i64 m.en]] w (TrnE m w) := by
  have CC : Hid (∀ wx, Out w wx → Calls Tryd.prog 14 #[.agg #[.slice ta m.T.length tc, .slice fa m.F.length fc, .slice da m.D.length dc, .int .i64 m.en]] wx fun e w' => ∃ a2 c2 a3 c3 a4 c4, e = .returned (.agg #[.slice a2 m.T.length c2, .slice a3 m.F.length c3, .slice a4 m.D.length c4, .int .i64 m.en]) ∧ w'.ownsRow wx.heap.size 40 5 (.slice a2 m.T.length c2) m.T.length (rowI m.T) ∧ w'.ownsRow wx.heap.size 59 4 (.slice a3 m.F.length c3) m.F.length (rowF m.F) ∧ w'.ownsRow wx.heap.size 42 5 (.slice a4 m.D.length c4) m.D.length (rowD m.D) ∧ Out wx w') := hidOf fun wx o => copyImage_any m wx ta fa da tc fc dc (h.out o) hT hF hD
  clear h
  obtain ⟨T, F, D, en⟩ := m
  dsimp only at *
  obtain ⟨nt, hnnt⟩ : ∃ n, Hid (n = T.length) := ⟨_, rfl⟩
  obtain ⟨nf, hnnf⟩ : ∃ n, Hid (n = F.length) := ⟨_, rfl⟩
  obtain ⟨nd, hnnd⟩ : ∃ n, Hid (n = D.length) := ⟨_, rfl⟩
  rw [← hnnt.out, ← hnnf.out, ← hnnd.out] at CC
  obtain ⟨E, hE⟩ : ∃ E, Hid (E = TrnE ⟨T, F, D, en⟩ w) := ⟨_, rfl⟩
  rw [← hE.out, ← hnnt.out, ← hnnf.out, ← hnnd.out]
  rw [← hnnt.out] at hT
  rw [← hnnd.out] at hD
  obtain ⟨q, hq⟩ : ∃ q, Hid (q = w.heap.size) := ⟨_, rfl⟩
  obtain ⟨wA, hwA⟩ : ∃ wA, Hid (wA = (w.alloc (.cells #[.slice ta nt tc, .slice fa nf fc, .slice da nd dc, .int .i64 en] 26)).alloc (.cells #[.slice none 0 0, .slice none 0 0, .slice none 0 0, .int .i64 0] 26)) := ⟨_, rfl⟩
  have OA : Hid (Out w wA) := hidOf (by rw [hwA.out]; exact Out.alloc (Out.alloc (Out.refl _) _) _)
  have bxA : wA.heap[q]? = some (.cells #[.slice ta nt tc, .slice fa nf fc, .slice da nd dc, .int .i64 en] 26 (0, 0)) := by rw [hwA.out, hq.out]; exact blk_al (heap_alloc_new w _) _
  have rsA : Hid (wA.heap[q + 1]? = some (.cells #[.slice none 0 0, .slice none 0 0, .slice none 0 0, .int .i64 0] 26 (0, 0))) := hidOf (by
    have := heap_alloc_new (w.alloc (.cells #[.slice ta nt tc, .slice fa nf fc, .slice da nd dc, .int .i64 en] 26)) (.cells #[.slice none 0 0, .slice none 0 0, .slice none 0 0, .int .i64 0] 26)
    rw [size_alloc, ← hwA.out, ← hq.out] at this; exact this)
  have szA : Hid (wA.heap.size = q + 2) := hidOf (by rw [hwA.out, size_alloc, size_alloc, hq.out])
  have i0 : wA.cell? ⟨q, 0, none⟩ = some (.slice ta nt tc) := by rw [cell_atL bxA]; rfl
  have i1 : wA.cell? ⟨q, 1, none⟩ = some (.slice fa nf fc) := by rw [cell_atL bxA]; rfl
  have i2 : wA.cell? ⟨q, 2, none⟩ = some (.slice da nd dc) := by rw [cell_atL bxA]; rfl
  have i3 : wA.cell? ⟨q, 3, none⟩ = some (.int .i64 en) := by rw [cell_atL bxA]; rfl
  clear bxA
  go_enter Tryd.func6, Tryd.ntmps6
  go_upto_region 1 with fail
  rw [← hwA.out, ← hq.out]
  go_upto_region 2 with (go_at_call 14; refine (CC.out _ OA.out).mono ?_; rintro e w2 ⟨a2, c2, a3, c3, a4, c4, rfl, ow2, ow3, ow4, o2⟩)
  obtain ⟨cb, hcb⟩ : ∃ c, Hid (c = w2.heap.size) := ⟨_, rfl⟩
  obtain ⟨wB, hwB⟩ : ∃ wx, Hid (wx = w2.alloc (.cells #[.slice a2 nt c2, .slice a3 nf c3, .slice a4 nd c4, .int .i64 en] 26)) := ⟨_, rfl⟩
  rw [← hwB.out, ← hcb.out]
  have O2B : Out w2 wB := by rw [hwB.out]; exact Out.alloc (Out.refl _) _
  have OB := hidOf (o2.trans O2B)
  have zz : q + 2 ≤ cb := by rw [hcb.out, ← szA.out]; exact o2.size
  have bxB : wB.heap[cb]? = some (.cells #[.slice a2 nt c2, .slice a3 nf c3, .slice a4 nd c4, .int .i64 en] 26 (0, 0)) := by rw [hwB.out, hcb.out]; exact heap_alloc_new w2 _
  have x0 : wB.cell? ⟨cb, 0, none⟩ = some (.slice a2 nt c2) := by rw [cell_atL bxB]; rfl
  have x2 : wB.cell? ⟨cb, 2, none⟩ = some (.slice a4 nd c4) := by rw [cell_atL bxB]; rfl
  have HB := hidOf bxB
  have rsB := hidOf ((OB.out.block (q + 1) (Array.getElem?_eq_some_iff.1 rsA.out).1).trans rsA.out)
  have W2 := hidOf (owns_chg (S := fun _ => False) ow2 (fun _ _ h => h) (Chg.of_out O2B))
  have W3 := hidOf (owns_chg (S := fun _ => False) ow3 (fun _ _ h => h) (Chg.of_out O2B))
  have W4 := hidOf (owns_chg (S := fun _ => False) ow4 (fun _ _ h => h) (Chg.of_out O2B))
  have hcap : Hid (nt ≤ c2) := hidOf (own_cap17 ow2)
  obtain ⟨gT, RT, HT⟩ : ∃ g R, Hid (T = [] ∨ (a2 = some ⟨g, 0, none⟩ ∧ RowI wB g T R ∧ q + 2 ≤ g ∧ g < cb)) := by
    rcases own_rowI ow2 hnnt.out.symm with ⟨_, h0⟩ | ⟨g, R, ha, hr, hg⟩
    · exact ⟨0, [], hidOf (.inl h0)⟩
    · exact ⟨g, R, hidOf (.inr ⟨ha, hr.out O2B, by rw [← szA.out]; exact hg, by rw [hcb.out]; exact hr.lt⟩)⟩
  obtain ⟨gD, RD, HD⟩ : ∃ g R, Hid (D = [] ∨ (a4 = some ⟨g, 0, none⟩ ∧ RowD wB g D R ∧ q + 2 ≤ g ∧ g < cb)) := by
    rcases own_rowD ow4 hnnd.out.symm with ⟨_, h0⟩ | ⟨g, R, ha, hr, hg⟩
    · exact ⟨0, [], hidOf (.inl h0)⟩
    · exact ⟨g, R, hidOf (.inr ⟨ha, hr.out O2B, by rw [← szA.out]; exact hg, by rw [hcb.out]; exact hr.lt⟩)⟩
  have NT : Hid (¬ T = [] → ∀ k, k < q + 2 ∨ cb ≤ k → ¬ k = gT) := hidOf fun hne k hk e => by
    obtain ⟨_, _, h1, h2⟩ := HT.out.resolve_left hne
    omega
  have ND : Hid (¬ D = [] → ∀ k, k < q + 2 ∨ cb ≤ k → ¬ k = gD) := hidOf fun hne k hk e => by
    obtain ⟨_, _, h1, h2⟩ := HD.out.resolve_left hne
    omega
  clear ow2 ow3 ow4 o2 O2B bxB i0 i1 i2 i3
  go_wp2
  go_loopw [4] (fun v wr => ∃ j : Nat, j ≤ nt ∧ v = .int .i64 j ∧ Hid (T = [] ∨ RowI wr gT ((T.take j).map tI ++ T.drop j) RT) ∧ Hid (Chg (fun k => ¬ T = [] ∧ k = gT) wB wr)) (fun v _ => nt - (intOf v).toNat)
  case atStart => exact ⟨0, by omega, rfl, hidOf (by simpa using HT.out.imp id (fun h => h.2.1)), hidOf (Chg.refl _ _)⟩
  case round =>
    obtain ⟨j, hj, rfl, HR, HC⟩ := hrel
    have y0 : wr.cell? ⟨cb, 0, none⟩ = some (.slice a2 nt c2) := HC.out.cell x0 (fun h => NT.out h.1 cb (Or.inr (Nat.le_refl _)) h.2)
    by_cases hjn : j < nt
    · have hlt : (j : Int) < nt := by omega
      have hne : ¬ T = [] := fun e => by have := hnnt.out; rw [e] at this; simp at this; omega
      obtain ⟨x, hx⟩ : ∃ x, T[j]? = some x := ⟨_, List.getElem?_eq_getElem (by rw [← hnnt.out]; exact hjn)⟩
      have hm := map_set tI T j x hx
      have hr : RowI wr gT ((T.take j).map tI ++ T.drop j) RT := HR.out.resolve_left hne
      have ha : a2 = some ⟨gT, 0, none⟩ := (HT.out.resolve_left hne).1
      have e4 := (hr.cells hm.2).2.2.2.2
      have g4 := hr.frozen (j * 5 + 4)
      have HN := hidOf (hr.last hm.2 (bits BinOp.xor IntKind.i64 x.i 1))
      rw [show ({ x with i := bits BinOp.xor IntKind.i64 x.i 1 } : Ins) = tI x from rfl, hm.1] at HN
      have HCN : Hid (Chg (fun k => ¬ T = [] ∧ k = gT) wB (wr.setCell ⟨gT, j * 5 + 4, none⟩ (.int .i64 (bits BinOp.xor IntKind.i64 x.i 1)))) := hidOf (Chg.setCell (S := fun k => ¬ T = [] ∧ k = gT) HC.out (p := ⟨gT, j * 5 + 4, none⟩) ⟨hne, rfl⟩ _)
      clear hm hr hx HR HC
      rw [ha] at y0
      clear ha
      go_upto_region 5 with fail
      go_region_law (fail)
      go_wp2
      go_roundw
      case rel => exact ⟨j + 1, by omega, by simp, hidOf (.inr HN.out), hidOf (by first | exact HCN.out | exact HCN.out.drew | exact HCN.out.of_drewN _)⟩
      case measure => simp [intOf]; omega
      all_goals exact ⟨⟨j + 1, by omega, by simp, hidOf (.inr HN.out), hidOf (by first | exact HCN.out | exact HCN.out.drew | exact HCN.out.of_drewN _)⟩, by simp [intOf]; omega⟩
    · have hlt : ¬ (j : Int) < nt := by omega
      have F0 := HC
      have R0 : Hid (T = [] ∨ RowI wr gT (T.map tI) RT) := hidOf (HR.out.imp id (fun h => by
        rw [show j = nt by omega, List.take_of_length_le (by rw [← hnnt.out]; omega), List.drop_of_length_le (by rw [← hnnt.out]; omega), List.append_nil] at h
        exact h))
      obtain ⟨wC, hwC⟩ : ∃ wb, wb = wr := ⟨_, rfl⟩
      subst hwC
      have TD : Hid (¬ T = [] → ¬ D = [] → ¬ gD = gT) := hidOf fun h1 h2 e => by
        obtain ⟨_, r1, _, _⟩ := HT.out.resolve_left h1
        obtain ⟨_, r2, _, _⟩ := HD.out.resolve_left h2
        rw [e] at r2
        have := (show wB.heap[gT]? = _ from r1).symm.trans r2
        simp only [Option.some.injEq, Obj.cells.injEq] at this
        exact absurd this.2.1 (by decide)
      replace x2 : wC.cell? ⟨cb, 2, none⟩ = some (.slice a4 nd c4) := HC.out.cell x2 (fun h => NT.out h.1 cb (Or.inr (Nat.le_refl _)) h.2)
      replace HD : Hid (D = [] ∨ (a4 = some ⟨gD, 0, none⟩ ∧ RowD wC gD D RD ∧ q + 2 ≤ gD ∧ gD < cb)) := hidOf (by
        by_cases h : D = []
        · exact .inl h
        · obtain ⟨p1, p2, p3, p4⟩ := HD.out.resolve_left h
          exact .inr ⟨p1, p2.chg HC.out (fun e => TD.out e.1 h e.2), p3, p4⟩)
      clear HR HC
      go_wp2
      go_loopw [5] (fun v wr => ∃ j : Nat, j ≤ nd ∧ v = .int .i64 j ∧ Hid (D = [] ∨ RowD wr gD ((D.take j).map tD ++ D.drop j) RD) ∧ Hid (Chg (fun k => ¬ D = [] ∧ k = gD) wC wr)) (fun v _ => nd - (intOf v).toNat)
      case atStart => exact ⟨0, by omega, rfl, hidOf (by simpa using HD.out.imp id (fun h => h.2.1)), hidOf (Chg.refl _ _)⟩
      case round =>
        obtain ⟨j, hj, rfl, HR, HC⟩ := hrel
        have y2 : wr.cell? ⟨cb, 2, none⟩ = some (.slice a4 nd c4) := HC.out.cell x2 (fun h => ND.out h.1 cb (Or.inr (Nat.le_refl _)) h.2)
        by_cases hjn : j < nd
        · have hlt : (j : Int) < nd := by omega
          have hne : ¬ D = [] := fun e => by have := hnnd.out; rw [e] at this; simp at this; omega
          obtain ⟨x, hx⟩ : ∃ x, D[j]? = some x := ⟨_, List.getElem?_eq_getElem (by rw [← hnnd.out]; exact hjn)⟩
          have hm := map_set tD D j x hx
          have hr : RowD wr gD ((D.take j).map tD ++ D.drop j) RD := HR.out.resolve_left hne
          have ha : a4 = some ⟨gD, 0, none⟩ := (HD.out.resolve_left hne).1
          have e4 := (hr.cells hm.2).2.2.2.2
          have g4 := hr.frozen (j * 5 + 4)
          have HN := hidOf (hr.last hm.2 (bits BinOp.xor IntKind.i64 x.en 1))
          rw [show ({ x with en := bits BinOp.xor IntKind.i64 x.en 1 } : Td) = tD x from rfl, hm.1] at HN
          have HCN : Hid (Chg (fun k => ¬ D = [] ∧ k = gD) wC (wr.setCell ⟨gD, j * 5 + 4, none⟩ (.int .i64 (bits BinOp.xor IntKind.i64 x.en 1)))) := hidOf (Chg.setCell (S := fun k => ¬ D = [] ∧ k = gD) HC.out (p := ⟨gD, j * 5 + 4, none⟩) ⟨hne, rfl⟩ _)
          clear hm hr hx HR HC
          rw [ha] at y2
          clear ha
          go_upto_region 9 with fail
          go_region_law (fail)
          go_wp2
          go_roundw
          case rel => exact ⟨j + 1, by omega, by simp, hidOf (.inr HN.out), hidOf (by first | exact HCN.out | exact HCN.out.drew | exact HCN.out.of_drewN _)⟩
          case measure => simp [intOf]; omega
          all_goals exact ⟨⟨j + 1, by omega, by simp, hidOf (.inr HN.out), hidOf (by first | exact HCN.out | exact HCN.out.drew | exact HCN.out.of_drewN _)⟩, by simp [intOf]; omega⟩
        · have hlt : ¬ (j : Int) < nd := by omega
          have R1 : Hid (D = [] ∨ RowD wr gD (D.map tD) RD) := hidOf (HR.out.imp id (fun h => by
            rw [show j = nd by omega, List.take_of_length_le (by rw [← hnnd.out]; omega), List.drop_of_length_le (by rw [← hnnd.out]; omega), List.append_nil] at h
            exact h))
          have CB : Hid (∀ k, k < q + 2 ∨ cb ≤ k → k < wB.heap.size → wr.heap[k]? = wB.heap[k]?) := hidOf fun k hk hl => (HC.out.block k (by have := F0.out.size; omega) (fun h => ND.out h.1 k hk h.2)).trans (F0.out.block k hl (fun h => NT.out h.1 k hk h.2))
          have bx1 : wr.heap[cb]? = some (.cells #[.slice a2 nt c2, .slice a3 nf c3, .slice a4 nd c4, .int .i64 en] 26 (0, 0)) := (CB.out cb (.inr (Nat.le_refl _)) (Array.getElem?_eq_some_iff.1 HB.out).1).trans HB.out
          have rs1 : wr.heap[q + 1]? = some (.cells #[.slice none 0 0, .slice none 0 0, .slice none 0 0, .int .i64 0] 26 (0, 0)) := (CB.out (q + 1) (.inl (by omega)) (Array.getElem?_eq_some_iff.1 rsB.out).1).trans rsB.out
          have u0 : wr.cell? ⟨cb, 0, none⟩ = some (.slice a2 nt c2) := by rw [cell_atL bx1]; rfl
          have u1 : wr.cell? ⟨cb, 1, none⟩ = some (.slice a3 nf c3) := by rw [cell_atL bx1]; rfl
          have u3 : wr.cell? ⟨cb, 3, none⟩ = some (.int .i64 en) := by rw [cell_atL bx1]; rfl
          have r0 : wr.cell? ⟨q + 1, 0, none⟩ = some (.slice none 0 0) := by rw [cell_atL rs1]; rfl
          have r1 : wr.cell? ⟨q + 1, 1, none⟩ = some (.slice none 0 0) := by rw [cell_atL rs1]; rfl
          have r2 : wr.cell? ⟨q + 1, 2, none⟩ = some (.slice none 0 0) := by rw [cell_atL rs1]; rfl
          have r3 : wr.cell? ⟨q + 1, 3, none⟩ = some (.int .i64 0) := by rw [cell_atL rs1]; rfl
          have z0 := frozen_atL rs1 0
          have z1 := frozen_atL rs1 1
          have z2 := frozen_atL rs1 2
          have z3 := frozen_atL rs1 3
          have RSH := hidOf rs1
          clear bx1 rs1
          go_wp2
          refine bodyPost_ret (results_cell_row rfl _ _ (q + 1) 26 _ (0, 0) _ rfl (blk_setR (blk_setR (blk_setR (blk_setR RSH.out 0 _) 1 _) 2 _) 3 _) Tryd.underlying26 rfl (by kernel_rfl)) rfl ?_
          have cF : ∀ y0 y1 y2 y3, Chg (fun k => k = q + 1) wr ((((wr.setCell ⟨q + 1, 0, none⟩ y0).setCell ⟨q + 1, 1, none⟩ y1).setCell ⟨q + 1, 2, none⟩ y2).setCell ⟨q + 1, 3, none⟩ y3) := fun y0 y1 y2 y3 => Chg.put4 (S := fun k => k = q + 1) (Chg.refl _ wr) rfl 0 1 2 3 y0 y1 y2 y3
          have OO : ∀ y0 y1 y2 y3, Out w ((((wr.setCell ⟨q + 1, 0, none⟩ y0).setCell ⟨q + 1, 1, none⟩ y1).setCell ⟨q + 1, 2, none⟩ y2).setCell ⟨q + 1, 3, none⟩ y3) := fun y0 y1 y2 y3 => by
            have h1 := Chg.out F0.out (OA.out.trans OB.out) (fun k hk => by have := (HT.out.resolve_left hk.1).2.2.1; rw [hk.2, ← hq.out]; omega)
            have h2 := Chg.out HC.out h1 (fun k hk => by have := (HD.out.resolve_left hk.1).2.2.1; rw [hk.2, ← hq.out]; omega)
            exact Chg.out (cF y0 y1 y2 y3) h2 (fun k hk => by rw [← hq.out]; omega)
          have base : ∀ {a : Option Addr} {n c z : Nat} {e : TypeId} {V : List Value}, wB.ownsRow wA.heap.size e z (.slice a n c) n V → ∀ ad, a = some ad → w.heap.size ≤ ad.block := fun ho ad ha => by
            have := (ho.lt ad.block (by rw [ha]; rfl)).1
            rw [szA.out] at this
            rw [← hq.out]; omega
          rw [hE.out]
          unfold TrnE
          dsimp only
          rw [← hnnt.out, ← hnnf.out, ← hnnd.out]
          refine ⟨a2, c2, a3, c3, a4, c4, rfl, ⟨?_, ?_, ?_⟩, hcap.out, base W2.out, base W3.out, base W4.out, OO _ _ _ _⟩
          · show InsA _ a2 (T.map tI)
            by_cases h : T = []
            · exact .inl (by rw [h]; rfl)
            · obtain ⟨ha, _, hg, hg2⟩ := HT.out.resolve_left h
              have r := R0.out.resolve_left h
              rw [ha]
              exact RowI.a (B := []) (by rw [List.append_nil]; exact (r.chg HC.out (fun e => TD.out h e.1 e.2.symm)).chg (cF _ _ _ _) (by omega))
          · show FnA _ a3 F
            have hf := W3.out
            have nT : ∀ k, (Value.slice a3 nf c3).ownBlock = some k → ¬ (¬ T = [] ∧ k = gT) := fun k hk e => by
              rcases own_rowF W3.out hnnf.out.symm with ⟨hx, _⟩ | ⟨g, R, ha, hr, _⟩
              · rw [hx] at hk; cases hk
              · rw [ha] at hk
                have hgk : g = k := by simpa [Value.ownBlock] using hk
                obtain ⟨_, r1, _, _⟩ := HT.out.resolve_left e.1
                rw [hgk, e.2] at hr
                have := (show wB.heap[gT]? = _ from r1).symm.trans hr
                simp only [Option.some.injEq, Obj.cells.injEq] at this
                exact absurd this.2.1 (by decide)
            have hf1 := owns_chg hf nT F0.out
            have nD : ∀ k, (Value.slice a3 nf c3).ownBlock = some k → ¬ (¬ D = [] ∧ k = gD) := fun k hk e => by
              rcases own_rowF hf1 hnnf.out.symm with ⟨hx, _⟩ | ⟨g, R, ha, hr, _⟩
              · rw [hx] at hk; cases hk
              · rw [ha] at hk
                have hgk : g = k := by simpa [Value.ownBlock] using hk
                obtain ⟨_, r1, _, _⟩ := HD.out.resolve_left e.1
                rw [hgk, e.2] at hr
                have := (show wC.heap[gD]? = _ from r1).symm.trans hr
                simp only [Option.some.injEq, Obj.cells.injEq] at this
                exact absurd this.2.1 (by decide)
            have hf2 := owns_chg hf1 nD HC.out
            exact FnA.of_own (owns_chg hf2 (fun k hk e => by have := (W3.out.lt k hk).1; rw [szA.out] at this; omega) (cF _ _ _ _)) hnnf.out.symm
          · show TdA _ a4 (D.map tD)
            by_cases h : D = []
            · exact .inl (by rw [h]; rfl)
            · obtain ⟨ha, _, hg, hg2⟩ := HD.out.resolve_left h
              have r := R1.out.resolve_left h
              rw [ha]
              exact RowD.a (B := []) (by rw [List.append_nil]; exact r.chg (cF _ _ _ _) (by omega))
end Go.Proofs.YtfmcoffmgdcciaaDoor
