import Derived.Test.YthififblejbleaaGreatDoorHy09
namespace Go.Proofs.YthififblejbleaaGreatDoor
open Go.RowKit
open Go.Maps (Keyed)
set_option linter.unusedVariables false
set_option linter.unusedSimpArgs false
theorem run_make_s0 (n : Nat) (hn : n ≤ 1000000000000) (w : World) : ∃ cur : Array Value, (Instr.makeSlice 56 (.int .i64 0) (.int .i64 (n : Int))).run Tryz.prog w = .ok (.slice (some ⟨w.heap.size, 0, none⟩) 0 n) (w.alloc (.cells cur 9)) ∧ OwS w.heap.size (.slice (some ⟨w.heap.size, 0, none⟩) 0 n) [] (w.alloc (.cells cur 9)) := by
  obtain ⟨i0, hi, hz0, hz1, hz2⟩ := info_parts infoStr
  have h := run_make (P := Tryz.prog) w 56 9 i0 _ Tryz.underlying56 hi hz0 .i64 .i64 0 (n : Int) (by omega) (by omega) (by rw [hz2]; omega) (by omega)
  rw [hz1, Nat.mul_one] at h
  exact ⟨_, h, rfl, .inr ⟨w.heap.size, n, _, rfl, Nat.le_refl _, heap_alloc_new w _, by simp, by unfold maxLen; omega, by simp [madeCells], by simp⟩⟩
theorem owns_base17 {B B' e sz n : Nat} {w : World} {v : Value} {xs : List Value} (h : w.ownsRow B e sz v n xs) (hb : B' ≤ B) : w.ownsRow B' e sz v n xs := by
  refine ⟨h.1, ?_⟩
  rcases h.2 with hn | ⟨g, cap, cur, rfl, hb', rest⟩
  · exact .inl hn
  · exact .inr ⟨g, cap, cur, rfl, by omega, rest⟩
theorem OwS.out {B : Nat} {v : Value} {N : List (List UInt8)} {w w' : World} (h : OwS B v N w) (o : Out w w') : OwS B v N w' := owns_chg (S := fun _ => False) h (fun _ _ h => h) (Chg.of_out o)
theorem box_kept {B n sz k : Nat} {X w' : World} {e t : TypeId} {v : Value} {xs : List Value} {cs : Array Value} (hg : X.grownBy w' v.ownBlock) (ho : X.ownsRow B e sz v n xs) (hk : X.heap[k]? = some (.cells cs t (0, 0))) (he : ¬ e = t) : w'.heap[k]? = some (.cells cs t (0, 0)) :=
  (hg.block k (Array.getElem?_eq_some_iff.1 hk).1 (fun e' => own_type ho hk he e'.symm)).trans hk
set_option maxRecDepth 8000 in
set_option maxHeartbeats 2000000 in
theorem namesOf_any (m : Img) (w : World) (ta fa da : Option Addr) (tc fc dc : Nat) (h : ImA w ta fa da m) (hf : m.F.length ≤ 4096) (hd : m.D.length ≤ 1024) : Calls Tryz.prog 85 #[.agg #[.slice ta m.T.length tc, .slice fa m.F.length fc, .slice da m.D.length dc, .int .i64 m.en]] w fun e w' => ∃ a c, e = .returned (.slice a (allN m).length c) ∧ OwS w.heap.size (.slice a (allN m).length c) (allN m) w' ∧ Out w w' := by
  obtain ⟨i0, hi, hz0, hz1, hz2⟩ := info_parts infoStr
  obtain ⟨tn, htn⟩ : ∃ n, Hid (n = m.T.length) := ⟨_, rfl⟩
  obtain ⟨fn, hfn⟩ : ∃ n, Hid (n = m.F.length) := ⟨_, rfl⟩
  obtain ⟨dn, hdn⟩ : ∃ n, Hid (n = m.D.length) := ⟨_, rfl⟩
  rw [← htn.out, ← hfn.out, ← hdn.out]
  rw [← hfn.out] at hf
  rw [← hdn.out] at hd
  have HA := hidOf h
  have HAN : Hid ((allN m).length = fn + dn) := hidOf (by simp [allN, hfn.out, hdn.out])
  clear h
  obtain ⟨BX, hBX⟩ : ∃ O, Hid (O = #[Value.slice ta tn tc, Value.slice fa fn fc, Value.slice da dn dc, Value.int IntKind.i64 m.en]) := ⟨_, rfl⟩
  obtain ⟨wi, hwi⟩ : ∃ wi, Hid (wi = w.alloc (Obj.cells #[Value.slice ta tn tc, Value.slice fa fn fc, Value.slice da dn dc, Value.int IntKind.i64 m.en] 26)) := ⟨_, rfl⟩
  have Owi : Hid (Out w wi) := hidOf (by rw [hwi.out]; exact Out.alloc (Out.refl _) _)
  have xi : Hid (wi.heap[w.heap.size]? = some (.cells BX 26 (0, 0))) := hidOf (by rw [hwi.out, hBX.out]; exact heap_alloc_new w _)
  have hsi : wi.heap.size = w.heap.size + 1 := by rw [hwi.out, size_alloc]
  obtain ⟨cur, hmk, hown⟩ := run_make_s0 (fn + dn) (by omega) wi
  have HW := hidOf hown
  rw [Int.natCast_add, hsi] at hmk
  clear hown
  go_enter Tryz.func85, Tryz.ntmps85
  go_upto_region 1 with fail
  rw [← hwi.out]
  have x1 : wi.cell? ⟨w.heap.size, 1, none⟩ = some (.slice fa fn fc) := by rw [cell_atL xi.out, hBX.out]; rfl
  have x2 : wi.cell? ⟨w.heap.size, 2, none⟩ = some (.slice da dn dc) := by rw [cell_atL xi.out, hBX.out]; rfl
  go_upto_region 2 with fail
  obtain ⟨w2, hw2⟩ : ∃ w2, Hid (w2 = wi.alloc (.cells cur 9)) := ⟨_, rfl⟩
  rw [← hw2.out]
  have O2 : Hid (Out w w2) := hidOf (by rw [hw2.out]; exact Out.alloc Owi.out _)
  have X2 : Hid (w2.heap[w.heap.size]? = some (.cells BX 26 (0, 0))) := hidOf (by rw [hw2.out, Below.heap_alloc _ _ _ (by rw [hsi]; omega)]; exact xi.out)
  have y1 : w2.cell? ⟨w.heap.size, 1, none⟩ = some (.slice fa fn fc) := by rw [cell_atL X2.out, hBX.out]; rfl
  have HW2 : Hid (OwS w.heap.size (.slice (some ⟨w.heap.size + 1, 0, none⟩) 0 (fn + dn)) [] w2) := hidOf (by
    have := HW.out; rw [hsi, ← hw2.out] at this
    exact owns_base17 this (by omega))
  clear hmk HW x1 x2
  go_wp2
  go_loopw [3, 19] (fun v i wr => ∃ (k : Nat) (a : Option Addr) (c : Nat), k ≤ fn ∧ v = .slice a k c ∧ i = .int .i64 k ∧ Hid (OwS w.heap.size (.slice a k c) ((m.F.take k).map Fn.nm) wr) ∧ Hid (Out w wr) ∧ Hid (wr.heap[w.heap.size]? = some (.cells BX 26 (0, 0)))) (fun _ i _ => fn - (intOf i).toNat)
  case atStart => exact ⟨0, _, _, by omega, rfl, rfl, hidOf (by simpa using HW2.out), O2, X2⟩
  case round =>
    obtain ⟨k, a, c, hk, rfl, rfl, hos, hor, hbx⟩ := hrel
    have hsz : w.heap.size ≤ wr.heap.size := hor.out.size
    have hlo : w.heap.size < wr.heap.size := (Array.getElem?_eq_some_iff.1 hbx.out).1
    by_cases hkl : k < fn
    · have hlt : (k : Int) < fn := by omega
      obtain ⟨x, hx⟩ : ∃ x, m.F[k]? = some x := ⟨_, List.getElem?_eq_getElem (by rw [← hfn.out]; exact hkl)⟩
      obtain ⟨b, off, rfl, q0, q1, q2, q3⟩ := (HA.out.f.out hor.out).get hx
      have hts := hidOf (take_snoc hx)
      have hlk : Hid (((m.F.take k).map Fn.nm).length = k) := hidOf (by rw [List.length_map, List.length_take, ← hfn.out]; omega)
      obtain ⟨nm, ob, fi, ct⟩ := x
      simp only at q0 q1 q2 q3
      clear hx
      have HO2 : Hid (∀ A B, ((wr.alloc A).alloc B).ownsRow w.heap.size 9 1 (.slice a k c) k (((m.F.take k).map Fn.nm).map strV)) := hidOf (fun A B => by
        have := OwS.out hos.out (Out.alloc (Out.alloc (Out.refl wr) A) B)
        unfold OwS at this; rw [hlk.out] at this; exact this)
      have HB2 : Hid (∀ A B, ((wr.alloc A).alloc B).heap[w.heap.size]? = some (.cells BX 26 (0, 0))) := hidOf (fun A B => by
        rw [Below.heap_alloc _ _ _ (by rw [size_alloc]; omega), Below.heap_alloc _ _ _ hlo]; exact hbx.out)
      go_wp2_with (at_builtin; refine wpList_append_own _ rfl (.tmp 23) (.tmp 26) 56 rfl w.heap.size 9 i0 _ 1 16 Tryz.underlying56 hi hz0 hz1 hz2 rfl (by decide) (.slice a k c) k (((m.F.take k).map Fn.nm).map strV) rfl (HO2.out _ _) ⟨wr.heap.size + 1, 0, none⟩ 1 1 [.string ⟨nm.toArray⟩] rfl rfl (news_new _ _ _ _ (by rw [size_alloc])) (str_one nm) (by unfold maxLen; omega) (by omega) (by rw [size_alloc, size_alloc]; omega) ?_; intro v3 w3 hown3 hgrow3 _; have HO3 := hidOf hown3; have HG3 := hidOf (out_row (Out.alloc (Out.alloc hor.out _) _) (HO2.out _ _) hgrow3); have HB3 := hidOf (box_kept hgrow3 (HO2.out _ _) (HB2.out _ _) (by decide)); obtain ⟨a3, c3, rfl⟩ := own_form hown3; clear hown3 hgrow3)
      go_roundw
      case rel =>
        refine ⟨k + 1, a3, c3, by omega, rfl, by simp, hidOf ?_, HG3, HB3⟩
        have := HO3.out
        rw [hts.out]
        unfold OwS
        simp only [List.map_append, List.map_cons, List.map_nil, List.length_append, hlk.out, List.length_cons, List.length_nil]
        exact this
      case measure => simp [intOf]; omega
    · have hlt : ¬ (k : Int) < fn := by omega
      have hkf : k = fn := by omega
      have HF : Hid (OwS w.heap.size (.slice a fn c) (m.F.map Fn.nm) wr) := hidOf (by have := hos.out; rw [hkf, List.take_of_length_le (by rw [← hfn.out]; omega)] at this; exact this)
      have HKF := hidOf hkf
      have z2 : wr.cell? ⟨w.heap.size, 2, none⟩ = some (.slice da dn dc) := by rw [cell_atL hbx.out, hBX.out]; rfl
      clear hos hkf
      have HD0 := hidOf hbx.out
      have HOR := hidOf hor.out
      clear hor hbx hlo hsz
      obtain ⟨wb, hwb⟩ : ∃ wb, wb = wr := ⟨_, rfl⟩
      subst hwb
      go_wp2
      go_loopw [3, 32] (fun v i wr => ∃ (j : Nat) (a : Option Addr) (c : Nat), j ≤ dn ∧ v = .slice a (fn + j) c ∧ i = .int .i64 j ∧ Hid (OwS w.heap.size (.slice a (fn + j) c) (m.F.map Fn.nm ++ (m.D.take j).map Td.nm) wr) ∧ Hid (Out w wr)) (fun _ i _ => dn - (intOf i).toNat)
      case atStart => exact ⟨0, a, c, by omega, by rw [HKF.out]; rfl, rfl, hidOf (by simpa using HF.out), HOR⟩
      case round =>
        obtain ⟨j, a, c, hj, rfl, rfl, hos, hor⟩ := hrel
        have hsz : w.heap.size ≤ wr.heap.size := hor.out.size
        by_cases hjl : j < dn
        · have hlt : (j : Int) < dn := by omega
          obtain ⟨x, hx⟩ : ∃ x, m.D[j]? = some x := ⟨_, List.getElem?_eq_getElem (by rw [← hdn.out]; exact hjl)⟩
          obtain ⟨b, off, rfl, q0, q1, q2, q3, q4⟩ := (HA.out.d.out hor.out).get hx
          have hts := hidOf (take_snoc hx)
          have hlk : Hid ((m.F.map Fn.nm ++ (m.D.take j).map Td.nm).length = fn + j) := hidOf (by rw [List.length_append, List.length_map, List.length_map, List.length_take, ← hfn.out, ← hdn.out]; omega)
          obtain ⟨nm, kd, ky, vl, en⟩ := x
          simp only at q0 q1 q2 q3 q4
          clear hx
          have HO2 : Hid (∀ A B, ((wr.alloc A).alloc B).ownsRow w.heap.size 9 1 (.slice a (fn + j) c) (fn + j) ((m.F.map Fn.nm ++ (m.D.take j).map Td.nm).map strV)) := hidOf (fun A B => by
            have := OwS.out hos.out (Out.alloc (Out.alloc (Out.refl wr) A) B)
            unfold OwS at this; rw [hlk.out] at this; exact this)
          go_wp2_with (at_builtin; refine wpList_append_own _ rfl (.tmp 36) (.tmp 39) 56 rfl w.heap.size 9 i0 _ 1 16 Tryz.underlying56 hi hz0 hz1 hz2 rfl (by decide) (.slice a (fn + j) c) (fn + j) ((m.F.map Fn.nm ++ (m.D.take j).map Td.nm).map strV) rfl (HO2.out _ _) ⟨wr.heap.size + 1, 0, none⟩ 1 1 [.string ⟨nm.toArray⟩] rfl rfl (news_new _ _ _ _ (by rw [size_alloc])) (str_one nm) (by unfold maxLen; omega) (by omega) (by rw [size_alloc, size_alloc]; omega) ?_; intro v3 w3 hown3 hgrow3 _; have HO3 := hidOf hown3; have HG3 := hidOf (out_row (Out.alloc (Out.alloc hor.out _) _) (HO2.out _ _) hgrow3); obtain ⟨a3, c3, rfl⟩ := own_form hown3; clear hown3 hgrow3)
          go_roundw
          case rel =>
            refine ⟨j + 1, a3, c3, by omega, rfl, by simp, hidOf ?_, HG3⟩
            have := HO3.out
            rw [hts.out]
            unfold OwS
            simp only [List.map_append, List.map_cons, List.map_nil, ← List.append_assoc]
            rw [show (m.F.map Fn.nm ++ (m.D.take j).map Td.nm ++ [nm]).length = fn + j + 1 by rw [List.length_append, hlk.out]; rfl]
            rw [List.map_append] at this
            exact this
          case measure => simp [intOf]; omega
        · have hlt : ¬ (j : Int) < dn := by omega
          have hjd : Hid (j = dn) := hidOf (by omega)
          have HFin : Hid (OwS w.heap.size (.slice a (allN m).length c) (allN m) wr) := hidOf (by
            have := hos.out
            rw [hjd.out, List.take_of_length_le (by rw [← hdn.out]; omega)] at this
            rw [HAN.out]; exact this)
          go_wp2
          go_ret
          exact ⟨a, c, by rw [HAN.out, hjd.out]; rfl, HFin.out, hor.out⟩
def OwI (B : Nat) (v : Value) (zs : List Int) (w : World) : Prop := w.ownsRow B 3 1 v zs.length (zs.map (Value.int .i64))
theorem OwI.out {B : Nat} {v : Value} {zs : List Int} {w w' : World} (h : OwI B v zs w) (o : Out w w') : OwI B v zs w' := owns_chg (S := fun _ => False) h (fun _ _ h => h) (Chg.of_out o)
def pcs (K : List (List UInt8)) : List Int := K.map (fun y => (plF 1 (namesF K) y : Int))
theorem pcs_len (K : List (List UInt8)) : (pcs K).length = K.length := by simp [pcs]
theorem namesF_sub {K : List (List UInt8)} : ∀ x ∈ K, x ∈ namesF K := by
  refine snoc_ind (P := fun K => ∀ x ∈ K, x ∈ namesF K) (by simp) ?_ K
  intro l y ih x hx
  rw [namesF_snoc]
  rcases List.mem_append.1 hx with h | h
  · exact addN_sub (ih x h)
  · simp at h; rw [h]; exact addN_mem _ _
theorem pcs_snoc (K : List (List UInt8)) (x : List UInt8) : pcs (K ++ [x]) = pcs K ++ [(plF 1 (addN (namesF K) x) x : Int)] := by
  unfold pcs
  rw [namesF_snoc, List.map_append, List.map_cons, List.map_nil]
  congr 1
  refine List.map_congr_left fun y hy => ?_
  rw [addN_pl (namesF_sub y hy)]
structure SN (w0 wr : World) (p : Nat) (K : List (List UInt8)) (v : Value) (F : Nat → Prop) : Prop where
  tab : Tab p wr (namesF K) F
  lt : ∀ k, F k → k < wr.heap.size
  ge : ∀ k, F k → w0.heap.size ≤ k
  row : OwI w0.heap.size v (pcs K) wr
  ap : ∀ k, v.ownBlock = some k → ¬ F k
  out : Out w0 wr
theorem SN.add {w0 wr w' : World} {p : Nat} {K : List (List UInt8)} {v : Value} {F : Nat → Prop} {x : List UInt8} (h : SN w0 wr p K v F) (ht : Tab p w' (addN (namesF K) x) (FN F wr w')) (hc : Chg F wr w') :
    Tab p w' (namesF (K ++ [x])) (FN F wr w') ∧ (∀ k, FN F wr w' k → k < w'.heap.size) ∧ (∀ k, FN F wr w' k → w0.heap.size ≤ k) ∧ OwI w0.heap.size v (pcs K) w' ∧ (∀ k, v.ownBlock = some k → ¬ FN F wr w' k) ∧ Out w0 w' := by
  refine ⟨by rw [namesF_snoc]; exact ht, FN_lt h.lt hc.size, ?_, owns_chg h.row h.ap hc, ?_, Chg.out hc h.out h.ge⟩
  · rintro k (hk | hk)
    · exact h.ge k hk
    · have := h.out.size; omega
  · rintro k hv (hk | hk)
    · exact h.ap k hv hk
    · have := (h.row.lt k hv).2; omega
end Go.Proofs.YthififblejbleaaGreatDoor
namespace Go.Proofs.YthififblejbleaaGreatDoor
open Go.RowKit
set_option linter.unusedVariables false
set_option linter.unusedSimpArgs false
theorem blk_al {w : World} {q : Nat} {X : Obj} (h : w.heap[q]? = some X) (O : Obj) : (w.alloc O).heap[q]? = some X := (Below.heap_alloc _ _ _ (Array.getElem?_eq_some_iff.1 h).1).trans h
set_option maxRecDepth 8000 in
set_option maxHeartbeats 4000000 in
theorem copyImage_any (m : Img) (w : World) (ta fa da : Option Addr) (tc fc dc : Nat) (h : ImS w ta fa da m) (hT : m.T.length ≤ 1000000000) (hF : m.F.length ≤ 1000000000) (hD : m.D.length ≤ 1000000000) : Calls Tryz.prog 36 #[.agg #[.slice ta m.T.length tc, .slice fa m.F.length fc, .slice da m.D.length dc, .int .i64 m.en]] w fun e w' => ∃ a2 c2 a3 c3 a4 c4, e = .returned (.agg #[.slice a2 m.T.length c2, .slice a3 m.F.length c3, .slice a4 m.D.length c4, .int .i64 m.en]) ∧ w'.ownsRow w.heap.size 67 5 (.slice a2 m.T.length c2) m.T.length (rowI m.T) ∧ w'.ownsRow w.heap.size 69 4 (.slice a3 m.F.length c3) m.F.length (rowF m.F) ∧ w'.ownsRow w.heap.size 72 5 (.slice a4 m.D.length c4) m.D.length (rowD m.D) ∧ Out w w' := by
  have C1 : Hid (∀ wx, Out w wx → Calls Tryz.prog 70 #[.slice ta m.T.length tc] wx fun e w' => ∃ a' c', e = .returned (.slice a' m.T.length c') ∧ w'.ownsRow wx.heap.size 67 5 (.slice a' m.T.length c') m.T.length (rowI m.T) ∧ Out wx w') := hidOf fun wx o => copyI17 wx ta _ tc m.T rfl (h.t.out o) (by omega)
  have C2 : Hid (∀ wx, Out w wx → Calls Tryz.prog 71 #[.slice fa m.F.length fc] wx fun e w' => ∃ a' c', e = .returned (.slice a' m.F.length c') ∧ w'.ownsRow wx.heap.size 69 4 (.slice a' m.F.length c') m.F.length (rowF m.F) ∧ Out wx w') := hidOf fun wx o => copyF17 wx fa _ fc m.F rfl (h.f.out o) (by omega)
  have C3 : Hid (∀ wx, Out w wx → Calls Tryz.prog 72 #[.slice da m.D.length dc] wx fun e w' => ∃ a' c', e = .returned (.slice a' m.D.length c') ∧ w'.ownsRow wx.heap.size 72 5 (.slice a' m.D.length c') m.D.length (rowD m.D) ∧ Out wx w') := hidOf fun wx o => copyD17 wx da _ dc m.D rfl (h.d.out o) (by omega)
  clear h hT hF hD
  obtain ⟨T, F, D, en⟩ := m
  dsimp only at *
  obtain ⟨nt, hnt⟩ : ∃ n, Hid (n = T.length) := ⟨_, rfl⟩
  obtain ⟨nf, hnf⟩ : ∃ n, Hid (n = F.length) := ⟨_, rfl⟩
  obtain ⟨nd, hnd⟩ : ∃ n, Hid (n = D.length) := ⟨_, rfl⟩
  rw [← hnt.out] at C1 ⊢
  rw [← hnf.out] at C2 ⊢
  rw [← hnd.out] at C3 ⊢
  obtain ⟨q, hq⟩ : ∃ q, Hid (q = w.heap.size) := ⟨_, rfl⟩
  obtain ⟨wA, hwA⟩ : ∃ wA, Hid (wA = (w.alloc (.cells #[.slice ta nt tc, .slice fa nf fc, .slice da nd dc, .int .i64 en] 26)).alloc (.cells #[.slice none 0 0, .slice none 0 0, .slice none 0 0, .int .i64 0] 26)) := ⟨_, rfl⟩
  have OA : Hid (Out w wA) := hidOf (by rw [hwA.out]; exact Out.alloc (Out.alloc (Out.refl _) _) _)
  have bxA : Hid (wA.heap[q]? = some (.cells #[.slice ta nt tc, .slice fa nf fc, .slice da nd dc, .int .i64 en] 26 (0, 0))) := hidOf (by rw [hwA.out, hq.out]; exact blk_al (heap_alloc_new w _) _)
  have rsA : Hid (wA.heap[q + 1]? = some (.cells #[.slice none 0 0, .slice none 0 0, .slice none 0 0, .int .i64 0] 26 (0, 0))) := hidOf (by
    have := heap_alloc_new (w.alloc (.cells #[.slice ta nt tc, .slice fa nf fc, .slice da nd dc, .int .i64 en] 26)) (.cells #[.slice none 0 0, .slice none 0 0, .slice none 0 0, .int .i64 0] 26)
    rw [size_alloc, ← hwA.out, ← hq.out] at this; exact this)
  have BX : Hid (∀ wx, Out wA wx → wx.cell? ⟨q, 0, none⟩ = some (.slice ta nt tc) ∧ wx.cell? ⟨q, 1, none⟩ = some (.slice fa nf fc) ∧ wx.cell? ⟨q, 2, none⟩ = some (.slice da nd dc) ∧ wx.cell? ⟨q, 3, none⟩ = some (.int .i64 en)) := hidOf fun wx o => by
    have hb : wx.heap[q]? = _ := (o.block q (Array.getElem?_eq_some_iff.1 bxA.out).1).trans bxA.out
    exact ⟨by rw [cell_atL hb]; rfl, by rw [cell_atL hb]; rfl, by rw [cell_atL hb]; rfl, by rw [cell_atL hb]; rfl⟩
  have RS : Hid (∀ wx, Out wA wx → wx.heap[q + 1]? = some (.cells #[.slice none 0 0, .slice none 0 0, .slice none 0 0, .int .i64 0] 26 (0, 0))) := hidOf fun wx o => (o.block (q + 1) (Array.getElem?_eq_some_iff.1 rsA.out).1).trans rsA.out
  have szA : Hid (wA.heap.size = q + 2) := hidOf (by rw [hwA.out, size_alloc, size_alloc, hq.out])
  obtain ⟨i0, i1, i2, i3⟩ := BX.out wA (Out.refl _)
  have nb2 : ¬ q = q + 1 := by omega
  go_enter Tryz.func36, Tryz.ntmps36
  go_upto_region 1 with fail
  rw [← hwA.out, ← hq.out]
  clear bxA rsA hwA
  go_region_held3 (fun wx => wx.cell? ⟨q, 0, none⟩ = some (.slice ta nt tc) ∧ wx.cell? ⟨q, 1, none⟩ = some (.slice fa nf fc) ∧ wx.cell? ⟨q, 2, none⟩ = some (.slice da nd dc) ∧ wx.cell? ⟨q, 3, none⟩ = some (.int .i64 en)) (first | go_keep | assumption | exact X2 | exact X3 | exact X4) (first
    | (go_at_call 70; refine (C1.out _ (by first | exact OA.out | exact Out.drew OA.out | exact Out.drewN OA.out _)).mono ?_; rintro e w2 ⟨a2, c2, rfl, ow2, o2⟩; have P2 : Hid (Out wA w2) := hidOf (by first | exact o2 | exact Out.trans (Out.drew (Out.refl _)) o2 | exact Out.trans (Out.drewN (Out.refl _) _) o2); have W2 := hidOf ow2; have X2 := BX.out w2 P2.out; clear ow2 o2)
    | (go_at_call 71; refine (C2.out _ (OA.out.trans P2.out)).mono ?_; rintro e w3 ⟨a3, c3, rfl, ow3, o3⟩; have P3 := hidOf (P2.out.trans o3); have Q3 := hidOf o3; have W3 := hidOf ow3; have X3 := BX.out w3 P3.out; clear ow3 o3)
    | (go_at_call 72; refine (C3.out _ (OA.out.trans P3.out)).mono ?_; rintro e w4 ⟨a4, c4, rfl, ow4, o4⟩; have P4 := hidOf (P3.out.trans o4); have Q4 := hidOf o4; have W4 := hidOf ow4; have X4 := BX.out w4 P4.out; have r0 : w4.cell? ⟨q + 1, 0, none⟩ = some (.slice none 0 0) := (by rw [cell_atL (RS.out w4 P4.out)]; rfl); have r1 : w4.cell? ⟨q + 1, 1, none⟩ = some (.slice none 0 0) := (by rw [cell_atL (RS.out w4 P4.out)]; rfl); have r2 : w4.cell? ⟨q + 1, 2, none⟩ = some (.slice none 0 0) := (by rw [cell_atL (RS.out w4 P4.out)]; rfl); have r3 : w4.cell? ⟨q + 1, 3, none⟩ = some (.int .i64 0) := (by rw [cell_atL (RS.out w4 P4.out)]; rfl); have z0 := frozen_atL (RS.out w4 P4.out) 0; have z1 := frozen_atL (RS.out w4 P4.out) 1; have z2 := frozen_atL (RS.out w4 P4.out) 2; have z3 := frozen_atL (RS.out w4 P4.out) 3; clear ow4 o4))
  go_wp2
  refine bodyPost_ret (results_cell_row rfl _ _ (q + 1) 26 _ (0, 0) _ rfl (blk_setR (blk_setR (blk_setR (blk_setR (RS.out w4 P4.out) 0 _) 1 _) 2 _) 3 _) Tryz.underlying26 rfl (by kernel_rfl)) rfl ?_
  have cF : ∀ y0 y1 y2 y3, Chg (fun k => k = q + 1) w4 ((((w4.setCell ⟨q + 1, 0, none⟩ y0).setCell ⟨q + 1, 1, none⟩ y1).setCell ⟨q + 1, 2, none⟩ y2).setCell ⟨q + 1, 3, none⟩ y3) := fun y0 y1 y2 y3 => Chg.put4 (S := fun k => k = q + 1) (Chg.refl _ w4) rfl 0 1 2 3 y0 y1 y2 y3
  have zA := szA.out
  have z2' := P2.out.size
  have z3' := P3.out.size
  refine ⟨a2, c2, a3, c3, a4, c4, rfl, ?_, ?_, ?_, ?_⟩
  · refine owns_base17 (owns_chg (owns_chg (S := fun _ => False) W2.out (fun _ _ h => h) (Chg.of_out (Q3.out.trans Q4.out))) (fun k hk e => ?_) (cF _ _ _ _)) ?_
    · have h1 : wA.heap.size ≤ k := (W2.out.lt k hk).1
      omega
    · show w.heap.size ≤ wA.heap.size
      rw [← hq.out]; omega
  · refine owns_base17 (owns_chg (owns_chg (S := fun _ => False) W3.out (fun _ _ h => h) (Chg.of_out Q4.out)) (fun k hk e => ?_) (cF _ _ _ _)) ?_
    · have h1 : w2.heap.size ≤ k := (W3.out.lt k hk).1
      omega
    · rw [← hq.out]; omega
  · refine owns_base17 (owns_chg W4.out (fun k hk e => ?_) (cF _ _ _ _)) ?_
    · have h1 : w3.heap.size ≤ k := (W4.out.lt k hk).1
      omega
    · rw [← hq.out]; omega
  · exact Chg.out (cF _ _ _ _) (OA.out.trans P4.out) (fun k hk => by rw [← hq.out]; omega)
end Go.Proofs.YthififblejbleaaGreatDoor
