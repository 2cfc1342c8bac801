import Derived.Test.YthdgmhohofakgaaGreatDoorImn
namespace Go.Proofs.YthdgmhohofakgaaGreatDoor
open Go.RowKit
open Go.Maps (Keyed)
set_option linter.unusedVariables false
set_option linter.unusedSimpArgs false
theorem run_make_s0 (n : Nat) (hn : n ≤ 1000000000000) (w : World) : ∃ cur : Array Value, (Instr.makeSlice 50 (.int .i64 0) (.int .i64 (n : Int))).run Tryz.prog w = .ok (.slice (some ⟨w.heap.size, 0, none⟩) 0 n) (w.alloc (.cells cur 9)) ∧ OwS w.heap.size (.slice (some ⟨w.heap.size, 0, none⟩) 0 n) [] (w.alloc (.cells cur 9)) := by
  obtain ⟨i0, hi, hz0, hz1, hz2⟩ := info_parts infoStr
  have h := run_make (P := Tryz.prog) w 50 9 i0 _ Tryz.underlying50 hi hz0 .i64 .i64 0 (n : Int) (by omega) (by omega) (by rw [hz2]; omega) (by omega)
  rw [hz1, Nat.mul_one] at h
  exact ⟨_, h, rfl, .inr ⟨w.heap.size, n, _, rfl, Nat.le_refl _, heap_alloc_new w _, by simp, by unfold maxLen; omega, by simp [madeCells], by simp⟩⟩
theorem owns_base17 {B B' e sz n : Nat} {w : World} {v : Value} {xs : List Value} (h : w.ownsRow B e sz v n xs) (hb : B' ≤ B) : w.ownsRow B' e sz v n xs := by
  refine ⟨h.1, ?_⟩
  rcases h.2 with hn | ⟨g, cap, cur, rfl, hb', rest⟩
  · exact .inl hn
  · exact .inr ⟨g, cap, cur, rfl, by omega, rest⟩
theorem OwS.out {B : Nat} {v : Value} {N : List (List UInt8)} {w w' : World} (h : OwS B v N w) (o : Out w w') : OwS B v N w' := owns_chg (S := fun _ => False) h (fun _ _ h => h) (Chg.of_out o)
theorem box_kept {B n sz k : Nat} {X w' : World} {e t : TypeId} {v : Value} {xs : List Value} {cs : Array Value} (hg : X.grownBy w' v.ownBlock) (ho : X.ownsRow B e sz v n xs) (hk : X.heap[k]? = some (.cells cs t (0, 0))) (he : ¬ e = t) : w'.heap[k]? = some (.cells cs t (0, 0)) :=
  (hg.block k (Array.getElem?_eq_some_iff.1 hk).1 (fun e' => own_type ho hk he e'.symm)).trans hk
theorem OwS.app {B : Nat} {v v' : Value} {N : List (List UInt8)} {x : List UInt8} {w w' : World} (h : w'.ownsRow B 9 1 v' (N.length + 1) (N.map strV ++ [strV x])) : OwS B v' (N ++ [x]) w' := by
  unfold OwS; simpa using h
set_option maxRecDepth 8000 in
set_option maxHeartbeats 2000000 in
theorem namesOf_any (m : Img) (w : World) (ta fa da : Option Addr) (tc fc dc : Nat) (h : ImA w ta fa da m) (hf : m.F.length ≤ 4096) (hd : m.D.length ≤ 1024) : Calls Tryz.prog 69 #[.agg #[.slice ta m.T.length tc, .slice fa m.F.length fc, .slice da m.D.length dc, .int .i64 m.en]] w fun e w' => ∃ a c, e = .returned (.slice a (allN m).length c) ∧ OwS w.heap.size (.slice a (allN m).length c) (allN m) w' ∧ Out w w' := by
  obtain ⟨i0, hi, hz0, hz1, hz2⟩ := info_parts infoStr
  obtain ⟨tn, htn⟩ : ∃ n, Hid (n = m.T.length) := ⟨_, rfl⟩
  obtain ⟨fn, hfn⟩ : ∃ n, Hid (n = m.F.length) := ⟨_, rfl⟩
  obtain ⟨dn, hdn⟩ : ∃ n, Hid (n = m.D.length) := ⟨_, rfl⟩
  rw [← htn.out, ← hfn.out, ← hdn.out]
  rw [← hfn.out] at hf
  rw [← hdn.out] at hd
  have HA := hidOf h
  have HAN : Hid ((allN m).length = fn + dn) := hidOf (by simp [allN, hfn.out, hdn.out])
  clear h
  obtain ⟨BX, hBX⟩ : ∃ O, Hid (O = #[Value.slice ta tn tc, Value.slice fa fn fc, Value.slice da dn dc, Value.int IntKind.i64 m.en]) := ⟨_, rfl⟩
  obtain ⟨wi, hwi⟩ : ∃ wi, Hid (wi = w.alloc (Obj.cells #[Value.slice ta tn tc, Value.slice fa fn fc, Value.slice da dn dc, Value.int IntKind.i64 m.en] 34)) := ⟨_, rfl⟩
  have Owi : Hid (Out w wi) := hidOf (by rw [hwi.out]; exact Out.alloc (Out.refl _) _)
  have xi : Hid (wi.heap[w.heap.size]? = some (.cells BX 34 (0, 0))) := hidOf (by rw [hwi.out, hBX.out]; exact heap_alloc_new w _)
  have hsi : wi.heap.size = w.heap.size + 1 := by rw [hwi.out, size_alloc]
  obtain ⟨cur, hmk, hown⟩ := run_make_s0 (fn + dn) (by omega) wi
  have HW := hidOf hown
  rw [Int.natCast_add, hsi] at hmk
  clear hown
  go_enter Tryz.func69, Tryz.ntmps69
  go_upto_region 1 with fail
  rw [← hwi.out]
  have x1 : wi.cell? ⟨w.heap.size, 1, none⟩ = some (.slice fa fn fc) := by rw [cell_atL xi.out, hBX.out]; rfl
  have x2 : wi.cell? ⟨w.heap.size, 2, none⟩ = some (.slice da dn dc) := by rw [cell_atL xi.out, hBX.out]; rfl
  go_upto_region 2 with fail
  obtain ⟨w2, hw2⟩ : ∃ w2, Hid (w2 = wi.alloc (.cells cur 9)) := ⟨_, rfl⟩
  rw [← hw2.out]
  have O2 : Hid (Out w w2) := hidOf (by rw [hw2.out]; exact Out.alloc Owi.out _)
  have X2 : Hid (w2.heap[w.heap.size]? = some (.cells BX 34 (0, 0))) := hidOf (by rw [hw2.out, Below.heap_alloc _ _ _ (by rw [hsi]; omega)]; exact xi.out)
  have y1 : w2.cell? ⟨w.heap.size, 1, none⟩ = some (.slice fa fn fc) := by rw [cell_atL X2.out, hBX.out]; rfl
  have HW2 : Hid (OwS w.heap.size (.slice (some ⟨w.heap.size + 1, 0, none⟩) 0 (fn + dn)) [] w2) := hidOf (by
    have := HW.out; rw [hsi, ← hw2.out] at this
    exact owns_base17 this (by omega))
  clear hmk HW x1 x2
  go_wp2
  go_loopw [3, 19] (fun v i wr => ∃ (k : Nat) (a : Option Addr) (c : Nat), k ≤ fn ∧ v = .slice a k c ∧ i = .int .i64 k ∧ Hid (OwS w.heap.size (.slice a k c) ((m.F.take k).map Fn.nm) wr) ∧ Hid (Out w wr) ∧ Hid (wr.heap[w.heap.size]? = some (.cells BX 34 (0, 0)))) (fun _ i _ => fn - (intOf i).toNat)
  case atStart => exact ⟨0, _, _, by omega, rfl, rfl, hidOf (by simpa using HW2.out), O2, X2⟩
  case round =>
    obtain ⟨k, a, c, hk, rfl, rfl, hos, hor, hbx⟩ := hrel
    have hsz : w.heap.size ≤ wr.heap.size := hor.out.size
    have hlo : w.heap.size < wr.heap.size := (Array.getElem?_eq_some_iff.1 hbx.out).1
    by_cases hkl : k < fn
    · have hlt : (k : Int) < fn := by omega
      obtain ⟨x, hx⟩ : ∃ x, m.F[k]? = some x := ⟨_, List.getElem?_eq_getElem (by rw [← hfn.out]; exact hkl)⟩
      obtain ⟨b, off, rfl, q0, q1, q2, q3⟩ := (HA.out.f.out hor.out).get hx
      have hts := hidOf (take_snoc hx)
      have hlk : Hid (((m.F.take k).map Fn.nm).length = k) := hidOf (by rw [List.length_map, List.length_take, ← hfn.out]; omega)
      obtain ⟨nm, ob, fi, ct⟩ := x
      simp only at q0 q1 q2 q3
      clear hx
      have HO2 : Hid (∀ A B, ((wr.alloc A).alloc B).ownsRow w.heap.size 9 1 (.slice a k c) k (((m.F.take k).map Fn.nm).map strV)) := hidOf (fun A B => by
        have := OwS.out hos.out (Out.alloc (Out.alloc (Out.refl wr) A) B)
        unfold OwS at this; rw [hlk.out] at this; exact this)
      have HB2 : Hid (∀ A B, ((wr.alloc A).alloc B).heap[w.heap.size]? = some (.cells BX 34 (0, 0))) := hidOf (fun A B => by
        rw [Below.heap_alloc _ _ _ (by rw [size_alloc]; omega), Below.heap_alloc _ _ _ hlo]; exact hbx.out)
      go_wp2_with (at_builtin; refine wpList_append_own _ rfl (.tmp 23) (.tmp 26) 50 rfl w.heap.size 9 i0 _ 1 16 Tryz.underlying50 hi hz0 hz1 hz2 rfl (by decide) (.slice a k c) k (((m.F.take k).map Fn.nm).map strV) rfl (HO2.out _ _) ⟨wr.heap.size + 1, 0, none⟩ 1 1 [.string ⟨nm.toArray⟩] rfl rfl (news_new _ _ _ _ (by rw [size_alloc])) (str_one nm) (by unfold maxLen; omega) (by omega) (by rw [size_alloc, size_alloc]; omega) ?_; intro v3 w3 hown3 hgrow3 _; have HO3 := hidOf hown3; have HG3 := hidOf (out_row (Out.alloc (Out.alloc hor.out _) _) (HO2.out _ _) hgrow3); have HB3 := hidOf (box_kept hgrow3 (HO2.out _ _) (HB2.out _ _) (by decide)); obtain ⟨a3, c3, rfl⟩ := own_form hown3; clear hown3 hgrow3)
      go_roundw
      case rel =>
        refine ⟨k + 1, a3, c3, by omega, rfl, by simp, hidOf ?_, HG3, HB3⟩
        have := HO3.out
        rw [hts.out]
        unfold OwS
        simp only [List.map_append, List.map_cons, List.map_nil, List.length_append, hlk.out, List.length_cons, List.length_nil]
        exact this
      case measure => simp [intOf]; omega
    · have hlt : ¬ (k : Int) < fn := by omega
      have hkf : k = fn := by omega
      have HF : Hid (OwS w.heap.size (.slice a fn c) (m.F.map Fn.nm) wr) := hidOf (by have := hos.out; rw [hkf, List.take_of_length_le (by rw [← hfn.out]; omega)] at this; exact this)
      have HKF := hidOf hkf
      have z2 : wr.cell? ⟨w.heap.size, 2, none⟩ = some (.slice da dn dc) := by rw [cell_atL hbx.out, hBX.out]; rfl
      clear hos hkf
      have HD0 := hidOf hbx.out
      have HOR := hidOf hor.out
      clear hor hbx hlo hsz
      obtain ⟨wb, hwb⟩ : ∃ wb, wb = wr := ⟨_, rfl⟩
      subst hwb
      go_wp2
      go_loopw [3, 32] (fun v i wr => ∃ (j : Nat) (a : Option Addr) (c : Nat), j ≤ dn ∧ v = .slice a (fn + j) c ∧ i = .int .i64 j ∧ Hid (OwS w.heap.size (.slice a (fn + j) c) (m.F.map Fn.nm ++ (m.D.take j).map Td.nm) wr) ∧ Hid (Out w wr)) (fun _ i _ => dn - (intOf i).toNat)
      case atStart => exact ⟨0, a, c, by omega, by rw [HKF.out]; rfl, rfl, hidOf (by simpa using HF.out), HOR⟩
      case round =>
        obtain ⟨j, a, c, hj, rfl, rfl, hos, hor⟩ := hrel
        have hsz : w.heap.size ≤ wr.heap.size := hor.out.size
        by_cases hjl : j < dn
        · have hlt : (j : Int) < dn := by omega
          obtain ⟨x, hx⟩ : ∃ x, m.D[j]? = some x := ⟨_, List.getElem?_eq_getElem (by rw [← hdn.out]; exact hjl)⟩
          obtain ⟨b, off, rfl, q0, q1, q2, q3, q4⟩ := (HA.out.d.out hor.out).get hx
          have hts := hidOf (take_snoc hx)
          have hlk : Hid ((m.F.map Fn.nm ++ (m.D.take j).map Td.nm).length = fn + j) := hidOf (by rw [List.length_append, List.length_map, List.length_map, List.length_take, ← hfn.out, ← hdn.out]; omega)
          obtain ⟨nm, kd, ky, vl, en⟩ := x
          simp only at q0 q1 q2 q3 q4
          clear hx
          have HO2 : Hid (∀ A B, ((wr.alloc A).alloc B).ownsRow w.heap.size 9 1 (.slice a (fn + j) c) (fn + j) ((m.F.map Fn.nm ++ (m.D.take j).map Td.nm).map strV)) := hidOf (fun A B => by
            have := OwS.out hos.out (Out.alloc (Out.alloc (Out.refl wr) A) B)
            unfold OwS at this; rw [hlk.out] at this; exact this)
          go_wp2_with (at_builtin; refine wpList_append_own _ rfl (.tmp 36) (.tmp 39) 50 rfl w.heap.size 9 i0 _ 1 16 Tryz.underlying50 hi hz0 hz1 hz2 rfl (by decide) (.slice a (fn + j) c) (fn + j) ((m.F.map Fn.nm ++ (m.D.take j).map Td.nm).map strV) rfl (HO2.out _ _) ⟨wr.heap.size + 1, 0, none⟩ 1 1 [.string ⟨nm.toArray⟩] rfl rfl (news_new _ _ _ _ (by rw [size_alloc])) (str_one nm) (by unfold maxLen; omega) (by omega) (by rw [size_alloc, size_alloc]; omega) ?_; intro v3 w3 hown3 hgrow3 _; have HO3 := hidOf hown3; have HG3 := hidOf (out_row (Out.alloc (Out.alloc hor.out _) _) (HO2.out _ _) hgrow3); obtain ⟨a3, c3, rfl⟩ := own_form hown3; clear hown3 hgrow3)
          go_roundw
          case rel =>
            refine ⟨j + 1, a3, c3, by omega, rfl, by simp, hidOf ?_, HG3⟩
            have := HO3.out
            rw [hts.out]
            unfold OwS
            simp only [List.map_append, List.map_cons, List.map_nil, ← List.append_assoc]
            rw [show (m.F.map Fn.nm ++ (m.D.take j).map Td.nm ++ [nm]).length = fn + j + 1 by rw [List.length_append, hlk.out]; rfl]
            rw [List.map_append] at this
            exact this
          case measure => simp [intOf]; omega
        · have hlt : ¬ (j : Int) < dn := by omega
          have hjd : Hid (j = dn) := hidOf (by omega)
          have HFin : Hid (OwS w.heap.size (.slice a (allN m).length c) (allN m) wr) := hidOf (by
            have := hos.out
            rw [hjd.out, List.take_of_length_le (by rw [← hdn.out]; omega)] at this
            rw [HAN.out]; exact this)
          go_wp2
          go_ret
          exact ⟨a, c, by rw [HAN.out, hjd.out]; rfl, HFin.out, hor.out⟩
def OwI (B : Nat) (v : Value) (zs : List Int) (w : World) : Prop := w.ownsRow B 3 1 v zs.length (zs.map (Value.int .i64))
theorem OwI.out {B : Nat} {v : Value} {zs : List Int} {w w' : World} (h : OwI B v zs w) (o : Out w w') : OwI B v zs w' := owns_chg (S := fun _ => False) h (fun _ _ h => h) (Chg.of_out o)
/-- the places of names -/
def pcs (K : List (List UInt8)) : List Int := K.map (fun y => (plF 1 (namesF K) y : Int))
theorem pcs_len (K : List (List UInt8)) : (pcs K).length = K.length := by simp [pcs]
theorem namesF_sub {K : List (List UInt8)} : ∀ x ∈ K, x ∈ namesF K := by
  refine snoc_ind (P := fun K => ∀ x ∈ K, x ∈ namesF K) (by simp) ?_ K
  intro l y ih x hx
  rw [namesF_snoc]
  rcases List.mem_append.1 hx with h | h
  · exact addN_sub (ih x h)
  · simp at h; rw [h]; exact addN_mem _ _
theorem pcs_snoc (K : List (List UInt8)) (x : List UInt8) : pcs (K ++ [x]) = pcs K ++ [(plF 1 (addN (namesF K) x) x : Int)] := by
  unfold pcs
  rw [namesF_snoc, List.map_append, List.map_cons, List.map_nil]
  congr 1
  refine List.map_congr_left fun y hy => ?_
  rw [addN_pl (namesF_sub y hy)]
/-- the table of names at p, beside a row of places -/
structure SN (w0 wr : World) (p : Nat) (K : List (List UInt8)) (v : Value) (F : Nat → Prop) : Prop where
  tab : Tab p wr (namesF K) F
  lt : ∀ k, F k → k < wr.heap.size
  ge : ∀ k, F k → w0.heap.size ≤ k
  row : OwI w0.heap.size v (pcs K) wr
  ap : ∀ k, v.ownBlock = some k → ¬ F k
  out : Out w0 wr
theorem SN.on {w0 wr w' : World} {p : Nat} {K : List (List UInt8)} {v : Value} {F : Nat → Prop} (h : SN w0 wr p K v F) (o : Out wr w') : SN w0 w' p K v F :=
  ⟨h.tab.out o, fun k hk => Nat.lt_of_lt_of_le (h.lt k hk) o.size, h.ge, h.row.out o, h.ap, h.out.trans o⟩
/-- behind Add -/
theorem SN.add {w0 wr w' : World} {p : Nat} {K : List (List UInt8)} {v : Value} {F : Nat → Prop} {x : List UInt8} (h : SN w0 wr p K v F) (ht : Tab p w' (addN (namesF K) x) (FN F wr w')) (hc : Chg F wr w') :
    Tab p w' (namesF (K ++ [x])) (FN F wr w') ∧ (∀ k, FN F wr w' k → k < w'.heap.size) ∧ (∀ k, FN F wr w' k → w0.heap.size ≤ k) ∧ OwI w0.heap.size v (pcs K) w' ∧ (∀ k, v.ownBlock = some k → ¬ FN F wr w' k) ∧ Out w0 w' := by
  refine ⟨by rw [namesF_snoc]; exact ht, FN_lt h.lt hc.size, ?_, owns_chg h.row h.ap hc, ?_, Chg.out hc h.out h.ge⟩
  · rintro k (hk | hk)
    · exact h.ge k hk
    · have := h.out.size; omega
  · rintro k hv (hk | hk)
    · exact h.ap k hv hk
    · have := (h.row.lt k hv).2; omega
end Go.Proofs.YthdgmhohofakgaaGreatDoor
