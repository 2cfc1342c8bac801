import Derived.Test.YtcalbhcgimipeaaElb
namespace Go.Proofs.Ytcalbhcgimipeaa
open Go.RowKit
set_option linter.unusedVariables false
set_option linter.unusedSimpArgs false
/-- bytes at a place -/
def BAt (w : World) (g off : Nat) (l : List UInt8) : Prop := ∀ k x, l[k]? = some x → w.cell? ⟨g, off + k, none⟩ = some (.int .u8 (x.toNat : Int))
theorem BAt.out {w w' : World} {g off : Nat} {l : List UInt8} (h : BAt w g off l) (hg : g < w.heap.size) (o : Out w w') : BAt w' g off l := fun k x hx => (o.cells g _ hg).trans (h k x hx)
theorem BAt.cut {w : World} {g off : Nat} {l : List UInt8} (h : BAt w g off l) (i n : Nat) : BAt w g (off + i) ((l.drop i).take n) := fun k x hx => by
  have hk : (l.drop i)[k]? = some x := by
    rw [List.getElem?_take] at hx
    split at hx
    · exact hx
    · cases hx
  rw [List.getElem?_drop] at hk
  have := h (i + k) x hk
  rwa [← Nat.add_assoc] at this
theorem BAt.rest {w : World} {g off : Nat} {l : List UInt8} (h : BAt w g off l) (hg : g < w.heap.size) : RestAt w.heap.size w (some ⟨g, off, none⟩) l := .inr ⟨g, off, hg, rfl, h⟩
/-- the first field that is not what it may be -/
def fltF (l : List UInt8) : Nat → List Fd → Option Nat
  | _, [] => none
  | p, f :: r => if nmB ((l.drop p).take f.w) < f.lo ∨ f.hi < nmB ((l.drop p).take f.w) then some p else fltF l (p + f.w) r
theorem fltF_step (l : List UInt8) (L : List Fd) (i p : Nat) (f : Fd) (h : L[i]? = some f) : fltF l p (L.drop i) = if nmB ((l.drop p).take f.w) < f.lo ∨ f.hi < nmB ((l.drop p).take f.w) then some p else fltF l (p + f.w) (L.drop (i + 1)) := by
  obtain ⟨hi, hx⟩ := List.getElem?_eq_some_iff.1 h
  rw [List.drop_eq_getElem_cons hi, hx, fltF]
set_option maxRecDepth 4000 in
set_option maxHeartbeats 2000000 in
theorem fault_any (w : World) (g off c : Nat) (l : List UInt8) (fa : Option Addr) (fc : Nat) (L : List Fd) (hg : g < w.heap.size) (hb : BAt w g off l) (hc : l.length ≤ c) (hl : l.length ≤ 1000000000000) (hF : OwF 0 (.slice fa L.length fc) L w) (hw : ∀ f ∈ L, 1 ≤ f.w ∧ f.w ≤ 8) (hL : widF L ≤ l.length) (hn : L.length ≤ 1000000) :
    Calls Try.prog 72 #[.slice (some ⟨g, off, none⟩) l.length c, .slice fa L.length fc] w fun e w' => e = .returned (.tuple #[.int .i64 ((fltF l 0 L).getD 0 : Nat), .bool (fltF l 0 L).isSome]) ∧ Out w w' := by
  have HF := hidOf hF
  have HB := hidOf hb
  have Hw := hidOf hw
  have Hg := hidOf hg
  have hnI : (L.length : Int) ≤ 1000000 := by omega
  clear hF hb hw hg
  go_enter Try.func72, Try.ntmps72
  go_wp2
  go_loopw [12, 6] (fun iv pv wr => ∃ (i p : Nat), iv = .int .i64 i ∧ pv = .int .i64 p ∧ i ≤ L.length ∧ Hid (p = widF (L.take i)) ∧ Hid (fltF l 0 L = fltF l p (L.drop i)) ∧ Hid (Out w wr)) (fun iv _ _ => L.length - (intOf iv).toNat)
  case atStart => exact ⟨0, 0, rfl, rfl, by omega, rfl, rfl, Out.refl _⟩
  case round =>
    obtain ⟨i, p, rfl, rfl, hi', HP, HFl, Ho⟩ := hrel
    by_cases hiL : i < L.length
    · have hlt : (i : Int) < L.length := by omega
      have h0 : (0 : Int) ≤ 0 := by omega
      obtain ⟨f, hf⟩ : ∃ f, L[i]? = some f := ⟨_, List.getElem?_eq_getElem hiL⟩
      obtain ⟨fg, fc', hv, hfc, d0, d1, d2⟩ := (show OwF 0 _ L wr from owns_chg (S := fun _ => False) HF.out (fun _ _ h => h) (Chg.of_out Ho.out)).cells hf
      simp only [Value.slice.injEq] at hv
      obtain ⟨rfl, _, rfl⟩ := hv
      obtain ⟨hw1, hw8⟩ := Hw.out f (List.mem_of_getElem? hf)
      have hst := take_snoc hf
      have hwid : p + f.w ≤ widF L := by
        have e : widF L = widF (L.take (i + 1)) + widF (L.drop (i + 1)) := by
          conv => lhs; rw [← List.take_append_drop (i + 1) L]
          simp only [widF, List.map_append, List.sum_append]
        rw [e, hst, HP.out]
        simp [widF]
      have HP2 := hidOf (show p + f.w = widF (L.take (i + 1)) by rw [hst, HP.out]; simp [widF])
      have hpl : p + f.w ≤ l.length := by omega
      have hl1 : ((l.drop p).take f.w).length = f.w := by rw [List.length_take, List.length_drop]; omega
      have HC : Hid (∀ wx c', Out w wx → Calls Try.prog 94 #[.slice (some ⟨g, off + p, none⟩) f.w c'] wx fun e w' => e = .returned (.int .u64 (nmB ((l.drop p).take f.w) : Nat)) ∧ w' = wx) := by
        intro wx c' ho
        have hgx : g < wx.heap.size := Nat.lt_of_lt_of_le Hg.out ho.size
        have := number_any wx.heap.size (some ⟨g, off + p, none⟩) c' ((l.drop p).take f.w) wx (((HB.out.out Hg.out ho).cut p f.w).rest hgx) (by omega)
        rwa [hl1] at this
      have HFs := hidOf (fltF_step l L i p f hf)
      have Ho1 := hidOf (Ho.out.alloc (boxF f))
      obtain ⟨q, hq⟩ : ∃ q, q = wr.heap.size := ⟨_, rfl⟩
      have Hbx : Hid (BoxF (wr.alloc (boxF f)) q f) := by rw [hq]; exact heap_alloc_new wr _
      have hcp : ¬ c = p := by omega
      have hpI : (p : Int) + f.w ≤ l.length := by omega
      have hp0 : (0 : Int) ≤ p := by omega
      have hw0 : (0 : Int) ≤ f.w := by omega
      have hcI : (l.length : Int) ≤ c := by omega
      have hlI : (l.length : Int) ≤ 1000000000000 := by omega
      clear hst hf hwid hl1
      generalize nmB ((l.drop p).take f.w) = n at *
      go_upto_region 5 with fail
      rw [← hq]
      have e1 : wr.alloc (.cells #[.int .i64 (f.w : Int), .int .u64 (f.lo : Int), .int .u64 (f.hi : Int)] 119) = wr.alloc (boxF f) := rfl
      rw [e1]
      clear e1 hq
      generalize wr.alloc (boxF f) = wb at *
      have c0 : wb.cell? ⟨q, 0, none⟩ = some (.int .i64 (f.w : Int)) := Hbx.out.cell 0
      have c1 : wb.cell? ⟨q, 1, none⟩ = some (.int .u64 (f.lo : Int)) := Hbx.out.cell 1
      have c2 : wb.cell? ⟨q, 2, none⟩ = some (.int .u64 (f.hi : Int)) := Hbx.out.cell 2
      clear d0 d1 d2
      by_cases hlo : n < f.lo
      · have hloI : (n : Int) < f.lo := by omega
        go_wp2_with (go_at_call 94; refine (HC.out _ _ Ho1.out).mono ?_; rintro e w1 ⟨rfl, rfl⟩)
        go_ret2
        rw [HFl.out, HFs.out, if_pos (.inl hlo)]
        exact ⟨rfl, Ho1.out⟩
      · have hloI : ¬ (n : Int) < f.lo := by omega
        by_cases hhi : f.hi < n
        · have hhiI : (f.hi : Int) < n := by omega
          go_wp2_with (go_at_call 94; refine (HC.out _ _ Ho1.out).mono ?_; rintro e w1 ⟨rfl, rfl⟩)
          go_ret2
          rw [HFl.out, HFs.out, if_pos (.inr hhi)]
          exact ⟨rfl, Ho1.out⟩
        · have hhiI : ¬ (f.hi : Int) < n := by omega
          go_wp2_with (go_at_call 94; refine (HC.out _ _ Ho1.out).mono ?_; rintro e w1 ⟨rfl, rfl⟩)
          have h2 := HFs.out
          rw [if_neg (by omega)] at h2
          exact ⟨⟨i + 1, p + f.w, by simp, by simp, by omega, HP2.out, HFl.out.trans h2, Ho1.out⟩, by simp [intOf]; omega⟩
    · have hlt : ¬ (i : Int) < L.length := by omega
      obtain rfl : i = L.length := by omega
      go_wp2
      go_ret2
      have hn := HFl.out
      rw [List.drop_length] at hn
      rw [hn]
      exact ⟨rfl, Ho.out⟩
def OwI (B : Nat) (v : Value) (zs : List Int) (w : World) : Prop := w.ownsRow B 3 1 v zs.length (zs.map (Value.int .i64))
/-- what stands in the fields -/
def nmsF (l : List UInt8) : Nat → List Fd → List Int
  | _, [] => []
  | p, f :: r => wrap64 (nmB ((l.drop p).take f.w) : Nat) :: nmsF l (p + f.w) r
theorem nmsF_step (l : List UInt8) (L : List Fd) (i p : Nat) (f : Fd) (h : L[i]? = some f) : nmsF l p (L.drop i) = wrap64 (nmB ((l.drop p).take f.w) : Nat) :: nmsF l (p + f.w) (L.drop (i + 1)) := by
  obtain ⟨hi, hx⟩ := List.getElem?_eq_some_iff.1 h
  rw [List.drop_eq_getElem_cons hi, hx, nmsF]
theorem nmsF_len (l : List UInt8) : ∀ (L : List Fd) (p : Nat), (nmsF l p L).length = L.length
  | [], _ => rfl
  | f :: r, p => by simp only [nmsF, List.length_cons, nmsF_len l r]
theorem run_make_i0 (n : Nat) (hn : n ≤ 1000000000000) (w : World) : ∃ cur : Array Value, (Instr.makeSlice 29 (.int .i64 0) (.int .i64 (n : Int))).run Try.prog w = .ok (.slice (some ⟨w.heap.size, 0, none⟩) 0 n) (w.alloc (.cells cur 3)) ∧ OwI w.heap.size (.slice (some ⟨w.heap.size, 0, none⟩) 0 n) [] (w.alloc (.cells cur 3)) := by
  obtain ⟨i0, hi, hz0, hz1, hz2⟩ := info_parts infoInt
  have h := run_make (P := Try.prog) w 29 3 i0 _ Try.underlying29 hi hz0 .i64 .i64 0 (n : Int) (by omega) (by omega) (by rw [hz2]; omega) (by omega)
  rw [hz1, Nat.mul_one] at h
  refine ⟨_, h, rfl, .inr ⟨w.heap.size, n, _, rfl, Nat.le_refl _, heap_alloc_new w _, by simp, by unfold maxLen; omega, by simp [madeCells], ?_⟩⟩
  simp
set_option maxRecDepth 4000 in
set_option maxHeartbeats 2000000 in
theorem numbers_any (w : World) (g off c : Nat) (l : List UInt8) (fa : Option Addr) (fc : Nat) (L : List Fd) (hg : g < w.heap.size) (hb : BAt w g off l) (hc : l.length ≤ c) (hl : l.length ≤ 1000000000000) (hF : OwF 0 (.slice fa L.length fc) L w) (hw : ∀ f ∈ L, 1 ≤ f.w ∧ f.w ≤ 8) (hL : widF L ≤ l.length) (hn : L.length ≤ 1000000) :
    Calls Try.prog 96 #[.slice (some ⟨g, off, none⟩) l.length c, .slice fa L.length fc] w fun e w' => ∃ a c', e = .returned (.slice a L.length c') ∧ OwI w.heap.size (.slice a L.length c') (nmsF l 0 L) w' ∧ Out w w' := by
  have HF := hidOf hF
  have HB := hidOf hb
  have Hw := hidOf hw
  have Hg := hidOf hg
  have hnI : (L.length : Int) ≤ 1000000 := by omega
  have HM := hidOf (run_make_i0 L.length (by omega) w)
  obtain ⟨cur, hmk, hown⟩ := HM.out
  have HOw := hidOf hown
  clear hF hb hw hg HM hown
  have Hsz := hidOf (rfl : w.heap.size = w.heap.size)
  have Ho0 := hidOf ((Out.refl w).alloc (.cells cur 3))
  obtain ⟨i0, hi, hz0, hz1, hz2⟩ := info_parts infoInt
  go_enter Try.func96, Try.ntmps96
  go_wp2
  clear hmk
  generalize w.alloc (.cells cur 3) = w0 at *
  go_loopw [14, 5, 6] (fun iv nv pv wr => ∃ (i p : Nat) (Z : List Int) (a : Option Addr) (cc : Nat), iv = .int .i64 i ∧ nv = .slice a Z.length cc ∧ pv = .int .i64 p ∧ i ≤ L.length ∧ Z.length = i ∧ Hid (p = widF (L.take i)) ∧ Hid (nmsF l 0 L = Z ++ nmsF l p (L.drop i)) ∧ Hid (OwI w.heap.size (.slice a Z.length cc) Z wr) ∧ Hid (Out w wr)) (fun iv _ _ _ => L.length - (intOf iv).toNat)
  case atStart => exact ⟨0, 0, [], _, _, rfl, rfl, rfl, by omega, rfl, rfl, rfl, HOw.out, Ho0.out⟩
  case round =>
    obtain ⟨i, p, Z, a, cc, rfl, rfl, rfl, hi', hZ, HP, HFl, HOZ, Ho⟩ := hrel
    obtain rfl := hZ
    by_cases hiL : Z.length < L.length
    · have hlt : (Z.length : Int) < L.length := by omega
      have h0 : (0 : Int) ≤ 0 := by omega
      obtain ⟨f, hf⟩ : ∃ f, L[Z.length]? = some f := ⟨_, List.getElem?_eq_getElem hiL⟩
      obtain ⟨fg, fc', hv, hfc, d0, d1, d2⟩ := (show OwF 0 _ L wr from owns_chg (S := fun _ => False) HF.out (fun _ _ h => h) (Chg.of_out Ho.out)).cells hf
      simp only [Value.slice.injEq] at hv
      obtain ⟨rfl, _, rfl⟩ := hv
      obtain ⟨hw1, hw8⟩ := Hw.out f (List.mem_of_getElem? hf)
      have hst := take_snoc hf
      have hwid : p + f.w ≤ widF L := by
        have e : widF L = widF (L.take (Z.length + 1)) + widF (L.drop (Z.length + 1)) := by
          conv => lhs; rw [← List.take_append_drop (Z.length + 1) L]
          simp only [widF, List.map_append, List.sum_append]
        rw [e, hst, HP.out]
        simp [widF]
      have HP2 := hidOf (show p + f.w = widF (L.take (Z.length + 1)) by rw [hst, HP.out]; simp [widF])
      have hpl : p + f.w ≤ l.length := by omega
      have hl1 : ((l.drop p).take f.w).length = f.w := by rw [List.length_take, List.length_drop]; omega
      have HC : Hid (∀ wx c', Out w wx → Calls Try.prog 94 #[.slice (some ⟨g, off + p, none⟩) f.w c'] wx fun e w' => e = .returned (.int .u64 (nmB ((l.drop p).take f.w) : Nat)) ∧ w' = wx) := by
        intro wx c' ho
        have hgx : g < wx.heap.size := Nat.lt_of_lt_of_le Hg.out ho.size
        have := number_any wx.heap.size (some ⟨g, off + p, none⟩) c' ((l.drop p).take f.w) wx (((HB.out.out Hg.out ho).cut p f.w).rest hgx) (by omega)
        rwa [hl1] at this
      have HFs := hidOf (nmsF_step l L Z.length p f hf)
      have Ho1 := hidOf (Ho.out.alloc (boxF f))
      have HOZ1 : Hid (OwI w.heap.size (.slice a Z.length cc) Z (wr.alloc (boxF f))) := owns_chg (S := fun _ => False) HOZ.out (fun _ _ h => h) ((Chg.refl _ wr).alloc _)
      obtain ⟨q, hq⟩ : ∃ q, q = wr.heap.size := ⟨_, rfl⟩
      have Hbx : Hid (BoxF (wr.alloc (boxF f)) q f) := by rw [hq]; exact heap_alloc_new wr _
      have hcp : ¬ c = p := by omega
      have hpI : (p : Int) + f.w ≤ l.length := by omega
      have hp0 : (0 : Int) ≤ p := by omega
      have hw0 : (0 : Int) ≤ f.w := by omega
      have hcI : (l.length : Int) ≤ c := by omega
      have hlI : (l.length : Int) ≤ 1000000000000 := by omega
      clear hst hf hwid hl1
      generalize nmB ((l.drop p).take f.w) = n at *
      go_upto_region 6 with fail
      rw [← hq]
      have e1 : wr.alloc (.cells #[.int .i64 (f.w : Int), .int .u64 (f.lo : Int), .int .u64 (f.hi : Int)] 119) = wr.alloc (boxF f) := rfl
      rw [e1]
      clear e1 hq
      generalize wr.alloc (boxF f) = wb at *
      have c0 : wb.cell? ⟨q, 0, none⟩ = some (.int .i64 (f.w : Int)) := Hbx.out.cell 0
      clear d0 d1 d2
      go_upto_region 7 with (first | (go_at_call 94; refine (HC.out _ _ Ho1.out).mono ?_; rintro e w1 ⟨rfl, hw⟩; have hw := hw.symm; subst hw) | (at_builtin; refine wpList_append_own _ rfl (.tmp 18) (.tmp 28) 29 rfl w.heap.size 3 i0 _ 1 8 Try.underlying29 hi hz0 hz1 hz2 rfl (by decide) (.slice a Z.length cc) Z.length (Z.map (Value.int .i64)) rfl (HOZ1.out.alloc _) ⟨wb.heap.size, 0, none⟩ 1 1 [.int .i64 (wrap64 (n : Int))] rfl rfl (news_new wb _ _ _ rfl) (fun u hu => by rw [List.mem_singleton.1 hu]; rfl) (by unfold maxLen; omega) (by omega) (by rw [size_alloc]; have := Ho1.out.size; omega) ?_; intro v4 w4 hown4 hgrow4 _; have HO4 := hidOf hown4; have Hg4 := hidOf hgrow4; clear hgrow4; obtain ⟨a4, c4, rfl⟩ := own_form hown4; clear hown4))
      have HS4 : Hid (Out w w4) := out_row (Ho1.out.alloc (.cells #[.int .i64 (wrap64 (n : Int))] 3)) (HOZ1.out.alloc _) Hg4.out
      have c4' : w4.cell? ⟨q, 0, none⟩ = some (.int .i64 (f.w : Int)) := by
        have hX := Hbx.out.chg ((Chg.refl (fun _ => False) wb).alloc (.cells #[.int .i64 (wrap64 (n : Int))] 3)) (fun h => h)
        have hY : BoxF w4 q f := hX.chg (S := fun k => (Value.slice a Z.length cc).ownBlock = some k) (Chg.of_grown Hg4.out (fun k hk => hk)) (own_type HOZ1.out Hbx.out (by decide))
        exact hY.cell 0
      have hlen : (Z ++ [wrap64 (n : Int)]).length = Z.length + 1 := by simp
      have Hlen := hidOf hlen
      clear hlen c0
      go_wp2
      refine ⟨⟨Z.length + 1, p + f.w, Z ++ [wrap64 (n : Int)], a4, c4, by simp, by rw [Hlen.out], by simp, by omega, Hlen.out, HP2.out, ?_, ?_, HS4.out⟩, by simp [intOf]; omega⟩
      · show _ = _
        rw [HFl.out, HFs.out]; simp
      · show World.ownsRow _ _ _ _ _ _ _
        rw [Hlen.out]
        simpa using HO4.out
    · have hlt : ¬ (Z.length : Int) < L.length := by omega
      have hZL : Z.length = L.length := by omega
      have HZL := hidOf hZL
      clear hZL
      go_wp2
      go_ret
      have hn := HFl.out
      rw [HZL.out, List.drop_length, nmsF, List.append_nil] at hn
      rw [← HZL.out, hn]
      exact ⟨a, cc, rfl, HOZ.out, Ho.out⟩
end Go.Proofs.Ytcalbhcgimipeaa
