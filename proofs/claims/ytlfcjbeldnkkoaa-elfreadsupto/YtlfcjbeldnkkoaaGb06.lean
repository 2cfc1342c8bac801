import Derived.Test.YtlfcjbeldnkkoaaGb05
namespace Go.Proofs.Ytlfcjbeldnkkoaa
open Go.RowKit
set_option linter.unusedVariables false
set_option linter.unusedSimpArgs false
/-- bytes at a place -/
def BAt (w : World) (g off : Nat) (l : List UInt8) : Prop := ∀ k x, l[k]? = some x → w.cell? ⟨g, off + k, none⟩ = some (.int .u8 (x.toNat : Int))
theorem BAt.out {w w' : World} {g off : Nat} {l : List UInt8} (h : BAt w g off l) (hg : g < w.heap.size) (o : Out w w') : BAt w' g off l := fun k x hx => (o.cells g _ hg).trans (h k x hx)
theorem BAt.cut {w : World} {g off : Nat} {l : List UInt8} (h : BAt w g off l) (i n : Nat) : BAt w g (off + i) ((l.drop i).take n) := fun k x hx => by
  have hk : (l.drop i)[k]? = some x := by
    rw [List.getElem?_take] at hx
    split at hx
    · exact hx
    · cases hx
  rw [List.getElem?_drop] at hk
  have := h (i + k) x hk
  rwa [← Nat.add_assoc] at this
theorem BAt.rest {w : World} {g off : Nat} {l : List UInt8} (h : BAt w g off l) (hg : g < w.heap.size) : RestAt w.heap.size w (some ⟨g, off, none⟩) l := .inr ⟨g, off, hg, rfl, h⟩
/-- the first field that is not what it may be -/
def fltF (l : List UInt8) : Nat → List Fd → Option Nat
  | _, [] => none
  | p, f :: r => if nmB ((l.drop p).take f.w) < f.lo ∨ f.hi < nmB ((l.drop p).take f.w) then some p else fltF l (p + f.w) r
theorem fltF_step (l : List UInt8) (L : List Fd) (i p : Nat) (f : Fd) (h : L[i]? = some f) : fltF l p (L.drop i) = if nmB ((l.drop p).take f.w) < f.lo ∨ f.hi < nmB ((l.drop p).take f.w) then some p else fltF l (p + f.w) (L.drop (i + 1)) := by
  obtain ⟨hi, hx⟩ := List.getElem?_eq_some_iff.1 h
  rw [List.drop_eq_getElem_cons hi, hx, fltF]
set_option maxRecDepth 4000 in
set_option maxHeartbeats 2000000 in
theorem fault_any (w : World) (g off c : Nat) (l : List UInt8) (fa : Option Addr) (fc : Nat) (L : List Fd) (hg : g < w.heap.size) (hb : BAt w g off l) (hc : l.length ≤ c) (hl : l.length ≤ 1000000000000) (hF : OwF 0 (.slice fa L.length fc) L w) (hw : ∀ f ∈ L, 1 ≤ f.w ∧ f.w ≤ 8) (hL : widF L ≤ l.length) (hn : L.length ≤ 1000000) :
    Calls Try.prog 48 #[.slice (some ⟨g, off, none⟩) l.length c, .slice fa L.length fc] w fun e w' => e = .returned (.tuple #[.int .i64 ((fltF l 0 L).getD 0 : Nat), .bool (fltF l 0 L).isSome]) ∧ Out w w' := by
  have HF := hidOf hF
  have HB := hidOf hb
  have Hw := hidOf hw
  have Hg := hidOf hg
  have hnI : (L.length : Int) ≤ 1000000 := by omega
  clear hF hb hw hg
  go_enter Try.func48, Try.ntmps48
  go_wp2
  go_loopw [12, 6] (fun iv pv wr => ∃ (i p : Nat), iv = .int .i64 i ∧ pv = .int .i64 p ∧ i ≤ L.length ∧ Hid (p = widF (L.take i)) ∧ Hid (fltF l 0 L = fltF l p (L.drop i)) ∧ Hid (Out w wr)) (fun iv _ _ => L.length - (intOf iv).toNat)
  case atStart => exact ⟨0, 0, rfl, rfl, by omega, rfl, rfl, Out.refl _⟩
  case round =>
    obtain ⟨i, p, rfl, rfl, hi', HP, HFl, Ho⟩ := hrel
    by_cases hiL : i < L.length
    · have hlt : (i : Int) < L.length := by omega
      have h0 : (0 : Int) ≤ 0 := by omega
      obtain ⟨f, hf⟩ : ∃ f, L[i]? = some f := ⟨_, List.getElem?_eq_getElem hiL⟩
      obtain ⟨fg, fc', hv, hfc, d0, d1, d2⟩ := (show OwF 0 _ L wr from owns_chg (S := fun _ => False) HF.out (fun _ _ h => h) (Chg.of_out Ho.out)).cells hf
      simp only [Value.slice.injEq] at hv
      obtain ⟨rfl, _, rfl⟩ := hv
      obtain ⟨hw1, hw8⟩ := Hw.out f (List.mem_of_getElem? hf)
      have hst := take_snoc hf
      have hwid : p + f.w ≤ widF L := by
        have e : widF L = widF (L.take (i + 1)) + widF (L.drop (i + 1)) := by
          conv => lhs; rw [← List.take_append_drop (i + 1) L]
          simp only [widF, List.map_append, List.sum_append]
        rw [e, hst, HP.out]
        simp [widF]
      have HP2 := hidOf (show p + f.w = widF (L.take (i + 1)) by rw [hst, HP.out]; simp [widF])
      have hpl : p + f.w ≤ l.length := by omega
      have hl1 : ((l.drop p).take f.w).length = f.w := by rw [List.length_take, List.length_drop]; omega
      have HC : Hid (∀ wx c', Out w wx → Calls Try.prog 70 #[.slice (some ⟨g, off + p, none⟩) f.w c'] wx fun e w' => e = .returned (.int .u64 (nmB ((l.drop p).take f.w) : Nat)) ∧ w' = wx) := by
        intro wx c' ho
        have hgx : g < wx.heap.size := Nat.lt_of_lt_of_le Hg.out ho.size
        have := number_any wx.heap.size (some ⟨g, off + p, none⟩) c' ((l.drop p).take f.w) wx (((HB.out.out Hg.out ho).cut p f.w).rest hgx) (by omega)
        rwa [hl1] at this
      have HFs := hidOf (fltF_step l L i p f hf)
      have Ho1 := hidOf (Ho.out.alloc (boxF f))
      obtain ⟨q, hq⟩ : ∃ q, q = wr.heap.size := ⟨_, rfl⟩
      have Hbx : Hid (BoxF (wr.alloc (boxF f)) q f) := by rw [hq]; exact heap_alloc_new wr _
      have hcp : ¬ c = p := by omega
      have hpI : (p : Int) + f.w ≤ l.length := by omega
      have hp0 : (0 : Int) ≤ p := by omega
      have hw0 : (0 : Int) ≤ f.w := by omega
      have hcI : (l.length : Int) ≤ c := by omega
      have hlI : (l.length : Int) ≤ 1000000000000 := by omega
      clear hst hf hwid hl1
      generalize nmB ((l.drop p).take f.w) = n at *
      go_upto_region 5 with fail
      rw [← hq]
      have e1 : wr.alloc (.cells #[.int .i64 (f.w : Int), .int .u64 (f.lo : Int), .int .u64 (f.hi : Int)] 113) = wr.alloc (boxF f) := rfl
      rw [e1]
      clear e1 hq
      generalize wr.alloc (boxF f) = wb at *
      have c0 : wb.cell? ⟨q, 0, none⟩ = some (.int .i64 (f.w : Int)) := Hbx.out.cell 0
      have c1 : wb.cell? ⟨q, 1, none⟩ = some (.int .u64 (f.lo : Int)) := Hbx.out.cell 1
      have c2 : wb.cell? ⟨q, 2, none⟩ = some (.int .u64 (f.hi : Int)) := Hbx.out.cell 2
      clear d0 d1 d2
      by_cases hlo : n < f.lo
      · have hloI : (n : Int) < f.lo := by omega
        go_wp2_with (go_at_call 70; refine (HC.out _ _ Ho1.out).mono ?_; rintro e w1 ⟨rfl, rfl⟩)
        go_ret2
        rw [HFl.out, HFs.out, if_pos (.inl hlo)]
        exact ⟨rfl, Ho1.out⟩
      · have hloI : ¬ (n : Int) < f.lo := by omega
        by_cases hhi : f.hi < n
        · have hhiI : (f.hi : Int) < n := by omega
          go_wp2_with (go_at_call 70; refine (HC.out _ _ Ho1.out).mono ?_; rintro e w1 ⟨rfl, rfl⟩)
          go_ret2
          rw [HFl.out, HFs.out, if_pos (.inr hhi)]
          exact ⟨rfl, Ho1.out⟩
        · have hhiI : ¬ (f.hi : Int) < n := by omega
          go_wp2_with (go_at_call 70; refine (HC.out _ _ Ho1.out).mono ?_; rintro e w1 ⟨rfl, rfl⟩)
          have h2 := HFs.out
          rw [if_neg (by omega)] at h2
          exact ⟨⟨i + 1, p + f.w, by simp, by simp, by omega, HP2.out, HFl.out.trans h2, Ho1.out⟩, by simp [intOf]; omega⟩
    · have hlt : ¬ (i : Int) < L.length := by omega
      obtain rfl : i = L.length := by omega
      go_wp2
      go_ret2
      have hn := HFl.out
      rw [List.drop_length] at hn
      rw [hn]
      exact ⟨rfl, Ho.out⟩
def OwI (B : Nat) (v : Value) (zs : List Int) (w : World) : Prop := w.ownsRow B 3 1 v zs.length (zs.map (Value.int .i64))
/-- what stands in the fields -/
def nmsF (l : List UInt8) : Nat → List Fd → List Int
  | _, [] => []
  | p, f :: r => wrap64 (nmB ((l.drop p).take f.w) : Nat) :: nmsF l (p + f.w) r
theorem nmsF_step (l : List UInt8) (L : List Fd) (i p : Nat) (f : Fd) (h : L[i]? = some f) : nmsF l p (L.drop i) = wrap64 (nmB ((l.drop p).take f.w) : Nat) :: nmsF l (p + f.w) (L.drop (i + 1)) := by
  obtain ⟨hi, hx⟩ := List.getElem?_eq_some_iff.1 h
  rw [List.drop_eq_getElem_cons hi, hx, nmsF]
theorem nmsF_len (l : List UInt8) : ∀ (L : List Fd) (p : Nat), (nmsF l p L).length = L.length
  | [], _ => rfl
  | f :: r, p => by simp only [nmsF, List.length_cons, nmsF_len l r]
theorem run_make_i0 (n : Nat) (hn : n ≤ 1000000000000) (w : World) : ∃ cur : Array Value, (Instr.makeSlice 30 (.int .i64 0) (.int .i64 (n : Int))).run Try.prog w = .ok (.slice (some ⟨w.heap.size, 0, none⟩) 0 n) (w.alloc (.cells cur 3)) ∧ OwI w.heap.size (.slice (some ⟨w.heap.size, 0, none⟩) 0 n) [] (w.alloc (.cells cur 3)) := by
  obtain ⟨i0, hi, hz0, hz1, hz2⟩ := info_parts infoInt
  have h := run_make (P := Try.prog) w 30 3 i0 _ Try.underlying30 hi hz0 .i64 .i64 0 (n : Int) (by omega) (by omega) (by rw [hz2]; omega) (by omega)
  rw [hz1, Nat.mul_one] at h
  refine ⟨_, h, rfl, .inr ⟨w.heap.size, n, _, rfl, Nat.le_refl _, heap_alloc_new w _, by simp, by unfold maxLen; omega, by simp [madeCells], ?_⟩⟩
  simp
set_option maxRecDepth 4000 in
set_option maxHeartbeats 2000000 in
theorem numbers_any (w : World) (g off c : Nat) (l : List UInt8) (fa : Option Addr) (fc : Nat) (L : List Fd) (hg : g < w.heap.size) (hb : BAt w g off l) (hc : l.length ≤ c) (hl : l.length ≤ 1000000000000) (hF : OwF 0 (.slice fa L.length fc) L w) (hw : ∀ f ∈ L, 1 ≤ f.w ∧ f.w ≤ 8) (hL : widF L ≤ l.length) (hn : L.length ≤ 1000000) :
    Calls Try.prog 72 #[.slice (some ⟨g, off, none⟩) l.length c, .slice fa L.length fc] w fun e w' => ∃ a c', e = .returned (.slice a L.length c') ∧ OwI w.heap.size (.slice a L.length c') (nmsF l 0 L) w' ∧ Out w w' := by
  have HF := hidOf hF
  have HB := hidOf hb
  have Hw := hidOf hw
  have Hg := hidOf hg
  have hnI : (L.length : Int) ≤ 1000000 := by omega
  have HM := hidOf (run_make_i0 L.length (by omega) w)
  obtain ⟨cur, hmk, hown⟩ := HM.out
  have HOw := hidOf hown
  clear hF hb hw hg HM hown
  have Hsz := hidOf (rfl : w.heap.size = w.heap.size)
  have Ho0 := hidOf ((Out.refl w).alloc (.cells cur 3))
  obtain ⟨i0, hi, hz0, hz1, hz2⟩ := info_parts infoInt
  go_enter Try.func72, Try.ntmps72
  go_wp2
  clear hmk
  generalize w.alloc (.cells cur 3) = w0 at *
  go_loopw [14, 5, 6] (fun iv nv pv wr => ∃ (i p : Nat) (Z : List Int) (a : Option Addr) (cc : Nat), iv = .int .i64 i ∧ nv = .slice a Z.length cc ∧ pv = .int .i64 p ∧ i ≤ L.length ∧ Z.length = i ∧ Hid (p = widF (L.take i)) ∧ Hid (nmsF l 0 L = Z ++ nmsF l p (L.drop i)) ∧ Hid (OwI w.heap.size (.slice a Z.length cc) Z wr) ∧ Hid (Out w wr)) (fun iv _ _ _ => L.length - (intOf iv).toNat)
  case atStart => exact ⟨0, 0, [], _, _, rfl, rfl, rfl, by omega, rfl, rfl, rfl, HOw.out, Ho0.out⟩
  case round =>
    obtain ⟨i, p, Z, a, cc, rfl, rfl, rfl, hi', hZ, HP, HFl, HOZ, Ho⟩ := hrel
    obtain rfl := hZ
    by_cases hiL : Z.length < L.length
    · have hlt : (Z.length : Int) < L.length := by omega
      have h0 : (0 : Int) ≤ 0 := by omega
      obtain ⟨f, hf⟩ : ∃ f, L[Z.length]? = some f := ⟨_, List.getElem?_eq_getElem hiL⟩
      obtain ⟨fg, fc', hv, hfc, d0, d1, d2⟩ := (show OwF 0 _ L wr from owns_chg (S := fun _ => False) HF.out (fun _ _ h => h) (Chg.of_out Ho.out)).cells hf
      simp only [Value.slice.injEq] at hv
      obtain ⟨rfl, _, rfl⟩ := hv
      obtain ⟨hw1, hw8⟩ := Hw.out f (List.mem_of_getElem? hf)
      have hst := take_snoc hf
      have hwid : p + f.w ≤ widF L := by
        have e : widF L = widF (L.take (Z.length + 1)) + widF (L.drop (Z.length + 1)) := by
          conv => lhs; rw [← List.take_append_drop (Z.length + 1) L]
          simp only [widF, List.map_append, List.sum_append]
        rw [e, hst, HP.out]
        simp [widF]
      have HP2 := hidOf (show p + f.w = widF (L.take (Z.length + 1)) by rw [hst, HP.out]; simp [widF])
      have hpl : p + f.w ≤ l.length := by omega
      have hl1 : ((l.drop p).take f.w).length = f.w := by rw [List.length_take, List.length_drop]; omega
      have HC : Hid (∀ wx c', Out w wx → Calls Try.prog 70 #[.slice (some ⟨g, off + p, none⟩) f.w c'] wx fun e w' => e = .returned (.int .u64 (nmB ((l.drop p).take f.w) : Nat)) ∧ w' = wx) := by
        intro wx c' ho
        have hgx : g < wx.heap.size := Nat.lt_of_lt_of_le Hg.out ho.size
        have := number_any wx.heap.size (some ⟨g, off + p, none⟩) c' ((l.drop p).take f.w) wx (((HB.out.out Hg.out ho).cut p f.w).rest hgx) (by omega)
        rwa [hl1] at this
      have HFs := hidOf (nmsF_step l L Z.length p f hf)
      have Ho1 := hidOf (Ho.out.alloc (boxF f))
      have HOZ1 : Hid (OwI w.heap.size (.slice a Z.length cc) Z (wr.alloc (boxF f))) := owns_chg (S := fun _ => False) HOZ.out (fun _ _ h => h) ((Chg.refl _ wr).alloc _)
      obtain ⟨q, hq⟩ : ∃ q, q = wr.heap.size := ⟨_, rfl⟩
      have Hbx : Hid (BoxF (wr.alloc (boxF f)) q f) := by rw [hq]; exact heap_alloc_new wr _
      have hcp : ¬ c = p := by omega
      have hpI : (p : Int) + f.w ≤ l.length := by omega
      have hp0 : (0 : Int) ≤ p := by omega
      have hw0 : (0 : Int) ≤ f.w := by omega
      have hcI : (l.length : Int) ≤ c := by omega
      have hlI : (l.length : Int) ≤ 1000000000000 := by omega
      clear hst hf hwid hl1
      generalize nmB ((l.drop p).take f.w) = n at *
      go_upto_region 6 with fail
      rw [← hq]
      have e1 : wr.alloc (.cells #[.int .i64 (f.w : Int), .int .u64 (f.lo : Int), .int .u64 (f.hi : Int)] 113) = wr.alloc (boxF f) := rfl
      rw [e1]
      clear e1 hq
      generalize wr.alloc (boxF f) = wb at *
      have c0 : wb.cell? ⟨q, 0, none⟩ = some (.int .i64 (f.w : Int)) := Hbx.out.cell 0
      clear d0 d1 d2
      go_upto_region 7 with (first | (go_at_call 70; refine (HC.out _ _ Ho1.out).mono ?_; rintro e w1 ⟨rfl, hw⟩; have hw := hw.symm; subst hw) | (at_builtin; refine wpList_append_own _ rfl (.tmp 18) (.tmp 28) 30 rfl w.heap.size 3 i0 _ 1 8 Try.underlying30 hi hz0 hz1 hz2 rfl (by decide) (.slice a Z.length cc) Z.length (Z.map (Value.int .i64)) rfl (HOZ1.out.alloc _) ⟨wb.heap.size, 0, none⟩ 1 1 [.int .i64 (wrap64 (n : Int))] rfl rfl (news_new wb _ _ _ rfl) (fun u hu => by rw [List.mem_singleton.1 hu]; rfl) (by unfold maxLen; omega) (by omega) (by rw [size_alloc]; have := Ho1.out.size; omega) ?_; intro v4 w4 hown4 hgrow4 _; have HO4 := hidOf hown4; have Hg4 := hidOf hgrow4; clear hgrow4; obtain ⟨a4, c4, rfl⟩ := own_form hown4; clear hown4))
      have HS4 : Hid (Out w w4) := out_row (Ho1.out.alloc (.cells #[.int .i64 (wrap64 (n : Int))] 3)) (HOZ1.out.alloc _) Hg4.out
      have c4' : w4.cell? ⟨q, 0, none⟩ = some (.int .i64 (f.w : Int)) := by
        have hX := Hbx.out.chg ((Chg.refl (fun _ => False) wb).alloc (.cells #[.int .i64 (wrap64 (n : Int))] 3)) (fun h => h)
        have hY : BoxF w4 q f := hX.chg (S := fun k => (Value.slice a Z.length cc).ownBlock = some k) (Chg.of_grown Hg4.out (fun k hk => hk)) (own_type HOZ1.out Hbx.out (by decide))
        exact hY.cell 0
      have hlen : (Z ++ [wrap64 (n : Int)]).length = Z.length + 1 := by simp
      have Hlen := hidOf hlen
      clear hlen c0
      go_wp2
      refine ⟨⟨Z.length + 1, p + f.w, Z ++ [wrap64 (n : Int)], a4, c4, by simp, by rw [Hlen.out], by simp, by omega, Hlen.out, HP2.out, ?_, ?_, HS4.out⟩, by simp [intOf]; omega⟩
      · show _ = _
        rw [HFl.out, HFs.out]; simp
      · show World.ownsRow _ _ _ _ _ _ _
        rw [Hlen.out]
        simpa using HO4.out
    · have hlt : ¬ (Z.length : Int) < L.length := by omega
      have hZL : Z.length = L.length := by omega
      have HZL := hidOf hZL
      clear hZL
      go_wp2
      go_ret
      have hn := HFl.out
      rw [HZL.out, List.drop_length, nmsF, List.append_nil] at hn
      rw [← HZL.out, hn]
      exact ⟨a, cc, rfl, HOZ.out, Ho.out⟩
end Go.Proofs.Ytlfcjbeldnkkoaa
namespace Go.Proofs.Ytlfcjbeldnkkoaa
open Go.RowKit
set_option linter.unusedVariables false
set_option linter.unusedSimpArgs false
/-- an entry of the table: what each field may be -/
structure Rw where
  n : Nat × Nat
  k : Nat × Nat
  f : Nat × Nat
  p : Nat × Nat
  s : Nat × Nat
  l : Nat × Nat
  i : Nat × Nat
  a : Nat × Nat
  e : Nat × Nat
def Rw.cs (r : Rw) : List Value := [.int .u64 r.n.1, .int .u64 r.n.2, .int .u64 r.k.1, .int .u64 r.k.2, .int .u64 r.f.1, .int .u64 r.f.2, .int .u64 r.p.1, .int .u64 r.p.2, .int .u64 r.s.1, .int .u64 r.s.2, .int .u64 r.l.1, .int .u64 r.l.2, .int .u64 r.i.1, .int .u64 r.i.2, .int .u64 r.a.1, .int .u64 r.a.2, .int .u64 r.e.1, .int .u64 r.e.2]
def Rw.fds (r : Rw) : List Fd := [⟨4, r.n.1, r.n.2⟩, ⟨4, r.k.1, r.k.2⟩, ⟨8, r.f.1, r.f.2⟩, ⟨8, 0, 0⟩, ⟨8, r.p.1, r.p.2⟩, ⟨8, r.s.1, r.s.2⟩, ⟨4, r.l.1, r.l.2⟩, ⟨4, r.i.1, r.i.2⟩, ⟨8, r.a.1, r.a.2⟩, ⟨8, r.e.1, r.e.2⟩]
theorem fds_wid (r : Rw) : widF r.fds = 64 := rfl
theorem fds_len (r : Rw) : r.fds.length = 10 := rfl
theorem fds_w (r : Rw) : ∀ f ∈ r.fds, 1 ≤ f.w ∧ f.w ≤ 8 := by
  intro f hf
  simp [Rw.fds] at hf
  rcases hf with rfl | rfl | rfl | rfl | rfl | rfl | rfl | rfl | rfl | rfl <;> simp
def RwAt (w : World) (p : Nat) (r : Rw) : Prop := w.heap[p]? = some (.cells r.cs.toArray 79 (0, 0))
theorem RwAt.cell {w : World} {p : Nat} {r : Rw} (h : RwAt w p r) (j : Nat) : w.cell? ⟨p, j, none⟩ = r.cs.toArray[j]? := by simp [World.cell?, show w.heap[p]? = _ from h]
theorem own_mk {Y : World} {g B n sz : Nat} {cs : Array Value} {T : TypeId} (h : Y.heap[g]? = some (.cells cs T (0, 0))) (hB : B ≤ g) (hs : cs.size = n * sz) (hm : n ≤ 1000000000000) : Y.ownsRow B T sz (.slice (some ⟨g, 0, none⟩) n n) n cs.toList := by
  refine ⟨by simp [hs], .inr ⟨g, n, cs, rfl, hB, h, Nat.le_refl _, by unfold maxLen; omega, hs, ?_⟩⟩
  rw [← hs, ← Array.length_toList, List.take_length]
theorem heap_new2 (W : World) (A B : Obj) : ((W.alloc A).alloc B).heap[W.heap.size + 1]? = some B := by rw [← size_alloc W A]; exact heap_alloc_new _ _
set_option maxRecDepth 8000 in
set_option maxHeartbeats 4000000 in
theorem fields_any (r : Rw) (w : World) : Calls Try.prog 33 #[.agg r.cs.toArray] w fun e w' => ∃ a c, e = .returned (.slice a 10 c) ∧ OwF w.heap.size (.slice a 10 c) r.fds w' ∧ Out w w' := by
  obtain ⟨p, hp⟩ : ∃ p, p = w.heap.size := ⟨_, rfl⟩
  have HR : Hid (RwAt (w.alloc (.cells r.cs.toArray 79)) p r) := by rw [hp]; exact heap_alloc_new w _
  have Ho := hidOf ((Out.refl w).alloc (.cells r.cs.toArray 79))
  obtain ⟨⟨n1, n2⟩, ⟨k1, k2⟩, ⟨f1, f2⟩, ⟨p1, p2⟩, ⟨s1, s2⟩, ⟨l1, l2⟩, ⟨i1, i2⟩, ⟨a1, a2⟩, ⟨e1, e2⟩⟩ := r
  have e0 : w.alloc (.cells (Rw.cs ⟨(n1, n2), (k1, k2), (f1, f2), (p1, p2), (s1, s2), (l1, l2), (i1, i2), (a1, a2), (e1, e2)⟩).toArray 79) = w.alloc (.cells #[.int .u64 n1, .int .u64 n2, .int .u64 k1, .int .u64 k2, .int .u64 f1, .int .u64 f2, .int .u64 p1, .int .u64 p2, .int .u64 s1, .int .u64 s2, .int .u64 l1, .int .u64 l2, .int .u64 i1, .int .u64 i2, .int .u64 a1, .int .u64 a2, .int .u64 e1, .int .u64 e2] 79) := rfl
  rw [e0] at HR Ho
  show Calls Try.prog 33 #[.agg #[.int .u64 n1, .int .u64 n2, .int .u64 k1, .int .u64 k2, .int .u64 f1, .int .u64 f2, .int .u64 p1, .int .u64 p2, .int .u64 s1, .int .u64 s2, .int .u64 l1, .int .u64 l2, .int .u64 i1, .int .u64 i2, .int .u64 a1, .int .u64 a2, .int .u64 e1, .int .u64 e2]] w _
  clear e0
  go_enter Try.func33, Try.ntmps33
  go_upto_region 1 with fail
  rw [← hp]
  have Hp := hidOf hp
  clear hp
  generalize w.alloc (.cells #[.int .u64 n1, .int .u64 n2, .int .u64 k1, .int .u64 k2, .int .u64 f1, .int .u64 f2, .int .u64 p1, .int .u64 p2, .int .u64 s1, .int .u64 s2, .int .u64 l1, .int .u64 l2, .int .u64 i1, .int .u64 i2, .int .u64 a1, .int .u64 a2, .int .u64 e1, .int .u64 e2] 79) = W at *
  have c0 : W.cell? ⟨p, 0, none⟩ = some (.int .u64 (n1 : Int)) := HR.out.cell 0
  have c1 : W.cell? ⟨p, 1, none⟩ = some (.int .u64 (n2 : Int)) := HR.out.cell 1
  have c2 : W.cell? ⟨p, 2, none⟩ = some (.int .u64 (k1 : Int)) := HR.out.cell 2
  have c3 : W.cell? ⟨p, 3, none⟩ = some (.int .u64 (k2 : Int)) := HR.out.cell 3
  have c4 : W.cell? ⟨p, 4, none⟩ = some (.int .u64 (f1 : Int)) := HR.out.cell 4
  have c5 : W.cell? ⟨p, 5, none⟩ = some (.int .u64 (f2 : Int)) := HR.out.cell 5
  have c6 : W.cell? ⟨p, 6, none⟩ = some (.int .u64 (p1 : Int)) := HR.out.cell 6
  have c7 : W.cell? ⟨p, 7, none⟩ = some (.int .u64 (p2 : Int)) := HR.out.cell 7
  have c8 : W.cell? ⟨p, 8, none⟩ = some (.int .u64 (s1 : Int)) := HR.out.cell 8
  have c9 : W.cell? ⟨p, 9, none⟩ = some (.int .u64 (s2 : Int)) := HR.out.cell 9
  have c10 : W.cell? ⟨p, 10, none⟩ = some (.int .u64 (l1 : Int)) := HR.out.cell 10
  have c11 : W.cell? ⟨p, 11, none⟩ = some (.int .u64 (l2 : Int)) := HR.out.cell 11
  have c12 : W.cell? ⟨p, 12, none⟩ = some (.int .u64 (i1 : Int)) := HR.out.cell 12
  have c13 : W.cell? ⟨p, 13, none⟩ = some (.int .u64 (i2 : Int)) := HR.out.cell 13
  have c14 : W.cell? ⟨p, 14, none⟩ = some (.int .u64 (a1 : Int)) := HR.out.cell 14
  have c15 : W.cell? ⟨p, 15, none⟩ = some (.int .u64 (a2 : Int)) := HR.out.cell 15
  have c16 : W.cell? ⟨p, 16, none⟩ = some (.int .u64 (e1 : Int)) := HR.out.cell 16
  have c17 : W.cell? ⟨p, 17, none⟩ = some (.int .u64 (e2 : Int)) := HR.out.cell 17
  have b0 : ∀ O : Obj, (W.alloc O).cell? ⟨p, 0, none⟩ = some (.int .u64 (n1 : Int)) := fun O => cell_later ((Out.refl W).alloc O) c0
  have b1 : ∀ O : Obj, (W.alloc O).cell? ⟨p, 1, none⟩ = some (.int .u64 (n2 : Int)) := fun O => cell_later ((Out.refl W).alloc O) c1
  have b2 : ∀ O : Obj, (W.alloc O).cell? ⟨p, 2, none⟩ = some (.int .u64 (k1 : Int)) := fun O => cell_later ((Out.refl W).alloc O) c2
  have b3 : ∀ O : Obj, (W.alloc O).cell? ⟨p, 3, none⟩ = some (.int .u64 (k2 : Int)) := fun O => cell_later ((Out.refl W).alloc O) c3
  have b4 : ∀ O : Obj, (W.alloc O).cell? ⟨p, 4, none⟩ = some (.int .u64 (f1 : Int)) := fun O => cell_later ((Out.refl W).alloc O) c4
  have b5 : ∀ O : Obj, (W.alloc O).cell? ⟨p, 5, none⟩ = some (.int .u64 (f2 : Int)) := fun O => cell_later ((Out.refl W).alloc O) c5
  have b6 : ∀ O : Obj, (W.alloc O).cell? ⟨p, 6, none⟩ = some (.int .u64 (p1 : Int)) := fun O => cell_later ((Out.refl W).alloc O) c6
  have b7 : ∀ O : Obj, (W.alloc O).cell? ⟨p, 7, none⟩ = some (.int .u64 (p2 : Int)) := fun O => cell_later ((Out.refl W).alloc O) c7
  have b8 : ∀ O : Obj, (W.alloc O).cell? ⟨p, 8, none⟩ = some (.int .u64 (s1 : Int)) := fun O => cell_later ((Out.refl W).alloc O) c8
  have b9 : ∀ O : Obj, (W.alloc O).cell? ⟨p, 9, none⟩ = some (.int .u64 (s2 : Int)) := fun O => cell_later ((Out.refl W).alloc O) c9
  have b10 : ∀ O : Obj, (W.alloc O).cell? ⟨p, 10, none⟩ = some (.int .u64 (l1 : Int)) := fun O => cell_later ((Out.refl W).alloc O) c10
  have b11 : ∀ O : Obj, (W.alloc O).cell? ⟨p, 11, none⟩ = some (.int .u64 (l2 : Int)) := fun O => cell_later ((Out.refl W).alloc O) c11
  have b12 : ∀ O : Obj, (W.alloc O).cell? ⟨p, 12, none⟩ = some (.int .u64 (i1 : Int)) := fun O => cell_later ((Out.refl W).alloc O) c12
  have b13 : ∀ O : Obj, (W.alloc O).cell? ⟨p, 13, none⟩ = some (.int .u64 (i2 : Int)) := fun O => cell_later ((Out.refl W).alloc O) c13
  have b14 : ∀ O : Obj, (W.alloc O).cell? ⟨p, 14, none⟩ = some (.int .u64 (a1 : Int)) := fun O => cell_later ((Out.refl W).alloc O) c14
  have b15 : ∀ O : Obj, (W.alloc O).cell? ⟨p, 15, none⟩ = some (.int .u64 (a2 : Int)) := fun O => cell_later ((Out.refl W).alloc O) c15
  have b16 : ∀ O : Obj, (W.alloc O).cell? ⟨p, 16, none⟩ = some (.int .u64 (e1 : Int)) := fun O => cell_later ((Out.refl W).alloc O) c16
  have b17 : ∀ O : Obj, (W.alloc O).cell? ⟨p, 17, none⟩ = some (.int .u64 (e2 : Int)) := fun O => cell_later ((Out.refl W).alloc O) c17
  go_region_held3 (fun w' => w'.cell? ⟨p, 0, none⟩ = some (.int .u64 (n1 : Int)) ∧ w'.cell? ⟨p, 1, none⟩ = some (.int .u64 (n2 : Int)) ∧ w'.cell? ⟨p, 2, none⟩ = some (.int .u64 (k1 : Int)) ∧ w'.cell? ⟨p, 3, none⟩ = some (.int .u64 (k2 : Int)) ∧ w'.cell? ⟨p, 4, none⟩ = some (.int .u64 (f1 : Int)) ∧ w'.cell? ⟨p, 5, none⟩ = some (.int .u64 (f2 : Int)) ∧ w'.cell? ⟨p, 6, none⟩ = some (.int .u64 (p1 : Int)) ∧ w'.cell? ⟨p, 7, none⟩ = some (.int .u64 (p2 : Int)) ∧ w'.cell? ⟨p, 8, none⟩ = some (.int .u64 (s1 : Int)) ∧ w'.cell? ⟨p, 9, none⟩ = some (.int .u64 (s2 : Int)) ∧ w'.cell? ⟨p, 10, none⟩ = some (.int .u64 (l1 : Int)) ∧ w'.cell? ⟨p, 11, none⟩ = some (.int .u64 (l2 : Int)) ∧ w'.cell? ⟨p, 12, none⟩ = some (.int .u64 (i1 : Int)) ∧ w'.cell? ⟨p, 13, none⟩ = some (.int .u64 (i2 : Int)) ∧ w'.cell? ⟨p, 14, none⟩ = some (.int .u64 (a1 : Int)) ∧ w'.cell? ⟨p, 15, none⟩ = some (.int .u64 (a2 : Int)) ∧ w'.cell? ⟨p, 16, none⟩ = some (.int .u64 (e1 : Int)) ∧ w'.cell? ⟨p, 17, none⟩ = some (.int .u64 (e2 : Int))) (first | exact ⟨c0, c1, c2, c3, c4, c5, c6, c7, c8, c9, c10, c11, c12, c13, c14, c15, c16, c17⟩ | exact ⟨b0 _, b1 _, b2 _, b3 _, b4 _, b5 _, b6 _, b7 _, b8 _, b9 _, b10 _, b11 _, b12 _, b13 _, b14 _, b15 _, b16 _, b17 _⟩ | go_keep) (first | (go_at_call 31; refine (just_any 0 _).mono ?_; rintro e w1 ⟨rfl, rfl⟩))
  clear c0 c1 c2 c3 c4 c5 c6 c7 c8 c9 c10 c11 c12 c13 c14 c15 c16 c17 b0 b1 b2 b3 b4 b5 b6 b7 b8 b9 b10 b11 b12 b13 b14 b15 b16 b17
  go_wp2
  go_ret
  refine ⟨_, _, rfl, ?_, ?_⟩
  · have hs := Ho.out.size
    exact own_mk (n := 10) (sz := 3) (heap_new2 W _ _) (by omega) rfl (by omega)
  · exact ((Ho.out.alloc _).alloc _).drew
end Go.Proofs.Ytlfcjbeldnkkoaa
namespace Go.Proofs.Ytlfcjbeldnkkoaa
open Go.RowKit
set_option linter.unusedVariables false
set_option linter.unusedSimpArgs false
/-- fields of one byte -/
def bwF (l : List UInt8) : List Fd := l.map fun b => ⟨1, b.toNat, b.toNat⟩
theorem bwF_app (l m : List UInt8) : bwF (l ++ m) = bwF l ++ bwF m := by simp [bwF]
theorem bwF_w (l : List UInt8) : ∀ f ∈ bwF l, f.w = 1 := by
  intro f hf
  simp [bwF] at hf
  obtain ⟨b, _, rfl⟩ := hf
  rfl
theorem bwF_len (l : List UInt8) : (bwF l).length = l.length := by simp [bwF]
theorem bwF_wid (l : List UInt8) : widF (bwF l) = l.length := by
  induction l with
  | nil => rfl
  | cons b r ih => simp only [bwF, widF, List.map_cons, List.sum_cons, List.length_cons] at ih ⊢; omega
theorem layB_bw (l : List UInt8) : layB (bwF l) = l := by
  induction l with
  | nil => rfl
  | cons b r ih =>
    show leB b.toNat 1 ++ layB (bwF r) = _
    rw [ih]
    simp [leB]
theorem owB_nil (B : Nat) (w : World) : OwB B (.slice none 0 0) [] w := World.ownsRow_nil _ _ _ _
theorem owF_nil (B : Nat) (w : World) : OwF B (.slice none 0 0) [] w := World.ownsRow_nil _ _ _ _
theorem OwB.cell {B : Nat} {v : Value} {O : List UInt8} {w : World} (h : OwB B v O w) {i : Nat} {x : UInt8} (hx : O[i]? = some x) : ∃ g c, v = .slice (some ⟨g, 0, none⟩) O.length c ∧ O.length ≤ c ∧ w.cell? ⟨g, i, none⟩ = some (.int .u8 (x.toNat : Int)) := by
  obtain ⟨g, c, hv, hc, d⟩ := own_cell h (k := i) (u := .int .u8 (x.toNat : Int)) (by simp [Lib.byteCells, hx])
  exact ⟨g, c, hv, hc, d⟩
/-- the state of bytewise -/
structure BwS (w wr : World) (bv cv : Value) (R : List UInt8) (C : List Fd) : Prop where
  by_ : OwB w.heap.size bv R wr
  cut : OwF w.heap.size cv C wr
  out : Out w wr
theorem BwS.alloc {w wr : World} {bv cv : Value} {R : List UInt8} {C : List Fd} (h : BwS w wr bv cv R C) (o : Obj) : BwS w (wr.alloc o) bv cv R C :=
  have c : Chg (fun _ => False) wr (wr.alloc o) := (Chg.refl _ wr).alloc o
  ⟨owns_chg h.by_ (fun _ _ h => h) c, owns_chg h.cut (fun _ _ h => h) c, h.out.alloc o⟩
theorem BwS.grow {w X w' : World} {bv cv cv' : Value} {R : List UInt8} {C C' : List Fd} (h : BwS w X bv cv R C) (ho : OwF w.heap.size cv' C' w') (hg : X.grownBy w' cv.ownBlock) : BwS w w' bv cv' R C' :=
  have c : Chg (fun k => cv.ownBlock = some k) X w' := Chg.of_grown hg (fun k hk => hk)
  ⟨owns_chg h.by_ (fun k hk hk' => own_apart (by decide) h.by_ h.cut k hk hk') c, ho, Chg.out c h.out (fun k hk => (h.cut.lt k hk).1)⟩
theorem bw_len (R : List UInt8) (i : Nat) (h : i ≤ R.length) : (bwF (R.take i)).length = i := by rw [bwF_len, List.length_take]; omega
set_option maxRecDepth 4000 in
set_option maxHeartbeats 2000000 in
theorem bytewise_any (w : World) (fa : Option Addr) (fc : Nat) (L : List Fd) (R : List UInt8) (hF : OwF 0 (.slice fa L.length fc) L w) (hw : ∀ f ∈ L, f.w ≤ 8) (hl : widF L ≤ 1000) (hL : L.length ≤ 1000) (hR : R = layB L) :
    Calls Try.prog 59 #[.slice fa L.length fc] w fun e w' => ∃ a c, e = .returned (.slice a R.length c) ∧ OwF w.heap.size (.slice a R.length c) (bwF R) w' ∧ Out w w' := by
  obtain ⟨i0, hi, hz0, hz1, hz2⟩ := info_parts infoFd
  have hRl : R.length ≤ 1000 := by rw [hR, layB_len]; exact hl
  have HL := hidOf (lay_any w.heap.size w none 0 [] R fa fc L (owB_nil _ _) (Nat.le_refl _) hF hw (by simp; omega) (by omega) (by simp [hR]))
  have hRI : (R.length : Int) ≤ 1000 := by omega
  simp only [List.length_nil] at HL
  clear hF hw hl hL hR
  go_enter Try.func59, Try.ntmps59
  go_wp2_with (go_at_call 29; refine (HL.out).mono ?_; rintro e w1 ⟨a, c, rfl, hb, hO⟩; have HB : Hid (BwS w w1 (.slice a R.length c) (.slice none 0 0) R []) := ⟨hb, owF_nil _ _, hO⟩; clear hb hO)
  go_loopw [9, 3] (fun iv cv wr => ∃ (i : Nat) (a' : Option Addr) (c' : Nat), iv = .int .i64 i ∧ cv = .slice a' i c' ∧ i ≤ R.length ∧ Hid (BwS w wr (.slice a R.length c) (.slice a' i c') R (bwF (R.take i)))) (fun iv _ _ => R.length - (intOf iv).toNat)
  case atStart => exact ⟨0, _, _, rfl, rfl, by omega, HB.out⟩
  case round =>
    obtain ⟨i, a', c', rfl, rfl, hi', HS⟩ := hrel
    by_cases hiR : i < R.length
    · have hlt : (i : Int) < R.length := by omega
      have h0 : (0 : Int) ≤ i := by omega
      obtain ⟨x, hx⟩ : ∃ x, R[i]? = some x := ⟨_, List.getElem?_eq_getElem hiR⟩
      obtain ⟨g, c2, hv, hc2, d⟩ := HS.out.by_.cell hx
      simp only [Value.slice.injEq] at hv
      obtain ⟨rfl, _, rfl⟩ := hv
      have hx0 := x.toNat_lt
      have hjw : jw (x.toNat : Int) = x.toNat := jw_nat _ (by omega)
      have CJ : Hid (∀ wx, Calls Try.prog 31 #[.int .i64 (x.toNat : Int)] wx fun e w' => e = .returned (.agg #[.int .u64 (x.toNat : Int), .int .u64 (x.toNat : Int)]) ∧ w' = wx.alloc (.cells #[.int .u64 (x.toNat : Int), .int .u64 (x.toNat : Int)] 76)) := by
        intro wx
        have := just_any (x.toNat : Int) wx
        rwa [hjw] at this
      have Hst := hidOf (take_snoc hx)
      have Hln := hidOf (bw_len R i (by omega))
      have Hln2 := hidOf (bw_len R (i + 1) (by omega))
      have HOw : Hid (((wr.alloc (.cells #[.int .u64 (x.toNat : Int), .int .u64 (x.toNat : Int)] 76)).alloc (.cells #[.int .i64 1, .int .u64 (x.toNat : Int), .int .u64 (x.toNat : Int)] 113)).ownsRow w.heap.size 113 3 (.slice a' i c') i (fdV (bwF (R.take i)))) := by
        have h := ((HS.out.alloc (.cells #[.int .u64 (x.toNat : Int), .int .u64 (x.toNat : Int)] 76)).alloc (.cells #[.int .i64 1, .int .u64 (x.toNat : Int), .int .u64 (x.toNat : Int)] 113)).cut
        unfold OwF at h
        rwa [Hln.out] at h
      have hsz' : w.heap.size ≤ wr.heap.size := HS.out.out.size
      clear hx hjw
      go_wp2_with (first | (go_at_call 31; refine (CJ.out _).mono ?_; rintro e w2 ⟨rfl, rfl⟩) | (at_builtin; refine wpList_append_own _ rfl (.tmp 13) (.tmp 18) 72 rfl w.heap.size 113 i0 _ 3 24 Try.underlying72 hi hz0 hz1 hz2 rfl (by decide) (.slice a' i c') i (fdV (bwF (R.take i))) rfl HOw.out ⟨wr.heap.size + 1, 0, none⟩ 1 1 (Fd.cs ⟨1, x.toNat, x.toNat⟩) rfl rfl (news_new _ _ _ _ (by rw [size_alloc])) (fdV_one [⟨1, x.toNat, x.toNat⟩]) (by unfold maxLen; omega) (by omega) (by rw [size_alloc, size_alloc]; omega) ?_; intro v4 w4 hown4 hgrow4 _; have HO4 := hidOf hown4; have Hg4 := hidOf hgrow4; clear hgrow4; obtain ⟨a4, c4, rfl⟩ := own_form hown4; clear hown4))
      refine ⟨⟨i + 1, a4, c4, by simp, rfl, by omega, ?_⟩, by simp [intOf]; omega⟩
      refine ((HS.out.alloc (.cells #[.int .u64 (x.toNat : Int), .int .u64 (x.toNat : Int)] 76)).alloc (.cells #[.int .i64 1, .int .u64 (x.toNat : Int), .int .u64 (x.toNat : Int)] 113)).grow ?_ Hg4.out
      show World.ownsRow _ _ _ _ _ _ _
      rw [Hln2.out, Hst.out, bwF_app, fdV_app]
      exact HO4.out
    · have hlt : ¬ (i : Int) < R.length := by omega
      obtain rfl : i = R.length := by omega
      go_wp2
      go_ret
      have h := HS.out
      rw [List.take_length] at h
      exact ⟨a', c', rfl, h.cut, h.out⟩
/-- the header's fields -/
def hdA : List UInt8 := [127, 69, 76, 70, 2, 1, 1, 0, 0, 0, 0, 0, 0, 0, 0, 0, 1, 0, 247, 0, 1, 0, 0, 0, 0, 0, 0, 0, 0, 0, 0, 0, 0, 0, 0, 0, 0, 0, 0, 0]
def hdB : List UInt8 := [0, 0, 0, 0, 64, 0, 0, 0, 0, 0, 64, 0]
def headF (t c s : Nat × Nat) : List Fd := bwF hdA ++ [⟨8, t.1, t.2⟩] ++ bwF hdB ++ [⟨2, c.1, c.2⟩, ⟨2, s.1, s.2⟩]
def hA : List Fd := [⟨8, 282584257676671, 282584257676671⟩, ⟨8, 0, 0⟩, ⟨2, 1, 1⟩, ⟨2, 247, 247⟩, ⟨4, 1, 1⟩, ⟨8, 0, 0⟩, ⟨8, 0, 0⟩]
def hB : List Fd := [⟨4, 0, 0⟩, ⟨2, 64, 64⟩, ⟨2, 0, 0⟩, ⟨2, 0, 0⟩, ⟨2, 64, 64⟩]
theorem lay_hA : hdA = layB hA := by decide
theorem lay_hB : hdB = layB hB := by decide
end Go.Proofs.Ytlfcjbeldnkkoaa
