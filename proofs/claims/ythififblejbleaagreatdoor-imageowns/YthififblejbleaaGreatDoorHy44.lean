import Derived.Test.YthififblejbleaaGreatDoorHy43
namespace Go.Proofs.YthififblejbleaaGreatDoor
open Go.RowKit
set_option linter.unusedVariables false
set_option linter.unusedSimpArgs false
def numsA (X : List Int) : Array Value := (X.map (Value.int .i64)).toArray
theorem numsA_at {X : List Int} {k : Nat} {y : Int} (h : X[k]? = some y) : (numsA X)[k]? = some (.int .i64 y) := by
  simp [numsA, h]
def b4L (X : List Int) : List UInt8 := X.flatMap b4
theorem b4L_take {X : List Int} {k : Nat} {y : Int} (h : X[k]? = some y) : b4L (X.take (k + 1)) = b4L (X.take k) ++ b4 y := by
  rw [take_snoc h]; simp [b4L]
theorem hd_b4L (s f d n : Nat) (e : Int) : [83, 80, 73, 78] ++ b4L [1, (s : Int), (f : Int), (d : Int), (n : Int), e] = hdB s f d n e := by
  simp [b4L, hdB, opB]; rfl
theorem szF_pos (N : List (List UInt8)) : 0 < szF 1 N := by
  have h : ∀ (N : List (List UInt8)) (a : Nat), 0 < a → 0 < szF a N := by
    intro N
    induction N with
    | nil => intro a h; exact h
    | cons y r ih => intro a h; exact ih _ (by omega)
  exact h N 1 (by omega)
theorem OwI.at17 {B : Nat} {a : Option Addr} {n c : Nat} {X : List Int} {w : World} (h : w.ownsRow B 3 1 (.slice a n c) n (X.map (Value.int .i64))) (h0 : 0 < n) : ∃ g, a = some ⟨g, 0, none⟩ ∧ n ≤ c ∧ ∀ k y, X[k]? = some y → w.cell? ⟨g, k, none⟩ = some (.int .i64 y) := by
  rcases h.2 with ⟨hv, he⟩ | ⟨g, cap, cur, hv, _, _, hle, _⟩
  · omega
  · cases hv
    refine ⟨g, rfl, by first | exact hle | omega, fun k y hy => ?_⟩
    have := World.ownsRow.cells h (g := g) rfl k (.int .i64 y) (by simp [hy])
    have e : (⟨g, 0, none⟩ : Addr).add k = ⟨g, k, none⟩ := by simp [Addr.add]; omega
    rw [e] at this
    exact this
set_option maxRecDepth 20000 in
set_option maxHeartbeats 8000000 in
theorem refWrite_w (m : Img) (w : World) (ta fa da : Option Addr) (tc fc dc tn fn dn an nl sn : Nat) (en : Int) (N : List (List UInt8)) (htn : Hid (m.T.length = tn)) (hfn : Hid (m.F.length = fn)) (hdn : Hid (m.D.length = dn)) (hen : Hid (m.en = en)) (hN : Hid (tabM m = N)) (han : Hid ((allN m).length = an)) (hnl : Hid ((byP N).length = nl)) (hsn : Hid (slotsP m.T = sn)) (h : ImA w ta fa da m) (htc : tn ≤ tc) (hkD : ∀ x ∈ m.D, x.nm.length ≤ 4611686018427387904) (hok : Ok17 m) : Calls Tryz.prog 4 #[.agg #[.slice ta tn tc, .slice fa fn fc, .slice da dn dc, .int .i64 en]] w fun e w' => ∃ a c, e = .returned (.tuple #[.slice a (wrB m).length c, .int .i64 0, .int .i64 0]) ∧ OwB w.heap.size (.slice a (wrB m).length c) (wrB m) w' ∧ Out w w' := by
  have hck := ok_ck hok
  have hcnt := hok.counts
  have hent := hok.entry
  have hcut : CutK m.T m.F := by
    have hf := hok.fun_
    unfold funP at hf
    split at hf
    · cases hf
    · rename_i h1
      exact Ok17n.cutK (fstB_out h1)
  rw [hsn.out, hfn.out, hdn.out] at hcnt
  rw [hfn.out, hen.out] at hent
  have hna : Hid (an = fn + dn) := hidOf (by rw [← han.out, ← hfn.out, ← hdn.out]; simp [allN])
  have htn2 : tn ≤ 1048576 := by
    have h1 : m.T.length ≤ slotsP m.T := by unfold slotsP; omega
    rw [htn.out, hsn.out] at h1; omega
  have hnlb : nl ≤ 400000 := by rw [← hnl.out, ← hN.out, byP_len]; have := hok.small; omega
  obtain ⟨q, hq⟩ : ∃ q, Hid (q = w.heap.size) := ⟨_, rfl⟩
  obtain ⟨wq, hwq⟩ : ∃ wq, Hid (wq = w.alloc (.cells #[.slice ta tn tc, .slice fa fn fc, .slice da dn dc, .int .i64 en] 26)) := ⟨_, rfl⟩
  have Oq : Hid (Out w wq) := hidOf (by rw [hwq.out]; exact Out.alloc (Out.refl _) _)
  have bxq : Hid (wq.heap[q]? = some (.cells #[.slice ta tn tc, .slice fa fn fc, .slice da dn dc, .int .i64 en] 26 (0, 0))) := hidOf (by rw [hwq.out, hq.out]; exact heap_alloc_new w _)
  have BX : Hid (∀ wx : World, Out wq wx → wx.cell? ⟨q, 0, none⟩ = some (.slice ta tn tc) ∧ wx.cell? ⟨q, 1, none⟩ = some (.slice fa fn fc) ∧ wx.cell? ⟨q, 2, none⟩ = some (.slice da dn dc) ∧ wx.cell? ⟨q, 3, none⟩ = some (.int .i64 en)) := hidOf fun wx o => by
    have hb : wx.heap[q]? = _ := (o.block q (Array.getElem?_eq_some_iff.1 bxq.out).1).trans bxq.out
    exact ⟨by rw [cell_atL hb]; rfl, by rw [cell_atL hb]; rfl, by rw [cell_atL hb]; rfl, by rw [cell_atL hb]; rfl⟩
  have hqw0 : q < wq.heap.size := (Array.getElem?_eq_some_iff.1 bxq.out).1
  have CK : Hid (Calls Tryz.prog 17 #[.agg #[.slice ta tn tc, .slice fa fn fc, .slice da dn dc, .int .i64 en]] wq fun e w' => e = .returned (.tuple #[.int .i64 0, .int .i64 0]) ∧ Out wq w') := hidOf (by
    have := refCheck_any m wq ta fa da tc fc dc (h.out Oq.out) hkD
    rw [hck, htn.out, hfn.out, hdn.out, hen.out] at this; exact this)
  have CS : Hid (∀ wx, Out wq wx → Calls Tryz.prog 18 #[.agg #[.slice ta tn tc, .slice fa fn fc, .slice da dn dc, .int .i64 en]] wx fun e w' => ∃ a c pa pc, e = .returned (.tuple #[.agg #[.slice a N.length c], .slice pa an pc]) ∧ OwS wx.heap.size (.slice a N.length c) N w' ∧ OwI wx.heap.size (.slice pa an pc) (pcs (allN m)) w' ∧ Out wx w') := hidOf fun wx o => by
    have := strings_any m wx ta fa da tc fc dc ((h.out (Oq.out.trans o)).s) (by rw [hfn.out]; exact hcnt.2.1) (by rw [hdn.out]; exact hcnt.2.2) hok.names
    rw [htn.out, hfn.out, hdn.out, hen.out, hN.out, han.out] at this; exact this
  have CB : Hid (∀ wx a c, OwS wq.heap.size (.slice a N.length c) N wx → Calls Tryz.prog 19 #[.agg #[.slice a N.length c]] wx fun e w' => ∃ a' c', e = .returned (.slice a' nl c') ∧ OwB wx.heap.size (.slice a' nl c') (byP N) w' ∧ Out wx w') := hidOf fun wx a c ho => by
    have := rbytes_any a c N wx ho.rt17.1 ho.rt17.2 (by have := hok.small; rw [hN.out] at this; omega)
    rw [hnl.out] at this; exact this
  have CL : Hid (∀ wx, Out wq wx → Calls Tryz.prog 20 #[.slice ta tn tc] wx fun e w' => e = .returned (.int .i64 (sn : Nat)) ∧ Out wx w') := hidOf fun wx o => by
    have := refSlots_any wx ta _ tc m.T rfl (h.t.out (Oq.out.trans o)) h.n
    rw [hsn.out, htn.out] at this; exact this
  have C4 : Hid (∀ wx y, Calls Tryz.prog 21 #[.int .i64 y, .int .i64 4] wx (LdE (b4 y) 4 wx)) := hidOf fun wx y => laidE_any y 4 (by decide) (by decide) wx
  have HT := hidOf (h.t.out Oq.out)
  have HF := hidOf (h.f.out Oq.out)
  have HD := hidOf (h.d.out Oq.out)
  have HOK := hidOf hok
  have HCU := hidOf hcut
  have HTC := hidOf htc
  clear h hok hck hkD hcut hent
  obtain ⟨hc1, hc2, hc3⟩ := hcnt
  obtain ⟨i0, i1, i2, i3⟩ := BX.out wq (Out.refl _)
  obtain ⟨lN, hlN⟩ : ∃ n, Hid (N.length = n) := ⟨_, rfl⟩
  rw [hlN.out] at CS CB
  go_enter Tryz.func4, Tryz.ntmps4
  go_upto_region 1 with fail
  rw [← hwq.out, ← hq.out]
  go_upto_region 4 with (go_at_call 17; refine CK.out.mono ?_; rintro e w1 ⟨rfl, o1⟩; have P1 := hidOf o1; clear o1)
  clear i0 i1 i2 i3
  obtain ⟨i0, i1, i2, i3⟩ := BX.out w1 P1.out
  go_upto_region 5 with (go_at_call 18; refine (CS.out _ P1.out).mono ?_; rintro e w2 ⟨a2, c2, pa, pc, rfl, ow2, ow3, o2⟩; have P2 := hidOf (P1.out.trans o2); have W2 := hidOf ow2; have W3 := hidOf ow3; have Q2 := hidOf o2; clear ow2 ow3 o2)
  clear i0 i1 i2 i3
  obtain ⟨w3, hw3⟩ : ∃ x, Hid (x = w2.alloc (.cells #[.slice a2 lN c2] 58)) := ⟨_, rfl⟩
  rw [← hw3.out]
  have O23 : Hid (Out w2 w3) := hidOf (by rw [hw3.out]; exact Out.alloc (Out.refl _) _)
  have P3 : Hid (Out wq w3) := hidOf (P2.out.trans O23.out)
  have t3 : w3.cell? ⟨w2.heap.size, 0, none⟩ = some (.slice a2 lN c2) := by rw [hw3.out]; exact cell_fresh w2 _ _ 0 _ rfl
  have W2' : Hid (OwS wq.heap.size (.slice a2 lN c2) N w3) := hidOf (owns_base17 (B := w1.heap.size) (B' := wq.heap.size) (owns_chg (S := fun _ => False) W2.out (fun _ _ h => h) (Chg.of_out O23.out)) P1.out.size)
  go_upto_region 6 with (go_at_call 19; refine (CB.out _ _ _ W2'.out).mono ?_; rintro e w4 ⟨na, nc, rfl, ow4, o4⟩; have P4 := hidOf (P3.out.trans o4); have Q4 := hidOf o4; have W4 := hidOf ow4; clear ow4 o4)
  have W3' : Hid (w4.ownsRow w1.heap.size 3 1 (.slice pa an pc) an ((pcs (allN m)).map (Value.int .i64))) := hidOf (by
    have : OwI w1.heap.size (.slice pa an pc) (pcs (allN m)) w4 := owns_chg (S := fun _ => False) W3.out (fun _ _ h => h) (Chg.of_out (O23.out.trans Q4.out))
    unfold OwI at this
    rw [pcs_len, han.out] at this; exact this)
  obtain ⟨w5, hw5⟩ : ∃ x, Hid (x = w4.alloc (.cells #[.int .u8 83, .int .u8 80, .int .u8 73, .int .u8 78] 5)) := ⟨_, rfl⟩
  have O45 : Hid (Out w4 w5) := hidOf (by rw [hw5.out]; exact Out.alloc (Out.refl _) _)
  have P5 := hidOf (P4.out.trans O45.out)
  have OB5 : Hid (OuB w4 w5 (.slice (some ⟨w4.heap.size, 0, none⟩) 4 4) 4 [83, 80, 73, 78]) := hidOf ⟨⟨rfl, .inr ⟨w4.heap.size, 4, _, rfl, Nat.le_refl _, by rw [hw5.out]; exact heap_alloc_new w4 _, Nat.le_refl _, by decide, rfl, rfl⟩⟩, O45.out, rfl⟩
  obtain ⟨i0, i1, i2, i3⟩ := BX.out w5 P5.out
  have hqw : q < w5.heap.size := by
    have h1 := P5.out.size
    omega
  have nq' : ¬ q = w5.heap.size := by omega
  clear t3
  go_upto_region 7 with fail
  rw [← hw5.out]
  go_cut [11] (fun s11 wx => ∃ U : Nat, s11 = .pointer (some ⟨U, 0, none⟩) ∧ w5.heap.size ≤ U ∧ Hid (Out w5 wx) ∧ Hid (wx.heap[U]? = some (.cells #[.int .i64 1, .int .i64 sn, .int .i64 fn, .int .i64 dn, .int .i64 nl, .int .i64 en] 63 (0, 0))))
  case first =>
    go_region_held3 (fun wx => wx.cell? ⟨q, 0, none⟩ = some (.slice ta tn tc) ∧ wx.cell? ⟨q, 1, none⟩ = some (.slice fa fn fc) ∧ wx.cell? ⟨q, 2, none⟩ = some (.slice da dn dc) ∧ wx.cell? ⟨q, 3, none⟩ = some (.int .i64 en)) (first | go_keep | assumption) (first | (go_at_call 20; refine (CL.out _ (Out.drew P5.out)).mono ?_; rintro e w6 ⟨rfl, o6⟩; have k0 := cell_later o6 i0; have k1 := cell_later o6 i1; have k2 := cell_later o6 i2; have k3 := cell_later o6 i3; have OO6 : Hid (Out w5 w6) := hidOf (Out.trans (Out.drew (Out.refl _)) o6); have hne : ¬ w6.heap.size = q := (by have := OO6.out.size; omega)) | (go_at_call 20; refine (CL.out _ (Out.drew (Out.alloc P5.out _))).mono ?_; rintro e w6 ⟨rfl, o6⟩; have OO6 : Hid (Out w5 w6) := hidOf (Out.trans (Out.drew (Out.alloc (Out.refl _) _)) o6); have k0 := cell_later OO6.out i0; have k1 := cell_later OO6.out i1; have k2 := cell_later OO6.out i2; have k3 := cell_later OO6.out i3; have hz : w6.heap[w5.heap.size]? = some (.cells #[.int .i64 0, .int .i64 0, .int .i64 0, .int .i64 0, .int .i64 0, .int .i64 0] 63 (0, 0)) := (o6.block _ (by rw [heap_drew', size_alloc]; omega)).trans (heap_alloc_new w5 _); have HZ := hidOf hz; have f0 := frozen_atL hz 0; have f1 := frozen_atL hz 1; have f2 := frozen_atL hz 2; have f3 := frozen_atL hz 3; have f4 := frozen_atL hz 4; have f5 := frozen_atL hz 5; have z0 := cell_atL hz 0; have z1 := cell_atL hz 1; have z2 := cell_atL hz 2; have z3 := cell_atL hz 3; have z4 := cell_atL hz 4; have z5 := cell_atL hz 5; clear hz; simp only [List.getElem?_toArray, List.getElem?_cons_zero, List.getElem?_cons_succ] at z0 z1 z2 z3 z4 z5; have hne : ¬ w5.heap.size = q := (by omega)))
    · go_wp2
      go_meet
      exact ⟨w6.heap.size, rfl, OO6.out.size, hidOf (Out.alloc OO6.out _), hidOf (heap_alloc_new w6 _)⟩
    · go_wp2
      go_meet
      refine ⟨w5.heap.size, rfl, Nat.le_refl _, hidOf ?_, hidOf ?_⟩
      · exact (((((OO6.out.setCell (a := ⟨w5.heap.size, 0, none⟩) (Nat.le_refl _) _).setCell (a := ⟨w5.heap.size, 1, none⟩) (Nat.le_refl _) _).setCell (a := ⟨w5.heap.size, 2, none⟩) (Nat.le_refl _) _).setCell (a := ⟨w5.heap.size, 3, none⟩) (Nat.le_refl _) _).setCell (a := ⟨w5.heap.size, 4, none⟩) (Nat.le_refl _) _).setCell (a := ⟨w5.heap.size, 5, none⟩) (Nat.le_refl _) _
      · rw [set_atL (set_atL (set_atL (set_atL (set_atL (set_atL HZ.out 0 _) 1 _) 2 _) 3 _) 4 _) 5 _]; rfl
  case rest =>
    obtain ⟨U, rfl, hU, OC, HU⟩ := hcut
    obtain ⟨wA, hwA⟩ : ∃ x, x = wc := ⟨_, rfl⟩
    subst hwA
    obtain ⟨X6, hX6⟩ : ∃ X : List Int, Hid (X = [1, (sn : Int), (fn : Int), (dn : Int), (nl : Int), en]) := ⟨_, rfl⟩
    have HU' : Hid (wA.heap[U]? = some (.cells (numsA X6) 63 (0, 0))) := hidOf (by rw [hX6.out]; exact HU.out)
    have S0 : Hid (OuB w4 wA (.slice (some ⟨w4.heap.size, 0, none⟩) 4 4) 4 [83, 80, 73, 78]) := hidOf (OB5.out.on OC.out)
    have hX6l : Hid (X6.length = 6) := hidOf (by rw [hX6.out]; rfl)
    clear HU i0 i1 i2 i3 nq' hqw
    go_wp2
    go_loopw [10, 12] (fun v i wr => ∃ (j n : Nat) (a : Option Addr) (c : Nat), j ≤ 6 ∧ v = .slice a n c ∧ i = .int .i64 j ∧ Hid (n = 4 + 4 * j) ∧ Hid (OuB w4 wr (.slice a n c) n ([83, 80, 73, 78] ++ b4L (X6.take j))) ∧ Hid (wr.heap[U]? = some (.cells (numsA X6) 63 (0, 0)))) (fun _ i _ => 6 - (intOf i).toNat)
    case atStart => exact ⟨0, _, _, _, by omega, rfl, rfl, hidOf rfl, hidOf (by simpa [b4L] using S0.out), HU'⟩
    case round =>
      obtain ⟨j, n, a, c, hj, rfl, rfl, hn, HO, HB⟩ := hrel
      by_cases hjn : j < 6
      · have hlt : (j : Int) < 6 := by omega
        obtain ⟨x, hx⟩ : ∃ x, X6[j]? = some x := ⟨_, List.getElem?_eq_getElem (by rw [hX6l.out]; exact hjn)⟩
        have HX := hidOf (b4L_take hx)
        have u0 : wr.cell? ⟨U, j, none⟩ = some (.int .i64 x) := by rw [cell_atL HB.out]; exact numsA_at hx
        have hnb : n ≤ 900000000 := by rw [hn.out]; omega
        clear hx
        go_wp2_with (first
      | (go_at_call 21; refine (C4.out _ _).mono ?_; rintro e w7 ⟨g7, k7, rfl, cc7, o7⟩; have K7 := hidOf cc7; have Q7 := hidOf o7; clear cc7 o7)
      | (at_builtin; refine app_C w4 _ rfl (.tmp 58) (.tmp 62) rfl a c n _ rfl (HO.out.on Q7.out) ⟨g7, 0, none⟩ 4 k7 (b4 x) rfl rfl K7.out (by omega) ?_; intro a8 c8 w8 ou8 bl8; have W8 := hidOf ou8; have B8 := hidOf (bl8 U _ 63 ((Q7.out.block _ (Array.getElem?_eq_some_iff.1 HB.out).1).trans HB.out) (by decide)); clear ou8 bl8))
        go_roundw
        case rel => exact ⟨j + 1, n + 4, a8, c8, by omega, rfl, by simp, hidOf (by rw [hn.out]; omega), hidOf (by rw [HX.out, ← List.append_assoc]; exact W8.out), B8⟩
        case measure => simp [intOf]; omega
      · have hlt : ¬ (j : Int) < 6 := by omega
        obtain ⟨L1, hL1⟩ : ∃ L, Hid (hdB sn fn dn nl en = L) := ⟨_, rfl⟩
        have S1 : Hid (OuB w4 wr (.slice a n c) n (L1 ++ txtB (m.T.take 0))) := hidOf (by
          have := HO.out
          rw [show j = 6 by omega, List.take_of_length_le (by rw [hX6l.out]; omega), hX6.out, hd_b4L, hL1.out] at this
          simpa [txtB] using this)
        have hL1l : Hid (L1.length = 28) := hidOf (by rw [← hL1.out]; exact hdB_len _ _ _ _ _)
        obtain ⟨wB, hwB⟩ : ∃ x, x = wr := ⟨_, rfl⟩
        subst hwB
        go_upto_region 12 with fail
        clear HO HB hn hj hjn hlt HU' S0 hX6
        go_wp2
        go_loopw [10, 13] (fun v i wr => ∃ (j n : Nat) (a : Option Addr) (c : Nat), j ≤ tn ∧ v = .slice a n c ∧ i = .int .i64 j ∧ Hid (OuB w4 wr (.slice a n c) n (L1 ++ txtB (m.T.take j)))) (fun _ i _ => tn - (intOf i).toNat)
        case atStart => exact ⟨0, _, _, _, by omega, rfl, rfl, S1⟩
        case round =>
          obtain ⟨j, n, a, c, hj, rfl, rfl, HO⟩ := hrel
          obtain ⟨i0, i1, i2, i3⟩ := BX.out wr (P4.out.trans HO.out.out)
          by_cases hjn : j < tn
          · have hlt : (j : Int) < tn := by omega
            obtain ⟨x, hx⟩ : ∃ x, m.T[j]? = some x := ⟨_, List.getElem?_eq_getElem (by rw [htn.out]; exact hjn)⟩
            obtain ⟨b, off, rfl, q0, q1, q2, q3, q4⟩ := (HT.out.out (P4.out.trans HO.out.out)).get hx
            have HX : Hid (txtB (m.T.take (j + 1)) = txtB (m.T.take j) ++ insB x) := hidOf (by rw [take_snoc hx, txtB_app]; simp [txtB])
            have CX := hidOf (fun wx => slot_any x wx (fit_in (HOK.out.fits x (List.mem_of_getElem? hx))))
            have hnb : n ≤ 9000000 := by
              rw [← HO.out.len, List.length_append, hL1l.out, txtB_len]
              have := slots_le m.T j
              rw [hsn.out] at this
              omega
            obtain ⟨nb, hnb2⟩ : ∃ k, Hid ((insB x).length = k) := ⟨_, rfl⟩
            have hnb3 : nb ≤ 16 := by rw [← hnb2.out, insB_len]; split <;> omega
            rw [hnb2.out] at CX
            obtain ⟨xi, hxi⟩ : ∃ y, Hid (insB x = y) := ⟨_, rfl⟩
            rw [hxi.out] at CX HX hnb2
            clear hx hxi
            obtain ⟨xo, xd, xs, xf, xm⟩ := x
            dsimp only at q0 q1 q2 q3 q4 CX
            go_wp2_with (first
              | (go_at_call 22; refine (CX.out _).mono ?_; rintro e w7 ⟨g7, k7, rfl, cc7, o7⟩; have K7 := hidOf cc7; have Q7 := hidOf o7; clear cc7 o7)
              | (at_builtin; refine app_C w4 _ rfl (.tmp 71) (.tmp 77) rfl a c n _ rfl (HO.out.on Q7.out) ⟨g7, 0, none⟩ nb k7 (xi) hnb2.out rfl K7.out (by omega) ?_; intro a8 c8 w8 ou8 bl8; have W8 := hidOf ou8; clear ou8 bl8))
            go_roundw
            case rel => exact ⟨j + 1, n + nb, a8, c8, by omega, rfl, by simp, hidOf (by rw [HX.out, ← List.append_assoc]; exact W8.out)⟩
            case measure => simp [intOf]; omega
          · have hlt : ¬ (j : Int) < tn := by omega
            obtain ⟨L2, hL2⟩ : ∃ L, Hid (L1 ++ txtB m.T = L) := ⟨_, rfl⟩
            have S2 : Hid (OuB w4 wr (.slice a n c) n (L2 ++ fnsB m.T N 0 (m.F.take 0))) := hidOf (by
              have := HO.out
              rw [show j = tn by omega, List.take_of_length_le (by rw [htn.out]; omega), hL2.out] at this
              simpa [fnsB] using this)
            have hL2l : Hid (L2.length ≤ 9000000) := hidOf (by rw [← hL2.out, List.length_append, hL1l.out, txtB_len, hsn.out]; omega)
            obtain ⟨wD, hwD⟩ : ∃ x, x = wr := ⟨_, rfl⟩
            subst hwD
            have HSL := hidOf (slF_le m.T m.F (by rw [hsn.out]; exact hc1))
            go_upto_region 16 with fail
            clear HO hj hjn hlt S1 i0 i1 i2 i3
            go_wp2
            go_loopw [10, 14, 15] (fun v f i wr => ∃ (j n sl : Nat) (a : Option Addr) (c : Nat), j ≤ fn ∧ v = .slice a n c ∧ f = .int .i64 sl ∧ i = .int .i64 j ∧ sl ≤ 4294967296 ∧ Hid (sl = slF m.T (m.F.take j)) ∧ Hid (OuB w4 wr (.slice a n c) n (L2 ++ fnsB m.T N 0 (m.F.take j)))) (fun _ _ i _ => fn - (intOf i).toNat)
            case atStart => exact ⟨0, _, 0, _, _, by omega, rfl, rfl, rfl, by omega, hidOf (by simp [slF]), S2⟩
            case round =>
              obtain ⟨j, n, sl, a, c, hj, rfl, rfl, rfl, hsl, hsls, HO⟩ := hrel
              have OQ := hidOf (P4.out.trans HO.out.out)
              obtain ⟨i0, i1, i2, i3⟩ := BX.out wr OQ.out
              by_cases hjn : j < fn
              · have hlt : (j : Int) < fn := by omega
                have han2 := hna.out
                have hlta : (j : Int) < an := by omega
                obtain ⟨pg, rfl, hpc, hpl⟩ := OwI.at17 W3'.out (by omega)
                obtain ⟨x, hx⟩ : ∃ x, m.F[j]? = some x := ⟨_, List.getElem?_eq_getElem (by rw [hfn.out]; exact hjn)⟩
                have q5 : wr.cell? ⟨pg, j, none⟩ = some (.int .i64 (plF 1 N x.nm : Nat)) := cell_later HO.out.out (hpl j _ (by
                  have : (allN m)[j]? = some x.nm := by
                    unfold allN
                    rw [List.getElem?_append_left (by rw [List.length_map, hfn.out]; exact hjn)]
                    simp [hx]
                  unfold pcs
                  rw [List.getElem?_map, this, ← hN.out]; rfl))
                obtain ⟨b, off, rfl, q0, q1, q2, q3⟩ := (HF.out.out OQ.out).get hx
                obtain ⟨fi, ct, hfi, hct, hd1, hd2⟩ := HCU.out j x hx
                rw [htn.out] at hd2
                have HT2 : Hid (fnsB m.T N 0 (m.F.take (j + 1)) = fnsB m.T N 0 (m.F.take j) ++ fnRow N sl (slotsP (bodP m.T x)) x ∧ slF m.T (m.F.take (j + 1)) = sl + slotsP (bodP m.T x)) := hidOf (by
                  rw [take_snoc hx, fns_snoc, slF_app, hsls.out]
                  exact ⟨by simp, by simp [slF]⟩)
                have hslb := HSL.out (j + 1) (by rw [hfn.out]; omega)
                have hbod : bodP m.T x = (m.T.drop fi).take ct := by unfold bodP; rw [hfi, hct]; simp
                obtain ⟨tb, toff, rfl, hTs⟩ := (HT.out).sub (i := fi) (c := ct) hd1 (by rw [htn.out]; exact hd2)
                rw [← hbod] at hTs
                have hbl : (bodP m.T x).length = ct := by rw [hbod, List.length_take, List.length_drop, htn.out]; omega
                obtain ⟨pl, hpl2⟩ : ∃ pl : Nat, Hid (pl = plF 1 N x.nm) := ⟨_, rfl⟩
                obtain ⟨sc, hsc⟩ : ∃ sc : Nat, Hid (sc = slotsP (bodP m.T x)) := ⟨_, rfl⟩
                rw [← hsc.out] at HT2
                rw [HT2.out.2] at hslb
                rw [← hpl2.out] at q5
                have CS2 : Hid (∀ wx, Out wq wx → Calls Tryz.prog 20 #[.slice (some ⟨tb, toff + fi * 5, none⟩) ct (tc - fi)] wx fun e w' => e = .returned (.int .i64 sc) ∧ Out wx w') := hidOf (fun wx ox => by
                  have := refSlots_any wx (some ⟨tb, toff + fi * 5, none⟩) ct (tc - fi) _ hbl (hTs.out ox) (by omega)
                  rw [← hsc.out] at this; exact this)
                have E5 : Hid (b4L [(pl : Int), x.ob, (sl : Int), (sc : Int)] = fnRow N sl sc x) := hidOf (by simp [b4L, fnRow, hpl2.out])
                have hLl : Hid ((L2 ++ fnsB m.T N 0 (m.F.take j)).length ≤ 10000000) := hidOf (by
                  have := hL2l.out
                  rw [List.length_append, fnsB_len, List.length_take, hfn.out]; omega)
                obtain ⟨L3, hL3⟩ : ∃ L, Hid (L2 ++ fnsB m.T N 0 (m.F.take j) = L) := ⟨_, rfl⟩
                have HT3 : Hid (L2 ++ fnsB m.T N 0 (m.F.take (j + 1)) = L3 ++ b4L [(pl : Int), x.ob, (sl : Int), (sc : Int)]) := hidOf (by rw [HT2.out.1, E5.out, ← hL3.out, List.append_assoc])
                rw [hL3.out] at HO hLl
                have hsn2 : Hid (sl + sc = slF m.T (m.F.take (j + 1))) := hidOf HT2.out.2.symm
                obtain ⟨nm, ob, fi', ct'⟩ := x
                dsimp only at q0 q1 q2 q3 hfi hct HT3
                subst hfi hct
                have s1 : (fi : Int) + ct ≤ tc := by omega
                have s2 : fi + ct ≤ tc := by omega
                have s3 : (fi : Int) ≤ fi + ct := by omega
                have s4 : ((fi : Int) + (ct : Int)).toNat = fi + ct := by omega
                have s5 : fi + ct - fi = ct := by omega
                have s6 : ¬ tc = fi := by omega
                have s7 : ¬ (tc : Int) = fi := by omega
                have s8 : IntKind.i64.wrap ((fi : Int) + ct) = (fi : Int) + ct := by rw [IntKind.wrap_i64]; omega
                have s9 : (0 : Int) ≤ fi := by omega
                have s10 : (0 : Int) ≤ j := by omega
                have hpc2 : (an : Int) ≤ pc := by omega
                clear han2
                have hpgl : pg < wr.heap.size := World.block_lt_of_cell? wr _ q5
                have hqwr : q < wr.heap.size := World.block_lt_of_cell? wr _ i0
                clear hx hTs hbod hbl hpl HT2 E5 hsls hpl2
                go_upto_region 21 with fail
                obtain ⟨wE, hwE⟩ : ∃ x, Hid (x = wr.alloc (.cells #[.string ⟨nm.toArray⟩, .int .i64 ob, .int .i64 fi, .int .i64 ct] 69)) := ⟨_, rfl⟩
                rw [← hwE.out]
                have OE : Hid (Out wr wE) := hidOf (by rw [hwE.out]; exact Out.alloc (Out.refl _) _)
                have szE : wr.heap.size < wE.heap.size := by rw [hwE.out, size_alloc]; omega
                have r1 : wE.cell? ⟨wr.heap.size, 1, none⟩ = some (.int .i64 ob) := by rw [hwE.out]; exact cell_fresh wr _ _ 1 _ rfl
                have r2 : wE.cell? ⟨wr.heap.size, 2, none⟩ = some (.int .i64 fi) := by rw [hwE.out]; exact cell_fresh wr _ _ 2 _ rfl
                have r3 : wE.cell? ⟨wr.heap.size, 3, none⟩ = some (.int .i64 ct) := by rw [hwE.out]; exact cell_fresh wr _ _ 3 _ rfl
                have r4 : wE.cell? ⟨pg, j, none⟩ = some (.int .i64 pl) := cell_later OE.out q5
                have r5 : wE.cell? ⟨q, 0, none⟩ = some (.slice (some ⟨tb, toff, none⟩) tn tc) := cell_later OE.out i0
                have OQE := hidOf (OQ.out.trans OE.out)
                clear q0 q1 q2 q3 q5 i0 i1 i2 i3
                obtain ⟨fb, hfb⟩ : ∃ x, Hid (wr.heap.size = x) := ⟨_, rfl⟩
                rw [hfb.out] at r1 r2 r3 szE hpgl hqwr ⊢
                go_cut [17] (fun s17 wx => ∃ U2 : Nat, s17 = .pointer (some ⟨U2, 0, none⟩) ∧ wE.heap.size ≤ U2 ∧ Hid (Out wE wx) ∧ Hid (wx.heap[U2]? = some (.cells #[.int .i64 pl, .int .i64 ob, .int .i64 sl, .int .i64 sc] 70 (0, 0))))
                case first =>
                  go_region_held3 (fun wx => wx.cell? ⟨pg, j, none⟩ = some (.int .i64 pl) ∧ wx.cell? ⟨fb, 1, none⟩ = some (.int .i64 ob) ∧ wx.cell? ⟨fb, 2, none⟩ = some (.int .i64 fi) ∧ wx.cell? ⟨fb, 3, none⟩ = some (.int .i64 ct) ∧ wx.cell? ⟨q, 0, none⟩ = some (.slice (some ⟨tb, toff, none⟩) tn tc)) (first | go_keep | assumption) (first | (go_at_call 20; refine (CS2.out _ (Out.drew OQE.out)).mono ?_; rintro e w6 ⟨rfl, o6⟩; have k0 := cell_later o6 r1; have k1 := cell_later o6 r2; have k2 := cell_later o6 r3; have k3 := cell_later o6 r4; have k4 := cell_later o6 r5; have OO6 : Hid (Out wE w6) := hidOf (Out.trans (Out.drew (Out.refl _)) o6); have hs6 := OO6.out.size; have he1 : ¬ w6.heap.size = pg := (by omega); have he2 : ¬ w6.heap.size = fb := (by omega); have he3 : ¬ w6.heap.size = q := (by omega)) | (go_at_call 20; refine (CS2.out _ (Out.drew (Out.alloc OQE.out _))).mono ?_; rintro e w6 ⟨rfl, o6⟩; have OO6 : Hid (Out wE w6) := hidOf (Out.trans (Out.drew (Out.alloc (Out.refl _) _)) o6); have k0 := cell_later OO6.out r1; have k1 := cell_later OO6.out r2; have k2 := cell_later OO6.out r3; have k3 := cell_later OO6.out r4; have k4 := cell_later OO6.out r5; have hz : w6.heap[wE.heap.size]? = some (.cells #[.int .i64 0, .int .i64 0, .int .i64 0, .int .i64 0] 70 (0, 0)) := (o6.block _ (by rw [heap_drew', size_alloc]; omega)).trans (heap_alloc_new wE _); have HZ := hidOf hz; have f0 := frozen_atL hz 0; have f1 := frozen_atL hz 1; have f2 := frozen_atL hz 2; have f3 := frozen_atL hz 3; have z0 := cell_atL hz 0; have z1 := cell_atL hz 1; have z2 := cell_atL hz 2; have z3 := cell_atL hz 3; clear hz; simp only [List.getElem?_toArray, List.getElem?_cons_zero, List.getElem?_cons_succ] at z0 z1 z2 z3; have hs6 := OO6.out.size; have he1 : ¬ wE.heap.size = pg := (by omega); have he2 : ¬ wE.heap.size = fb := (by omega); have he3 : ¬ wE.heap.size = q := (by omega)))
                  · go_wp2
                    go_meet
                    exact ⟨w6.heap.size, rfl, OO6.out.size, hidOf (Out.alloc OO6.out _), hidOf (heap_alloc_new w6 _)⟩
                  · go_wp2
                    go_meet
                    refine ⟨wE.heap.size, rfl, Nat.le_refl _, hidOf ?_, hidOf ?_⟩
                    · exact ((((OO6.out.setCell (a := ⟨wE.heap.size, 0, none⟩) (Nat.le_refl _) _).setCell (a := ⟨wE.heap.size, 1, none⟩) (Nat.le_refl _) _).setCell (a := ⟨wE.heap.size, 2, none⟩) (Nat.le_refl _) _).setCell (a := ⟨wE.heap.size, 3, none⟩) (Nat.le_refl _) _)
                    · rw [(set_atL (set_atL (set_atL (set_atL HZ.out 0 _) 1 _) 2 _) 3 _)]; rfl
                case rest =>
                  obtain ⟨U2, rfl, hU2, OC2, HU2⟩ := hcut
                  obtain ⟨wG, hwG⟩ : ∃ x, x = wc := ⟨_, rfl⟩
                  subst hwG
                  obtain ⟨X4, hX4⟩ : ∃ X : List Int, Hid (X = [(pl : Int), ob, (sl : Int), (sc : Int)]) := ⟨_, rfl⟩
                  have HU3 : Hid (wG.heap[U2]? = some (.cells (numsA X4) 70 (0, 0))) := hidOf (by rw [hX4.out]; exact HU2.out)
                  rw [← hX4.out] at HT3
                  have S3 : Hid (OuB w4 wG (.slice a n c) n L3) := hidOf (HO.out.on (OE.out.trans OC2.out))
                  have hX4l : Hid (X4.length = 4) := hidOf (by rw [hX4.out]; rfl)
                  have v3 : wG.cell? ⟨U2, 3, none⟩ = some (.int .i64 sc) := by rw [cell_atL HU2.out]; rfl
                  have hsb : sl + sc ≤ 4294967296 := by omega
                  have hsbi : (sl : Int) + sc ≤ 4294967296 := by omega
                  have hnb0 : n ≤ 10000000 := by have := hLl.out; rw [HO.out.len] at this; exact this
                  obtain ⟨wH, hwH⟩ : ∃ x, x = wr := ⟨_, rfl⟩
                  subst hwH
                  clear HU2 r1 r2 r3 r4 r5 hslb
                  obtain ⟨n3, hn3⟩ : ∃ x, x = n := ⟨_, rfl⟩
                  subst hn3
                  obtain ⟨j3, hj3⟩ : ∃ x, x = j := ⟨_, rfl⟩
                  subst hj3
                  go_upto_region 23 with fail
                  clear v3
                  go_wp2
                  go_loopw [10, 18] (fun v i wr => ∃ (j n : Nat) (a : Option Addr) (c : Nat), j ≤ 4 ∧ v = .slice a n c ∧ i = .int .i64 j ∧ Hid (n = n3 + 4 * j) ∧ Hid (OuB w4 wr (.slice a n c) n (L3 ++ b4L (X4.take j))) ∧ Hid (wr.heap[U2]? = some (.cells (numsA X4) 70 (0, 0)))) (fun _ i _ => 4 - (intOf i).toNat)
                  case atStart => exact ⟨0, _, _, _, by omega, rfl, rfl, hidOf rfl, hidOf (by simpa [b4L] using S3.out), HU3⟩
                  case round =>
                    obtain ⟨j, n, a, c, hj, rfl, rfl, hn, HO, HB⟩ := hrel
                    by_cases hjn : j < 4
                    · have hlt : (j : Int) < 4 := by omega
                      obtain ⟨x, hx⟩ : ∃ x, X4[j]? = some x := ⟨_, List.getElem?_eq_getElem (by rw [hX4l.out]; exact hjn)⟩
                      have HX := hidOf (b4L_take hx)
                      have u0 : wr.cell? ⟨U2, j, none⟩ = some (.int .i64 x) := by rw [cell_atL HB.out]; exact numsA_at hx
                      have hnb : n ≤ 900000000 := by rw [hn.out]; omega
                      clear hx
                      go_wp2_with (first
                    | (go_at_call 21; refine (C4.out _ _).mono ?_; rintro e w7 ⟨g7, k7, rfl, cc7, o7⟩; have K7 := hidOf cc7; have Q7 := hidOf o7; clear cc7 o7)
                    | (at_builtin; refine app_C w4 _ rfl (.tmp 118) (.tmp 122) rfl a c n _ rfl (HO.out.on Q7.out) ⟨g7, 0, none⟩ 4 k7 (b4 x) rfl rfl K7.out (by omega) ?_; intro a8 c8 w8 ou8 bl8; have W8 := hidOf ou8; have B8 := hidOf (bl8 U2 _ 70 ((Q7.out.block _ (Array.getElem?_eq_some_iff.1 HB.out).1).trans HB.out) (by decide)); clear ou8 bl8))
                      go_roundw
                      case rel => exact ⟨j + 1, n + 4, a8, c8, by omega, rfl, by simp, hidOf (by rw [hn.out]; omega), hidOf (by rw [HX.out, ← List.append_assoc]; exact W8.out), B8⟩
                      case measure => simp [intOf]; omega
                    · have hlt : ¬ (j : Int) < 4 := by omega
                      go_wp2
                      go_roundw
                      case rel => exact ⟨j3 + 1, n, sl + sc, a, c, by omega, rfl, by simp, by simp, hsb, hsn2, hidOf (by
                        have := HO.out
                        rw [show j = 4 by omega, List.take_of_length_le (by rw [hX4l.out]; omega)] at this
                        rw [HT3.out]; exact this)⟩
                      case measure => simp [intOf]; omega
              · have hlt : ¬ (j : Int) < fn := by omega
                obtain ⟨L4, hL4⟩ : ∃ L, Hid (L2 ++ fnsB m.T N 0 m.F = L) := ⟨_, rfl⟩
                have S4 : Hid (OuB w4 wr (.slice a n c) n (L4 ++ tdsB N (m.D.take 0))) := hidOf (by
                  have := HO.out
                  rw [show j = fn by omega, List.take_of_length_le (by rw [hfn.out]; omega), hL4.out] at this
                  simpa [tdsB] using this)
                have hL4l : Hid (L4.length ≤ 10000000) := hidOf (by have := hL2l.out; rw [← hL4.out, List.length_append, fnsB_len, hfn.out]; omega)
                obtain ⟨wD, hwD⟩ : ∃ x, x = wr := ⟨_, rfl⟩
                subst hwD
                go_upto_region 27 with fail
                clear HO hj hjn hlt S2 OQ hsl hsls HSL i0 i1 i2 i3
                go_wp2
                go_loopw [10, 19] (fun v i wr => ∃ (j n : Nat) (a : Option Addr) (c : Nat), j ≤ dn ∧ v = .slice a n c ∧ i = .int .i64 j ∧ Hid (OuB w4 wr (.slice a n c) n (L4 ++ tdsB N (m.D.take j)))) (fun _ i _ => dn - (intOf i).toNat)
                case atStart => exact ⟨0, _, _, _, by omega, rfl, rfl, S4⟩
                case round =>
                  obtain ⟨j, n, a, c, hj, rfl, rfl, HO⟩ := hrel
                  have OQ := hidOf (P4.out.trans HO.out.out)
                  obtain ⟨i0, i1, i2, i3⟩ := BX.out wr OQ.out
                  by_cases hjn : j < dn
                  · have hlt : (j : Int) < dn := by omega
                    have han2 := hna.out
                    have hlta : (fn : Int) + j < an := by omega
                    obtain ⟨pg, rfl, hpc, hpl⟩ := OwI.at17 W3'.out (by omega)
                    obtain ⟨x, hx⟩ : ∃ x, m.D[j]? = some x := ⟨_, List.getElem?_eq_getElem (by rw [hdn.out]; exact hjn)⟩
                    have q5 : wr.cell? ⟨pg, fn + j, none⟩ = some (.int .i64 (plF 1 N x.nm : Nat)) := cell_later HO.out.out (hpl (fn + j) _ (by
                      have : (allN m)[fn + j]? = some x.nm := by
                        unfold allN
                        rw [List.getElem?_append_right (by rw [List.length_map, hfn.out]; omega), List.length_map, hfn.out, Nat.add_sub_cancel_left]
                        simp [hx]
                      unfold pcs
                      rw [List.getElem?_map, this, ← hN.out]; rfl))
                    obtain ⟨b, off, rfl, q0, q1, q2, q3, q4⟩ := (HD.out.out OQ.out).get hx
                    have HT2 : Hid (tdsB N (m.D.take (j + 1)) = tdsB N (m.D.take j) ++ tdRow N x) := hidOf (by rw [take_snoc hx]; simp [tdsB])
                    obtain ⟨pl, hpl2⟩ : ∃ pl : Nat, Hid (pl = plF 1 N x.nm) := ⟨_, rfl⟩
                    rw [← hpl2.out] at q5
                    have E5 : Hid (b4L [(pl : Int), x.kd, x.ky, x.vl, x.en] = tdRow N x) := hidOf (by simp [b4L, tdRow, hpl2.out])
                    have hLl : Hid ((L4 ++ tdsB N (m.D.take j)).length ≤ 20000000) := hidOf (by
                      have := hL4l.out
                      rw [List.length_append, tdsB_len, List.length_take, hdn.out]; omega)
                    obtain ⟨L3, hL3⟩ : ∃ L, Hid (L4 ++ tdsB N (m.D.take j) = L) := ⟨_, rfl⟩
                    have HT3 : Hid (L4 ++ tdsB N (m.D.take (j + 1)) = L3 ++ b4L [(pl : Int), x.kd, x.ky, x.vl, x.en]) := hidOf (by rw [HT2.out, E5.out, ← hL3.out, List.append_assoc])
                    rw [hL3.out] at HO hLl
                    obtain ⟨nm, kd, ky, vl, ne⟩ := x
                    dsimp only at q0 q1 q2 q3 q4 HT3
                    have s4 : ((fn : Int) + (j : Int)).toNat = fn + j := by omega
                    have s5 : (0 : Int) ≤ (fn : Int) + (j : Int) := by omega
                    have s8 : IntKind.i64.wrap ((fn : Int) + j) = (fn : Int) + j := by rw [IntKind.wrap_i64]; omega
                    clear han2
                    have hpgl : pg < wr.heap.size := World.block_lt_of_cell? wr _ q5
                    have hqwr : q < wr.heap.size := World.block_lt_of_cell? wr _ i0
                    clear hx hpl HT2 E5 hpl2
                    go_upto_region 31 with fail
                    obtain ⟨wE, hwE⟩ : ∃ x, Hid (x = wr.alloc (.cells #[.string ⟨nm.toArray⟩, .int .i64 kd, .int .i64 ky, .int .i64 vl, .int .i64 ne] 72)) := ⟨_, rfl⟩
                    rw [← hwE.out]
                    have OE : Hid (Out wr wE) := hidOf (by rw [hwE.out]; exact Out.alloc (Out.refl _) _)
                    have szE : wr.heap.size < wE.heap.size := by rw [hwE.out, size_alloc]; omega
                    have r1 : wE.cell? ⟨wr.heap.size, 1, none⟩ = some (.int .i64 kd) := by rw [hwE.out]; exact cell_fresh wr _ _ 1 _ rfl
                    have r2 : wE.cell? ⟨wr.heap.size, 2, none⟩ = some (.int .i64 ky) := by rw [hwE.out]; exact cell_fresh wr _ _ 2 _ rfl
                    have r3 : wE.cell? ⟨wr.heap.size, 3, none⟩ = some (.int .i64 vl) := by rw [hwE.out]; exact cell_fresh wr _ _ 3 _ rfl
                    have r6 : wE.cell? ⟨wr.heap.size, 4, none⟩ = some (.int .i64 ne) := by rw [hwE.out]; exact cell_fresh wr _ _ 4 _ rfl
                    have r4 : wE.cell? ⟨pg, fn + j, none⟩ = some (.int .i64 pl) := cell_later OE.out q5
                    have r5 : wE.cell? ⟨q, 1, none⟩ = some (.slice fa fn fc) := cell_later OE.out i1
                    clear q0 q1 q2 q3 q4 q5 i0 i1 i2 i3
                    obtain ⟨fb, hfb⟩ : ∃ x, Hid (wr.heap.size = x) := ⟨_, rfl⟩
                    rw [hfb.out] at r1 r2 r3 r6 szE hpgl hqwr ⊢
                    have he1 : ¬ wE.heap.size = pg := by omega
                    have he2 : ¬ wE.heap.size = fb := by omega
                    have he3 : ¬ wE.heap.size = q := by omega
                    go_region_held3 (fun wx => wx.cell? ⟨pg, fn + j, none⟩ = some (.int .i64 pl) ∧ wx.cell? ⟨fb, 1, none⟩ = some (.int .i64 kd) ∧ wx.cell? ⟨fb, 2, none⟩ = some (.int .i64 ky) ∧ wx.cell? ⟨fb, 3, none⟩ = some (.int .i64 vl) ∧ wx.cell? ⟨fb, 4, none⟩ = some (.int .i64 ne) ∧ wx.cell? ⟨q, 1, none⟩ = some (.slice fa fn fc)) (go_keep) (fail)
                    obtain ⟨wG, hwG⟩ : ∃ x, Hid (x = (wE.alloc (.cells #[.int .i64 pl, .int .i64 kd, .int .i64 ky, .int .i64 vl, .int .i64 ne] 73)).drew) := ⟨_, rfl⟩
                    rw [← hwG.out]
                    obtain ⟨U2, hU2⟩ : ∃ x, Hid (wE.heap.size = x) := ⟨_, rfl⟩
                    rw [hU2.out]
                    obtain ⟨X5, hX5⟩ : ∃ X : List Int, Hid (X = [(pl : Int), kd, ky, vl, ne]) := ⟨_, rfl⟩
                    have HU3 : Hid (wG.heap[U2]? = some (.cells (numsA X5) 73 (0, 0))) := hidOf (by rw [hwG.out, heap_drew', ← hU2.out, hX5.out]; exact heap_alloc_new wE _)
                    rw [← hX5.out] at HT3
                    have S3 : Hid (OuB w4 wG (.slice a n c) n L3) := hidOf (HO.out.on (OE.out.trans (by rw [hwG.out]; exact Out.drew (Out.alloc (Out.refl _) _))))
                    have hX5l : Hid (X5.length = 5) := hidOf (by rw [hX5.out]; rfl)
                    have hnb0 : n ≤ 20000000 := by have := hLl.out; rw [HO.out.len] at this; exact this
                    obtain ⟨wH, hwH⟩ : ∃ x, x = wr := ⟨_, rfl⟩
                    subst hwH
                    clear r1 r2 r3 r4 r5 r6 he1 he2 he3
                    obtain ⟨n3, hn3⟩ : ∃ x, x = n := ⟨_, rfl⟩
                    subst hn3
                    obtain ⟨j3, hj3⟩ : ∃ x, x = j := ⟨_, rfl⟩
                    subst hj3
                    go_wp2
                    go_loopw [10, 22] (fun v i wr => ∃ (j n : Nat) (a : Option Addr) (c : Nat), j ≤ 5 ∧ v = .slice a n c ∧ i = .int .i64 j ∧ Hid (n = n3 + 4 * j) ∧ Hid (OuB w4 wr (.slice a n c) n (L3 ++ b4L (X5.take j))) ∧ Hid (wr.heap[U2]? = some (.cells (numsA X5) 73 (0, 0)))) (fun _ i _ => 5 - (intOf i).toNat)
                    case atStart => exact ⟨0, _, _, _, by omega, rfl, rfl, hidOf rfl, hidOf (by simpa [b4L] using S3.out), HU3⟩
                    case round =>
                      obtain ⟨j, n, a, c, hj, rfl, rfl, hn, HO, HB⟩ := hrel
                      by_cases hjn : j < 5
                      · have hlt : (j : Int) < 5 := by omega
                        obtain ⟨x, hx⟩ : ∃ x, X5[j]? = some x := ⟨_, List.getElem?_eq_getElem (by rw [hX5l.out]; exact hjn)⟩
                        have HX := hidOf (b4L_take hx)
                        have u0 : wr.cell? ⟨U2, j, none⟩ = some (.int .i64 x) := by rw [cell_atL HB.out]; exact numsA_at hx
                        have hnb : n ≤ 900000000 := by rw [hn.out]; omega
                        clear hx
                        go_wp2_with (first
                      | (go_at_call 21; refine (C4.out _ _).mono ?_; rintro e w7 ⟨g7, k7, rfl, cc7, o7⟩; have K7 := hidOf cc7; have Q7 := hidOf o7; clear cc7 o7)
                      | (at_builtin; refine app_C w4 _ rfl (.tmp 157) (.tmp 161) rfl a c n _ rfl (HO.out.on Q7.out) ⟨g7, 0, none⟩ 4 k7 (b4 x) rfl rfl K7.out (by omega) ?_; intro a8 c8 w8 ou8 bl8; have W8 := hidOf ou8; have B8 := hidOf (bl8 U2 _ 73 ((Q7.out.block _ (Array.getElem?_eq_some_iff.1 HB.out).1).trans HB.out) (by decide)); clear ou8 bl8))
                        go_roundw
                        case rel => exact ⟨j + 1, n + 4, a8, c8, by omega, rfl, by simp, hidOf (by rw [hn.out]; omega), hidOf (by rw [HX.out, ← List.append_assoc]; exact W8.out), B8⟩
                        case measure => simp [intOf]; omega
                      · have hlt : ¬ (j : Int) < 5 := by omega
                        go_wp2
                        go_roundw
                        case rel => exact ⟨j3 + 1, n, a, c, by omega, rfl, by simp, hidOf (by
                          have := HO.out
                          rw [show j = 5 by omega, List.take_of_length_le (by rw [hX5l.out]; omega)] at this
                          rw [HT3.out]; exact this)⟩
                        case measure => simp [intOf]; omega
                  · have hlt : ¬ (j : Int) < dn := by omega
                    have S5 : Hid (OuB w4 wr (.slice a n c) n (L4 ++ tdsB N m.D)) := hidOf (by
                      have := HO.out
                      rw [show j = dn by omega, List.take_of_length_le (by rw [hdn.out]; omega)] at this
                      exact this)
                    have HE : Hid (L4 ++ tdsB N m.D ++ byP N = wrB m) := hidOf (by
                      unfold wrB
                      rw [hN.out, hsn.out, hfn.out, hdn.out, hnl.out, hen.out, hL1.out, ← hL4.out, ← hL2.out]
                      simp only [List.append_assoc])
                    have hnb : n ≤ 20000000 := by
                      rw [← S5.out.len, List.length_append, tdsB_len, hdn.out]
                      have := hL4l.out
                      omega
                    obtain ⟨gn, rfl, HG⟩ : ∃ g, na = some ⟨g, 0, none⟩ ∧ Hid (∀ i u, (Lib.byteCells (byP N))[i]? = some u → w4.cell? ((⟨g, 0, none⟩ : Addr).add i) = some u) := by
                      have ow := W4.out
                      have h1 : 0 < nl := by rw [← hnl.out, byP_len]; exact szF_pos N
                      unfold OwB at ow
                      rw [hnl.out] at ow
                      rcases ow.2 with ⟨hv, he⟩ | ⟨g, cap, cur, hv, _⟩
                      · omega
                      · cases hv
                        exact ⟨g, rfl, hidOf fun i u hu => World.ownsRow.cells ow (g := g) rfl i u hu⟩
                    clear HO
                    go_wp2_with (at_builtin; refine app_C w4 _ rfl (.tmp 163) (.tmp 164) rfl a c n _ rfl S5.out ⟨gn, 0, none⟩ nl nc (byP N) hnl.out rfl (fun i u hu => cell_later S5.out.out (HG.out i u hu)) (by omega) ?_; intro a8 c8 w8 ou8 bl8; have W8 := hidOf ou8; clear ou8 bl8)
                    go_ret3
                    have h8 := W8.out
                    rw [HE.out] at h8
                    have hlen := h8.len
                    refine ⟨a8, c8, by rw [hlen]; rfl, ?_, (Oq.out.trans P4.out).trans h8.out⟩
                    unfold OwB
                    rw [hlen]
                    exact owns_base17 (B := w4.heap.size) h8.own (Oq.out.trans P4.out).size
theorem refWrite_ok (m : Img) (w : World) (ta fa da : Option Addr) (tc fc dc : Nat) (h : ImA w ta fa da m) (htc : m.T.length ≤ tc) (hkD : ∀ x ∈ m.D, x.nm.length ≤ 4611686018427387904) (hok : Ok17 m) : Calls Tryz.prog 4 #[.agg #[.slice ta m.T.length tc, .slice fa m.F.length fc, .slice da m.D.length dc, .int .i64 m.en]] w fun e w' => ∃ a c, e = .returned (.tuple #[.slice a (wrB m).length c, .int .i64 0, .int .i64 0]) ∧ OwB w.heap.size (.slice a (wrB m).length c) (wrB m) w' ∧ Out w w' :=
  refWrite_w m w ta fa da tc fc dc _ _ _ _ _ _ _ _ (hidOf rfl) (hidOf rfl) (hidOf rfl) (hidOf rfl) (hidOf rfl) (hidOf rfl) (hidOf rfl) (hidOf rfl) h htc hkD hok
end Go.Proofs.YthififblejbleaaGreatDoor
