import Derived.Test.YtfmcoffmgdcciaaDoorIms
namespace Go.Proofs.YtfmcoffmgdcciaaDoor
open Go.RowKit
set_option linter.unusedVariables false
set_option linter.unusedSimpArgs false
set_option maxRecDepth 8000 in
set_option maxHeartbeats 4000000 in
theorem layFuncs_any (wT w : World) (p g o : Nat) (B : List UInt8) (m : Img) (N : List (List UInt8)) (ta fa da : Option Addr) (tc fc dc pg pn pc : Nat) (h : Tp w p g o B) (hT : InsA wT ta m.T) (hF : FnA wT fa m.F) (ho : Out wT w) (hp : wT.heap.size ≤ p) (hg : wT.heap.size ≤ g) (hcut : CutK m.T m.F) (htc : m.T.length ≤ tc)
    (hpl : ∀ (k : Nat) (x : Fn), m.F[k]? = some x → w.cell? ⟨pg, k, none⟩ = some (.int .i64 (plF 1 N x.nm : Nat))) (npp : ¬ pg = p) (npg : ¬ pg = g) (hpn : m.F.length ≤ pn) (hpc : pn ≤ pc) (hr : o + 16 * m.F.length ≤ B.length) (hB : B.length ≤ 1000000000) (hFl : m.F.length ≤ 4096) (hpb : pn ≤ 100000) (hTl : slotsP m.T ≤ 1048576) :
    Calls Tryd.prog 53 #[.pointer (some ⟨p, 0, none⟩), .agg #[.slice ta m.T.length tc, .slice fa m.F.length fc, .slice da m.D.length dc, .int .i64 m.en], .slice (some ⟨pg, 0, none⟩) pn pc] w fun e w' => (∃ v, e = .returned v) ∧ Tp w' p g (o + 16 * m.F.length) (putB B o (fnsB m.T N 0 m.F)) ∧ Chg (fun k => k = p ∨ k = g) w w' := by
  have HSL := hidOf (slF_le m.T m.F hTl)
  have HCU := hidOf hcut
  have htl2 : m.T.length ≤ 1048576 := by have : m.T.length ≤ slotsP m.T := by unfold slotsP; omega
                                         omega
  generalize m.D.length = dn at *
  generalize m.en = en at *
  generalize m.F = F at *
  generalize m.T = T at *
  obtain ⟨n, hn⟩ : ∃ n, Hid (n = F.length) := ⟨_, rfl⟩
  obtain ⟨tn, htn⟩ : ∃ n, Hid (n = T.length) := ⟨_, rfl⟩
  rw [← hn.out] at hpn hr hFl ⊢
  rw [← htn.out] at htc htl2 ⊢
  have hpl0 := (Array.getElem?_eq_some_iff.1 h.t).1
  have hgl0 := (Array.getElem?_eq_some_iff.1 h.b).1
  have HPL := hidOf hpl
  clear hpl hcut hTl
  obtain ⟨w1, hw1⟩ : ∃ w1, Hid (w1 = w.alloc (Obj.cells #[Value.slice ta tn tc, Value.slice fa n fc, Value.slice da dn dc, Value.int IntKind.i64 en] 26)) := ⟨_, rfl⟩
  have T1 : Hid (Tp w1 p g o B) := hidOf (by rw [hw1.out]; exact h.out (Out.alloc (Out.refl _) _))
  have O1 : Hid (Out wT w1) := hidOf (by rw [hw1.out]; exact Out.alloc ho _)
  have O01 : Hid (Out w w1) := hidOf (by rw [hw1.out]; exact Out.alloc (Out.refl _) _)
  have hs1 : w1.heap.size = w.heap.size + 1 := by rw [hw1.out, size_alloc]
  have X0 : Hid (w1.cell? ⟨w.heap.size, 0, none⟩ = some (.slice ta tn tc)) := hidOf (by rw [hw1.out]; exact cell_fresh w _ _ 0 _ rfl)
  have x1 : w1.cell? ⟨w.heap.size, 1, none⟩ = some (.slice fa n fc) := by rw [hw1.out]; exact cell_fresh w _ _ 1 _ rfl
  go_enter Tryd.func53, Tryd.ntmps53
  go_upto_region 1 with fail
  rw [← hw1.out]
  go_wp2
  go_loopw [6, 14] (fun s i wr => ∃ k sl : Nat, k ≤ n ∧ s = .int .i64 sl ∧ i = .int .i64 k ∧ sl ≤ 4294967296 ∧ Hid (sl = slF T (F.take k)) ∧ Hid (Tp wr p g (o + 16 * k) (putB B o (fnsB T N 0 (F.take k)))) ∧ Hid (Chg (fun k => k = p ∨ k = g) w1 wr)) (fun _ i _ => n - (intOf i).toNat)
  case atStart => exact ⟨0, 0, by omega, rfl, rfl, by omega, hidOf (by simp [slF]), hidOf (by simpa [fnsB, putB_nil] using T1.out), hidOf (Chg.refl _ _)⟩
  case round =>
    obtain ⟨k, sl, hk, rfl, rfl, hsl, hsls, ht, hc⟩ := hrel
    by_cases hkl : k < n
    · have hlt : (k : Int) < n := by omega
      have hltp : (k : Int) < pn := by omega
      obtain ⟨x, hx⟩ : ∃ x, F[k]? = some x := ⟨_, List.getElem?_eq_getElem (by rw [← hn.out]; exact hkl)⟩
      have HO : Hid (Out wT wr) := hidOf (out_chg O1.out hc.out (fun k hk => by omega))
      obtain ⟨b, off, rfl, q0, q1, q2, q3⟩ := (hF.out HO.out).get hx
      have q5 : wr.cell? ⟨pg, k, none⟩ = some (.int .i64 (plF 1 N x.nm : Nat)) := hc.out.cell (cell_later O01.out (HPL.out k x hx)) (by simp; omega)
      have y0 : wr.cell? ⟨w.heap.size, 0, none⟩ = some (.slice ta tn tc) := hc.out.cell X0.out (by simp; omega)
      obtain ⟨fi, ct, hfi, hct, hc1, hc2⟩ := HCU.out k x hx
      rw [← htn.out] at hc2
      have HT2 : Hid (fnsB T N 0 (F.take (k + 1)) = fnsB T N 0 (F.take k) ++ fnRow N sl (slotsP (bodP T x)) x ∧ slF T (F.take (k + 1)) = sl + slotsP (bodP T x)) := hidOf (by
        rw [take_snoc hx, fns_snoc, slF_app, hsls.out]
        exact ⟨by simp, by simp [slF]⟩)
      have hslb := HSL.out (k + 1) (by rw [← hn.out]; omega)
      have hbod : bodP T x = (T.drop fi).take ct := by unfold bodP; rw [hfi, hct]; simp
      obtain ⟨tb, toff, rfl, hTs⟩ := (hT.out HO.out).sub (i := fi) (c := ct) hc1 (by rw [← htn.out]; exact hc2)
      rw [← hbod] at hTs
      have hbl : (bodP T x).length = ct := by rw [hbod, List.length_take, List.length_drop, ← htn.out]; omega
      obtain ⟨pl, hpl⟩ : ∃ pl : Nat, Hid (pl = plF 1 N x.nm) := ⟨_, rfl⟩
      obtain ⟨sc, hsc⟩ : ∃ sc : Nat, Hid (sc = slotsP (bodP T x)) := ⟨_, rfl⟩
      rw [← hsc.out] at HT2
      rw [HT2.out.2] at hslb
      rw [← hpl.out] at q5
      obtain ⟨nm, ob, fi', ct'⟩ := x
      simp only at q0 q1 q2 q3 hfi hct
      subst hfi hct
      have CS : Hid (∀ wx, Out wr wx → Calls Tryd.prog 48 #[.slice (some ⟨tb, toff + fi * 5, none⟩) ct (tc - fi)] wx fun e w' => e = .returned (.int .i64 sc) ∧ Out wx w') := hidOf (fun wx ox => by
        have := slotsI_any wx (some ⟨tb, toff + fi * 5, none⟩) ct (tc - fi) _ hbl (hTs.out ox) (by omega)
        rw [← hsc.out] at this; exact this)
      have hpgl : pg < wr.heap.size := World.block_lt_of_cell? wr _ q5
      have hpw : p < wr.heap.size := by have := hc.out.size; omega
      have hgw : g < wr.heap.size := by have := hc.out.size; omega
      have hww : w.heap.size < wr.heap.size := by have := hc.out.size; omega
      obtain ⟨L, hL⟩ : ∃ L, Hid (L = putB B o (fnsB T N 0 (F.take k))) := ⟨_, rfl⟩
      have hlk : Hid ((fnsB T N 0 (F.take k)).length = 16 * k) := hidOf (by rw [fnsB_len, List.length_take, ← hn.out]; omega)
      have HLl : Hid (L.length = B.length) := hidOf (by rw [hL.out]; exact putB_len (by rw [hlk.out]; omega))
      rw [← hL.out] at ht
      clear hx hF hT hTs hbod hbl
      have s1 : (fi : Int) + ct ≤ tc := by omega
      have s2 : fi + ct ≤ tc := by omega
      have s3 : (fi : Int) ≤ fi + ct := by omega
      have s4 : ((fi : Int) + (ct : Int)).toNat = fi + ct := by omega
      have s5 : fi + ct - fi = ct := by omega
      go_upto_region 6 with (go_at_call 48; refine (CS.out _ (Out.alloc (Out.refl _) _)).mono ?_; rintro e w4 ⟨rfl, o4⟩)
      have OW4 : Hid (Out wr w4) := hidOf (Out.trans (Out.alloc (Out.refl _) _) o4)
      have r0 : w4.cell? ⟨pg, k, none⟩ = some (.int .i64 pl) := cell_later OW4.out q5
      have r1 : w4.cell? ⟨wr.heap.size, 1, none⟩ = some (.int .i64 ob) := cell_later o4 (cell_fresh wr _ _ 1 _ rfl)
      have hs4 : wr.heap.size + 1 ≤ w4.heap.size := by have := o4.size; rw [size_alloc] at this; exact this
      have hne1 : ¬ w4.heap.size = pg := by omega
      have hne2 : ¬ w4.heap.size = wr.heap.size := by omega
      clear o4 q0 q1 q2 q3 q5 y0 CS
      go_region_held3 (fun wx => wx.cell? ⟨pg, k, none⟩ = some (.int .i64 pl) ∧ wx.cell? ⟨wr.heap.size, 1, none⟩ = some (.int .i64 ob)) (go_keep) (fail)
      obtain ⟨w5, hw5⟩ : ∃ w5, Hid (w5 = (w4.alloc (.cells #[.int .i64 pl, .int .i64 ob, .int .i64 sl, .int .i64 sc] 113)).drew) := ⟨_, rfl⟩
      rw [← hw5.out]
      have O5 : Hid (Out wr w5) := hidOf (by rw [hw5.out]; exact Out.drew (Out.alloc OW4.out _))
      have hs5 : w4.heap.size + 1 ≤ w5.heap.size := by rw [hw5.out, heap_drew', size_alloc]; exact Nat.le_refl _
      have V5 : Hid (∀ (i : Nat) (z : Int), ([(pl : Int), ob, (sl : Int), (sc : Int)] : List Int)[i]? = some z → w5.cell? ⟨w4.heap.size, i, none⟩ = some (.int .i64 z)) := hidOf (fun i z hz => by
        have e : w5.cell? ⟨w4.heap.size, i, none⟩ = (#[.int .i64 pl, .int .i64 ob, .int .i64 sl, .int .i64 sc] : Array Value)[i]? := by rw [hw5.out]; exact cell_fresh w4 _ _ i _ rfl
        rw [e]
        rcases i with _ | _ | _ | _ | i <;> simp at hz ⊢ <;> exact hz)
      have CF : Hid (∀ wx, Calls Tryd.prog 68 #[.pointer (some ⟨w4.heap.size, 0, none⟩)] wx (FldE w4.heap.size 4 wx)) := fun wx => funcFields_any _ wx
      have NU : Hid (∀ w6 q, Out w5 w6 → w5.heap.size ≤ q → (∀ i, i < 4 → w6.cell? ⟨q, i, none⟩ = some (.pointer (some ⟨w4.heap.size, i, none⟩))) → Calls Tryd.prog 50 #[.pointer (some ⟨p, 0, none⟩), .slice (some ⟨q, 0, none⟩) 4 4] w6 fun e w' => (∃ v, e = .returned v) ∧ Tp w' p g (o + 16 * k + 4 * 4) (putB L (o + 16 * k) (([(pl : Int), ob, (sl : Int), (sc : Int)] : List Int).flatMap b4)) ∧ Chg (fun k => k = p ∨ k = g) w6 w') := hidOf (fun w6 q o6 hq hf => numFW w6 p g _ q w4.heap.size 4 L [(pl : Int), ob, (sl : Int), (sc : Int)] (ht.out.out (O5.out.trans o6)) hf (fun i x hx => cell_later o6 (V5.out i x hx)) rfl (by omega) (by omega) (by rw [HLl.out]; omega) (by rw [HLl.out]; omega))
      have E5 : Hid (putB L (o + 16 * k) (([(pl : Int), ob, (sl : Int), (sc : Int)] : List Int).flatMap b4) = putB B o (fnsB T N 0 (F.take (k + 1))) ∧ o + 16 * k + 4 * 4 = o + 16 * (k + 1)) := hidOf (by
        refine ⟨?_, by omega⟩
        have hr2 := hr
        have e : o + 16 * k = o + (fnsB T N 0 (F.take k)).length := by rw [hlk.out]
        have e5 : (([(pl : Int), ob, (sl : Int), (sc : Int)] : List Int).flatMap b4) = fnRow N sl sc ⟨nm, ob, fi, ct⟩ := by simp only [List.flatMap_cons, List.flatMap_nil, List.append_nil, fnRow, hpl.out]
        rw [hL.out, e, e5, putB_put (by rw [hlk.out, fnRow_len]; omega), HT2.out.1])
      have hsn : Hid (sl + sc = slF T (F.take (k + 1))) := hidOf HT2.out.2.symm
      have hsb : sl + sc ≤ 4294967296 := by omega
      have hsbi : (sl : Int) + sc ≤ 4294967296 := by omega
      go_wp2_with (first | (go_at_call 68; refine (CF.out _).mono ?_; rintro e w6 ⟨q, rfl, hq5, hq6, hcq, o6⟩) | (go_at_call 50; refine (NU.out _ _ o6 hq5 hcq).mono ?_; rintro e w7 ⟨⟨rv, rfl⟩, t7, c7⟩))
      go_roundw
      case rel => exact ⟨k + 1, sl + sc, by omega, by simp, by simp, hsb, hsn, hidOf (by rw [← E5.out.1, ← E5.out.2]; exact t7), hidOf ((hc.out.trans (T := fun _ => False) (Chg.of_out (O5.out.trans o6)) (fun _ h _ => h.elim)).trans c7 (fun x h _ => h))⟩
      case measure => simp [intOf]; omega
    · have hlt : ¬ (k : Int) < n := by omega
      have hkn : Hid (k = n) := hidOf (by omega)
      go_wp2
      go_end0
      have hA : F.take k = F := List.take_of_length_le (by rw [← hn.out]; have := hkn.out; omega)
      exact ⟨⟨_, rfl⟩, by have := ht.out; rw [hA, hkn.out] at this; exact this, Chg.trans (T := fun k => k = p ∨ k = g) (Chg.of_out O01.out) hc.out (fun x h _ => h)⟩
end Go.Proofs.YtfmcoffmgdcciaaDoor
