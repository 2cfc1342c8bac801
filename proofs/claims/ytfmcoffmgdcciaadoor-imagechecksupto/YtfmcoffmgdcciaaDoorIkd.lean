import Derived.Test.YtfmcoffmgdcciaaDoorIkc
import Derived.Test.YtfmcoffmgdcciaaDoorImm
namespace Go.Proofs.YtfmcoffmgdcciaaDoor
open Go.RowKit
set_option linter.unusedVariables false
set_option linter.unusedSimpArgs false
set_option maxHeartbeats 4000000 in
theorem refFits_any (x : Ins) (w : World) : Calls Tryd.prog 23 #[.agg #[.int .i64 x.o, .int .i64 x.d, .int .i64 x.s, .int .i64 x.f, .int .i64 x.i]] w fun e w' => e = .returned (.bool (fitI x)) ∧ Out w w' := by
  obtain ⟨o, d, s, f, i⟩ := x
  simp only
  have CW : Hid (∀ wx, Calls Tryd.prog 40 #[.agg #[.int .i64 o, .int .i64 d, .int .i64 s, .int .i64 f, .int .i64 i]] wx fun e w' => e = .returned (.bool (isW o)) ∧ Out wx w') := hidOf fun wx => refWide_any wx o d s f i
  have HF : Hid (fitI ⟨o, d, s, f, i⟩ = ((decide (0 ≤ o) && decide (o ≤ 255)) && (decide (0 ≤ d) && decide (d ≤ 15)) && (decide (0 ≤ s) && decide (s ≤ 15)) && (decide (-32768 ≤ f) && decide (f ≤ 32767)) && (isW o || (decide (-2147483648 ≤ i) && decide (i ≤ 2147483647))))) := hidOf rfl
  generalize fitI ⟨o, d, s, f, i⟩ = M at *
  generalize isW o = bw at *
  obtain ⟨w1, hw1⟩ : ∃ w1, Hid (w1 = w.alloc (.cells #[.int .i64 o, .int .i64 d, .int .i64 s, .int .i64 f, .int .i64 i] 40)) := ⟨_, rfl⟩
  have c0 : w1.cell? ⟨w.heap.size, 0, none⟩ = some (.int .i64 o) := by rw [hw1.out]; exact cell_fresh w _ _ 0 _ rfl
  have c1 : w1.cell? ⟨w.heap.size, 1, none⟩ = some (.int .i64 d) := by rw [hw1.out]; exact cell_fresh w _ _ 1 _ rfl
  have c2 : w1.cell? ⟨w.heap.size, 2, none⟩ = some (.int .i64 s) := by rw [hw1.out]; exact cell_fresh w _ _ 2 _ rfl
  have c3 : w1.cell? ⟨w.heap.size, 3, none⟩ = some (.int .i64 f) := by rw [hw1.out]; exact cell_fresh w _ _ 3 _ rfl
  have c4 : w1.cell? ⟨w.heap.size, 4, none⟩ = some (.int .i64 i) := by rw [hw1.out]; exact cell_fresh w _ _ 4 _ rfl
  have O1 : Hid (Out w w1) := hidOf (by rw [hw1.out]; exact Out.alloc (Out.refl _) _)
  go_enter Tryd.func23, Tryd.ntmps23
  go_upto_region 1 with fail
  rw [← hw1.out]
  clear hw1
  cases bw
  · by_cases i0 : -2147483648 ≤ i
    · by_cases i1 : i ≤ 2147483647
      · go_upto_region 2 with (go_at_call 40; refine (CW.out _).mono ?_; rintro e w2 ⟨rfl, o2⟩; have d0 := cell_later o2 c0; have d1 := cell_later o2 c1; have d2 := cell_later o2 c2; have d3 := cell_later o2 c3; have d4 := cell_later o2 c4; have O2 := hidOf (O1.out.trans o2); clear o2 c0 c1 c2 c3 c4)
        go_wp2
        all_goals go_ret
        all_goals (refine ⟨congrArg (fun b => Ending.returned (Value.bool b)) ?_, O2.out⟩; rw [HF.out, Bool.eq_iff_iff]; simp only [Bool.and_eq_true, Bool.or_eq_true, decide_eq_true_eq, Bool.false_eq_true, false_or, true_or, and_true, false_iff, true_iff]; omega)
      · have hf : Hid (M = false) := hidOf (by rw [HF.out]; simp [i1])
        go_wp2_with (go_at_call 40; refine (CW.out _).mono ?_; rintro e w2 ⟨rfl, o2⟩; have d0 := cell_later o2 c0; have d1 := cell_later o2 c1; have d2 := cell_later o2 c2; have d3 := cell_later o2 c3; have d4 := cell_later o2 c4; have O2 := hidOf (O1.out.trans o2); clear o2 c0 c1 c2 c3 c4)
        all_goals go_ret
        all_goals (refine ⟨congrArg (fun b => Ending.returned (Value.bool b)) ?_, O2.out⟩; rw [hf.out])
    · have hf : Hid (M = false) := hidOf (by rw [HF.out]; simp [i0])
      go_wp2_with (go_at_call 40; refine (CW.out _).mono ?_; rintro e w2 ⟨rfl, o2⟩; have d0 := cell_later o2 c0; have d1 := cell_later o2 c1; have d2 := cell_later o2 c2; have d3 := cell_later o2 c3; have d4 := cell_later o2 c4; have O2 := hidOf (O1.out.trans o2); clear o2 c0 c1 c2 c3 c4)
      all_goals go_ret
      all_goals (refine ⟨congrArg (fun b => Ending.returned (Value.bool b)) ?_, O2.out⟩; rw [hf.out])
  · go_upto_region 2 with (go_at_call 40; refine (CW.out _).mono ?_; rintro e w2 ⟨rfl, o2⟩; have d0 := cell_later o2 c0; have d1 := cell_later o2 c1; have d2 := cell_later o2 c2; have d3 := cell_later o2 c3; have d4 := cell_later o2 c4; have O2 := hidOf (O1.out.trans o2); clear o2 c0 c1 c2 c3 c4)
    go_wp2
    all_goals go_ret
    all_goals (refine ⟨congrArg (fun b => Ending.returned (Value.bool b)) ?_, O2.out⟩; rw [HF.out, Bool.eq_iff_iff]; simp only [Bool.and_eq_true, Bool.or_eq_true, decide_eq_true_eq, Bool.false_eq_true, false_or, true_or, and_true, false_iff, true_iff]; omega)
set_option maxRecDepth 8000 in
set_option maxHeartbeats 4000000 in
theorem refCheck_any (m : Img) (w : World) (ta fa da : Option Addr) (tc fc dc : Nat) (h : ImA w ta fa da m) (hkD : ∀ x ∈ m.D, x.nm.length ≤ 4611686018427387904) : Calls Tryd.prog 9 #[.agg #[.slice ta m.T.length tc, .slice fa m.F.length fc, .slice da m.D.length dc, .int .i64 m.en]] w fun e w' => e = .returned (.tuple #[.int .i64 ((ckP m).1 : Nat), .int .i64 (ckP m).2]) ∧ Out w w' := by
  obtain ⟨a, er, hR⟩ : ∃ a er, Hid (ckP m = (a, er)) := ⟨_, _, hidOf rfl⟩
  rw [hR.out]
  simp only
  have C0 : Hid (∀ wx, Out w wx → Calls Tryd.prog 19 #[.agg #[.slice ta m.T.length tc, .slice fa m.F.length fc, .slice da m.D.length dc, .int .i64 m.en]] wx fun e w' => e = .returned (.int .i64 (rN (cntP m))) ∧ Out wx w') := hidOf fun wx o => refMany_any m wx ta fa da tc fc dc (h.t.out o) h.n
  have C1 : Hid (cntP m = none → ∀ wx, Out w wx → Calls Tryd.prog 20 #[.agg #[.slice ta m.T.length tc, .slice fa m.F.length fc, .slice da m.D.length dc, .int .i64 m.en]] wx fun e w' => e = .returned (.int .i64 (rN (namP m))) ∧ Out wx w') := hidOf fun hc wx o => refNamed_any m wx ta fa da tc fc dc (h.f.out o) (h.d.out o) (cnt_in hc).2.1 (cnt_in hc).2.2 (fun x hx => by have := (h.k x hx).1; omega) hkD
  have C2 : Hid (cntP m = none → ∀ wx, Out w wx → Calls Tryd.prog 21 #[.agg #[.slice ta m.T.length tc, .slice fa m.F.length fc, .slice da m.D.length dc, .int .i64 m.en]] wx fun e w' => e = .returned (.int .i64 (rN (funP m))) ∧ Out wx w') := hidOf fun hc wx o => refCut_any m wx ta fa da tc fc dc (h.f.out o) (cnt_in hc).2.1 (cnt_in hc).1
  have C3 : Hid (cntP m = none → ∀ wx, Out w wx → Calls Tryd.prog 22 #[.agg #[.slice ta m.T.length tc, .slice fa m.F.length fc, .slice da m.D.length dc, .int .i64 m.en]] wx fun e w' => e = .returned (.int .i64 (rN (tabP m))) ∧ Out wx w') := hidOf fun hc wx o => refShaped_any m wx ta fa da tc fc dc (h.d.out o) (cnt_in hc).2.2
  have CF : Hid (∀ x wx, Calls Tryd.prog 23 #[.agg #[.int .i64 x.o, .int .i64 x.d, .int .i64 x.s, .int .i64 x.f, .int .i64 x.i]] wx fun e w' => e = .returned (.bool (fitI x)) ∧ Out wx w') := hidOf fun x wx => refFits_any x wx
  have HT := hidOf h.t
  obtain ⟨w1, hw1⟩ : ∃ w1, Hid (w1 = w.alloc (.cells #[.slice ta m.T.length tc, .slice fa m.F.length fc, .slice da m.D.length dc, .int .i64 m.en] 26)) := ⟨_, rfl⟩
  have O1 : Hid (Out w w1) := hidOf (by rw [hw1.out]; exact Out.alloc (Out.refl _) _)
  have B1 : Hid (∀ wx, Out w1 wx → wx.cell? ⟨w.heap.size, 0, none⟩ = some (.slice ta m.T.length tc) ∧ wx.cell? ⟨w.heap.size, 1, none⟩ = some (.slice fa m.F.length fc) ∧ wx.cell? ⟨w.heap.size, 2, none⟩ = some (.slice da m.D.length dc) ∧ wx.cell? ⟨w.heap.size, 3, none⟩ = some (.int .i64 m.en)) := hidOf fun wx o => ⟨cell_later o (by rw [hw1.out]; exact cell_fresh w _ _ 0 _ rfl), cell_later o (by rw [hw1.out]; exact cell_fresh w _ _ 1 _ rfl), cell_later o (by rw [hw1.out]; exact cell_fresh w _ _ 2 _ rfl), cell_later o (by rw [hw1.out]; exact cell_fresh w _ _ 3 _ rfl)⟩
  clear h hkD
  unfold ckP at hR
  go_enter Tryd.func9, Tryd.ntmps9
  go_upto_region 1 with fail
  rw [← hw1.out]
  clear hw1
  obtain ⟨x0, x1, x2, x3⟩ := B1.out w1 (Out.refl _)
  have K0 : Hid (Calls Tryd.prog 19 #[.agg #[.slice ta m.T.length tc, .slice fa m.F.length fc, .slice da m.D.length dc, .int .i64 m.en]] w1 fun e w' => e = .returned (.int .i64 (rN (cntP m))) ∧ Out w1 w') := hidOf ((C0.out w1 (O1.out.trans (Out.refl _))).mono (fun e w' ⟨he, o⟩ => ⟨he, Out.trans (Out.refl _) o⟩))
  cases h0 : cntP m with
  | some j =>
    have hf : Hid (j = a ∧ 171 = er) := hidOf (by have := hR.out; rw [h0] at this; simp only [ptE, Prod.mk.injEq] at this; exact this)
    rw [h0] at K0
    simp only [rN] at K0
    have hj0 : (0 : Int) ≤ j := by omega
    go_wp2_with (go_at_call 19; refine (K0.out).mono ?_; rintro e v0 ⟨rfl, o0⟩)
    go_ret2
    exact ⟨by rw [← hf.out.1, ← hf.out.2]; rfl, O1.out.trans o0⟩
  | none =>
    rw [h0] at K0
    simp only [rN] at K0
    go_upto_region 4 with (go_at_call 19; refine (K0.out).mono ?_; rintro e v0 ⟨rfl, o0⟩)
    have P0 := hidOf o0
    clear K0 x0 x1 x2 x3
    obtain ⟨x0, x1, x2, x3⟩ := B1.out v0 o0
    clear o0
    have K1 : Hid (Calls Tryd.prog 20 #[.agg #[.slice ta m.T.length tc, .slice fa m.F.length fc, .slice da m.D.length dc, .int .i64 m.en]] v0 fun e w' => e = .returned (.int .i64 (rN (namP m))) ∧ Out w1 w') := hidOf ((C1.out h0 v0 (O1.out.trans P0.out)).mono (fun e w' ⟨he, o⟩ => ⟨he, Out.trans P0.out o⟩))
    cases h1 : namP m with
    | some j =>
      have hf : Hid (j = a ∧ 172 = er) := hidOf (by have := hR.out; rw [h0, h1] at this; simp only [ptE, Prod.mk.injEq] at this; exact this)
      rw [h1] at K1
      simp only [rN] at K1
      have hj0 : (0 : Int) ≤ j := by omega
      go_wp2_with (go_at_call 20; refine (K1.out).mono ?_; rintro e v1 ⟨rfl, o1⟩)
      go_ret2
      exact ⟨by rw [← hf.out.1, ← hf.out.2]; rfl, O1.out.trans o1⟩
    | none =>
      rw [h1] at K1
      simp only [rN] at K1
      go_upto_region 7 with (go_at_call 20; refine (K1.out).mono ?_; rintro e v1 ⟨rfl, o1⟩)
      have P1 := hidOf o1
      clear K1 x0 x1 x2 x3
      obtain ⟨x0, x1, x2, x3⟩ := B1.out v1 o1
      clear o1
      have K2 : Hid (Calls Tryd.prog 21 #[.agg #[.slice ta m.T.length tc, .slice fa m.F.length fc, .slice da m.D.length dc, .int .i64 m.en]] v1 fun e w' => e = .returned (.int .i64 (rN (funP m))) ∧ Out w1 w') := hidOf ((C2.out h0 v1 (O1.out.trans P1.out)).mono (fun e w' ⟨he, o⟩ => ⟨he, Out.trans P1.out o⟩))
      cases h2 : funP m with
      | some j =>
        have hf : Hid (j = a ∧ 173 = er) := hidOf (by have := hR.out; rw [h0, h1, h2] at this; simp only [ptE, Prod.mk.injEq] at this; exact this)
        rw [h2] at K2
        simp only [rN] at K2
        have hj0 : (0 : Int) ≤ j := by omega
        go_wp2_with (go_at_call 21; refine (K2.out).mono ?_; rintro e v2 ⟨rfl, o2⟩)
        go_ret2
        exact ⟨by rw [← hf.out.1, ← hf.out.2]; rfl, O1.out.trans o2⟩
      | none =>
        rw [h2] at K2
        simp only [rN] at K2
        go_upto_region 10 with (go_at_call 21; refine (K2.out).mono ?_; rintro e v2 ⟨rfl, o2⟩)
        have P2 := hidOf o2
        clear K2 x0 x1 x2 x3
        obtain ⟨x0, x1, x2, x3⟩ := B1.out v2 o2
        clear o2
        have K3 : Hid (Calls Tryd.prog 22 #[.agg #[.slice ta m.T.length tc, .slice fa m.F.length fc, .slice da m.D.length dc, .int .i64 m.en]] v2 fun e w' => e = .returned (.int .i64 (rN (tabP m))) ∧ Out w1 w') := hidOf ((C3.out h0 v2 (O1.out.trans P2.out)).mono (fun e w' ⟨he, o⟩ => ⟨he, Out.trans P2.out o⟩))
        cases h3 : tabP m with
        | some j =>
          have hf : Hid (j = a ∧ 174 = er) := hidOf (by have := hR.out; rw [h0, h1, h2, h3] at this; simp only [ptE, Prod.mk.injEq] at this; exact this)
          rw [h3] at K3
          simp only [rN] at K3
          have hj0 : (0 : Int) ≤ j := by omega
          go_wp2_with (go_at_call 22; refine (K3.out).mono ?_; rintro e v3 ⟨rfl, o3⟩)
          go_ret2
          exact ⟨by rw [← hf.out.1, ← hf.out.2]; rfl, O1.out.trans o3⟩
        | none =>
          rw [h3] at K3
          simp only [rN] at K3
          go_upto_region 13 with (go_at_call 22; refine (K3.out).mono ?_; rintro e v3 ⟨rfl, o3⟩)
          have P3 := hidOf o3
          clear K3 x0 x1 x2 x3
          obtain ⟨x0, x1, x2, x3⟩ := B1.out v3 o3
          clear o3
          have hE : Hid ((if m.en < 0 ∨ (m.F.length : Int) ≤ m.en then (0, 175) else ptE (insP m) 176 (0, 0)) = (a, er)) := hidOf (by
            have := hR.out
            rw [h0, h1, h2, h3] at this
            simp only [ptE] at this
            unfold entP at this
            split at this
            · rename_i hh
              rw [if_pos (by
                by_cases hq : m.en < 0 ∨ (m.F.length : Int) ≤ m.en
                · exact hq
                · rw [if_neg hq] at hh; cases hh)]
              by_cases hq : m.en < 0 ∨ (m.F.length : Int) ≤ m.en
              · rw [if_pos hq] at hh; cases hh; exact this
              · rw [if_neg hq] at hh; cases hh
            · rename_i hh
              rw [if_neg (by intro hq; rw [if_pos hq] at hh; cases hh)]
              exact this)
          clear hR C0 C1 C2 C3
          by_cases e0 : m.en < 0
          · have hf : Hid (0 = a ∧ 175 = er) := hidOf (by have := hE.out; rw [if_pos (.inl e0)] at this; simpa using this)
            go_wp2
            go_ret2
            exact ⟨by rw [← hf.out.1, ← hf.out.2]; rfl, O1.out.trans P3.out⟩
          · by_cases e1 : (m.F.length : Int) ≤ m.en
            · have hf : Hid (0 = a ∧ 175 = er) := hidOf (by have := hE.out; rw [if_pos (.inr e1)] at this; simpa using this)
              go_wp2
              go_ret2
              exact ⟨by rw [← hf.out.1, ← hf.out.2]; rfl, O1.out.trans P3.out⟩
            · have hI : Hid (ptE (insP m) 176 (0, 0) = (a, er)) := hidOf (by have := hE.out; rw [if_neg (by rintro (h | h) <;> contradiction)] at this; exact this)
              have hTn := (cnt_in h0).1
              unfold insP at hI
              obtain ⟨n, hn⟩ : ∃ n, Hid (n = m.T.length) := ⟨_, rfl⟩
              rw [← hn.out] at hI hTn x0 B1 ⊢
              clear hE
              go_wp2
              go_loopw [5] (fun v wr => ∃ k : Nat, k ≤ n ∧ v = .int .i64 k ∧ Hid (∀ j, j < k → inB m.T j = false) ∧ Hid (Out w1 wr)) (fun v _ => n - (intOf v).toNat)
              case atStart => exact ⟨0, by omega, rfl, hidOf (fun j hj => by omega), P3⟩
              case round =>
                obtain ⟨k, hk, rfl, hg, hor⟩ := hrel
                obtain ⟨z0, z1, z2, z3⟩ := B1.out wr hor.out
                by_cases hkl : k < n
                · have hlt : (k : Int) < n := by omega
                  obtain ⟨x, hx⟩ : ∃ x, m.T[k]? = some x := ⟨_, List.getElem?_eq_getElem (by rw [← hn.out]; exact hkl)⟩
                  obtain ⟨b, off, rfl, q0, q1, q2, q3, q4⟩ := (HT.out.out (O1.out.trans hor.out)).get hx
                  have hB : inB m.T k = !fitI x := by simp [inB, hx]
                  have CX := hidOf (CF.out x wr)
                  cases hbf : fitI x
                  · rw [hbf] at CX hB
                    have hf : Hid (k = a ∧ 176 = er) := hidOf (by have := hI.out; rw [fstB_some hkl hg.out hB] at this; simpa [ptE] using this)
                    clear hB hI
                    go_wp2_with (go_at_call 23; refine CX.out.mono ?_; rintro e v5 ⟨rfl, o5⟩)
                    go_ret2
                    exact ⟨by rw [← hf.out.1, ← hf.out.2]; rfl, (O1.out.trans hor.out).trans o5⟩
                  · rw [hbf] at CX hB
                    have Hg2 : Hid (∀ j, j < k + 1 → inB m.T j = false) := hidOf (fun j hj => by
                      by_cases e : j = k
                      · rw [e, hB]; rfl
                      · exact hg.out j (by omega))
                    clear hB
                    go_wp2_with (go_at_call 23; refine CX.out.mono ?_; rintro e v5 ⟨rfl, o5⟩)
                    go_roundw
                    case rel => exact ⟨k + 1, by omega, by simp, Hg2, hidOf (hor.out.trans o5)⟩
                    case measure => simp [intOf]; omega
                · have hlt : ¬ (k : Int) < n := by omega
                  have hf : Hid (0 = a ∧ 0 = er) := hidOf (by have := hI.out; rw [fstB_none fun j hj => hg.out j (by omega)] at this; simpa [ptE] using this)
                  go_wp2
                  go_ret2
                  exact ⟨by rw [← hf.out.1, ← hf.out.2]; rfl, O1.out.trans hor.out⟩
end Go.Proofs.YtfmcoffmgdcciaaDoor
