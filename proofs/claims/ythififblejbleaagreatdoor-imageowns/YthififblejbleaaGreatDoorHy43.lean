import Derived.Test.YthififblejbleaaGreatDoorHy42
import Derived.Test.YthififblejbleaaGreatDoorHy32
namespace Go.Proofs.YthififblejbleaaGreatDoor
open Go.RowKit
set_option linter.unusedVariables false
set_option linter.unusedSimpArgs false
theorem app_B {ops : Array Oper} {rest : List Oper} {o : Oper} {ac : Act} {Q : Exit → Act → World → Prop} (w0 wx : World) (hgd : o.guard = none) (s x : Operand)
    (ho : o.op = .call { callee := .builtin .append, args := #[s, x], argTypes := #[27, 27] })
    (av : Option Addr) (c n : Nat) (L : List UInt8) (hn : L.length = n) (hs : ac.eval s = .slice av n c) (hown : wx.ownsRow w0.heap.size 5 1 (.slice av n c) n (Lib.byteCells L)) (ho0 : Out w0 wx)
    (ad : Addr) (m cm : Nat) (M : List UInt8) (hm : M.length = m) (hx : ac.eval x = .slice (some ad) m cm) (hc : ∀ j u, (Lib.byteCells M)[j]? = some u → wx.cell? (ad.add j) = some u) (hsz : n + m ≤ 1000000000)
    (k : ∀ a' c' w', w'.ownsRow w0.heap.size 5 1 (.slice a' (n + m) c') (n + m) (Lib.byteCells (L ++ M)) → Out w0 w' → wpList Tryz.prog ops Q rest (ac.put o.dst (.slice a' (n + m) c')) w') : wpList Tryz.prog ops Q (o :: rest) ac wx := by
  obtain ⟨i0, hi0, hz0, hz1, hz2⟩ := info_parts infoB
  refine wpList_append_own wx hgd s x 27 ho w0.heap.size 5 i0 _ 1 1 Tryz.underlying27 hi0 hz0 hz1 hz2 rfl (by decide) (.slice av n c) n (Lib.byteCells L) hs hown ad m cm (Lib.byteCells M) hx (by rw [Lib.byteCells_length, hm, Nat.mul_one]) hc (bc_one M) (by unfold maxLen; omega) (by omega) ho0.size ?_
  intro v' w' h1 h2 _
  have h3 := out_row (w0 := w0) ho0 hown h2
  obtain ⟨a', c', rfl⟩ := own_form h1
  refine k a' c' w' ?_ h3
  rw [show Lib.byteCells (L ++ M) = Lib.byteCells L ++ Lib.byteCells M by simp [Lib.byteCells]]
  exact h1
def LdE (M : List UInt8) (n : Nat) (w : World) (e : Ending) (w' : World) : Prop := ∃ (g c : Nat), e = .returned (.slice (some ⟨g, 0, none⟩) n c) ∧ (∀ j u, (Lib.byteCells M)[j]? = some u → w'.cell? ((⟨g, 0, none⟩ : Addr).add j) = some u) ∧ Out w w'
theorem laidE_any (x : Int) (n : Nat) (h0 : 0 < n) (hn : n ≤ 4) (w : World) : Calls Tryz.prog 21 #[.int .i64 x, .int .i64 n] w (LdE ((b4 x).take n) n w) := by
  refine (laid_any x n hn w).mono ?_
  rintro e w' ⟨a, c, rfl, ow, o⟩
  rcases ow.2 with ⟨hv, h⟩ | ⟨g, cap, cur, hv, _⟩
  · omega
  · cases hv
    exact ⟨g, c, rfl, fun j u hu => by
      have := World.ownsRow.cells ow (g := g) rfl j u hu
      exact this, o⟩
theorem b1_eq {y z : Int} (h : y % 256 = z % 256) : b1 y = b1 z := by unfold b1; rw [h]
theorem fld_b4 {x : Ins} (h : FitI x) : b4 (fldI x) = [b1 x.o, b1 (x.d + 16 * x.s)] ++ (b4 x.f).take 2 := by
  have h1 := h.o0; have h2 := h.o1; have h3 := h.d0; have h4 := h.d1; have h5 := h.s0; have h6 := h.s1
  show [b1 (fldI x), b1 (fldI x / 256), b1 (fldI x / 65536), b1 (fldI x / 16777216)] = [b1 x.o, b1 (x.d + 16 * x.s), b1 x.f, b1 (x.f / 256)]
  unfold fldI
  rw [b1_eq (show (x.o + 256 * x.d + 4096 * x.s + 65536 * x.f) % 256 = x.o % 256 by omega), b1_eq (show (x.o + 256 * x.d + 4096 * x.s + 65536 * x.f) / 256 % 256 = (x.d + 16 * x.s) % 256 by omega), b1_eq (show (x.o + 256 * x.d + 4096 * x.s + 65536 * x.f) / 65536 % 256 = x.f % 256 by omega), b1_eq (show (x.o + 256 * x.d + 4096 * x.s + 65536 * x.f) / 16777216 % 256 = x.f / 256 % 256 by omega)]
theorem insB_parts {x : Ins} (h : FitI x) : insB x = ([b1 x.o, b1 (x.d + 16 * x.s)] ++ (b4 x.f).take 2) ++ b4 x.i ++ (if isW x.o then [0, 0, 0, 0] ++ b4 (x.i / 4294967296) else []) := by
  unfold insB
  rw [fld_b4 h, show b4 0 = [0, 0, 0, 0] from rfl]
  simp only [List.append_assoc]
set_option maxRecDepth 20000 in
set_option maxHeartbeats 2000000 in
theorem slot_any (x : Ins) (w : World) (h : FitI x) : Calls Tryz.prog 22 #[.agg #[.int .i64 x.o, .int .i64 x.d, .int .i64 x.s, .int .i64 x.f, .int .i64 x.i]] w (LdE (insB x) (insB x).length w) := by
  have hP := hidOf (insB_parts h)
  have h1 := h.o0; have h2 := h.o1; have h3 := h.d0; have h4 := h.d1; have h5 := h.s0; have h6 := h.s1
  obtain ⟨o, d, s, f, i⟩ := x
  simp only at *
  clear h
  obtain ⟨IB, hIB⟩ : ∃ B, Hid (B = insB ⟨o, d, s, f, i⟩) := ⟨_, rfl⟩
  rw [← hIB.out] at hP ⊢
  obtain ⟨nB, hnB⟩ : ∃ n, Hid (n = IB.length) := ⟨_, rfl⟩
  rw [← hnB.out]
  have CW : Hid (∀ wx, Calls Tryz.prog 49 #[.agg #[.int .i64 o, .int .i64 d, .int .i64 s, .int .i64 f, .int .i64 i]] wx fun e w' => e = .returned (.bool (isW o)) ∧ Out wx w') := hidOf fun wx => refWide_any wx o d s f i
  have C2 : Hid (∀ wx y, Calls Tryz.prog 21 #[.int .i64 y, .int .i64 2] wx (LdE ((b4 y).take 2) 2 wx)) := hidOf fun wx y => laidE_any y 2 (by decide) (by decide) wx
  have C4 : Hid (∀ wx y, Calls Tryz.prog 21 #[.int .i64 y, .int .i64 4] wx (LdE (b4 y) 4 wx)) := hidOf fun wx y => laidE_any y 4 (by decide) (by decide) wx
  have hw8 : ∀ y : Int, IntKind.u8.wrap y = ((b1 y).toNat : Int) := wrap_b1
  obtain ⟨wq, hwq⟩ : ∃ w1, Hid (w1 = w.alloc (.cells #[.int .i64 o, .int .i64 d, .int .i64 s, .int .i64 f, .int .i64 i] 67)) := ⟨_, rfl⟩
  obtain ⟨w1, hw1⟩ : ∃ w1, Hid (w1 = wq.alloc (.cells #[.int .u8 ((b1 o).toNat : Int), .int .u8 ((b1 (d + 16 * s)).toNat : Int)] 5)) := ⟨_, rfl⟩
  have Oq : Hid (Out w wq) := hidOf (by rw [hwq.out]; exact Out.alloc (Out.refl _) _)
  have O1 : Hid (Out wq w1) := hidOf (by rw [hw1.out]; exact Out.alloc (Out.refl _) _)
  have szq : wq.heap.size = w.heap.size + 1 := by rw [hwq.out, size_alloc]
  have Bq : Hid (wq.heap[w.heap.size]? = some (.cells #[.int .i64 o, .int .i64 d, .int .i64 s, .int .i64 f, .int .i64 i] 67 (0, 0))) := hidOf (by rw [hwq.out]; exact heap_alloc_new w _)
  have BX : Hid (∀ wx : World, Out wq wx → wx.cell? ⟨w.heap.size, 0, none⟩ = some (.int .i64 o) ∧ wx.cell? ⟨w.heap.size, 1, none⟩ = some (.int .i64 d) ∧ wx.cell? ⟨w.heap.size, 2, none⟩ = some (.int .i64 s) ∧ wx.cell? ⟨w.heap.size, 3, none⟩ = some (.int .i64 f) ∧ wx.cell? ⟨w.heap.size, 4, none⟩ = some (.int .i64 i)) := hidOf fun wx ox => by
    have hb : wx.heap[w.heap.size]? = _ := (ox.block _ (Array.getElem?_eq_some_iff.1 Bq.out).1).trans Bq.out
    exact ⟨by rw [cell_atL hb]; rfl, by rw [cell_atL hb]; rfl, by rw [cell_atL hb]; rfl, by rw [cell_atL hb]; rfl, by rw [cell_atL hb]; rfl⟩
  have W1 : Hid (w1.ownsRow wq.heap.size 5 1 (.slice (some ⟨w.heap.size + 1, 0, none⟩) 2 2) 2 (Lib.byteCells [b1 o, b1 (d + 16 * s)])) := hidOf ⟨rfl, .inr ⟨w.heap.size + 1, 2, _, rfl, by omega, by rw [hw1.out, ← szq]; exact heap_alloc_new wq _, Nat.le_refl _, by decide, rfl, rfl⟩⟩
  have OW : ∀ {wa wb : World} {v : Value} {n : Nat} {V : List Value}, wa.ownsRow wq.heap.size 5 1 v n V → Out wa wb → wb.ownsRow wq.heap.size 5 1 v n V := fun h o => owns_chg (S := fun _ => False) h (fun _ _ h => h) (Chg.of_out o)
  have FIN : Hid (∀ (wz : World) (a : Option Addr) (n c : Nat) (M : List UInt8), IB = M → M.length = n → 0 < n → wz.ownsRow wq.heap.size 5 1 (.slice a n c) n (Lib.byteCells M) → Out wq wz → LdE IB nB w (.returned (.slice a n c)) wz) := hidOf fun wz a n c M hM hn h0 ow oz => by
    rw [hnB.out, hM, hn]
    rcases ow.2 with ⟨hv, h⟩ | ⟨g, cap, cur, hv, _⟩
    · omega
    · cases hv
      exact ⟨g, c, rfl, fun j u hu => World.ownsRow.cells ow (g := g) rfl j u hu, Oq.out.trans oz⟩
  obtain ⟨i0, i1, i2, i3, i4⟩ := BX.out w1 O1.out
  go_enter Tryz.func22, Tryz.ntmps22
  go_upto_region 2 with fail
  rw [← hwq.out, ← hw1.out]
  go_upto_region 3 with (first
    | (go_at_call 21; refine (C2.out _ _).mono ?_; rintro e w2 ⟨g2, k2, rfl, cc2, o2⟩; have K2 := hidOf cc2; have Q2 := hidOf o2; clear cc2 o2)
    | (at_builtin; refine app_B wq _ rfl (.tmp 15) (.tmp 18) rfl (some ⟨w.heap.size + 1, 0, none⟩) 2 2 ([b1 o, b1 (d + 16 * s)]) rfl rfl (OW W1.out Q2.out) (O1.out.trans Q2.out) ⟨g2, 0, none⟩ 2 k2 ((b4 f).take 2) rfl rfl (K2.out) (by decide) ?_; intro a3 c3 w3 own3 out3; have W3 := hidOf own3; have P3 := hidOf out3; clear own3 out3))
  clear i0 i1 i2 i3 i4
  obtain ⟨i0, i1, i2, i3, i4⟩ := BX.out w3 P3.out
  go_upto_region 4 with (first
    | (go_at_call 21; refine (C4.out _ _).mono ?_; rintro e w4 ⟨g4, k4, rfl, cc4, o4⟩; have K4 := hidOf cc4; have Q4 := hidOf o4; clear cc4 o4)
    | (at_builtin; refine app_B wq _ rfl (.tmp 20) (.tmp 23) rfl a3 c3 4 ([b1 o, b1 (d + 16 * s)] ++ (b4 f).take 2) rfl rfl (OW W3.out Q4.out) (P3.out.trans Q4.out) ⟨g4, 0, none⟩ 4 k4 (b4 i) rfl rfl (K4.out) (by decide) ?_; intro a5 c5 w5 own5 out5; have W5 := hidOf own5; have P5 := hidOf out5; clear own5 out5))
  clear i0 i1 i2 i3 i4
  obtain ⟨i0, i1, i2, i3, i4⟩ := BX.out w5 P5.out
  cases hw : isW o
  · rw [hw] at CW
    have HP : Hid (IB = ([b1 o, b1 (d + 16 * s)] ++ (b4 f).take 2) ++ b4 i) := hidOf (by have := hP.out; rw [hw] at this; simpa using this)
    go_wp2_with (go_at_call 49; refine (CW.out _).mono ?_; rintro e w6 ⟨rfl, o6⟩; have Q6 := hidOf o6; clear o6)
    go_ret
    exact FIN.out w6 a5 8 c5 _ HP.out rfl (by decide) (OW W5.out Q6.out) (P5.out.trans Q6.out)
  · rw [hw] at CW
    have HP : Hid (IB = ([b1 o, b1 (d + 16 * s)] ++ (b4 f).take 2) ++ b4 i ++ [0, 0, 0, 0] ++ b4 (i / 4294967296)) := hidOf (by have := hP.out; rw [hw] at this; simpa using this)
    go_upto_region 5 with (go_at_call 49; refine (CW.out _).mono ?_; rintro e w6 ⟨rfl, o6⟩; have Q6 := hidOf o6; clear o6)
    go_upto_region 6 with (at_builtin; refine app_B wq _ rfl (.tmp 27) (.tmp 28) rfl a5 c5 8 (([b1 o, b1 (d + 16 * s)] ++ (b4 f).take 2) ++ b4 i) rfl rfl (OW W5.out (Out.alloc Q6.out _)) (P5.out.trans (Out.alloc Q6.out _)) ⟨w6.heap.size, 0, none⟩ 4 4 ([0, 0, 0, 0]) rfl rfl (news_new w6 _ _ _ rfl) (by decide) ?_; intro a7 c7 w7 own7 out7; have W7 := hidOf own7; have P7 := hidOf out7; clear own7 out7)
    clear i0 i1 i2 i3 i4
    obtain ⟨i0, i1, i2, i3, i4⟩ := BX.out w7 P7.out
    go_wp2_with (first
      | (go_at_call 21; refine (C4.out _ _).mono ?_; rintro e w8 ⟨g8, k8, rfl, cc8, o8⟩; have K8 := hidOf cc8; have Q8 := hidOf o8; clear cc8 o8)
      | (at_builtin; refine app_B wq _ rfl (.tmp 30) (.tmp 34) rfl a7 c7 12 (([b1 o, b1 (d + 16 * s)] ++ (b4 f).take 2) ++ b4 i ++ [0, 0, 0, 0]) rfl rfl (OW W7.out Q8.out) (P7.out.trans Q8.out) ⟨g8, 0, none⟩ 4 k8 (b4 (i / 4294967296)) rfl rfl (K8.out) (by decide) ?_; intro a9 c9 w9 own9 out9; have W9 := hidOf own9; have P9 := hidOf out9; clear own9 out9))
    go_ret
    exact FIN.out w9 a9 16 c9 _ HP.out rfl (by decide) W9.out P9.out
set_option maxHeartbeats 4000000 in
theorem refFits_any (x : Ins) (w : World) : Calls Tryz.prog 47 #[.agg #[.int .i64 x.o, .int .i64 x.d, .int .i64 x.s, .int .i64 x.f, .int .i64 x.i]] w fun e w' => e = .returned (.bool (fitI x)) ∧ Out w w' := by
  obtain ⟨o, d, s, f, i⟩ := x
  simp only
  have CW : Hid (∀ wx, Calls Tryz.prog 49 #[.agg #[.int .i64 o, .int .i64 d, .int .i64 s, .int .i64 f, .int .i64 i]] wx fun e w' => e = .returned (.bool (isW o)) ∧ Out wx w') := hidOf fun wx => refWide_any wx o d s f i
  have HF : Hid (fitI ⟨o, d, s, f, i⟩ = ((decide (0 ≤ o) && decide (o ≤ 255)) && (decide (0 ≤ d) && decide (d ≤ 15)) && (decide (0 ≤ s) && decide (s ≤ 15)) && (decide (-32768 ≤ f) && decide (f ≤ 32767)) && (isW o || (decide (-2147483648 ≤ i) && decide (i ≤ 2147483647))))) := hidOf rfl
  generalize fitI ⟨o, d, s, f, i⟩ = M at *
  generalize isW o = bw at *
  obtain ⟨w1, hw1⟩ : ∃ w1, Hid (w1 = w.alloc (.cells #[.int .i64 o, .int .i64 d, .int .i64 s, .int .i64 f, .int .i64 i] 67)) := ⟨_, rfl⟩
  have c0 : w1.cell? ⟨w.heap.size, 0, none⟩ = some (.int .i64 o) := by rw [hw1.out]; exact cell_fresh w _ _ 0 _ rfl
  have c1 : w1.cell? ⟨w.heap.size, 1, none⟩ = some (.int .i64 d) := by rw [hw1.out]; exact cell_fresh w _ _ 1 _ rfl
  have c2 : w1.cell? ⟨w.heap.size, 2, none⟩ = some (.int .i64 s) := by rw [hw1.out]; exact cell_fresh w _ _ 2 _ rfl
  have c3 : w1.cell? ⟨w.heap.size, 3, none⟩ = some (.int .i64 f) := by rw [hw1.out]; exact cell_fresh w _ _ 3 _ rfl
  have c4 : w1.cell? ⟨w.heap.size, 4, none⟩ = some (.int .i64 i) := by rw [hw1.out]; exact cell_fresh w _ _ 4 _ rfl
  have O1 : Hid (Out w w1) := hidOf (by rw [hw1.out]; exact Out.alloc (Out.refl _) _)
  go_enter Tryz.func47, Tryz.ntmps47
  go_upto_region 1 with fail
  rw [← hw1.out]
  clear hw1
  cases bw
  · by_cases i0 : -2147483648 ≤ i
    · by_cases i1 : i ≤ 2147483647
      · go_upto_region 2 with (go_at_call 49; refine (CW.out _).mono ?_; rintro e w2 ⟨rfl, o2⟩; have d0 := cell_later o2 c0; have d1 := cell_later o2 c1; have d2 := cell_later o2 c2; have d3 := cell_later o2 c3; have d4 := cell_later o2 c4; have O2 := hidOf (O1.out.trans o2); clear o2 c0 c1 c2 c3 c4)
        go_wp2
        all_goals go_ret
        all_goals (refine ⟨congrArg (fun b => Ending.returned (Value.bool b)) ?_, O2.out⟩; rw [HF.out, Bool.eq_iff_iff]; simp only [Bool.and_eq_true, Bool.or_eq_true, decide_eq_true_eq, Bool.false_eq_true, false_or, true_or, and_true, false_iff, true_iff]; omega)
      · have hf : Hid (M = false) := hidOf (by rw [HF.out]; simp [i1])
        go_wp2_with (go_at_call 49; refine (CW.out _).mono ?_; rintro e w2 ⟨rfl, o2⟩; have d0 := cell_later o2 c0; have d1 := cell_later o2 c1; have d2 := cell_later o2 c2; have d3 := cell_later o2 c3; have d4 := cell_later o2 c4; have O2 := hidOf (O1.out.trans o2); clear o2 c0 c1 c2 c3 c4)
        all_goals go_ret
        all_goals (refine ⟨congrArg (fun b => Ending.returned (Value.bool b)) ?_, O2.out⟩; rw [hf.out])
    · have hf : Hid (M = false) := hidOf (by rw [HF.out]; simp [i0])
      go_wp2_with (go_at_call 49; refine (CW.out _).mono ?_; rintro e w2 ⟨rfl, o2⟩; have d0 := cell_later o2 c0; have d1 := cell_later o2 c1; have d2 := cell_later o2 c2; have d3 := cell_later o2 c3; have d4 := cell_later o2 c4; have O2 := hidOf (O1.out.trans o2); clear o2 c0 c1 c2 c3 c4)
      all_goals go_ret
      all_goals (refine ⟨congrArg (fun b => Ending.returned (Value.bool b)) ?_, O2.out⟩; rw [hf.out])
  · go_upto_region 2 with (go_at_call 49; refine (CW.out _).mono ?_; rintro e w2 ⟨rfl, o2⟩; have d0 := cell_later o2 c0; have d1 := cell_later o2 c1; have d2 := cell_later o2 c2; have d3 := cell_later o2 c3; have d4 := cell_later o2 c4; have O2 := hidOf (O1.out.trans o2); clear o2 c0 c1 c2 c3 c4)
    go_wp2
    all_goals go_ret
    all_goals (refine ⟨congrArg (fun b => Ending.returned (Value.bool b)) ?_, O2.out⟩; rw [HF.out, Bool.eq_iff_iff]; simp only [Bool.and_eq_true, Bool.or_eq_true, decide_eq_true_eq, Bool.false_eq_true, false_or, true_or, and_true, false_iff, true_iff]; omega)
set_option maxRecDepth 8000 in
set_option maxHeartbeats 4000000 in
theorem refCheck_any (m : Img) (w : World) (ta fa da : Option Addr) (tc fc dc : Nat) (h : ImA w ta fa da m) (hkD : ∀ x ∈ m.D, x.nm.length ≤ 4611686018427387904) : Calls Tryz.prog 17 #[.agg #[.slice ta m.T.length tc, .slice fa m.F.length fc, .slice da m.D.length dc, .int .i64 m.en]] w fun e w' => e = .returned (.tuple #[.int .i64 ((ckP m).1 : Nat), .int .i64 (ckP m).2]) ∧ Out w w' := by
  obtain ⟨a, er, hR⟩ : ∃ a er, Hid (ckP m = (a, er)) := ⟨_, _, hidOf rfl⟩
  rw [hR.out]
  simp only
  have C0 : Hid (∀ wx, Out w wx → Calls Tryz.prog 43 #[.agg #[.slice ta m.T.length tc, .slice fa m.F.length fc, .slice da m.D.length dc, .int .i64 m.en]] wx fun e w' => e = .returned (.int .i64 (rN (cntP m))) ∧ Out wx w') := hidOf fun wx o => refMany_any m wx ta fa da tc fc dc (h.t.out o) h.n
  have C1 : Hid (cntP m = none → ∀ wx, Out w wx → Calls Tryz.prog 44 #[.agg #[.slice ta m.T.length tc, .slice fa m.F.length fc, .slice da m.D.length dc, .int .i64 m.en]] wx fun e w' => e = .returned (.int .i64 (rN (namP m))) ∧ Out wx w') := hidOf fun hc wx o => refNamed_any m wx ta fa da tc fc dc (h.f.out o) (h.d.out o) (cnt_in hc).2.1 (cnt_in hc).2.2 (fun x hx => by have := (h.k x hx).1; omega) hkD
  have C2 : Hid (cntP m = none → ∀ wx, Out w wx → Calls Tryz.prog 45 #[.agg #[.slice ta m.T.length tc, .slice fa m.F.length fc, .slice da m.D.length dc, .int .i64 m.en]] wx fun e w' => e = .returned (.int .i64 (rN (funP m))) ∧ Out wx w') := hidOf fun hc wx o => refCut_any m wx ta fa da tc fc dc (h.f.out o) (cnt_in hc).2.1 (cnt_in hc).1
  have C3 : Hid (cntP m = none → ∀ wx, Out w wx → Calls Tryz.prog 46 #[.agg #[.slice ta m.T.length tc, .slice fa m.F.length fc, .slice da m.D.length dc, .int .i64 m.en]] wx fun e w' => e = .returned (.int .i64 (rN (tabP m))) ∧ Out wx w') := hidOf fun hc wx o => refShaped_any m wx ta fa da tc fc dc (h.d.out o) (cnt_in hc).2.2
  have CF : Hid (∀ x wx, Calls Tryz.prog 47 #[.agg #[.int .i64 x.o, .int .i64 x.d, .int .i64 x.s, .int .i64 x.f, .int .i64 x.i]] wx fun e w' => e = .returned (.bool (fitI x)) ∧ Out wx w') := hidOf fun x wx => refFits_any x wx
  have HT := hidOf h.t
  obtain ⟨w1, hw1⟩ : ∃ w1, Hid (w1 = w.alloc (.cells #[.slice ta m.T.length tc, .slice fa m.F.length fc, .slice da m.D.length dc, .int .i64 m.en] 26)) := ⟨_, rfl⟩
  have O1 : Hid (Out w w1) := hidOf (by rw [hw1.out]; exact Out.alloc (Out.refl _) _)
  have B1 : Hid (∀ wx, Out w1 wx → wx.cell? ⟨w.heap.size, 0, none⟩ = some (.slice ta m.T.length tc) ∧ wx.cell? ⟨w.heap.size, 1, none⟩ = some (.slice fa m.F.length fc) ∧ wx.cell? ⟨w.heap.size, 2, none⟩ = some (.slice da m.D.length dc) ∧ wx.cell? ⟨w.heap.size, 3, none⟩ = some (.int .i64 m.en)) := hidOf fun wx o => ⟨cell_later o (by rw [hw1.out]; exact cell_fresh w _ _ 0 _ rfl), cell_later o (by rw [hw1.out]; exact cell_fresh w _ _ 1 _ rfl), cell_later o (by rw [hw1.out]; exact cell_fresh w _ _ 2 _ rfl), cell_later o (by rw [hw1.out]; exact cell_fresh w _ _ 3 _ rfl)⟩
  clear h hkD
  unfold ckP at hR
  go_enter Tryz.func17, Tryz.ntmps17
  go_upto_region 1 with fail
  rw [← hw1.out]
  clear hw1
  obtain ⟨x0, x1, x2, x3⟩ := B1.out w1 (Out.refl _)
  have K0 : Hid (Calls Tryz.prog 43 #[.agg #[.slice ta m.T.length tc, .slice fa m.F.length fc, .slice da m.D.length dc, .int .i64 m.en]] w1 fun e w' => e = .returned (.int .i64 (rN (cntP m))) ∧ Out w1 w') := hidOf ((C0.out w1 (O1.out.trans (Out.refl _))).mono (fun e w' ⟨he, o⟩ => ⟨he, Out.trans (Out.refl _) o⟩))
  cases h0 : cntP m with
  | some j =>
    have hf : Hid (j = a ∧ 171 = er) := hidOf (by have := hR.out; rw [h0] at this; simp only [ptE, Prod.mk.injEq] at this; exact this)
    rw [h0] at K0
    simp only [rN] at K0
    have hj0 : (0 : Int) ≤ j := by omega
    go_wp2_with (go_at_call 43; refine (K0.out).mono ?_; rintro e v0 ⟨rfl, o0⟩)
    go_ret2
    exact ⟨by rw [← hf.out.1, ← hf.out.2]; rfl, O1.out.trans o0⟩
  | none =>
    rw [h0] at K0
    simp only [rN] at K0
    go_upto_region 4 with (go_at_call 43; refine (K0.out).mono ?_; rintro e v0 ⟨rfl, o0⟩)
    have P0 := hidOf o0
    clear K0 x0 x1 x2 x3
    obtain ⟨x0, x1, x2, x3⟩ := B1.out v0 o0
    clear o0
    have K1 : Hid (Calls Tryz.prog 44 #[.agg #[.slice ta m.T.length tc, .slice fa m.F.length fc, .slice da m.D.length dc, .int .i64 m.en]] v0 fun e w' => e = .returned (.int .i64 (rN (namP m))) ∧ Out w1 w') := hidOf ((C1.out h0 v0 (O1.out.trans P0.out)).mono (fun e w' ⟨he, o⟩ => ⟨he, Out.trans P0.out o⟩))
    cases h1 : namP m with
    | some j =>
      have hf : Hid (j = a ∧ 172 = er) := hidOf (by have := hR.out; rw [h0, h1] at this; simp only [ptE, Prod.mk.injEq] at this; exact this)
      rw [h1] at K1
      simp only [rN] at K1
      have hj0 : (0 : Int) ≤ j := by omega
      go_wp2_with (go_at_call 44; refine (K1.out).mono ?_; rintro e v1 ⟨rfl, o1⟩)
      go_ret2
      exact ⟨by rw [← hf.out.1, ← hf.out.2]; rfl, O1.out.trans o1⟩
    | none =>
      rw [h1] at K1
      simp only [rN] at K1
      go_upto_region 7 with (go_at_call 44; refine (K1.out).mono ?_; rintro e v1 ⟨rfl, o1⟩)
      have P1 := hidOf o1
      clear K1 x0 x1 x2 x3
      obtain ⟨x0, x1, x2, x3⟩ := B1.out v1 o1
      clear o1
      have K2 : Hid (Calls Tryz.prog 45 #[.agg #[.slice ta m.T.length tc, .slice fa m.F.length fc, .slice da m.D.length dc, .int .i64 m.en]] v1 fun e w' => e = .returned (.int .i64 (rN (funP m))) ∧ Out w1 w') := hidOf ((C2.out h0 v1 (O1.out.trans P1.out)).mono (fun e w' ⟨he, o⟩ => ⟨he, Out.trans P1.out o⟩))
      cases h2 : funP m with
      | some j =>
        have hf : Hid (j = a ∧ 173 = er) := hidOf (by have := hR.out; rw [h0, h1, h2] at this; simp only [ptE, Prod.mk.injEq] at this; exact this)
        rw [h2] at K2
        simp only [rN] at K2
        have hj0 : (0 : Int) ≤ j := by omega
        go_wp2_with (go_at_call 45; refine (K2.out).mono ?_; rintro e v2 ⟨rfl, o2⟩)
        go_ret2
        exact ⟨by rw [← hf.out.1, ← hf.out.2]; rfl, O1.out.trans o2⟩
      | none =>
        rw [h2] at K2
        simp only [rN] at K2
        go_upto_region 10 with (go_at_call 45; refine (K2.out).mono ?_; rintro e v2 ⟨rfl, o2⟩)
        have P2 := hidOf o2
        clear K2 x0 x1 x2 x3
        obtain ⟨x0, x1, x2, x3⟩ := B1.out v2 o2
        clear o2
        have K3 : Hid (Calls Tryz.prog 46 #[.agg #[.slice ta m.T.length tc, .slice fa m.F.length fc, .slice da m.D.length dc, .int .i64 m.en]] v2 fun e w' => e = .returned (.int .i64 (rN (tabP m))) ∧ Out w1 w') := hidOf ((C3.out h0 v2 (O1.out.trans P2.out)).mono (fun e w' ⟨he, o⟩ => ⟨he, Out.trans P2.out o⟩))
        cases h3 : tabP m with
        | some j =>
          have hf : Hid (j = a ∧ 174 = er) := hidOf (by have := hR.out; rw [h0, h1, h2, h3] at this; simp only [ptE, Prod.mk.injEq] at this; exact this)
          rw [h3] at K3
          simp only [rN] at K3
          have hj0 : (0 : Int) ≤ j := by omega
          go_wp2_with (go_at_call 46; refine (K3.out).mono ?_; rintro e v3 ⟨rfl, o3⟩)
          go_ret2
          exact ⟨by rw [← hf.out.1, ← hf.out.2]; rfl, O1.out.trans o3⟩
        | none =>
          rw [h3] at K3
          simp only [rN] at K3
          go_upto_region 13 with (go_at_call 46; refine (K3.out).mono ?_; rintro e v3 ⟨rfl, o3⟩)
          have P3 := hidOf o3
          clear K3 x0 x1 x2 x3
          obtain ⟨x0, x1, x2, x3⟩ := B1.out v3 o3
          clear o3
          have hE : Hid ((if m.en < 0 ∨ (m.F.length : Int) ≤ m.en then (0, 175) else ptE (insP m) 176 (0, 0)) = (a, er)) := hidOf (by
            have := hR.out
            rw [h0, h1, h2, h3] at this
            simp only [ptE] at this
            unfold entP at this
            split at this
            · rename_i hh
              rw [if_pos (by
                by_cases hq : m.en < 0 ∨ (m.F.length : Int) ≤ m.en
                · exact hq
                · rw [if_neg hq] at hh; cases hh)]
              by_cases hq : m.en < 0 ∨ (m.F.length : Int) ≤ m.en
              · rw [if_pos hq] at hh; cases hh; exact this
              · rw [if_neg hq] at hh; cases hh
            · rename_i hh
              rw [if_neg (by intro hq; rw [if_pos hq] at hh; cases hh)]
              exact this)
          clear hR C0 C1 C2 C3
          by_cases e0 : m.en < 0
          · have hf : Hid (0 = a ∧ 175 = er) := hidOf (by have := hE.out; rw [if_pos (.inl e0)] at this; simpa using this)
            go_wp2
            go_ret2
            exact ⟨by rw [← hf.out.1, ← hf.out.2]; rfl, O1.out.trans P3.out⟩
          · by_cases e1 : (m.F.length : Int) ≤ m.en
            · have hf : Hid (0 = a ∧ 175 = er) := hidOf (by have := hE.out; rw [if_pos (.inr e1)] at this; simpa using this)
              go_wp2
              go_ret2
              exact ⟨by rw [← hf.out.1, ← hf.out.2]; rfl, O1.out.trans P3.out⟩
            · have hI : Hid (ptE (insP m) 176 (0, 0) = (a, er)) := hidOf (by have := hE.out; rw [if_neg (by rintro (h | h) <;> contradiction)] at this; exact this)
              have hTn := (cnt_in h0).1
              unfold insP at hI
              obtain ⟨n, hn⟩ : ∃ n, Hid (n = m.T.length) := ⟨_, rfl⟩
              rw [← hn.out] at hI hTn x0 B1 ⊢
              clear hE
              go_wp2
              go_loopw [5] (fun v wr => ∃ k : Nat, k ≤ n ∧ v = .int .i64 k ∧ Hid (∀ j, j < k → inB m.T j = false) ∧ Hid (Out w1 wr)) (fun v _ => n - (intOf v).toNat)
              case atStart => exact ⟨0, by omega, rfl, hidOf (fun j hj => by omega), P3⟩
              case round =>
                obtain ⟨k, hk, rfl, hg, hor⟩ := hrel
                obtain ⟨z0, z1, z2, z3⟩ := B1.out wr hor.out
                by_cases hkl : k < n
                · have hlt : (k : Int) < n := by omega
                  obtain ⟨x, hx⟩ : ∃ x, m.T[k]? = some x := ⟨_, List.getElem?_eq_getElem (by rw [← hn.out]; exact hkl)⟩
                  obtain ⟨b, off, rfl, q0, q1, q2, q3, q4⟩ := (HT.out.out (O1.out.trans hor.out)).get hx
                  have hB : inB m.T k = !fitI x := by simp [inB, hx]
                  have CX := hidOf (CF.out x wr)
                  cases hbf : fitI x
                  · rw [hbf] at CX hB
                    have hf : Hid (k = a ∧ 176 = er) := hidOf (by have := hI.out; rw [fstB_some hkl hg.out hB] at this; simpa [ptE] using this)
                    clear hB hI
                    go_wp2_with (go_at_call 47; refine CX.out.mono ?_; rintro e v5 ⟨rfl, o5⟩)
                    go_ret2
                    exact ⟨by rw [← hf.out.1, ← hf.out.2]; rfl, (O1.out.trans hor.out).trans o5⟩
                  · rw [hbf] at CX hB
                    have Hg2 : Hid (∀ j, j < k + 1 → inB m.T j = false) := hidOf (fun j hj => by
                      by_cases e : j = k
                      · rw [e, hB]; rfl
                      · exact hg.out j (by omega))
                    clear hB
                    go_wp2_with (go_at_call 47; refine CX.out.mono ?_; rintro e v5 ⟨rfl, o5⟩)
                    go_roundw
                    case rel => exact ⟨k + 1, by omega, by simp, Hg2, hidOf (hor.out.trans o5)⟩
                    case measure => simp [intOf]; omega
                · have hlt : ¬ (k : Int) < n := by omega
                  have hf : Hid (0 = a ∧ 0 = er) := hidOf (by have := hI.out; rw [fstB_none fun j hj => hg.out j (by omega)] at this; simpa [ptE] using this)
                  go_wp2
                  go_ret2
                  exact ⟨by rw [← hf.out.1, ← hf.out.2]; rfl, O1.out.trans hor.out⟩
structure OuB (w0 wx : World) (v : Value) (n : Nat) (L : List UInt8) : Prop where
  own : wx.ownsRow w0.heap.size 5 1 v n (Lib.byteCells L)
  out : Out w0 wx
  len : L.length = n
theorem app_C {ops : Array Oper} {rest : List Oper} {o : Oper} {ac : Act} {Q : Exit → Act → World → Prop} (w0 wx : World) (hgd : o.guard = none) (s x : Operand)
    (ho : o.op = .call { callee := .builtin .append, args := #[s, x], argTypes := #[27, 27] })
    (av : Option Addr) (c n : Nat) (L : List UInt8) (hs : ac.eval s = .slice av n c) (h0 : OuB w0 wx (.slice av n c) n L)
    (ad : Addr) (m cm : Nat) (M : List UInt8) (hm : M.length = m) (hx : ac.eval x = .slice (some ad) m cm) (hc : ∀ j u, (Lib.byteCells M)[j]? = some u → wx.cell? (ad.add j) = some u) (hsz : n + m ≤ 1000000000)
    (k : ∀ a' c' w', OuB w0 w' (.slice a' (n + m) c') (n + m) (L ++ M) → (∀ (g : Nat) (cs : Array Value) (t : TypeId), wx.heap[g]? = some (.cells cs t (0, 0)) → ¬ t = 5 → w'.heap[g]? = some (.cells cs t (0, 0))) → wpList Tryz.prog ops Q rest (ac.put o.dst (.slice a' (n + m) c')) w') : wpList Tryz.prog ops Q (o :: rest) ac wx := by
  obtain ⟨i0, hi0, hz0, hz1, hz2⟩ := info_parts infoB
  refine wpList_append_own wx hgd s x 27 ho w0.heap.size 5 i0 _ 1 1 Tryz.underlying27 hi0 hz0 hz1 hz2 rfl (by decide) (.slice av n c) n (Lib.byteCells L) hs h0.own ad m cm (Lib.byteCells M) hx (by rw [Lib.byteCells_length, hm, Nat.mul_one]) hc (bc_one M) (by unfold maxLen; omega) (by omega) h0.out.size ?_
  intro v' w' h1 h2 _
  have h3 := out_row (w0 := w0) h0.out h0.own h2
  obtain ⟨a', c', rfl⟩ := own_form h1
  refine k a' c' w' ⟨?_, h3, by rw [List.length_append, h0.len, hm]⟩ (fun g cs t hg ht => ?_)
  · rw [show Lib.byteCells (L ++ M) = Lib.byteCells L ++ Lib.byteCells M by simp [Lib.byteCells]]
    exact h1
  · have cg : Chg (fun k => (Value.slice av n c).ownBlock = some k) wx w' := Chg.of_grown h2 (fun k h => h)
    refine (cg.block g (Array.getElem?_eq_some_iff.1 hg).1 (fun e => ?_)).trans hg
    rcases h0.own.2 with ⟨hv, _⟩ | ⟨g', cap, cur, hv, _, hg', _⟩
    · rw [hv] at e; cases e
    · rw [hv] at e
      have hgk : g' = g := by simpa [Value.ownBlock] using e
      rw [hgk] at hg'
      have := hg'.symm.trans hg
      simp only [Option.some.injEq, Obj.cells.injEq] at this
      exact ht this.2.1.symm
theorem OuB.on {w0 wx wy : World} {v : Value} {n : Nat} {L : List UInt8} (h : OuB w0 wx v n L) (o : Out wx wy) : OuB w0 wy v n L := ⟨owns_chg (S := fun _ => False) h.own (fun _ _ h => h) (Chg.of_out o), h.out.trans o, h.len⟩
end Go.Proofs.YthififblejbleaaGreatDoor
