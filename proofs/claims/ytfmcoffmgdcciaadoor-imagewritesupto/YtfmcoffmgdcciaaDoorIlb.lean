import Derived.Test.YtfmcoffmgdcciaaDoorIla
import Derived.Test.YtfmcoffmgdcciaaDoorIka
namespace Go.Proofs.YtfmcoffmgdcciaaDoor
open Go.RowKit
set_option linter.unusedVariables false
set_option linter.unusedSimpArgs false
/-- bytes appended to bytes of the call's own -/
theorem app_B {ops : Array Oper} {rest : List Oper} {o : Oper} {ac : Act} {Q : Exit → Act → World → Prop} (w0 wx : World) (hgd : o.guard = none) (s x : Operand)
    (ho : o.op = .call { callee := .builtin .append, args := #[s, x], argTypes := #[43, 43] })
    (av : Option Addr) (c n : Nat) (L : List UInt8) (hn : L.length = n) (hs : ac.eval s = .slice av n c) (hown : wx.ownsRow w0.heap.size 5 1 (.slice av n c) n (Lib.byteCells L)) (ho0 : Out w0 wx)
    (ad : Addr) (m cm : Nat) (M : List UInt8) (hm : M.length = m) (hx : ac.eval x = .slice (some ad) m cm) (hc : ∀ j u, (Lib.byteCells M)[j]? = some u → wx.cell? (ad.add j) = some u) (hsz : n + m ≤ 1000000000)
    (k : ∀ a' c' w', w'.ownsRow w0.heap.size 5 1 (.slice a' (n + m) c') (n + m) (Lib.byteCells (L ++ M)) → Out w0 w' → wpList Tryd.prog ops Q rest (ac.put o.dst (.slice a' (n + m) c')) w') : wpList Tryd.prog ops Q (o :: rest) ac wx := by
  obtain ⟨i0, hi0, hz0, hz1, hz2⟩ := info_parts infoB
  refine wpList_append_own wx hgd s x 43 ho w0.heap.size 5 i0 _ 1 1 Tryd.underlying43 hi0 hz0 hz1 hz2 rfl (by decide) (.slice av n c) n (Lib.byteCells L) hs hown ad m cm (Lib.byteCells M) hx (by rw [Lib.byteCells_length, hm, Nat.mul_one]) hc (bc_one M) (by unfold maxLen; omega) (by omega) ho0.size ?_
  intro v' w' h1 h2 _
  have h3 := out_row (w0 := w0) ho0 hown h2
  obtain ⟨a', c', rfl⟩ := own_form h1
  refine k a' c' w' ?_ h3
  rw [show Lib.byteCells (L ++ M) = Lib.byteCells L ++ Lib.byteCells M by simp [Lib.byteCells]]
  exact h1
/-- a number laid in bytes, to be read -/
def LdE (M : List UInt8) (n : Nat) (w : World) (e : Ending) (w' : World) : Prop := ∃ (g c : Nat), e = .returned (.slice (some ⟨g, 0, none⟩) n c) ∧ (∀ j u, (Lib.byteCells M)[j]? = some u → w'.cell? ((⟨g, 0, none⟩ : Addr).add j) = some u) ∧ Out w w'
theorem laidE_any (x : Int) (n : Nat) (h0 : 0 < n) (hn : n ≤ 4) (w : World) : Calls Tryd.prog 35 #[.int .i64 x, .int .i64 n] w (LdE ((b4 x).take n) n w) := by
  refine (laid_any x n hn w).mono ?_
  rintro e w' ⟨a, c, rfl, ow, o⟩
  rcases ow.2 with ⟨hv, h⟩ | ⟨g, cap, cur, hv, _⟩
  · omega
  · cases hv
    exact ⟨g, c, rfl, fun j u hu => by
      have := World.ownsRow.cells ow (g := g) rfl j u hu
      exact this, o⟩
theorem b1_eq {y z : Int} (h : y % 256 = z % 256) : b1 y = b1 z := by unfold b1; rw [h]
theorem fld_b4 {x : Ins} (h : FitI x) : b4 (fldI x) = [b1 x.o, b1 (x.d + 16 * x.s)] ++ (b4 x.f).take 2 := by
  have h1 := h.o0; have h2 := h.o1; have h3 := h.d0; have h4 := h.d1; have h5 := h.s0; have h6 := h.s1
  show [b1 (fldI x), b1 (fldI x / 256), b1 (fldI x / 65536), b1 (fldI x / 16777216)] = [b1 x.o, b1 (x.d + 16 * x.s), b1 x.f, b1 (x.f / 256)]
  unfold fldI
  rw [b1_eq (show (x.o + 256 * x.d + 4096 * x.s + 65536 * x.f) % 256 = x.o % 256 by omega), b1_eq (show (x.o + 256 * x.d + 4096 * x.s + 65536 * x.f) / 256 % 256 = (x.d + 16 * x.s) % 256 by omega), b1_eq (show (x.o + 256 * x.d + 4096 * x.s + 65536 * x.f) / 65536 % 256 = x.f % 256 by omega), b1_eq (show (x.o + 256 * x.d + 4096 * x.s + 65536 * x.f) / 16777216 % 256 = x.f / 256 % 256 by omega)]
theorem insB_parts {x : Ins} (h : FitI x) : insB x = ([b1 x.o, b1 (x.d + 16 * x.s)] ++ (b4 x.f).take 2) ++ b4 x.i ++ (if isW x.o then [0, 0, 0, 0] ++ b4 (x.i / 4294967296) else []) := by
  unfold insB
  rw [fld_b4 h, show b4 0 = [0, 0, 0, 0] from rfl]
  simp only [List.append_assoc]
set_option maxRecDepth 20000 in
set_option maxHeartbeats 2000000 in
theorem slot_any (x : Ins) (w : World) (h : FitI x) : Calls Tryd.prog 36 #[.agg #[.int .i64 x.o, .int .i64 x.d, .int .i64 x.s, .int .i64 x.f, .int .i64 x.i]] w (LdE (insB x) (insB x).length w) := by
  have hP := hidOf (insB_parts h)
  have h1 := h.o0; have h2 := h.o1; have h3 := h.d0; have h4 := h.d1; have h5 := h.s0; have h6 := h.s1
  obtain ⟨o, d, s, f, i⟩ := x
  simp only at *
  clear h
  obtain ⟨IB, hIB⟩ : ∃ B, Hid (B = insB ⟨o, d, s, f, i⟩) := ⟨_, rfl⟩
  rw [← hIB.out] at hP ⊢
  obtain ⟨nB, hnB⟩ : ∃ n, Hid (n = IB.length) := ⟨_, rfl⟩
  rw [← hnB.out]
  have CW : Hid (∀ wx, Calls Tryd.prog 40 #[.agg #[.int .i64 o, .int .i64 d, .int .i64 s, .int .i64 f, .int .i64 i]] wx fun e w' => e = .returned (.bool (isW o)) ∧ Out wx w') := hidOf fun wx => refWide_any wx o d s f i
  have C2 : Hid (∀ wx y, Calls Tryd.prog 35 #[.int .i64 y, .int .i64 2] wx (LdE ((b4 y).take 2) 2 wx)) := hidOf fun wx y => laidE_any y 2 (by decide) (by decide) wx
  have C4 : Hid (∀ wx y, Calls Tryd.prog 35 #[.int .i64 y, .int .i64 4] wx (LdE (b4 y) 4 wx)) := hidOf fun wx y => laidE_any y 4 (by decide) (by decide) wx
  have hw8 : ∀ y : Int, IntKind.u8.wrap y = ((b1 y).toNat : Int) := wrap_b1
  obtain ⟨wq, hwq⟩ : ∃ w1, Hid (w1 = w.alloc (.cells #[.int .i64 o, .int .i64 d, .int .i64 s, .int .i64 f, .int .i64 i] 40)) := ⟨_, rfl⟩
  obtain ⟨w1, hw1⟩ : ∃ w1, Hid (w1 = wq.alloc (.cells #[.int .u8 ((b1 o).toNat : Int), .int .u8 ((b1 (d + 16 * s)).toNat : Int)] 5)) := ⟨_, rfl⟩
  have Oq : Hid (Out w wq) := hidOf (by rw [hwq.out]; exact Out.alloc (Out.refl _) _)
  have O1 : Hid (Out wq w1) := hidOf (by rw [hw1.out]; exact Out.alloc (Out.refl _) _)
  have szq : wq.heap.size = w.heap.size + 1 := by rw [hwq.out, size_alloc]
  have Bq : Hid (wq.heap[w.heap.size]? = some (.cells #[.int .i64 o, .int .i64 d, .int .i64 s, .int .i64 f, .int .i64 i] 40 (0, 0))) := hidOf (by rw [hwq.out]; exact heap_alloc_new w _)
  have BX : Hid (∀ wx : World, Out wq wx → wx.cell? ⟨w.heap.size, 0, none⟩ = some (.int .i64 o) ∧ wx.cell? ⟨w.heap.size, 1, none⟩ = some (.int .i64 d) ∧ wx.cell? ⟨w.heap.size, 2, none⟩ = some (.int .i64 s) ∧ wx.cell? ⟨w.heap.size, 3, none⟩ = some (.int .i64 f) ∧ wx.cell? ⟨w.heap.size, 4, none⟩ = some (.int .i64 i)) := hidOf fun wx ox => by
    have hb : wx.heap[w.heap.size]? = _ := (ox.block _ (Array.getElem?_eq_some_iff.1 Bq.out).1).trans Bq.out
    exact ⟨by rw [cell_atL hb]; rfl, by rw [cell_atL hb]; rfl, by rw [cell_atL hb]; rfl, by rw [cell_atL hb]; rfl, by rw [cell_atL hb]; rfl⟩
  have W1 : Hid (w1.ownsRow wq.heap.size 5 1 (.slice (some ⟨w.heap.size + 1, 0, none⟩) 2 2) 2 (Lib.byteCells [b1 o, b1 (d + 16 * s)])) := hidOf ⟨rfl, .inr ⟨w.heap.size + 1, 2, _, rfl, by omega, by rw [hw1.out, ← szq]; exact heap_alloc_new wq _, Nat.le_refl _, by decide, rfl, rfl⟩⟩
  have OW : ∀ {wa wb : World} {v : Value} {n : Nat} {V : List Value}, wa.ownsRow wq.heap.size 5 1 v n V → Out wa wb → wb.ownsRow wq.heap.size 5 1 v n V := fun h o => owns_chg (S := fun _ => False) h (fun _ _ h => h) (Chg.of_out o)
  have FIN : Hid (∀ (wz : World) (a : Option Addr) (n c : Nat) (M : List UInt8), IB = M → M.length = n → 0 < n → wz.ownsRow wq.heap.size 5 1 (.slice a n c) n (Lib.byteCells M) → Out wq wz → LdE IB nB w (.returned (.slice a n c)) wz) := hidOf fun wz a n c M hM hn h0 ow oz => by
    rw [hnB.out, hM, hn]
    rcases ow.2 with ⟨hv, h⟩ | ⟨g, cap, cur, hv, _⟩
    · omega
    · cases hv
      exact ⟨g, c, rfl, fun j u hu => World.ownsRow.cells ow (g := g) rfl j u hu, Oq.out.trans oz⟩
  obtain ⟨i0, i1, i2, i3, i4⟩ := BX.out w1 O1.out
  go_enter Tryd.func36, Tryd.ntmps36
  go_upto_region 2 with fail
  rw [← hwq.out, ← hw1.out]
  go_upto_region 3 with (first
    | (go_at_call 35; refine (C2.out _ _).mono ?_; rintro e w2 ⟨g2, k2, rfl, cc2, o2⟩; have K2 := hidOf cc2; have Q2 := hidOf o2; clear cc2 o2)
    | (at_builtin; refine app_B wq _ rfl (.tmp 15) (.tmp 18) rfl (some ⟨w.heap.size + 1, 0, none⟩) 2 2 ([b1 o, b1 (d + 16 * s)]) rfl rfl (OW W1.out Q2.out) (O1.out.trans Q2.out) ⟨g2, 0, none⟩ 2 k2 ((b4 f).take 2) rfl rfl (K2.out) (by decide) ?_; intro a3 c3 w3 own3 out3; have W3 := hidOf own3; have P3 := hidOf out3; clear own3 out3))
  clear i0 i1 i2 i3 i4
  obtain ⟨i0, i1, i2, i3, i4⟩ := BX.out w3 P3.out
  go_upto_region 4 with (first
    | (go_at_call 35; refine (C4.out _ _).mono ?_; rintro e w4 ⟨g4, k4, rfl, cc4, o4⟩; have K4 := hidOf cc4; have Q4 := hidOf o4; clear cc4 o4)
    | (at_builtin; refine app_B wq _ rfl (.tmp 20) (.tmp 23) rfl a3 c3 4 ([b1 o, b1 (d + 16 * s)] ++ (b4 f).take 2) rfl rfl (OW W3.out Q4.out) (P3.out.trans Q4.out) ⟨g4, 0, none⟩ 4 k4 (b4 i) rfl rfl (K4.out) (by decide) ?_; intro a5 c5 w5 own5 out5; have W5 := hidOf own5; have P5 := hidOf out5; clear own5 out5))
  clear i0 i1 i2 i3 i4
  obtain ⟨i0, i1, i2, i3, i4⟩ := BX.out w5 P5.out
  cases hw : isW o
  · rw [hw] at CW
    have HP : Hid (IB = ([b1 o, b1 (d + 16 * s)] ++ (b4 f).take 2) ++ b4 i) := hidOf (by have := hP.out; rw [hw] at this; simpa using this)
    go_wp2_with (go_at_call 40; refine (CW.out _).mono ?_; rintro e w6 ⟨rfl, o6⟩; have Q6 := hidOf o6; clear o6)
    go_ret
    exact FIN.out w6 a5 8 c5 _ HP.out rfl (by decide) (OW W5.out Q6.out) (P5.out.trans Q6.out)
  · rw [hw] at CW
    have HP : Hid (IB = ([b1 o, b1 (d + 16 * s)] ++ (b4 f).take 2) ++ b4 i ++ [0, 0, 0, 0] ++ b4 (i / 4294967296)) := hidOf (by have := hP.out; rw [hw] at this; simpa using this)
    go_upto_region 5 with (go_at_call 40; refine (CW.out _).mono ?_; rintro e w6 ⟨rfl, o6⟩; have Q6 := hidOf o6; clear o6)
    go_upto_region 6 with (at_builtin; refine app_B wq _ rfl (.tmp 27) (.tmp 28) rfl a5 c5 8 (([b1 o, b1 (d + 16 * s)] ++ (b4 f).take 2) ++ b4 i) rfl rfl (OW W5.out (Out.alloc Q6.out _)) (P5.out.trans (Out.alloc Q6.out _)) ⟨w6.heap.size, 0, none⟩ 4 4 ([0, 0, 0, 0]) rfl rfl (news_new w6 _ _ _ rfl) (by decide) ?_; intro a7 c7 w7 own7 out7; have W7 := hidOf own7; have P7 := hidOf out7; clear own7 out7)
    clear i0 i1 i2 i3 i4
    obtain ⟨i0, i1, i2, i3, i4⟩ := BX.out w7 P7.out
    go_wp2_with (first
      | (go_at_call 35; refine (C4.out _ _).mono ?_; rintro e w8 ⟨g8, k8, rfl, cc8, o8⟩; have K8 := hidOf cc8; have Q8 := hidOf o8; clear cc8 o8)
      | (at_builtin; refine app_B wq _ rfl (.tmp 30) (.tmp 34) rfl a7 c7 12 (([b1 o, b1 (d + 16 * s)] ++ (b4 f).take 2) ++ b4 i ++ [0, 0, 0, 0]) rfl rfl (OW W7.out Q8.out) (P7.out.trans Q8.out) ⟨g8, 0, none⟩ 4 k8 (b4 (i / 4294967296)) rfl rfl (K8.out) (by decide) ?_; intro a9 c9 w9 own9 out9; have W9 := hidOf own9; have P9 := hidOf out9; clear own9 out9))
    go_ret
    exact FIN.out w9 a9 16 c9 _ HP.out rfl (by decide) W9.out P9.out
end Go.Proofs.YtfmcoffmgdcciaaDoor
