import Derived.Test.YtkihaohdcgjioaaGreatDoorGp34
namespace Go.Proofs.YtkihaohdcgjioaaGreatDoor
open Go.RowKit
set_option linter.unusedVariables false
set_option linter.unusedSimpArgs false
set_option maxRecDepth 20000 in
set_option maxHeartbeats 2000000 in
theorem tokenText_any (w0 : World) (B : Nat) (hB0 : w0.heap.size ≤ B) (hpw : Lx.Pow w0) (w : World) (hw : Out w0 w) (p g mb : Nat) (sv : Value) (t u : Lx.Tk) (r : List Lx.Tk) (h : PS B w p g mb sv (t :: u :: r)) (hl : Lw (t :: u :: r)) (hN : TkOk (t :: u :: r)) :
    Calls Tryz.prog 181 #[.pointer (some ⟨p, 0, none⟩)] w fun e w' => e = .returned (.string ⟨(ttQ t).toArray⟩) ∧ PS B w' p g mb sv (u :: r) ∧ Chg (fun b => b = p) w w' := by
  obtain ⟨off, cap, hR, hT, hc⟩ := h.st
  obtain ⟨q0, -, -, -⟩ := hT 0 t rfl
  simp only [Nat.zero_mul, Nat.add_zero] at q0
  obtain ⟨n0, n1, n2⟩ := hN t (by simp)
  obtain ⟨n, hn⟩ : ∃ n, n = (t :: u :: r).length := ⟨_, rfl⟩
  have hnI : (2 : Int) ≤ n := by rw [hn]; simp; omega
  rw [← hn] at hR hc
  have c0 : w.cell? ⟨p, 0, none⟩ = some (.slice (some ⟨g, off, none⟩) n cap) := by rw [cell_atL hR]; rfl
  have C : Hid (Calls Tryz.prog 97 #[.pointer (some ⟨p, 0, none⟩), .int .i64 t.k] w fun e w' => e = .returned (.agg #[.int .i64 t.k, .string ⟨t.t.toArray⟩, .int .u64 t.n, .int .i64 t.l]) ∧ PS B w' p g mb sv (u :: r) ∧ Chg (fun b => b = p) w w') := hidOf (by
    have := take_any B w p g mb sv (t :: u :: r) t.k h hl
    have e : tkQ t.k (t :: u :: r) = .ok t (u :: r) := by
      show (if t.k = t.k then RE.ok t (u :: r) else RE.no 60 (t :: u :: r)) = _
      rw [if_pos rfl]
    rw [e] at this
    exact this)
  have hpB := h.pB
  have CF : Hid (∀ wx, Out w0 wx → Calls Tryz.prog 104 #[.int .u64 t.n, .int .i64 10] wx fun e w' => e = .returned (.string ⟨(Lib.decDigits t.n.toNat).toArray⟩) ∧ Out wx w') := hidOf (fun wx o => by
    have := Lx.fmt_any t.n.toNat (by omega) wx (hpw.out o)
    rw [show ((t.n.toNat : Nat) : Int) = t.n by omega] at this
    exact this)
  have Hw := hidOf hw
  clear h hl hN hR hT hc hn hw hpw
  by_cases hk : t.k = 3
  · have hkb : (t.k == 3) = true := by simp [hk]
    have HE : Hid (ttQ t = Lib.decDigits t.n.toNat) := hidOf (by unfold ttQ; rw [if_pos hk])
    rw [HE.out]
    clear hk
    go_enter Tryz.func181, Tryz.ntmps181
    go_upto_region 2 with (go_at_call 97; refine C.out.mono ?_; rintro e w1 ⟨rfl, hp, hcg⟩; have P1 := hidOf hp; have C1 := hidOf hcg; clear hp hcg)
    obtain ⟨w2, hw2⟩ : ∃ w2, w2 = w1.alloc (.cells #[.int .i64 t.k, .string ⟨t.t.toArray⟩, .int .u64 t.n, .int .i64 t.l] 117) := ⟨_, rfl⟩
    have o2 : Out w1 w2 := by rw [hw2]; exact (Out.refl w1).alloc _
    have b2 : w2.heap[w1.heap.size]? = some (.cells #[.int .i64 t.k, .string ⟨t.t.toArray⟩, .int .u64 t.n, .int .i64 t.l] 117 (0, 0)) := by rw [hw2]; exact heap_alloc_new w1 _
    rw [← hw2]
    have m0 : w2.cell? ⟨w1.heap.size, 0, none⟩ = some (.int .i64 t.k) := by rw [cell_atL b2]; rfl
    have m2 : w2.cell? ⟨w1.heap.size, 2, none⟩ = some (.int .u64 t.n) := by rw [cell_atL b2]; rfl
    have OW : Hid (Out w0 w2) := hidOf ((Chg.out C1.out Hw.out (fun k hk => by rw [hk]; omega)).trans o2)
    have O2 := hidOf o2
    clear hw2 o2 b2 c0 q0
    go_wp2_with (go_at_call 104; refine (CF.out _ OW.out).mono ?_; rintro e w3 ⟨rfl, ho⟩; have O3 := hidOf ho; clear ho)
    go_ret
    exact ⟨rfl, (P1.out.out O2.out).out O3.out, Chg.then2 C1.out (Chg.of_out (O2.out.trans O3.out))⟩
  · have hkb : (t.k == 3) = false := by simp [hk]
    have HE : Hid (ttQ t = t.t) := hidOf (by unfold ttQ; rw [if_neg hk])
    rw [HE.out]
    clear hk
    go_enter Tryz.func181, Tryz.ntmps181
    go_upto_region 2 with (go_at_call 97; refine C.out.mono ?_; rintro e w1 ⟨rfl, hp, hcg⟩; have P1 := hidOf hp; have C1 := hidOf hcg; clear hp hcg)
    obtain ⟨w2, hw2⟩ : ∃ w2, w2 = w1.alloc (.cells #[.int .i64 t.k, .string ⟨t.t.toArray⟩, .int .u64 t.n, .int .i64 t.l] 117) := ⟨_, rfl⟩
    have o2 : Out w1 w2 := by rw [hw2]; exact (Out.refl w1).alloc _
    have b2 : w2.heap[w1.heap.size]? = some (.cells #[.int .i64 t.k, .string ⟨t.t.toArray⟩, .int .u64 t.n, .int .i64 t.l] 117 (0, 0)) := by rw [hw2]; exact heap_alloc_new w1 _
    rw [← hw2]
    have m0 : w2.cell? ⟨w1.heap.size, 0, none⟩ = some (.int .i64 t.k) := by rw [cell_atL b2]; rfl
    have m1 : w2.cell? ⟨w1.heap.size, 1, none⟩ = some (.string ⟨t.t.toArray⟩) := by rw [cell_atL b2]; rfl
    have O2 := hidOf o2
    clear hw2 o2 b2 c0 q0
    go_wp2
    go_ret
    exact ⟨rfl, P1.out.out O2.out, Chg.then2 C1.out (Chg.of_out O2.out)⟩
theorem dec_len : ∀ (n u : Nat), 0 < n → u < 10 ^ n → (Lib.decDigits u).length ≤ n
  | 0, u, h, _ => absurd h (by omega)
  | n + 1, u, _, h => by
    rw [Lib.decDigits]
    by_cases hu : u < 10
    · rw [dif_pos hu]; simp
    · rw [dif_neg hu, List.length_append]
      have hn : 0 < n := by
        rcases Nat.eq_zero_or_pos n with e | e
        · subst e; simp at h; omega
        · exact e
      have := dec_len n (u / 10) hn (by rw [Nat.pow_succ] at h; omega)
      simp
      omega
theorem ttQ_len {t : Lx.Tk} (h : 0 ≤ t.n ∧ t.n < 18446744073709551616 ∧ t.t.length ≤ 70) : (ttQ t).length ≤ 70 := by
  unfold ttQ
  by_cases hk : t.k = 3
  · rw [if_pos hk]
    have := dec_len 20 t.n.toNat (by omega) (by have := h.2.1; omega)
    omega
  · rw [if_neg hk]; exact h.2.2
/-- what is left of the reader's tokens -/
def leftOf (p : Nat) (w : World) : Nat := match w.cell? ⟨p, 0, none⟩ with | some (.slice _ n _) => n | _ => 0
theorem PS.left {B : Nat} {w : World} {p g mb : Nat} {sv : Value} {ts : List Lx.Tk} (h : PS B w p g mb sv ts) : leftOf p w = ts.length := by
  obtain ⟨off, cap, hR, _⟩ := h.st
  unfold leftOf
  rw [cell_atL hR]
  rfl
theorem PS.low {B N : Nat} {w w' : World} {p g mb : Nat} {sv : Value} {ts : List Lx.Tk} (h : PS B w p g mb sv ts) (b : Below N w w') (hp : p < N) (hg : g < N) : PS B w' p g mb sv ts := by
  obtain ⟨off, cap, hR, hT, hc⟩ := h.st
  obtain ⟨cs, fr, h4⟩ := h.gk
  refine ⟨⟨off, cap, (b.block p hp).trans hR, fun k x hx => ?_, hc⟩, ⟨cs, fr, (b.block g hg).trans h4⟩, h.pB⟩
  obtain ⟨h0, h1, h2, h3⟩ := hT k x hx
  exact ⟨(Below.cell b hg).trans h0, (Below.cell b hg).trans h1, (Below.cell b hg).trans h2, (Below.cell b hg).trans h3⟩
theorem bld_chg {N b p : Nat} {bs : List Value} {w w' : World} (h : Lib.IsBuilder 77 5 N b bs w) (c : Chg (fun x => x = p) w w') (hp : p < N) : Lib.IsBuilder 77 5 N b bs w' := by
  have key : ∀ q, Lib.BuilderAt 77 5 N b q bs w → Lib.BuilderAt 77 5 N b q bs w' := fun q hh => by
    obtain ⟨hB, v, hb, ho, hne⟩ := hh
    exact ⟨hB, v, (c.block b (Array.getElem?_eq_some_iff.1 hb).1 (fun e => by omega)).trans hb, owns_chg ho (fun k hk e => by have := (World.ownsRow.lt ho k hk).1; omega) c, hne⟩
  exact h.elim (fun x => .inl (key _ x)) (fun x => .inr (key _ x))
theorem ix_step {acc : List UInt8} {t : Lx.Tk} {r : List Lx.Tk} (hk : ¬ t.k = 5) : ixQ acc (t :: r) = ixQ ((if acc.isEmpty then acc else acc ++ [32]) ++ ttQ t) r := by
  conv => lhs; unfold ixQ
  rw [if_neg hk]
theorem ix_stop {acc : List UInt8} {t : Lx.Tk} {r : List Lx.Tk} (hk : t.k = 5) : ixQ acc (t :: r) = (acc, t :: r) := by
  unfold ixQ
  rw [if_pos hk]
set_option maxRecDepth 20000 in
set_option maxHeartbeats 4000000 in
theorem instructionText_any (w0 : World) (B : Nat) (hB0 : w0.heap.size ≤ B) (hpw : Lx.Pow w0) (w : World) (hw : Out w0 w) (p g mb : Nat) (sv : Value) (ts : List Lx.Tk) (h : PS B w p g mb sv ts) (hl : Lw ts) (hN : TkOk ts) (hlen : ts.length ≤ 1000000000) :
    Calls Tryz.prog 138 #[.pointer (some ⟨p, 0, none⟩)] w fun e w' => e = .returned (.string ⟨(ixQ [] ts).1.toArray⟩) ∧ PS B w' p g mb sv (ixQ [] ts).2 ∧ Chg (fun b => b = p) w w' := by
  obtain ⟨X, hX⟩ : ∃ X, X = ixQ [] ts := ⟨_, rfl⟩
  rw [← hX]
  have hpl := h.gl.1
  have hgl := h.gl.2
  have hpB := h.pB
  obtain ⟨N, hNN⟩ : ∃ N, N = w.heap.size := ⟨_, rfl⟩
  obtain ⟨w1, hw1⟩ : ∃ w1, w1 = w.alloc (.cells #[.pointer none, .slice none 0 0] 77) := ⟨_, rfl⟩
  have o1 : Out w w1 := by rw [hw1]; exact (Out.refl w).alloc _
  have b1 : Lib.IsBuilder 77 5 N N (Lib.byteCells []) w1 := .inl ⟨Nat.le_refl _, .slice none 0 0, by rw [hw1, hNN]; exact heap_alloc_new w _, World.ownsRow_nil _ _ _ _, by simp [Value.ownBlock]⟩
  have HP1 := hidOf (h.out o1)
  have HB1 := hidOf b1
  have HO1 := hidOf o1
  have Hw1 := hidOf hw1
  have HNN := hidOf hNN
  have Hw := hidOf hw
  have HX := hidOf hX
  have HL := hidOf hl
  have HK := hidOf hN
  have Hpw := hidOf hpw
  rw [← hNN] at hpl hgl
  clear h hw1 o1 b1 hNN hw hX hl hN hpw
  go_enter Tryz.func138, Tryz.ntmps138
  go_upto_region 2 with fail
  rw [← Hw1.out, ← HNN.out]
  go_loopw [] (fun wr => ∃ (A : List UInt8) (r : List Lx.Tk), Hid (PS B wr p g mb sv r) ∧ Hid (Lw r) ∧ Hid (TkOk r) ∧ Hid (X = ixQ A r) ∧ Hid (Lib.IsBuilder 77 5 N N (Lib.byteCells A) wr) ∧ Hid (Chg (fun b => b = p) w wr) ∧ A.length + 71 * r.length ≤ 71 * ts.length ∧ r.length ≤ ts.length) (fun wr => leftOf p wr)
  case atStart => exact ⟨[], ts, HP1, HL, HK, HX, HB1, hidOf (Chg.of_out HO1.out), by simp, by omega⟩
  case round =>
    clear HP1 HL HK HX HB1
    obtain ⟨A, r, HP, HL, HK, HX, HB, HC, hA, hr⟩ := hrel
    obtain ⟨t, u, r', rfl⟩ := HL.out.two
    obtain ⟨off, cap, hR, hT, hc⟩ := HP.out.st
    obtain ⟨q0, -, -, -⟩ := hT 0 t rfl
    simp only [Nat.zero_mul, Nat.add_zero] at q0
    obtain ⟨n, hn⟩ : ∃ n, n = (t :: u :: r').length := ⟨_, rfl⟩
    have hnI : (2 : Int) ≤ n := by rw [hn]; simp; omega
    rw [← hn] at hR hA hr
    have c0 : wr.cell? ⟨p, 0, none⟩ = some (.slice (some ⟨g, off, none⟩) n cap) := by rw [cell_atL hR]; rfl
    have Hn := hidOf hn
    have HNw : Hid (N ≤ wr.heap.size) := hidOf (by rw [HNN.out]; exact HC.out.size)
    clear hR hT hc hn
    by_cases hk : t.k = 5
    · have hkb : (t.k != 5) = false := by simp [hk]
      have HE : Hid (X = (A, t :: u :: r')) := hidOf (by rw [HX.out, ix_stop hk])
      have CS := hidOf (Tryz.Builder_String_any N N A wr HB.out HNw.out)
      clear hk
      go_wp2_with (go_at_call 32; refine CS.out.mono ?_; rintro e w2 ⟨rfl, hb⟩; have B2 := hidOf hb; clear hb)
      go_ret
      rw [HE.out]
      exact ⟨rfl, HP.out.low B2.out hpl hgl, HC.out.trans (T := fun b => N ≤ b) ⟨B2.out.os, B2.out.tape, B2.out.output, B2.out.size, fun k hk hs => B2.out.block k (by omega)⟩ (fun x hx hlt => by have := HNN.out; omega)⟩
    · have hkb : (t.k != 5) = true := by simp [hk]
      have HE := hidOf (show X = _ from HX.out.trans (ix_step hk))
      have hL1 := HL.out.next hk
      have hK1 : TkOk (u :: r') := tkOk_clo _ _ HK.out
      have htl := ttQ_len (HK.out t (by simp))
      have CT : Hid (∀ wx, Out w0 wx → PS B wx p g mb sv (t :: u :: r') → Calls Tryz.prog 181 #[.pointer (some ⟨p, 0, none⟩)] wx fun e w' => e = .returned (.string ⟨(ttQ t).toArray⟩) ∧ PS B w' p g mb sv (u :: r') ∧ Chg (fun b => b = p) wx w') := hidOf (fun wx o hp => tokenText_any w0 B hB0 Hpw.out wx o p g mb sv t u r' hp HL.out HK.out)
      have CL := hidOf (Tryz.Builder_Len N N (Lib.byteCells A) wr HB.out)
      rw [Lib.byteCells_length] at CL
      have HL1 := hidOf hL1
      have HK1 := hidOf hK1
      generalize ttQ t = z at *
      have HOr : Hid (Out w0 wr) := hidOf (Chg.out HC.out Hw.out (fun k hk => by rw [hk]; omega))
      have hnl : n ≤ 1000000000 := by omega
      clear hk hL1 hK1
      by_cases hA0 : A = []
      · subst hA0
        have HE2 : Hid (X = ixQ z (u :: r')) := hidOf (by rw [HE.out]; rfl)
        have e0 : (([] : List UInt8).length : Int) = 0 := rfl
        go_upto_region 5 with (go_at_call 180; refine CL.out.mono ?_; rintro e wl ⟨rfl, hwl⟩; subst hwl)
        clear c0 q0
        go_wp2_with (first | (go_at_call 181; refine (CT.out _ HOr.out HP.out).mono ?_; rintro e w3 ⟨rfl, hp, hc⟩; have P3 := hidOf hp; have C3 := hidOf hc; have B3 := hidOf (bld_chg HB.out hc hpl); have N3 := hidOf (Nat.le_trans HNw.out hc.size); clear hp hc) | (go_at_call 58; refine (write_any N N _ ⟨z.toArray⟩ w3 B3.out (by simp [Lib.byteCells, mk_size]; omega) N3.out).mono ?_; rintro e w4 ⟨⟨v4, rfl⟩, hb, hbl⟩; have B4 := hidOf hb; have L4 := hidOf hbl; clear hb hbl))
        go_roundw
        case rel =>
          have hP4 := P3.out.low L4.out hpl hgl
          refine ⟨z, u :: r', hidOf hP4, HL1, HK1, HE2, hidOf (by have := B4.out; simpa [Lib.byteCells, Lib.strCells] using this), hidOf ((Chg.then2 HC.out C3.out).trans (T := fun b => N ≤ b) ⟨L4.out.os, L4.out.tape, L4.out.output, L4.out.size, fun k hk hs => L4.out.block k (by omega)⟩ (fun x hx hlt => by have := HNN.out; omega)), ?_, ?_⟩
          · have := Hn.out; simp at this hA ⊢; omega
          · have := Hn.out; simp at this ⊢; omega
        case measure =>
          rw [(P3.out.low L4.out hpl hgl).left, HP.out.left]
          simp
      · have hAp : 0 < A.length := List.length_pos_iff.2 hA0
        have hAI : (0 : Int) < A.length := by omega
        have HE2 : Hid (X = ixQ ((A ++ [32]) ++ z) (u :: r')) := hidOf (by
          rw [HE.out, show A.isEmpty = false by cases A with | nil => exact absurd rfl hA0 | cons => rfl]
          rfl)
        have CB := hidOf (byte6_any N N (Lib.byteCells A) 32 wr HB.out (by rw [Lib.byteCells_length]; omega) HNw.out)
        clear hA0
        go_upto_region 5 with (first | (go_at_call 180; refine CL.out.mono ?_; rintro e wl ⟨rfl, hwl⟩; subst hwl) | (go_at_call 59; refine CB.out.mono ?_; rintro e w2 ⟨⟨v2, rfl⟩, hb, hbl⟩; have B2 := hidOf hb; have L2 := hidOf hbl; clear hb hbl))
        clear c0 q0
        have P2 := hidOf (HP.out.low L2.out hpl hgl)
        have HO2 : Hid (Out w0 w2) := hidOf (Below.trans HOr.out (L2.out.mono (by have := Hw.out.size; have := HNN.out; omega)))
        have N2 := hidOf (Nat.le_trans HNw.out L2.out.size)
        go_wp2_with (first | (go_at_call 181; refine (CT.out _ HO2.out P2.out).mono ?_; rintro e w3 ⟨rfl, hp, hc⟩; have P3 := hidOf hp; have C3 := hidOf hc; have B3 := hidOf (bld_chg B2.out hc hpl); have N3 := hidOf (Nat.le_trans N2.out hc.size); clear hp hc) | (go_at_call 58; refine (write_any N N _ ⟨z.toArray⟩ w3 B3.out (by simp [Lib.byteCells, mk_size]; omega) N3.out).mono ?_; rintro e w4 ⟨⟨v4, rfl⟩, hb, hbl⟩; have B4 := hidOf hb; have L4 := hidOf hbl; clear hb hbl))
        go_roundw
        case rel =>
          have hP4 := P3.out.low L4.out hpl hgl
          have c2 : Chg (fun b => b = p) w w2 := HC.out.trans (T := fun b => N ≤ b) ⟨L2.out.os, L2.out.tape, L2.out.output, L2.out.size, fun k hk hs => L2.out.block k (by omega)⟩ (fun x hx hlt => by have := HNN.out; omega)
          refine ⟨(A ++ [32]) ++ z, u :: r', hidOf hP4, HL1, HK1, HE2, hidOf (by have := B4.out; simpa [Lib.byteCells, Lib.strCells] using this), hidOf ((Chg.then2 c2 C3.out).trans (T := fun b => N ≤ b) ⟨L4.out.os, L4.out.tape, L4.out.output, L4.out.size, fun k hk hs => L4.out.block k (by omega)⟩ (fun x hx hlt => by have := HNN.out; omega)), ?_, ?_⟩
          · have := Hn.out; simp at this hA ⊢; omega
          · have := Hn.out; simp at this ⊢; omega
        case measure =>
          rw [(P3.out.low L4.out hpl hgl).left, HP.out.left]
          simp
end Go.Proofs.YtkihaohdcgjioaaGreatDoor
namespace Go.Proofs.YtkihaohdcgjioaaGreatDoor.Lx
open Go.RowKit
set_option linter.unusedVariables false
set_option linter.unusedSimpArgs false
theorem cap16_16 : ∀ k, k ≤ 16 → cap16 k ≤ 18446744073709551616 := by decide
theorem hexV_rng (l : List UInt8) : ∀ a : Int, 0 ≤ a → l.all hexU = true → 0 ≤ hexV a l ∧ hexV a l + 1 ≤ (a + 1) * cap16 l.length := by
  induction l with
  | nil => intro a h0 _; exact ⟨h0, by simp [hexV, cap16]⟩
  | cons b l ih =>
    intro a h0 h
    rw [List.all_cons, Bool.and_eq_true] at h
    have hr : 0 ≤ hexD (bI b) ∧ hexD (bI b) ≤ 15 := hexD_rng ⟨b.toNat, b.toNat_lt⟩ h.1
    have := ih (a * 16 + hexD (bI b)) (by omega) h.2
    refine ⟨this.1, Int.le_trans this.2 ?_⟩
    have hc : 0 ≤ cap16 l.length := Int.pow_nonneg (by decide)
    rw [List.length_cons, cap16_succ, show (a + 1) * (cap16 l.length * 16) = ((a + 1) * 16) * cap16 l.length from by rw [Int.mul_comm (cap16 l.length) 16, Int.mul_assoc]]
    exact Int.mul_le_mul_of_nonneg_right (by omega) hc
theorem val_rng (l : List UInt8) : 0 ≤ (valP l).1 ∧ (valP l).1 < 18446744073709551616 := by
  unfold valP
  split
  · split
    · rename_i h
      have h1 := hexV_rng (l.drop 2) 0 (by omega) h.2.2
      have h2 := cap16_16 (l.drop 2).length (by rw [List.length_drop]; omega)
      simp only at h1 ⊢
      omega
    · simp
  · split
    · simp
    · split
      · rename_i h; simp only; omega
      · simp
theorem take_run (l : List UInt8) : l.take (runN l) = l.takeWhile runU := by
  unfold runN
  induction l with
  | nil => rfl
  | cons c l ih =>
    rw [List.takeWhile_cons]
    split
    · rw [List.length_cons, List.take_succ_cons, ih]
    · rfl
theorem tw_allr (l : List UInt8) : (l.takeWhile runU).all runU = true := by
  induction l with
  | nil => rfl
  | cons c l ih =>
    rw [List.takeWhile_cons]
    split
    · rename_i h; rw [List.all_cons, h, ih]; rfl
    · rfl
theorem kind_dot : ∀ n : Fin 256, kindP (n.val : Int) = 5 → n.val = 46 := by decide +kernel
theorem kind_run {c : UInt8} (h : kindP (bI c) = 3 ∨ kindP (bI c) = 4 ∨ kindP (bI c) = 5) : runU c = true := by
  unfold runU; rw [runP_kind]; rcases h with h | h | h <;> simp [h]
/-- what is cut is a token that may be -/
theorem piece_may (c : UInt8) (r : List UInt8) (q : Int × List UInt8 × Int) (n : Nat) (h0 : (pieceP (c :: r)).1 = 0) (h : (pieceP (c :: r)).2.1 = some q) : mayP (mkT n q) = 0 ∧ 0 ≤ q.2.2 ∧ q.2.2 < 18446744073709551616 ∧ q.2.1.length ≤ 140737488355328 := by
  rw [piece_cons] at h h0
  by_cases k1 : kindP (bI c) = 1
  · rw [if_pos k1] at h; simp at h
  rw [if_neg k1] at h h0
  by_cases k2 : kindP (bI c) = 2
  · rw [if_pos k2] at h; simp at h
  rw [if_neg k2] at h h0
  by_cases k3 : kindP (bI c) = 3
  · rw [if_pos k3] at h h0
    simp only [Option.some.injEq] at h
    subst h
    have hl : runN (c :: r) ≤ 64 := by
      by_cases e : runN (c :: r) ≤ 64
      · exact e
      · rw [if_neg e] at h0; simp at h0
    have hc := kind_run (c := c) (.inl k3)
    have hlen : ((c :: r).take (runN (c :: r))).length ≤ 64 := by rw [List.length_take]; omega
    have hw : wordP ((c :: r).take (runN (c :: r))) = true := by
      unfold wordP
      rw [decide_eq_true hlen, take_run, tw_allr]
      simp [List.takeWhile_cons, hc, startP, k3]
    refine ⟨?_, by simp, by simp, by simp only; omega⟩
    simp [mayP, mkT, hw]
  rw [if_neg k3] at h h0
  by_cases k5 : kindP (bI c) = 5
  · rw [if_pos k5] at h h0
    simp only [Option.some.injEq] at h
    subst h
    have hst : startP r = true := by
      by_cases e : startP r = true
      · exact e
      · rw [if_neg e] at h0; simp at h0
    rw [if_pos hst] at h0
    have hl : runN (c :: r) ≤ 65 := by
      by_cases e : runN (c :: r) ≤ 65
      · exact e
      · rw [if_neg e] at h0; simp at h0
    have hc := kind_run (c := c) (.inr (.inr k5))
    have hc46 : c = 46 := UInt8.toNat_inj.1 (kind_dot ⟨c.toNat, c.toNat_lt⟩ k5)
    have ht : (c :: r).take (runN (c :: r)) = 46 :: r.takeWhile runU := by rw [take_run, List.takeWhile_cons, hc, hc46]; rfl
    have hlen : (46 :: r.takeWhile runU).length ≤ 65 := by rw [← ht, List.length_take]; omega
    rw [ht]
    have hp : Lib.hasPrefix (46 :: r.takeWhile runU) [46] = true := by simp [Lib.hasPrefix, List.isPrefixOf]
    have htr : Lib.trimPrefix (46 :: r.takeWhile runU) [46] = r.takeWhile runU := by unfold Lib.trimPrefix; rw [if_pos hp]; rfl
    have hw : wordP (r.takeWhile runU) = true := by
      cases r with
      | nil => simp [startP] at hst
      | cons d r' =>
        have hk : kindP (bI d) = 3 := by simpa [startP] using hst
        have hd := kind_run (c := d) (.inl hk)
        simp only [List.length_cons] at hlen
        have hl2 : ((d :: r').takeWhile runU).length ≤ 64 := by omega
        unfold wordP
        rw [decide_eq_true hl2, tw_allr]
        simp [List.takeWhile_cons, hd, startP, hk]
    have hdot : dotP (46 :: r.takeWhile runU) = true := by unfold dotP; rw [hp, htr, hw]; rfl
    refine ⟨?_, by simp, by simp, by simp only; omega⟩
    simp [mayP, mkT, hdot]
  rw [if_neg k5] at h h0
  by_cases k4 : kindP (bI c) = 4
  · rw [if_pos k4] at h
    simp only [Option.some.injEq] at h
    subst h
    have := val_rng ((c :: r).take (runN (c :: r)))
    refine ⟨?_, this.1, this.2, by simp⟩
    simp [mayP, mkT]
  rw [if_neg k4] at h h0
  by_cases k7 : kindP (bI c) = 7
  · rw [if_pos k7] at h
    simp only [Option.some.injEq] at h
    subst h
    refine ⟨?_, by simp, by simp, by simp⟩
    simp [mayP, mkT, markB, k7]
  rw [if_neg k7] at h; simp at h
theorem scan_may : ∀ (f : Nat) (l : List UInt8) (q : Int × List UInt8 × Int) (n : Nat), q ∈ (scanF f l).2 → mayP (mkT n q) = 0 ∧ 0 ≤ q.2.2 ∧ q.2.2 < 18446744073709551616 ∧ q.2.1.length ≤ 140737488355328
  | 0, _, q, n, h => by simp [scanF] at h
  | _ + 1, [], q, n, h => by simp [scanF] at h
  | f + 1, c :: r, q, n, h => by
    unfold scanF at h
    split at h
    · rename_i h0
      simp only [List.mem_append, Option.mem_toList] at h
      rcases h with h | h
      · exact piece_may c r q n h0 h
      · exact scan_may f _ q n h
    · simp at h
theorem line_may (l : List UInt8) (q : Int × List UInt8 × Int) (n : Nat) (h : q ∈ (lineP l).2) : mayP (mkT n q) = 0 ∧ 0 ≤ q.2.2 ∧ q.2.2 < 18446744073709551616 ∧ q.2.1.length ≤ 140737488355328 := by
  unfold lineP at h
  split at h
  · exact scan_may _ _ _ n h
  · simp at h
/-- a list that Untoken refuses for its lengths alone -/
def Good : Bool → List Tk → Prop
  | _, [] => True
  | ok, x :: r => mayP x = 0 ∧ (x.k = 0 → r = [] ∧ ok = true) ∧ Good (decide (x.k = 5)) r
theorem good_un : ∀ (ts : List Tk) (ok : Bool) (s : WS), Good ok ts → (unF ok s ts).1 = 0 ∨ (unF ok s ts).1 = 51
  | [], ok, s, _ => .inl rfl
  | x :: r, ok, s, h => by
    obtain ⟨h1, h2, h3⟩ := h
    have e : unF ok s (x :: r) = (if mayP x = 0 then (if x.k = 0 ∧ ¬ (r = [] ∧ ok = true) then (52, s) else if x.k = 5 ∧ 1024 < s.line then (51, s) else unF (decide (x.k = 5)) (s.tok x) r) else (mayP x, s)) := rfl
    rw [e, if_pos h1, if_neg (fun h => h.2 (h2 h.1))]
    split
    · exact .inr rfl
    · exact good_un r _ _ h3
theorem good_raws (ln : Nat) (R : List Tk) : ∀ (X : List (Int × List UInt8 × Int)) (ok : Bool), (∀ q ∈ X, mayP (mkT ln q) = 0) → (∀ q ∈ X, q.1 = 1 ∨ q.1 = 2 ∨ q.1 = 3 ∨ q.1 = 4) → (∀ b, Good b R) → Good ok (X.map (mkT ln) ++ R)
  | [], ok, _, _, hR => hR ok
  | q :: X, ok, h, hk, hR => by
    have hq := hk q (by simp)
    refine ⟨h q (by simp), fun e => ?_, good_raws ln R X _ (fun q hq => h q (by simp [hq])) (fun q hq => hk q (by simp [hq])) hR⟩
    have e' : q.1 = 0 := e
    omega
theorem good_text : ∀ (f n : Nat) (l : List UInt8) (m : Nat) (T : List Tk), l.length ≤ f → textF f n l = (0, m, T) → Good true (T ++ [⟨0, [], 0, (m : Int)⟩]) ∧ NumsOk T
  | 0, n, l, m, T, hl, h => by
    simp [textF] at h
    obtain ⟨rfl, rfl⟩ := h
    exact ⟨⟨rfl, fun _ => ⟨rfl, rfl⟩, trivial⟩, fun x hx => by cases hx⟩
  | f + 1, n, [], m, T, hl, h => by
    simp [textF] at h
    obtain ⟨rfl, rfl⟩ := h
    exact ⟨⟨rfl, fun _ => ⟨rfl, rfl⟩, trivial⟩, fun x hx => by cases hx⟩
  | f + 1, n, c :: r, m, T, hl, h => by
    unfold textF at h
    by_cases hz : (lineP (cutL (c :: r)).1).1 = 0
    · rw [if_pos hz] at h
      simp only [Prod.mk.injEq] at h
      obtain ⟨h1, h2, h3⟩ := h
      have hc := (cutL_len (c :: r) (by simp)).2
      simp only [List.length_cons] at hl hc
      have ih := good_text f (n + 1) (cutL (c :: r)).2 m (textF f (n + 1) (cutL (c :: r)).2).2.2 (by omega) (by rw [← h1, ← h2])
      rw [← h3]
      constructor
      · rw [List.map_append, List.append_assoc, List.append_assoc]
        refine good_raws _ _ _ _ (fun q hq => (line_may _ q _ hq).1) (line_kind _) (fun b => And.intro rfl (And.intro (fun e => absurd (show (5 : Int) = 0 from e) (by decide)) ih.1))
      · intro x hx
        rw [List.mem_append, List.mem_map] at hx
        rcases hx with ⟨q, hq, rfl⟩ | hx
        · rw [List.mem_append] at hq
          rcases hq with hq | hq
          · exact (line_may _ q (n + 1) hq).2
          · simp at hq; subst hq; simp [mkT]
        · exact ih.2 x hx
    · rw [if_neg hz] at h
      simp only [Prod.mk.injEq] at h
      exact absurd h.1 hz
theorem num_inj : ∀ (S T : List Tk) (ln : Nat), numP ln S = true → numP ln T = true → S.map Tk.raw = T.map Tk.raw → S = T
  | [], T, ln, h, _, _ => by simp [numP] at h
  | x :: S, [], ln, _, h, _ => by simp [numP] at h
  | x :: S, y :: T, ln, h1, h2, h => by
    simp only [List.map_cons, List.cons.injEq] at h
    obtain ⟨hxy, hST⟩ := h
    rw [num_cons] at h1 h2
    obtain ⟨xk, xt, xn, xl⟩ := x
    obtain ⟨yk, yt, yn, yl⟩ := y
    simp only [Tk.raw, Prod.mk.injEq] at hxy
    obtain ⟨rfl, rfl, rfl⟩ := hxy
    simp only at h1 h2
    by_cases k0 : xk = 0
    · rw [if_pos k0] at h1 h2
      simp only [Bool.and_eq_true, decide_eq_true_eq] at h1 h2
      rw [h1.1, h2.1, h1.2, h2.2]
    · rw [if_neg k0] at h1 h2
      by_cases e1 : xl = (ln : Int)
      · by_cases e2 : yl = (ln : Int)
        · rw [if_pos e1] at h1
          rw [if_pos e2] at h2
          rw [num_inj S T _ h1 h2 hST, e1, e2]
        · rw [if_neg e2] at h2; cases h2
      · rw [if_neg e1] at h1; cases h1
/-- P5.3, plain: Untoken of Tokens -/
theorem forth_P (l : List UInt8) (h : (tokensP l).2.2 = 0) : (tokensP l).2.1 = 0 ∧ NumsOk (tokensP l).1 ∧ ((untokP (tokensP l).1).2 = 0 ∨ (untokP (tokensP l).1).2 = 51 ∨ (untokP (tokensP l).1).2 = 50) := by
  unfold tokensP at h ⊢
  by_cases hl : l.length ≤ 16777216
  · rw [if_pos hl] at h ⊢
    by_cases h0 : (textD 0 l).1 = 0
    · rw [if_pos h0] at h ⊢
      simp only
      obtain ⟨g1, g2⟩ := good_text l.length 0 l _ _ (Nat.le_refl _) (show textF l.length 0 l = (0, (textD 0 l).2.1, (textD 0 l).2.2) by rw [← h0]; rfl)
      refine ⟨trivial, fun x hx => ?_, ?_⟩
      · rw [List.mem_append] at hx
        rcases hx with hx | hx
        · exact g2 x hx
        · simp at hx; subst hx; simp
      · have hu := good_un _ true ⟨[], 0, 0⟩ g1
        have hlast : lastK ((textD 0 l).2.2 ++ [⟨0, [], 0, ((textD 0 l).2.1 : Int)⟩]) = some 0 := by simp [lastK]
        unfold untokP
        rcases hu with hu | hu
        · rw [if_pos hu, if_pos hlast]
          split
          · exact .inl rfl
          · exact .inr (.inr rfl)
        · rw [if_neg (by rw [hu]; decide)]
          exact .inr (.inl hu)
    · rw [if_neg h0] at h; exact absurd h h0
  · rw [if_neg hl] at h; simp at h
theorem tok_bad (l : List UInt8) (h : ¬ (tokensP l).2.2 = 0) : (tokensP l).1 = [] := by
  unfold tokensP at h ⊢
  split
  · split
    · rename_i h1 h2
      rw [if_pos h1, if_pos h2] at h
      exact absurd rfl h
    · rfl
  · rfl
end Go.Proofs.YtkihaohdcgjioaaGreatDoor.Lx
