import Derived.Test.YtkihaohdcgjioaaGreatDoorGr24
import Derived.Test.YtkihaohdcgjioaaGreatDoorGr28
namespace Go.Proofs.YtkihaohdcgjioaaGreatDoor
open Go.RowKit
set_option linter.unusedVariables false
set_option linter.unusedSimpArgs false
set_option maxRecDepth 20000 in
set_option maxHeartbeats 2000000 in
theorem tokenText_any (w0 : World) (B : Nat) (hB0 : w0.heap.size ≤ B) (hpw : Lx.Pow w0) (w : World) (hw : Out w0 w) (p g mb : Nat) (sv : Value) (t u : Lx.Tk) (r : List Lx.Tk) (h : PS B w p g mb sv (t :: u :: r)) (hl : Lw (t :: u :: r)) (hN : TkOk (t :: u :: r)) :
    Calls Tryz.prog 181 #[.pointer (some ⟨p, 0, none⟩)] w fun e w' => e = .returned (.string ⟨(ttQ t).toArray⟩) ∧ PS B w' p g mb sv (u :: r) ∧ Chg (fun b => b = p) w w' := by
  obtain ⟨off, cap, hR, hT, hc⟩ := h.st
  obtain ⟨q0, -, -, -⟩ := hT 0 t rfl
  simp only [Nat.zero_mul, Nat.add_zero] at q0
  obtain ⟨n0, n1, n2⟩ := hN t (by simp)
  obtain ⟨n, hn⟩ : ∃ n, n = (t :: u :: r).length := ⟨_, rfl⟩
  have hnI : (2 : Int) ≤ n := by rw [hn]; simp; omega
  rw [← hn] at hR hc
  have c0 : w.cell? ⟨p, 0, none⟩ = some (.slice (some ⟨g, off, none⟩) n cap) := by rw [cell_atL hR]; rfl
  have C : Hid (Calls Tryz.prog 97 #[.pointer (some ⟨p, 0, none⟩), .int .i64 t.k] w fun e w' => e = .returned (.agg #[.int .i64 t.k, .string ⟨t.t.toArray⟩, .int .u64 t.n, .int .i64 t.l]) ∧ PS B w' p g mb sv (u :: r) ∧ Chg (fun b => b = p) w w') := hidOf (by
    have := take_any B w p g mb sv (t :: u :: r) t.k h hl
    have e : tkQ t.k (t :: u :: r) = .ok t (u :: r) := by
      show (if t.k = t.k then RE.ok t (u :: r) else RE.no 60 (t :: u :: r)) = _
      rw [if_pos rfl]
    rw [e] at this
    exact this)
  have hpB := h.pB
  have CF : Hid (∀ wx, Out w0 wx → Calls Tryz.prog 104 #[.int .u64 t.n, .int .i64 10] wx fun e w' => e = .returned (.string ⟨(Lib.decDigits t.n.toNat).toArray⟩) ∧ Out wx w') := hidOf (fun wx o => by
    have := Lx.fmt_any t.n.toNat (by omega) wx (hpw.out o)
    rw [show ((t.n.toNat : Nat) : Int) = t.n by omega] at this
    exact this)
  have Hw := hidOf hw
  clear h hl hN hR hT hc hn hw hpw
  by_cases hk : t.k = 3
  · have hkb : (t.k == 3) = true := by simp [hk]
    have HE : Hid (ttQ t = Lib.decDigits t.n.toNat) := hidOf (by unfold ttQ; rw [if_pos hk])
    rw [HE.out]
    clear hk
    go_enter Tryz.func181, Tryz.ntmps181
    go_upto_region 2 with (go_at_call 97; refine C.out.mono ?_; rintro e w1 ⟨rfl, hp, hcg⟩; have P1 := hidOf hp; have C1 := hidOf hcg; clear hp hcg)
    obtain ⟨w2, hw2⟩ : ∃ w2, w2 = w1.alloc (.cells #[.int .i64 t.k, .string ⟨t.t.toArray⟩, .int .u64 t.n, .int .i64 t.l] 117) := ⟨_, rfl⟩
    have o2 : Out w1 w2 := by rw [hw2]; exact (Out.refl w1).alloc _
    have b2 : w2.heap[w1.heap.size]? = some (.cells #[.int .i64 t.k, .string ⟨t.t.toArray⟩, .int .u64 t.n, .int .i64 t.l] 117 (0, 0)) := by rw [hw2]; exact heap_alloc_new w1 _
    rw [← hw2]
    have m0 : w2.cell? ⟨w1.heap.size, 0, none⟩ = some (.int .i64 t.k) := by rw [cell_atL b2]; rfl
    have m2 : w2.cell? ⟨w1.heap.size, 2, none⟩ = some (.int .u64 t.n) := by rw [cell_atL b2]; rfl
    have OW : Hid (Out w0 w2) := hidOf ((Chg.out C1.out Hw.out (fun k hk => by rw [hk]; omega)).trans o2)
    have O2 := hidOf o2
    clear hw2 o2 b2 c0 q0
    go_wp2_with (go_at_call 104; refine (CF.out _ OW.out).mono ?_; rintro e w3 ⟨rfl, ho⟩; have O3 := hidOf ho; clear ho)
    go_ret
    exact ⟨rfl, (P1.out.out O2.out).out O3.out, Chg.then2 C1.out (Chg.of_out (O2.out.trans O3.out))⟩
  · have hkb : (t.k == 3) = false := by simp [hk]
    have HE : Hid (ttQ t = t.t) := hidOf (by unfold ttQ; rw [if_neg hk])
    rw [HE.out]
    clear hk
    go_enter Tryz.func181, Tryz.ntmps181
    go_upto_region 2 with (go_at_call 97; refine C.out.mono ?_; rintro e w1 ⟨rfl, hp, hcg⟩; have P1 := hidOf hp; have C1 := hidOf hcg; clear hp hcg)
    obtain ⟨w2, hw2⟩ : ∃ w2, w2 = w1.alloc (.cells #[.int .i64 t.k, .string ⟨t.t.toArray⟩, .int .u64 t.n, .int .i64 t.l] 117) := ⟨_, rfl⟩
    have o2 : Out w1 w2 := by rw [hw2]; exact (Out.refl w1).alloc _
    have b2 : w2.heap[w1.heap.size]? = some (.cells #[.int .i64 t.k, .string ⟨t.t.toArray⟩, .int .u64 t.n, .int .i64 t.l] 117 (0, 0)) := by rw [hw2]; exact heap_alloc_new w1 _
    rw [← hw2]
    have m0 : w2.cell? ⟨w1.heap.size, 0, none⟩ = some (.int .i64 t.k) := by rw [cell_atL b2]; rfl
    have m1 : w2.cell? ⟨w1.heap.size, 1, none⟩ = some (.string ⟨t.t.toArray⟩) := by rw [cell_atL b2]; rfl
    have O2 := hidOf o2
    clear hw2 o2 b2 c0 q0
    go_wp2
    go_ret
    exact ⟨rfl, P1.out.out O2.out, Chg.then2 C1.out (Chg.of_out O2.out)⟩
theorem dec_len : ∀ (n u : Nat), 0 < n → u < 10 ^ n → (Lib.decDigits u).length ≤ n
  | 0, u, h, _ => absurd h (by omega)
  | n + 1, u, _, h => by
    rw [Lib.decDigits]
    by_cases hu : u < 10
    · rw [dif_pos hu]; simp
    · rw [dif_neg hu, List.length_append]
      have hn : 0 < n := by
        rcases Nat.eq_zero_or_pos n with e | e
        · subst e; simp at h; omega
        · exact e
      have := dec_len n (u / 10) hn (by rw [Nat.pow_succ] at h; omega)
      simp
      omega
theorem ttQ_len {t : Lx.Tk} (h : 0 ≤ t.n ∧ t.n < 18446744073709551616 ∧ t.t.length ≤ 70) : (ttQ t).length ≤ 70 := by
  unfold ttQ
  by_cases hk : t.k = 3
  · rw [if_pos hk]
    have := dec_len 20 t.n.toNat (by omega) (by have := h.2.1; omega)
    omega
  · rw [if_neg hk]; exact h.2.2
def leftOf (p : Nat) (w : World) : Nat := match w.cell? ⟨p, 0, none⟩ with | some (.slice _ n _) => n | _ => 0
theorem PS.left {B : Nat} {w : World} {p g mb : Nat} {sv : Value} {ts : List Lx.Tk} (h : PS B w p g mb sv ts) : leftOf p w = ts.length := by
  obtain ⟨off, cap, hR, _⟩ := h.st
  unfold leftOf
  rw [cell_atL hR]
  rfl
theorem PS.low {B N : Nat} {w w' : World} {p g mb : Nat} {sv : Value} {ts : List Lx.Tk} (h : PS B w p g mb sv ts) (b : Below N w w') (hp : p < N) (hg : g < N) : PS B w' p g mb sv ts := by
  obtain ⟨off, cap, hR, hT, hc⟩ := h.st
  obtain ⟨cs, fr, h4⟩ := h.gk
  refine ⟨⟨off, cap, (b.block p hp).trans hR, fun k x hx => ?_, hc⟩, ⟨cs, fr, (b.block g hg).trans h4⟩, h.pB⟩
  obtain ⟨h0, h1, h2, h3⟩ := hT k x hx
  exact ⟨(Below.cell b hg).trans h0, (Below.cell b hg).trans h1, (Below.cell b hg).trans h2, (Below.cell b hg).trans h3⟩
theorem bld_chg {N b p : Nat} {bs : List Value} {w w' : World} (h : Lib.IsBuilder 77 5 N b bs w) (c : Chg (fun x => x = p) w w') (hp : p < N) : Lib.IsBuilder 77 5 N b bs w' := by
  have key : ∀ q, Lib.BuilderAt 77 5 N b q bs w → Lib.BuilderAt 77 5 N b q bs w' := fun q hh => by
    obtain ⟨hB, v, hb, ho, hne⟩ := hh
    exact ⟨hB, v, (c.block b (Array.getElem?_eq_some_iff.1 hb).1 (fun e => by omega)).trans hb, owns_chg ho (fun k hk e => by have := (World.ownsRow.lt ho k hk).1; omega) c, hne⟩
  exact h.elim (fun x => .inl (key _ x)) (fun x => .inr (key _ x))
theorem ix_step {acc : List UInt8} {t : Lx.Tk} {r : List Lx.Tk} (hk : ¬ t.k = 5) : ixQ acc (t :: r) = ixQ ((if acc.isEmpty then acc else acc ++ [32]) ++ ttQ t) r := by
  conv => lhs; unfold ixQ
  rw [if_neg hk]
theorem ix_stop {acc : List UInt8} {t : Lx.Tk} {r : List Lx.Tk} (hk : t.k = 5) : ixQ acc (t :: r) = (acc, t :: r) := by
  unfold ixQ
  rw [if_pos hk]
set_option maxRecDepth 20000 in
set_option maxHeartbeats 4000000 in
theorem instructionText_any (w0 : World) (B : Nat) (hB0 : w0.heap.size ≤ B) (hpw : Lx.Pow w0) (w : World) (hw : Out w0 w) (p g mb : Nat) (sv : Value) (ts : List Lx.Tk) (h : PS B w p g mb sv ts) (hl : Lw ts) (hN : TkOk ts) (hlen : ts.length ≤ 1000000000) :
    Calls Tryz.prog 138 #[.pointer (some ⟨p, 0, none⟩)] w fun e w' => e = .returned (.string ⟨(ixQ [] ts).1.toArray⟩) ∧ PS B w' p g mb sv (ixQ [] ts).2 ∧ Chg (fun b => b = p) w w' := by
  obtain ⟨X, hX⟩ : ∃ X, X = ixQ [] ts := ⟨_, rfl⟩
  rw [← hX]
  have hpl := h.gl.1
  have hgl := h.gl.2
  have hpB := h.pB
  obtain ⟨N, hNN⟩ : ∃ N, N = w.heap.size := ⟨_, rfl⟩
  obtain ⟨w1, hw1⟩ : ∃ w1, w1 = w.alloc (.cells #[.pointer none, .slice none 0 0] 77) := ⟨_, rfl⟩
  have o1 : Out w w1 := by rw [hw1]; exact (Out.refl w).alloc _
  have b1 : Lib.IsBuilder 77 5 N N (Lib.byteCells []) w1 := .inl ⟨Nat.le_refl _, .slice none 0 0, by rw [hw1, hNN]; exact heap_alloc_new w _, World.ownsRow_nil _ _ _ _, by simp [Value.ownBlock]⟩
  have HP1 := hidOf (h.out o1)
  have HB1 := hidOf b1
  have HO1 := hidOf o1
  have Hw1 := hidOf hw1
  have HNN := hidOf hNN
  have Hw := hidOf hw
  have HX := hidOf hX
  have HL := hidOf hl
  have HK := hidOf hN
  have Hpw := hidOf hpw
  rw [← hNN] at hpl hgl
  clear h hw1 o1 b1 hNN hw hX hl hN hpw
  go_enter Tryz.func138, Tryz.ntmps138
  go_upto_region 2 with fail
  rw [← Hw1.out, ← HNN.out]
  go_loopw [] (fun wr => ∃ (A : List UInt8) (r : List Lx.Tk), Hid (PS B wr p g mb sv r) ∧ Hid (Lw r) ∧ Hid (TkOk r) ∧ Hid (X = ixQ A r) ∧ Hid (Lib.IsBuilder 77 5 N N (Lib.byteCells A) wr) ∧ Hid (Chg (fun b => b = p) w wr) ∧ A.length + 71 * r.length ≤ 71 * ts.length ∧ r.length ≤ ts.length) (fun wr => leftOf p wr)
  case atStart => exact ⟨[], ts, HP1, HL, HK, HX, HB1, hidOf (Chg.of_out HO1.out), by simp, by omega⟩
  case round =>
    clear HP1 HL HK HX HB1
    obtain ⟨A, r, HP, HL, HK, HX, HB, HC, hA, hr⟩ := hrel
    obtain ⟨t, u, r', rfl⟩ := HL.out.two
    obtain ⟨off, cap, hR, hT, hc⟩ := HP.out.st
    obtain ⟨q0, -, -, -⟩ := hT 0 t rfl
    simp only [Nat.zero_mul, Nat.add_zero] at q0
    obtain ⟨n, hn⟩ : ∃ n, n = (t :: u :: r').length := ⟨_, rfl⟩
    have hnI : (2 : Int) ≤ n := by rw [hn]; simp; omega
    rw [← hn] at hR hA hr
    have c0 : wr.cell? ⟨p, 0, none⟩ = some (.slice (some ⟨g, off, none⟩) n cap) := by rw [cell_atL hR]; rfl
    have Hn := hidOf hn
    have HNw : Hid (N ≤ wr.heap.size) := hidOf (by rw [HNN.out]; exact HC.out.size)
    clear hR hT hc hn
    by_cases hk : t.k = 5
    · have hkb : (t.k != 5) = false := by simp [hk]
      have HE : Hid (X = (A, t :: u :: r')) := hidOf (by rw [HX.out, ix_stop hk])
      have CS := hidOf (Tryz.Builder_String_any N N A wr HB.out HNw.out)
      clear hk
      go_wp2_with (go_at_call 32; refine CS.out.mono ?_; rintro e w2 ⟨rfl, hb⟩; have B2 := hidOf hb; clear hb)
      go_ret
      rw [HE.out]
      exact ⟨rfl, HP.out.low B2.out hpl hgl, HC.out.trans (T := fun b => N ≤ b) ⟨B2.out.os, B2.out.tape, B2.out.output, B2.out.size, fun k hk hs => B2.out.block k (by omega)⟩ (fun x hx hlt => by have := HNN.out; omega)⟩
    · have hkb : (t.k != 5) = true := by simp [hk]
      have HE := hidOf (show X = _ from HX.out.trans (ix_step hk))
      have hL1 := HL.out.next hk
      have hK1 : TkOk (u :: r') := tkOk_clo _ _ HK.out
      have htl := ttQ_len (HK.out t (by simp))
      have CT : Hid (∀ wx, Out w0 wx → PS B wx p g mb sv (t :: u :: r') → Calls Tryz.prog 181 #[.pointer (some ⟨p, 0, none⟩)] wx fun e w' => e = .returned (.string ⟨(ttQ t).toArray⟩) ∧ PS B w' p g mb sv (u :: r') ∧ Chg (fun b => b = p) wx w') := hidOf (fun wx o hp => tokenText_any w0 B hB0 Hpw.out wx o p g mb sv t u r' hp HL.out HK.out)
      have CL := hidOf (Tryz.Builder_Len N N (Lib.byteCells A) wr HB.out)
      rw [Lib.byteCells_length] at CL
      have HL1 := hidOf hL1
      have HK1 := hidOf hK1
      generalize ttQ t = z at *
      have HOr : Hid (Out w0 wr) := hidOf (Chg.out HC.out Hw.out (fun k hk => by rw [hk]; omega))
      have hnl : n ≤ 1000000000 := by omega
      clear hk hL1 hK1
      by_cases hA0 : A = []
      · subst hA0
        have HE2 : Hid (X = ixQ z (u :: r')) := hidOf (by rw [HE.out]; rfl)
        have e0 : (([] : List UInt8).length : Int) = 0 := rfl
        go_upto_region 5 with (go_at_call 180; refine CL.out.mono ?_; rintro e wl ⟨rfl, hwl⟩; subst hwl)
        clear c0 q0
        go_wp2_with (first | (go_at_call 181; refine (CT.out _ HOr.out HP.out).mono ?_; rintro e w3 ⟨rfl, hp, hc⟩; have P3 := hidOf hp; have C3 := hidOf hc; have B3 := hidOf (bld_chg HB.out hc hpl); have N3 := hidOf (Nat.le_trans HNw.out hc.size); clear hp hc) | (go_at_call 58; refine (write_any N N _ ⟨z.toArray⟩ w3 B3.out (by simp [Lib.byteCells, mk_size]; omega) N3.out).mono ?_; rintro e w4 ⟨⟨v4, rfl⟩, hb, hbl⟩; have B4 := hidOf hb; have L4 := hidOf hbl; clear hb hbl))
        go_roundw
        case rel =>
          have hP4 := P3.out.low L4.out hpl hgl
          refine ⟨z, u :: r', hidOf hP4, HL1, HK1, HE2, hidOf (by have := B4.out; simpa [Lib.byteCells, Lib.strCells] using this), hidOf ((Chg.then2 HC.out C3.out).trans (T := fun b => N ≤ b) ⟨L4.out.os, L4.out.tape, L4.out.output, L4.out.size, fun k hk hs => L4.out.block k (by omega)⟩ (fun x hx hlt => by have := HNN.out; omega)), ?_, ?_⟩
          · have := Hn.out; simp at this hA ⊢; omega
          · have := Hn.out; simp at this ⊢; omega
        case measure =>
          rw [(P3.out.low L4.out hpl hgl).left, HP.out.left]
          simp
      · have hAp : 0 < A.length := List.length_pos_iff.2 hA0
        have hAI : (0 : Int) < A.length := by omega
        have HE2 : Hid (X = ixQ ((A ++ [32]) ++ z) (u :: r')) := hidOf (by
          rw [HE.out, show A.isEmpty = false by cases A with | nil => exact absurd rfl hA0 | cons => rfl]
          rfl)
        have CB := hidOf (byte6_any N N (Lib.byteCells A) 32 wr HB.out (by rw [Lib.byteCells_length]; omega) HNw.out)
        clear hA0
        go_upto_region 5 with (first | (go_at_call 180; refine CL.out.mono ?_; rintro e wl ⟨rfl, hwl⟩; subst hwl) | (go_at_call 59; refine CB.out.mono ?_; rintro e w2 ⟨⟨v2, rfl⟩, hb, hbl⟩; have B2 := hidOf hb; have L2 := hidOf hbl; clear hb hbl))
        clear c0 q0
        have P2 := hidOf (HP.out.low L2.out hpl hgl)
        have HO2 : Hid (Out w0 w2) := hidOf (Below.trans HOr.out (L2.out.mono (by have := Hw.out.size; have := HNN.out; omega)))
        have N2 := hidOf (Nat.le_trans HNw.out L2.out.size)
        go_wp2_with (first | (go_at_call 181; refine (CT.out _ HO2.out P2.out).mono ?_; rintro e w3 ⟨rfl, hp, hc⟩; have P3 := hidOf hp; have C3 := hidOf hc; have B3 := hidOf (bld_chg B2.out hc hpl); have N3 := hidOf (Nat.le_trans N2.out hc.size); clear hp hc) | (go_at_call 58; refine (write_any N N _ ⟨z.toArray⟩ w3 B3.out (by simp [Lib.byteCells, mk_size]; omega) N3.out).mono ?_; rintro e w4 ⟨⟨v4, rfl⟩, hb, hbl⟩; have B4 := hidOf hb; have L4 := hidOf hbl; clear hb hbl))
        go_roundw
        case rel =>
          have hP4 := P3.out.low L4.out hpl hgl
          have c2 : Chg (fun b => b = p) w w2 := HC.out.trans (T := fun b => N ≤ b) ⟨L2.out.os, L2.out.tape, L2.out.output, L2.out.size, fun k hk hs => L2.out.block k (by omega)⟩ (fun x hx hlt => by have := HNN.out; omega)
          refine ⟨(A ++ [32]) ++ z, u :: r', hidOf hP4, HL1, HK1, HE2, hidOf (by have := B4.out; simpa [Lib.byteCells, Lib.strCells] using this), hidOf ((Chg.then2 c2 C3.out).trans (T := fun b => N ≤ b) ⟨L4.out.os, L4.out.tape, L4.out.output, L4.out.size, fun k hk hs => L4.out.block k (by omega)⟩ (fun x hx hlt => by have := HNN.out; omega)), ?_, ?_⟩
          · have := Hn.out; simp at this hA ⊢; omega
          · have := Hn.out; simp at this ⊢; omega
        case measure =>
          rw [(P3.out.low L4.out hpl hgl).left, HP.out.left]
          simp
end Go.Proofs.YtkihaohdcgjioaaGreatDoor
namespace Go.Proofs.YtkihaohdcgjioaaGreatDoor
open Go.RowKit
open Go.Maps (Keyed)
set_option linter.unusedVariables false
set_option linter.unusedSimpArgs false
def PEnd (r : RS) (e : Ending) : Prop := (r.wrong = true ∧ e = .returned (.tuple #[.agg zero5, .string ⟨#[]⟩, .int .i64 41])) ∨ (r.wrong = false ∧ r.outside = true ∧ e = .returned (.tuple #[.agg zero5, .string ⟨#[]⟩, .int .i64 42])) ∨
  (r.wrong = false ∧ r.outside = false ∧ e = .returned (.tuple #[.agg #[.int .i64 r.o, .int .i64 r.d, .int .i64 r.s, .int .i64 r.f, .int .i64 r.i], .string ⟨r.tgt.toArray⟩, .int .i64 0]))
theorem heap_drew' (w : World) : w.drew.heap = w.heap := rfl
theorem set5_drew {w : World} {b : Nat} {t : TypeId} {x0 x1 x2 x3 x4 u0 u1 u2 u3 u4 : Value} (h : w.heap[b]? = some (.cells #[u0, u1, u2, u3, u4] t (0, 0))) : (((((w.setCell ⟨b, 0, none⟩ x0).setCell ⟨b, 1, none⟩ x1).setCell ⟨b, 2, none⟩ x2).setCell ⟨b, 3, none⟩ x3).setCell ⟨b, 4, none⟩ x4).drew.heap[b]? = some (.cells #[x0, x1, x2, x3, x4] t (0, 0)) := by
  rw [heap_drew']
  exact set5_heap h
theorem out5_drew {w0 w : World} {b : Nat} (h : Out w0 w) (hb : w0.heap.size ≤ b) (x0 x1 x2 x3 x4 : Value) : Out w0 (((((w.setCell ⟨b, 0, none⟩ x0).setCell ⟨b, 1, none⟩ x1).setCell ⟨b, 2, none⟩ x2).setCell ⟨b, 3, none⟩ x3).setCell ⟨b, 4, none⟩ x4).drew := (h.set5 hb x0 x1 x2 x3 x4).drew
set_option maxRecDepth 40000 in
set_option maxHeartbeats 8000000 in
theorem parse_some (w : World) (l : List UInt8) (hE : PEnv w) (hl : l.length ≤ 140737488355328) (o s f i : Int) (hm : meanOf (newR l).tok = some (o, s, f, i)) : Calls Tryz.prog 137 #[.string ⟨l.toArray⟩] w fun e w' => PEnd (behindS (o, s, f, i) (newR l)) e ∧ Out w w' := by
  have CN : Hid (∀ wx, Calls Tryz.prog 175 #[.string ⟨l.toArray⟩] wx fun e w' => ∃ p, e = .returned (.pointer (some ⟨p, 0, none⟩)) ∧ wx.heap.size ≤ p ∧ RdAt w' p (newR l).cells ∧ Out wx w') := fun wx => newReader_any wx l hl
  have CM : Hid (∀ wx, Out w wx → Calls Tryz.prog 176 #[.string ⟨(newR l).tok.toArray⟩] wx fun e w' => e = .returned (.tuple #[.agg #[.int .u8 o, .int .u8 s, .int .u8 f, .int .u8 i], .bool true]) ∧ Out wx w') := fun wx ho => (meaning_any wx _ (hE.2.out ho)).mono fun e w' ⟨a, b⟩ => ⟨by rw [a, hm]; rfl, b⟩
  have HSm := hidOf (newR_sm hl)
  have HM := hidOf hm
  have HEnv := hidOf hE.1
  have CI : Hid (∀ wx, Calls Tryz.prog 177 #[.agg #[.int .u8 o, .int .u8 s, .int .u8 f, .int .u8 i]] wx fun e w' => e = .returned (.agg #[.int .i64 o, .int .i64 0, .int .i64 s, .int .i64 f, .int .i64 i]) ∧ Out wx w') := fun wx => insn_any o s f i wx (mean_bd _ _ hm)
  have HF : Hid ((formP o == 0) = false) := by
    obtain ⟨x, hx, hx0, hxe⟩ := mean_mem _ _ hm
    have := (mean_f x hx hx0).1
    rw [hxe] at this
    simp only at this
    exact hidOf (by simp only [beq_eq_false_iff_ne]; omega)
  clear hE hl hm
  generalize newR l = r at *
  go_enter Tryz.func137, Tryz.ntmps137
  go_wp2_with (first | (go_at_call 175; refine (CN.out _).mono ?_; rintro e w1 ⟨p, rfl, hp, hR, ho⟩; have H1 := hidOf hR; have Hp := hidOf hp; have Ho1 := hidOf (Out.trans ((Out.refl w).alloc _) ho); have HoA := hidOf ho; have d1 : w1.cell? ⟨p, 1, none⟩ = some (.string ⟨r.tok.toArray⟩) := hR.cell 1; clear hp hR ho))
  have nw1 := World.new_ne w1 ⟨p, 1, none⟩ d1
  go_at_call 176
  refine (CM.out w1 Ho1.out).mono ?_
  rintro e w2 ⟨rfl, ho⟩
  have d1A : w2.cell? ⟨p, 1, none⟩ = some (.string ⟨r.tok.toArray⟩) := cell_later ho d1
  have Hw2 : Hid (Out w1 w2) := ho
  have nw := World.new_ne w2 ⟨p, 1, none⟩ d1A
  clear ho
  go_upto_if 19 with fail
  refine via_wp (fun wz => Out w1 wz ∧ ∀ j, wz.cell? ⟨w2.heap.size, j, none⟩ = (#[.int .u8 o, .int .u8 s, .int .u8 f, .int .u8 i] : Array Value)[j]?) ⟨Hw2.out.alloc _, fun j => new_cell w2 _ _ j⟩ ?_
  all_goals rintro wz ⟨hz, hbx⟩
  all_goals have HB := hidOf (res_cells (Out.trans HoA.out hz))
  all_goals have M0 : Hid (MEnd p r wz wz) := MEnd.refl (H1.out.below hz)
  all_goals have HRd : Hid (∀ wx r', MEnd p r' wz wx → Rdr (w.alloc (.cells #[.int .i64 0, .int .i64 0, .int .i64 0, .int .i64 0, .int .i64 0] 58)) p wx ∧ Out w wx) := fun wx r' m => (fun (hR : Rdr (w.alloc (.cells #[.int .i64 0, .int .i64 0, .int .i64 0, .int .i64 0, .int .i64 0] 58)) p wz) => ⟨hR.next m, Out.trans ((Out.refl w).alloc _) (m.out hR)⟩) ⟨HEnv.out.out ((Out.refl w).alloc _), Out.trans HoA.out hz, Hp.out⟩
  all_goals have CX : Hid (∀ wx, MEnd p { r with o := o, d := 0, s := s, f := f, i := i } wz wx → Calls Tryz.prog 178 #[.pointer (some ⟨p, 0, none⟩)] wx fun e w' => (∃ v, e = .returned v) ∧ MEnd p (RS.next { r with o := o, d := 0, s := s, f := f, i := i }) wz w') := nextM wz p { r with o := o, d := 0, s := s, f := f, i := i } HSm.out
  all_goals have CO : Hid (∀ wx, MEnd p (RS.next { r with o := o, d := 0, s := s, f := f, i := i }) wz wx → Calls Tryz.prog 179 #[.pointer (some ⟨p, 0, none⟩)] wx fun e w' => (∃ v, e = .returned v) ∧ MEnd p (behindS (o, s, f, i) r) wz w') := fun wx m => (operands_any (w.alloc (.cells #[.int .i64 0, .int .i64 0, .int .i64 0, .int .i64 0, .int .i64 0] 58)) wx p (hidOf (HRd.out wx _ m).1) _ m.1 (Sm.next (r := { r with o := o, d := 0, s := s, f := f, i := i }) HSm.out) HF.out).mono fun e w' ⟨a, b⟩ => ⟨a, m.trans b⟩
  all_goals (obtain ⟨rz, Hrz⟩ : ∃ rz, Hid (behindS (o, s, f, i) r = rz) := ⟨_, hidOf rfl⟩; rw [Hrz.out] at CO; generalize RS.next { r with o := o, d := 0, s := s, f := f, i := i } = rn at *)
  all_goals (first | (have c0 : wz.cell? ⟨w2.heap.size, 0, none⟩ = some (.int .u8 o) := hbx 0; have c1 : wz.cell? ⟨w2.heap.size, 1, none⟩ = some (.int .u8 s) := hbx 1; have c2 : wz.cell? ⟨w2.heap.size, 2, none⟩ = some (.int .u8 f) := hbx 2; have c3 : wz.cell? ⟨w2.heap.size, 3, none⟩ = some (.int .u8 i) := hbx 3) | (have c0 : wz.cell? ⟨w1.heap.size, 0, none⟩ = some (.int .u8 o) := hbx 0; have c1 : wz.cell? ⟨w1.heap.size, 1, none⟩ = some (.int .u8 s) := hbx 1; have c2 : wz.cell? ⟨w1.heap.size, 2, none⟩ = some (.int .u8 f) := hbx 2; have c3 : wz.cell? ⟨w1.heap.size, 3, none⟩ = some (.int .u8 i) := hbx 3))
  all_goals clear hz hbx d1 d1A CM CN
  all_goals go_wp2_with (first | (go_at_call 179; refine (CO.out _ M3.out).mono ?_; rintro e w6 ⟨⟨v6, rfl⟩, hm⟩; have M6 := hidOf hm; have HB6 := hidOf (res_cells (HRd.out _ _ hm).1.2.1); have HO6 := hidOf (HRd.out _ _ hm).2; have q8 := hm.cw.1; have q9 : w6.cell? ⟨p, 9, none⟩ = some (.bool rz.outside) := hm.1.cell 9; have q2 := hm.co.1; have q3 := hm.cd.1; have q4 := hm.cs.1; have q5 := hm.cf.1; have q6 := hm.ci.1; have q7 : w6.cell? ⟨p, 7, none⟩ = some (.string ⟨rz.tgt.toArray⟩) := hm.1.cell 7; have r0 : w6.cell? ⟨w.heap.size, 0, none⟩ = some (.int .i64 0) := (blk_cell HB6.out 0).1; have r1 : w6.cell? ⟨w.heap.size, 1, none⟩ = some (.int .i64 0) := (blk_cell HB6.out 1).1; have r2 : w6.cell? ⟨w.heap.size, 2, none⟩ = some (.int .i64 0) := (blk_cell HB6.out 2).1; have r3 : w6.cell? ⟨w.heap.size, 3, none⟩ = some (.int .i64 0) := (blk_cell HB6.out 3).1; have r4 : w6.cell? ⟨w.heap.size, 4, none⟩ = some (.int .i64 0) := (blk_cell HB6.out 4).1; have f0 := (blk_cell HB6.out 0).2; have f1 := (blk_cell HB6.out 1).2; have f2 := (blk_cell HB6.out 2).2; have f3 := (blk_cell HB6.out 3).2; have f4 := (blk_cell HB6.out 4).2; clear hm) | (go_at_call 178; refine (CX.out _ (M1.out.insn o 0 s f i)).mono ?_; rintro e w5 ⟨⟨v5, rfl⟩, hm⟩; have M3 := hidOf hm; clear hm) | (go_at_call 177; refine (CI.out _).mono ?_; rintro e w3 ⟨rfl, ho⟩; have hm : MEnd p r wz w3 := ⟨M0.out.1.below ho, Chg.of_out ho⟩; have M1 := hidOf hm; have p2 := hm.co.1; have p3 := hm.cd.1; have p4 := hm.cs.1; have p5 := hm.cf.1; have p6 := hm.ci.1; have g2 := hm.co.2; have g3 := hm.cd.2; have g4 := hm.cs.2; have g5 := hm.cf.2; have g6 := hm.ci.2; clear ho hm))
  all_goals have hn1 : ¬ p = w.heap.size := by have := Hp.out; rw [size_alloc] at this; omega
  all_goals have hn2 : ¬ w.heap.size = p := fun h => hn1 h.symm
  all_goals first | (refine bodyPost_ret (results_row_tmp2 rfl _ _ w.heap.size 58 #[.int .i64 0, .int .i64 0, .int .i64 0, .int .i64 0, .int .i64 0] (0, 0) _ rfl (set5_heap HB6.out) Tryz.underlying58 rfl size5) rfl ?_; rw [Hrz.out]; exact ⟨.inl ⟨by assumption, rfl⟩, HO6.out.set5 (Nat.le_refl _) _ _ _ _ _⟩) | (refine bodyPost_ret (results_row_tmp2 rfl _ _ w.heap.size 58 #[.int .i64 0, .int .i64 0, .int .i64 0, .int .i64 0, .int .i64 0] (0, 0) _ rfl (set5_heap HB6.out) Tryz.underlying58 rfl size5) rfl ?_; rw [Hrz.out]; exact ⟨.inr (.inl ⟨by assumption, by assumption, rfl⟩), HO6.out.set5 (Nat.le_refl _) _ _ _ _ _⟩) | skip
  all_goals go_region_law (fail)
  all_goals refine via_world (fun wz => wz.heap[w.heap.size]? = some (.cells #[.int .i64 rz.o, .int .i64 rz.d, .int .i64 rz.s, .int .i64 rz.f, .int .i64 rz.i] 58 (0, 0)) ∧ Out w wz) ⟨set5_drew HB6.out, out5_drew HO6.out (Nat.le_refl _) _ _ _ _ _⟩ ?_
  all_goals rintro wq ⟨hq, hoq⟩
  all_goals have HQ := hidOf hq
  all_goals have HOQ := hidOf hoq
  all_goals clear hq hoq q2 q3 q4 q5 q6 q7 q8 q9 r0 r1 r2 r3 r4 f0 f1 f2 f3 f4 CX CO CI HRd M0 M1 M3 M6 HB6 HO6 p2 p3 p4 p5 p6 g2 g3 g4 g5 g6 hn1 hn2 c0 c1 c2 c3 HB HF HM HSm HEnv H1 Hp Ho1 HoA
  all_goals go_simp
  all_goals go_wp2
  all_goals refine bodyPost_ret (results_row_tmp2 rfl _ _ w.heap.size 58 #[.int .i64 rz.o, .int .i64 rz.d, .int .i64 rz.s, .int .i64 rz.f, .int .i64 rz.i] (0, 0) _ rfl HQ.out Tryz.underlying58 rfl size5) rfl ?_
  all_goals rw [Hrz.out]
  all_goals exact ⟨.inr (.inr ⟨by assumption, by assumption, rfl⟩), HOQ.out⟩
end Go.Proofs.YtkihaohdcgjioaaGreatDoor
