import Derived.Test.YtkihaohdcgjioaaGreatDoorGp45
import Derived.Lib.ConvBytes
namespace Go.Proofs.YtkihaohdcgjioaaGreatDoor
open Go.RowKit
set_option linter.unusedVariables false
set_option linter.unusedSimpArgs false
/-- a line more -/
def wlP (l : List UInt8) (a : Nat) (t : List UInt8) : List UInt8 := if a + (t.length + 1) ≤ 16777216 then l ++ t ++ [10] else l
theorem Pw.low {N p : Nat} {w w' : World} {l : List UInt8} {a b : Nat} {ad bv : Value} (h : Lx.Pw.Wr N p w l a b ad bv) (o : Out w w') : Lx.Pw.Wr N p w' l a b ad bv := h.out o
set_option maxRecDepth 20000 in
set_option maxHeartbeats 1000000 in
theorem wline_any (N p : Nat) (w : World) (l : List UInt8) (a : Nat) (ad bv : Value) (t : List UInt8) (h : Lx.Pw.Wr N p w l a 0 ad bv) (hl : l.length ≤ 16777216) (ht : t.length ≤ 1000000) (ha : a ≤ 1000000000000000000) :
    Calls Tryz.prog 31 #[.pointer (some ⟨p, 0, none⟩), .string ⟨t.toArray⟩] w fun e w' => (∃ v, e = .returned v) ∧ (∃ ad' bv', Lx.Pw.Wr N p w' (wlP l a t) (a + (t.length + 1)) 0 ad' bv') ∧ Below N w w' := by
  obtain ⟨X, hX⟩ : ∃ X, X = wlP l a t := ⟨_, rfl⟩
  rw [← hX]
  have HX := hidOf hX
  have c2 : w.cell? ⟨p, 2, none⟩ = some (.int .i64 a) := h.cell 2
  have f2 : w.frozen? ⟨p, 2, none⟩ = false := h.frozen 2
  obtain ⟨n, hn⟩ : ∃ n, n = t.length := ⟨_, rfl⟩
  have hts : (⟨t.toArray⟩ : ByteArray).size = n := by rw [hn]; exact Lx.mk_size t
  obtain ⟨w1, hw1⟩ : ∃ w1, w1 = w.setCell ⟨p, 2, none⟩ (.int .i64 ((a + (n + 1) : Nat) : Int)) := ⟨_, rfl⟩
  have h1 : Lx.Pw.Wr N p w1 l (a + (n + 1)) 0 ad bv := by rw [hw1]; exact h.set2 _
  have B1 : Hid (Below N w w1) := hidOf (by rw [hw1]; exact Below.setCell (Below.refl N w) h.le _)
  have d2 : w1.cell? ⟨p, 2, none⟩ = some (.int .i64 ((a + (n + 1) : Nat) : Int)) := h1.cell 2
  have H1 := hidOf h1
  have CW := hidOf (Lx.Pw.write_any N p w1 l (a + (n + 1)) 0 ad bv t h1 (by omega))
  have CB : Hid (∀ wx ad bv, Lx.Pw.Wr N p wx (l ++ t) (a + (n + 1)) 0 ad bv → Calls Tryz.prog 59 #[.pointer (some ⟨p, 0, none⟩), .int .u8 10] wx fun e w' => (∃ v, e = .returned v) ∧ (∃ ad' bv', Lx.Pw.Wr N p w' (l ++ t ++ [10]) (a + (n + 1)) 0 ad' bv') ∧ Below N wx w') := hidOf (fun wx ad bv h => Lx.Pw.byte_any N p wx (l ++ t) (a + (n + 1)) 0 ad bv 10 h (by rw [List.length_append]; omega))
  have Hw1 : Hid (w1 = w.setCell ⟨p, 2, none⟩ (.int .i64 ((a : Int) + ((n : Int) + 1)))) := hidOf (by rw [hw1]; simp)
  have hnI : (n : Int) ≤ 1000000 := by omega
  have haI : (a : Int) ≤ 1000000000000000000 := by omega
  have Hn := hidOf hn
  rw [← hn] at ht ⊢
  clear h h1 hw1 hX hn
  by_cases hm : a + (n + 1) ≤ 16777216
  · have hmI : (a : Int) + ((n : Int) + 1) ≤ 16777216 := by omega
    have HE : Hid (X = l ++ t ++ [10]) := hidOf (by rw [HX.out]; unfold wlP; rw [← Hn.out, if_pos hm])
    have d2' : w1.cell? ⟨p, 2, none⟩ = some (.int .i64 ((a : Int) + ((n : Int) + 1))) := by rw [d2]; simp
    clear d2 hm
    go_enter Tryz.func31, Tryz.ntmps31
    go_upto_region 1 with fail
    rw [← Hw1.out]
    go_wp2_with (first | (go_at_call 58; refine CW.out.mono ?_; rintro e w2 ⟨⟨v2, rfl⟩, ⟨ad2, bv2, hw⟩, hb⟩; have W2 := hidOf hw; have B2 := hidOf hb; clear hw hb) | (go_at_call 59; refine (CB.out _ _ _ W2.out).mono ?_; rintro e w3 ⟨⟨v3, rfl⟩, ⟨ad3, bv3, hw⟩, hb⟩; have W3 := hidOf hw; have B3 := hidOf hb; clear hw hb))
    go_end0
    rw [HE.out]
    exact ⟨⟨_, rfl⟩, ⟨_, _, W3.out⟩, Below.trans B1.out (Below.trans B2.out B3.out)⟩
  · have hmI : ¬ (a : Int) + ((n : Int) + 1) ≤ 16777216 := by omega
    have HE : Hid (X = l) := hidOf (by rw [HX.out]; unfold wlP; rw [← Hn.out, if_neg hm])
    have d2' : w1.cell? ⟨p, 2, none⟩ = some (.int .i64 ((a : Int) + ((n : Int) + 1))) := by rw [d2]; simp
    clear d2 hm
    go_enter Tryz.func31, Tryz.ntmps31
    go_upto_region 1 with fail
    rw [← Hw1.out]
    go_wp2
    go_end0
    rw [HE.out]
    exact ⟨⟨_, rfl⟩, ⟨_, _, H1.out⟩, B1.out⟩
/-- the text of lines -/
def prF : List UInt8 → Nat → List (List UInt8 × Int) → List UInt8 × Int
  | l, a, [] => if 16777216 < a then ([], 50) else (l, 0)
  | l, a, (t, e) :: r => if e = 0 then prF (wlP l a t) (a + (t.length + 1)) r else ([], e)
/-- statements in memory -/
def StR (w : World) (g off : Nat) (Y : List (Stm × Value × Value)) : Prop := ∀ k y, Y[k]? = some y → (∃ aw nw cw, y.2.1 = .slice aw nw cw) ∧ (∃ an nn cn, y.2.2 = .slice an nn cn) ∧ ∀ i u, (stL y.1 y.2.1 y.2.2)[i]? = some u → w.cell? ⟨g, off + k * 11 + i, none⟩ = some u
theorem wl_len {l t : List UInt8} {a : Nat} (h : l.length ≤ 16777216) (h2 : l.length ≤ a) : (wlP l a t).length ≤ 16777216 ∧ (wlP l a t).length ≤ a + (t.length + 1) := by
  unfold wlP
  by_cases e : a + (t.length + 1) ≤ 16777216
  · rw [if_pos e]; simp only [List.length_append, List.length_cons, List.length_nil]; omega
  · rw [if_neg e]; omega
set_option maxRecDepth 20000 in
set_option maxHeartbeats 4000000 in
theorem print6_any (w : World) (g off cap : Nat) (Y : List (Stm × Value × Value)) (R : List (List UInt8 × Int)) (hR : R.length = Y.length) (hS : StR w g off Y) (hg : g < w.heap.size) (hcap : Y.length ≤ cap) (hlen : Y.length ≤ 100000000000)
    (LC : ∀ wx, Out w wx → ∀ (k : Nat) (y : Stm × Value × Value) (r : List UInt8 × Int), Y[k]? = some y → R[k]? = some r → Calls Tryz.prog 30 #[stE y.1 y.2.1 y.2.2] wx fun e w' => e = .returned (.tuple #[.string ⟨r.1.toArray⟩, .int .i64 r.2]) ∧ Out wx w') (hT : ∀ r ∈ R, r.2 = 0 → r.1.length ≤ 1000000) :
    Calls Tryz.prog 12 #[.slice (some ⟨g, off, none⟩) Y.length cap] w fun e w' => e = .returned (.tuple #[.string ⟨(prF [] 0 R).1.toArray⟩, .int .i64 (prF [] 0 R).2]) ∧ Out w w' := by
  obtain ⟨X, hX⟩ : ∃ X, X = prF [] 0 R := ⟨_, rfl⟩
  rw [← hX]
  have HX := hidOf hX
  obtain ⟨n, hn⟩ : ∃ n, n = Y.length := ⟨_, rfl⟩
  have Hn := hidOf hn
  obtain ⟨N, hNN⟩ : ∃ N, N = w.heap.size := ⟨_, rfl⟩
  obtain ⟨w1, hw1⟩ : ∃ w1, w1 = w.alloc (.cells #[.pointer none, .slice none 0 0, .int .i64 0] 79) := ⟨_, rfl⟩
  have b1 : w1.heap[N]? = some (.cells #[.pointer none, .slice none 0 0, .int .i64 0] 79 (0, 0)) := by rw [hw1, hNN]; exact heap_alloc_new w _
  have H1 : Hid (Lx.Pw.Wr N N w1 [] 0 0 (.pointer none) (.slice none 0 0)) := hidOf ⟨Nat.le_refl _, b1, .inl rfl, World.ownsRow_nil _ _ _ _, fun k hk => by simp [Value.ownBlock] at hk, fun _ => rfl⟩
  have B1 : Hid (Below N w w1) := hidOf (by rw [hw1, hNN]; exact (Out.refl w).alloc _)
  have Hw1 := hidOf hw1
  have HNN := hidOf hNN
  have HS := hidOf hS
  have HLC := hidOf LC
  have HT := hidOf hT
  have HR := hidOf hR
  rw [← hn] at hcap hlen ⊢
  have hgN : g < N := by rw [hNN]; exact hg
  clear hX hn hNN hw1 b1 hS LC hT hR
  go_enter Tryz.func12, Tryz.ntmps12
  go_upto_region 2 with fail
  rw [← Hw1.out, ← HNN.out]
  go_upto_region 3 with fail
  go_loopw [11] (fun i wr => ∃ (k : Nat) (l : List UInt8) (a : Nat) (ad bv : Value), i = .int .i64 k ∧ k ≤ n ∧ Hid (Lx.Pw.Wr N N wr l a 0 ad bv) ∧ Hid (Below N w wr) ∧ l.length ≤ 16777216 ∧ l.length ≤ a ∧ a ≤ 1000001 * k ∧ Hid (X = prF l a (R.drop k))) (fun i _ => n - (intOf i).toNat)
  case atStart => exact ⟨0, [], 0, _, _, rfl, by omega, H1, B1, by simp, by simp, by omega, hidOf (by rw [HX.out]; rfl)⟩
  case round =>
    clear H1 B1
    obtain ⟨k, l, a, ad, bv, rfl, hk, HW, HB, hl, hla, ha, HQ⟩ := hrel
    by_cases hlt : k < n
    · have hltI : (k : Int) < n := by omega
      obtain ⟨y, hy⟩ : ∃ y, Y[k]? = some y := ⟨_, List.getElem?_eq_getElem (by have := Hn.out; omega)⟩
      obtain ⟨r, hr⟩ : ∃ r, R[k]? = some r := ⟨_, List.getElem?_eq_getElem (by have := Hn.out; have := HR.out; omega)⟩
      obtain ⟨⟨aw, nw, cw, e1⟩, ⟨an, nn, cn, e2⟩, hcl⟩ := HS.out k y hy
      obtain ⟨x, wv, nv⟩ := y
      simp only at e1 e2 hcl
      subst e1 e2
      have CELL : ∀ i u, (stL x (.slice aw nw cw) (.slice an nn cn))[i]? = some u → wr.cell? ⟨g, off + k * 11 + i, none⟩ = some u := fun i u hu => (Below.cell HB.out hgN).trans (hcl i u hu)
      have q0 : wr.cell? ⟨g, off + k * 11, none⟩ = some (.int .i64 x.k) := CELL 0 _ rfl
      have q1 : wr.cell? ⟨g, off + k * 11 + 1, none⟩ = some (.string ⟨x.nm.toArray⟩) := CELL 1 _ rfl
      have q2 : wr.cell? ⟨g, off + k * 11 + 2, none⟩ = some (.slice aw nw cw) := CELL 2 _ rfl
      have q3 : wr.cell? ⟨g, off + k * 11 + 3, none⟩ = some (.slice an nn cn) := CELL 3 _ rfl
      have q4 : wr.cell? ⟨g, off + k * 11 + 4, none⟩ = some (.int .i64 x.o) := CELL 4 _ rfl
      have q5 : wr.cell? ⟨g, off + k * 11 + 5, none⟩ = some (.int .i64 x.d) := CELL 5 _ rfl
      have q6 : wr.cell? ⟨g, off + k * 11 + 6, none⟩ = some (.int .i64 x.s) := CELL 6 _ rfl
      have q7 : wr.cell? ⟨g, off + k * 11 + 7, none⟩ = some (.int .i64 x.f) := CELL 7 _ rfl
      have q8 : wr.cell? ⟨g, off + k * 11 + 8, none⟩ = some (.int .i64 x.i) := CELL 8 _ rfl
      have q9 : wr.cell? ⟨g, off + k * 11 + 9, none⟩ = some (.string ⟨x.tg.toArray⟩) := CELL 9 _ rfl
      have q10 : wr.cell? ⟨g, off + k * 11 + 10, none⟩ = some (.int .i64 x.l) := CELL 10 _ rfl
      have LC : Hid (∀ wx, Out w wx → Calls Tryz.prog 30 #[.agg #[.int .i64 x.k, .string ⟨x.nm.toArray⟩, .slice aw nw cw, .slice an nn cn, .int .i64 x.o, .int .i64 x.d, .int .i64 x.s, .int .i64 x.f, .int .i64 x.i, .string ⟨x.tg.toArray⟩, .int .i64 x.l]] wx fun e w' => e = .returned (.tuple #[.string ⟨r.1.toArray⟩, .int .i64 r.2]) ∧ Out wx w') := hidOf (fun wx o => by
        have h9 := HLC.out wx o k (x, .slice aw nw cw, .slice an nn cn) r hy hr
        simp only [stE] at h9
        exact h9)
      have hdr : R.drop k = r :: R.drop (k + 1) := by
        have hlt' : k < R.length := by have := Hn.out; have := HR.out; omega
        rw [List.drop_eq_getElem_cons hlt']
        congr 1
        have := List.getElem?_eq_getElem hlt'
        rw [this] at hr
        exact Option.some.inj hr
      have hrm : r ∈ R := List.mem_of_getElem? hr
      obtain ⟨t, ec⟩ := r
      simp only at LC
      clear CELL hcl hy hr
      go_upto_region 5 with fail
      obtain ⟨w2, hw2⟩ : ∃ w2, w2 = wr.alloc (.cells #[.int .i64 x.k, .string ⟨x.nm.toArray⟩, .slice aw nw cw, .slice an nn cn, .int .i64 x.o, .int .i64 x.d, .int .i64 x.s, .int .i64 x.f, .int .i64 x.i, .string ⟨x.tg.toArray⟩, .int .i64 x.l] 60) := ⟨_, rfl⟩
      rw [← hw2]
      have O2 : Hid (Out wr w2) := hidOf (by rw [hw2]; exact (Out.refl wr).alloc _)
      have b2 : w2.heap[wr.heap.size]? = some (.cells #[.int .i64 x.k, .string ⟨x.nm.toArray⟩, .slice aw nw cw, .slice an nn cn, .int .i64 x.o, .int .i64 x.d, .int .i64 x.s, .int .i64 x.f, .int .i64 x.i, .string ⟨x.tg.toArray⟩, .int .i64 x.l] 60 (0, 0)) := by rw [hw2]; exact heap_alloc_new wr _
      have m0 : w2.cell? ⟨wr.heap.size, 0, none⟩ = some (.int .i64 x.k) := by rw [cell_atL b2]; rfl
      have m1 : w2.cell? ⟨wr.heap.size, 1, none⟩ = some (.string ⟨x.nm.toArray⟩) := by rw [cell_atL b2]; rfl
      have m2 : w2.cell? ⟨wr.heap.size, 2, none⟩ = some (.slice aw nw cw) := by rw [cell_atL b2]; rfl
      have m3 : w2.cell? ⟨wr.heap.size, 3, none⟩ = some (.slice an nn cn) := by rw [cell_atL b2]; rfl
      have m4 : w2.cell? ⟨wr.heap.size, 4, none⟩ = some (.int .i64 x.o) := by rw [cell_atL b2]; rfl
      have m5 : w2.cell? ⟨wr.heap.size, 5, none⟩ = some (.int .i64 x.d) := by rw [cell_atL b2]; rfl
      have m6 : w2.cell? ⟨wr.heap.size, 6, none⟩ = some (.int .i64 x.s) := by rw [cell_atL b2]; rfl
      have m7 : w2.cell? ⟨wr.heap.size, 7, none⟩ = some (.int .i64 x.f) := by rw [cell_atL b2]; rfl
      have m8 : w2.cell? ⟨wr.heap.size, 8, none⟩ = some (.int .i64 x.i) := by rw [cell_atL b2]; rfl
      have m9 : w2.cell? ⟨wr.heap.size, 9, none⟩ = some (.string ⟨x.tg.toArray⟩) := by rw [cell_atL b2]; rfl
      have m10 : w2.cell? ⟨wr.heap.size, 10, none⟩ = some (.int .i64 x.l) := by rw [cell_atL b2]; rfl
      have hNr : N ≤ wr.heap.size := by rw [HNN.out]; exact HB.out.size
      have B2 : Hid (Below N w w2) := hidOf (Below.trans HB.out (Below.mono O2.out hNr))
      have OW2 : Hid (Out w w2) := hidOf (by have := B2.out; rw [HNN.out] at this; exact this)
      clear hw2 b2 q0 q1 q2 q3 q4 q5 q6 q7 q8 q9 q10
      by_cases he : ec = 0
      · subst he
        have htl : t.length ≤ 1000000 := HT.out _ hrm rfl
        have HQ2 : Hid (X = prF (wlP l a t) (a + (t.length + 1)) (R.drop (k + 1))) := hidOf (by
          rw [HQ.out, hdr]
          show (if (0 : Int) = 0 then prF (wlP l a t) (a + (t.length + 1)) (R.drop (k + 1)) else ([], 0)) = _
          rw [if_pos rfl])
        have CW : Hid (∀ wx, Out wr wx → Calls Tryz.prog 31 #[.pointer (some ⟨N, 0, none⟩), .string ⟨t.toArray⟩] wx fun e w' => (∃ v, e = .returned v) ∧ (∃ ad' bv', Lx.Pw.Wr N N w' (wlP l a t) (a + (t.length + 1)) 0 ad' bv') ∧ Below N wx w') := hidOf (fun wx o => wline_any N N wx l a ad bv t (HW.out.out o) hl htl (by omega))
        obtain ⟨hw5, hw6⟩ := wl_len (t := t) hl hla
        clear hdr hrm
        generalize wlP l a t = l' at *
        generalize t.length = tn at *
        go_wp2_with (first | (go_at_call 30; refine (LC.out _ OW2.out).mono ?_; rintro e w3 ⟨rfl, ho⟩; have O3 := hidOf (O2.out.trans ho); have B3 := hidOf (Below.trans B2.out (Below.mono ho (by have := O2.out.size; omega))); clear ho) | (go_at_call 31; refine (CW.out _ O3.out).mono ?_; rintro e w4 ⟨⟨v4, rfl⟩, ⟨ad4, bv4, hw⟩, hb⟩; have W4 := hidOf hw; have B4 := hidOf (Below.trans B3.out hb); clear hw hb))
        go_roundw
        case rel => exact ⟨k + 1, l', a + (tn + 1), ad4, bv4, by simp, by omega, W4, B4, hw5, hw6, by omega, HQ2⟩
        case measure => simp [intOf]; omega
      · have hb : (ec != 0) = true := by simpa using he
        have HE : Hid (X = ([], ec)) := hidOf (by
          rw [HQ.out, hdr]
          show (if ec = 0 then prF (wlP l a t) (a + (t.length + 1)) (R.drop (k + 1)) else ([], ec)) = _
          rw [if_neg he])
        clear he hdr hrm
        go_wp2_with (go_at_call 30; refine (LC.out _ OW2.out).mono ?_; rintro e w3 ⟨rfl, ho⟩; have O3 := hidOf (OW2.out.trans ho); clear ho)
        go_ret2
        rw [HE.out]
        exact ⟨rfl, O3.out⟩
    · have e : k = n := by omega
      subst e
      have c2 : wr.cell? ⟨N, 2, none⟩ = some (.int .i64 a) := HW.out.cell 2
      have HQ2 : Hid (X = if 16777216 < a then ([], 50) else (l, 0)) := hidOf (by
        rw [HQ.out, List.drop_of_length_le (by have := Hn.out; have := HR.out; omega)]
        rfl)
      have OW : Hid (Out w wr) := hidOf (by have := HB.out; rw [HNN.out] at this; exact this)
      by_cases hm : 16777216 < a
      · have hmI : (16777216 : Int) < a := by omega
        have HE : Hid (X = ([], 50)) := hidOf (by rw [HQ2.out, if_pos hm])
        go_wp2
        go_ret2
        rw [HE.out]
        exact ⟨rfl, OW.out⟩
      · have hmI : ¬ (16777216 : Int) < a := by omega
        have HE : Hid (X = (l, 0)) := hidOf (by rw [HQ2.out, if_neg hm])
        have CS := hidOf (Lx.Pw.string_any N N wr l a 0 ad bv HW.out (by omega))
        go_wp2_with (go_at_call 32; refine CS.out.mono ?_; rintro e w3 ⟨rfl, hb⟩; have B3 := hidOf (Below.trans HB.out hb); clear hb)
        go_ret2
        rw [HE.out]
        exact ⟨rfl, by have := B3.out; rw [HNN.out] at this; exact this⟩
end Go.Proofs.YtkihaohdcgjioaaGreatDoor
namespace Go.Proofs.YtkihaohdcgjioaaGreatDoor
open Go.RowKit
set_option linter.unusedVariables false
set_option linter.unusedSimpArgs false
theorem stC_get (Y : List (Stm × Value × Value)) : ∀ (k : Nat) (y : Stm × Value × Value) (i : Nat), Y[k]? = some y → i < 11 → (stC Y)[k * 11 + i]? = (stL y.1 y.2.1 y.2.2)[i]? := by
  induction Y with
  | nil => intro k y i h; simp at h
  | cons z r ih =>
    intro k y i h hi
    have hz : (stL z.1 z.2.1 z.2.2).length = 11 := rfl
    cases k with
    | zero =>
      have : z = y := by simpa using h
      subst this
      show (stL z.1 z.2.1 z.2.2 ++ stC r)[0 * 11 + i]? = _
      rw [List.getElem?_append_left (by omega)]
      simp
    | succ k =>
      show (stL z.1 z.2.1 z.2.2 ++ stC r)[(k + 1) * 11 + i]? = _
      rw [List.getElem?_append_right (by omega), show (k + 1) * 11 + i - (stL z.1 z.2.1 z.2.2).length = k * 11 + i by omega]
      exact ih k y i (by simpa using h) hi
/-- statements of the call's own, as a slice -/
theorem OwQ.at {B : Nat} {sv : Value} {L : List Stm} {w : World} (h : OwQ B sv L w) (hne : ¬ L = []) : ∃ g cap Y, sv = .slice (some ⟨g, 0, none⟩) L.length cap ∧ L.length ≤ cap ∧ B ≤ g ∧ g < w.heap.size ∧ Y.map (fun y => y.1) = L ∧ StR w g 0 Y ∧ ∀ y ∈ Y, LsOk B w y.1 y.2.1 y.2.2 := by
  obtain ⟨Y, h1, h2, h3⟩ := h.ex
  have h2' := h2
  rcases h2.2 with ⟨hv, hn⟩ | ⟨g, cap, cur, hv, hb, hg, hc, _⟩
  · exact absurd (List.length_eq_zero_iff.1 hn) hne
  · refine ⟨g, cap, Y, hv, hc, hb, (Array.getElem?_eq_some_iff.1 hg).1, h1, fun k y hy => ?_, h3⟩
    have hl := h3 y (List.mem_of_getElem? hy)
    obtain ⟨aw, cw, e1⟩ := own_form hl.1
    obtain ⟨an, cn, e2⟩ := own_form hl.2
    refine ⟨⟨_, _, _, e1⟩, ⟨_, _, _, e2⟩, fun i u hu => ?_⟩
    have hi : i < 11 := by
      have := (List.getElem?_eq_some_iff.1 hu).1
      exact this
    have h4 := h2'.cells (g := g) (by rw [hv]; rfl) (k * 11 + i) u (by rw [stC_get Y k y i hy hi, hu])
    rw [← h4, Go.WideShapes.add_plain, Nat.add_assoc]
def awT : List UInt8 := [97, 58, 32, 46, 102, 117, 110, 99, 32, 102, 10, 32, 101, 120, 105, 116]
def awL : List Stm := [⟨1, [97], [], [], 0, 0, 0, 0, 0, [], 1⟩, ⟨2, [102], [], [], 0, 0, 0, 0, 0, [], 1⟩, ⟨6, [], [], [], 149, 0, 0, 0, 0, [], 2⟩]
theorem aw_stats : statsP awT = (awL, 0, 0) := by kernel_rfl
theorem aw_line : lnPl ⟨1, [97], [], [], 0, 0, 0, 0, 0, [], 0⟩ 0 0 = ([97, 58], 0) := by kernel_rfl
theorem aw_print : prF [] 0 [([97, 58], 0)] = ([97, 58, 10], 0) := by kernel_rfl
end Go.Proofs.YtkihaohdcgjioaaGreatDoor
namespace Go.Proofs.YtkihaohdcgjioaaGreatDoor
open Go.RowKit
set_option linter.unusedVariables false
set_option linter.unusedSimpArgs false
theorem num6_any (k : Int) (w : World) : Calls Tryz.prog 14 #[.int .i64 k] w fun e w' => e = .returned (.int .i64 k) ∧ w = w' := by
  go_enter Tryz.func14, Tryz.ntmps14
  go_wp2
  go_ret
  exact ⟨rfl, rfl⟩
theorem StR.get {w : World} {g off : Nat} {Y : List (Stm × Value × Value)} {L : List Stm} (h : StR w g off Y) (hY : Y.map (fun y => y.1) = L) {k : Nat} {x : Stm} (hx : L[k]? = some x) : ∃ aw nw cw an nn cn, ∀ i u, (stL x (.slice aw nw cw) (.slice an nn cn))[i]? = some u → w.cell? ⟨g, off + k * 11 + i, none⟩ = some u := by
  rw [← hY, List.getElem?_map, Option.map_eq_some_iff] at hx
  obtain ⟨y, hy, rfl⟩ := hx
  obtain ⟨⟨aw, nw, cw, e1⟩, ⟨an, nn, cn, e2⟩, hc⟩ := h k y hy
  rw [e1, e2] at hc
  exact ⟨aw, nw, cw, an, nn, cn, hc⟩
def awS : Stm := ⟨1, [97], [], [], 0, 0, 0, 0, 0, [], 0⟩
set_option maxRecDepth 20000 in
set_option maxHeartbeats 4000000 in
theorem awake6_any (w : World) (hE : Lx.LEnv w) (hP : PEnv w) : Calls Tryz.prog 9 #[] w fun e w' => e = .returned (.bool true) ∧ Out w w' := by
  have CN := hidOf num6_any
  obtain ⟨wA, hwA⟩ : ∃ wA, wA = w.alloc (.cells #[.int .u8 97, .int .u8 58, .int .u8 32, .int .u8 46, .int .u8 102, .int .u8 117, .int .u8 110, .int .u8 99, .int .u8 32, .int .u8 102, .int .u8 10, .int .u8 32, .int .u8 101, .int .u8 120, .int .u8 105, .int .u8 116] 5 (16, 17)) := ⟨_, rfl⟩
  have OA : Hid (Out w wA) := hidOf (by rw [hwA]; exact (Out.refl w).alloc _)
  have C1 : Hid (Calls Tryz.prog 15 #[.slice (some ⟨w.heap.size, 0, none⟩) 16 16] wA fun e w' => ∃ sv B, wA.heap.size ≤ B ∧ e = .returned (.tuple #[sv, .int .i64 0, .int .i64 0]) ∧ OwQ B sv awL w' ∧ Out wA w') := hidOf (by
    have h := stats_any wA (hE.out OA.out) (hP.out OA.out) (some ⟨w.heap.size, 0, none⟩) 16 awT (.inr ⟨w.heap.size, 0, by rw [hwA, size_alloc]; omega, rfl, fun k x hx => by
      rw [hwA, World.cell?_alloc_mark, Nat.zero_add]
      show ((awT.map (fun x => Value.int .u8 (x.toNat : Int))).toArray)[k]? = _
      rw [List.getElem?_toArray, List.getElem?_map, hx]
      rfl⟩) (by decide) (by decide)
    rw [aw_stats] at h
    exact h)
  have LB : Hid (∀ wx, Out w wx → Calls Tryz.prog 12 #[.slice (some ⟨wx.heap.size, 0, none⟩) 1 1] (wx.alloc (.cells #[.int .i64 1, .string ⟨#[97]⟩, .slice none 0 0, .slice none 0 0, .int .i64 0, .int .i64 0, .int .i64 0, .int .i64 0, .int .i64 0, .string ⟨#[]⟩, .int .i64 0] 60)) fun e w' => e = .returned (.tuple #[.string ⟨#[97, 58, 10]⟩, .int .i64 0]) ∧ Out (wx.alloc (.cells #[.int .i64 1, .string ⟨#[97]⟩, .slice none 0 0, .slice none 0 0, .int .i64 0, .int .i64 0, .int .i64 0, .int .i64 0, .int .i64 0, .string ⟨#[]⟩, .int .i64 0] 60)) w') := hidOf (fun wx o => by
    obtain ⟨wy, hwy⟩ : ∃ wy, wy = wx.alloc (.cells #[.int .i64 1, .string ⟨#[97]⟩, .slice none 0 0, .slice none 0 0, .int .i64 0, .int .i64 0, .int .i64 0, .int .i64 0, .int .i64 0, .string ⟨#[]⟩, .int .i64 0] 60) := ⟨_, rfl⟩
    rw [← hwy]
    have oy : Out wx wy := by rw [hwy]; exact (Out.refl wx).alloc _
    have by_ : wy.heap[wx.heap.size]? = some (.cells #[.int .i64 1, .string ⟨#[97]⟩, .slice none 0 0, .slice none 0 0, .int .i64 0, .int .i64 0, .int .i64 0, .int .i64 0, .int .i64 0, .string ⟨#[]⟩, .int .i64 0] 60 (0, 0)) := by rw [hwy]; exact heap_alloc_new wx _
    have h := print6_any wy wx.heap.size 0 1 [(awS, .slice none 0 0, .slice none 0 0)] [([97, 58], 0)] rfl (fun k y hy => by
      match k, hy with
      | 0, hy =>
        have e : (awS, Value.slice none 0 0, Value.slice none 0 0) = y := by simpa using hy
        subst e
        refine ⟨⟨_, _, _, rfl⟩, ⟨_, _, _, rfl⟩, fun i u hu => ?_⟩
        rw [cell_atL by_, ← hu]
        simp only [Nat.zero_mul, Nat.zero_add]
        show ((stL awS (.slice none 0 0) (.slice none 0 0)).toArray)[i]? = _
        rw [List.getElem?_toArray]
      | k + 1, hy => simp at hy) (Array.getElem?_eq_some_iff.1 by_).1 (by decide) (by decide) (fun wz oz k y r hy hr => by
      match k, hy, hr with
      | 0, hy, hr =>
        have e : (awS, Value.slice none 0 0, Value.slice none 0 0) = y := by simpa using hy
        have e2 : (([97, 58] : List UInt8), (0 : Int)) = r := by simpa using hr
        subst e e2
        have h9 := lineOf_plain awS none none 0 0 0 0 wz (hE.out ((o.trans oy).trans oz)).2 (by decide) (by decide) (by decide)
        rw [show lnPl awS 0 0 = ([97, 58], 0) from aw_line] at h9
        simp only [stE]
        exact h9
      | k + 1, hy, hr => simp at hy) (fun r hr _ => by
      have : r = ([97, 58], 0) := by simpa using hr
      rw [this]
      decide)
    rw [aw_print] at h
    exact h)
  have hcv := Lib.run_convert_bytes_const (P := Tryz.prog) w 24 5 #[.int .u8 97, .int .u8 58, .int .u8 32, .int .u8 46, .int .u8 102, .int .u8 117, .int .u8 110, .int .u8 99, .int .u8 32, .int .u8 102, .int .u8 10, .int .u8 32, .int .u8 101, .int .u8 120, .int .u8 105, .int .u8 116] 16 16 Tryz.underlying24 Tryz.underlying5
  simp only [List.size_toArray, List.length_cons, List.length_nil, Nat.zero_add, Nat.reduceAdd] at hcv
  rw [← hwA] at hcv
  clear hwA hE hP
  go_enter Tryz.func9, Tryz.ntmps9
  go_upto_region 2 with (go_at_call 15; refine C1.out.mono ?_; rintro e w1 ⟨sv, B, hB, rfl, hq, ho⟩; have Q1 := hidOf hq; have O1 := hidOf (OA.out.trans ho); clear hq ho hB)
  obtain ⟨g, cap, Y, rfl, hcap, -, -, hY, hS, -⟩ := Q1.out.at (by simp [awL])
  obtain ⟨_, _, _, _, _, _, k0⟩ := hS.get hY (k := 0) rfl
  obtain ⟨_, _, _, _, _, _, k1⟩ := hS.get hY (k := 1) rfl
  obtain ⟨_, _, _, _, _, _, k2⟩ := hS.get hY (k := 2) rfl
  have q0 : w1.cell? ⟨g, 1, none⟩ = some (.string ⟨#[97]⟩) := k0 1 _ rfl
  have q1 : w1.cell? ⟨g, 11, none⟩ = some (.int .i64 2) := k1 0 _ rfl
  have q2 : w1.cell? ⟨g, 26, none⟩ = some (.int .i64 149) := k2 4 _ rfl
  have q3 : w1.cell? ⟨g, 32, none⟩ = some (.int .i64 2) := k2 10 _ rfl
  have e3 : awL.length = 3 := rfl
  rw [e3] at hcap ⊢
  clear hS hY k0 k1 k2 hcv Q1 e3
  go_wp2_with (first | (go_at_call 14; refine (CN.out _ _).mono ?_; rintro e wn ⟨rfl, hwn⟩; subst hwn) | (go_at_call 12; refine (LB.out _ O1.out).mono ?_; rintro e w3 ⟨rfl, ho⟩; have O3 := hidOf (Out.trans (O1.out.alloc _) ho); clear ho q0 q1 q2 q3))
  go_ret
  exact ⟨rfl, O3.out⟩
end Go.Proofs.YtkihaohdcgjioaaGreatDoor
namespace Go.Proofs.YtkihaohdcgjioaaGreatDoor
open Go.RowKit
set_option linter.unusedVariables false
set_option linter.unusedSimpArgs false
/-- the lines of tokens, but for the end's -/
def LnB (lo hi : Int) (ts : List Lx.Tk) : Prop := ∀ x ∈ ts, ¬ x.k = 0 → lo ≤ x.l ∧ x.l ≤ hi
theorem lnB_clo (lo hi : Int) : Clo (LnB lo hi) := fun t r h x hx => h x (List.mem_cons_of_mem _ hx)
theorem Lw.head {ts : List Lx.Tk} (h : Lw ts) {lo hi : Int} (hb : LnB lo hi ts) : lo ≤ lineQ ts ∧ lineQ ts ≤ hi := by
  obtain ⟨t, r, rfl⟩ := h.ne
  refine hb t (by simp) (fun e => ?_)
  unfold Lw at h
  by_cases hk : t.k = 5
  · omega
  · rw [if_neg hk] at h; exact h.1 e
def RdB (lo hi : Int) : RE (List Stm) → Prop
  | .ok _ _ => True
  | .no _ r => lo ≤ lineQ r ∧ lineQ r ≤ hi
theorem rd_b (lo hi : Int) : ∀ (n : Nat) (out : List Stm) (ts : List Lx.Tk), Tw ts → LnB lo hi ts → RdB lo hi (rdF n out ts)
  | 0, out, ts, _, _ => trivial
  | n + 1, out, ts, hT, hb => by
    by_cases hk : kindQ ts = 0
    · rw [rd_stop hk]; trivial
    · rw [rd_step hk]
      have hL := hT.lw hk
      have hF := lnQ_f (out := out) hL
      have hc : LnB lo hi (lnQ out ts).rest := lnQ_cl (lnB_clo lo hi) hb
      cases hz : lnQ out ts with
      | no c r =>
        rw [hz] at hF hc
        exact Lw.head hF hc
      | ok o r =>
        rw [hz] at hF hc
        exact rd_b lo hi n o r hF.1 hc
theorem readQ_b {lo hi : Int} {ts : List Lx.Tk} (hT : Tw ts) (hb : LnB lo hi ts) : ((readQ ts).2.1 = 0 ∧ (readQ ts).2.2 = 0) ∨ (lo ≤ (readQ ts).2.1 ∧ (readQ ts).2.1 ≤ hi) := by
  have h := rd_b lo hi ts.length [] ts hT hb
  unfold readQ
  cases hz : rdF ts.length [] ts with
  | ok o r => exact .inl ⟨rfl, rfl⟩
  | no c r => rw [hz] at h; exact .inr h
theorem text_ge : ∀ (f n : Nat) (l : List UInt8), n ≤ (Lx.textF f n l).2.1
  | 0, n, l => Nat.le_refl _
  | f + 1, n, [] => Nat.le_refl _
  | f + 1, n, c :: r => by
    unfold Lx.textF
    by_cases hz : (Lx.lineP (Lx.cutL (c :: r)).1).1 = 0
    · rw [if_pos hz]
      have := text_ge f (n + 1) (Lx.cutL (c :: r)).2
      simp only
      omega
    · rw [if_neg hz]; simp
theorem text_lb : ∀ (f n : Nat) (l : List UInt8), ∀ x ∈ (Lx.textF f n l).2.2, ((n : Int) + 1 ≤ x.l ∧ x.l ≤ ((Lx.textF f n l).2.1 : Int))
  | 0, n, l, x, hx => by simp [Lx.textF] at hx
  | f + 1, n, [], x, hx => by simp [Lx.textF] at hx
  | f + 1, n, c :: r, x, hx => by
    unfold Lx.textF at hx ⊢
    by_cases hz : (Lx.lineP (Lx.cutL (c :: r)).1).1 = 0
    · rw [if_pos hz] at hx ⊢
      have hg := text_ge f (n + 1) (Lx.cutL (c :: r)).2
      have ih := text_lb f (n + 1) (Lx.cutL (c :: r)).2
      simp only at hx ⊢
      rcases List.mem_append.1 hx with hx | hx
      · obtain ⟨q, _, rfl⟩ := List.mem_map.1 hx
        refine ⟨?_, ?_⟩
        · show (n : Int) + 1 ≤ ((n + 1 : Nat) : Int); omega
        · show ((n + 1 : Nat) : Int) ≤ _; omega
      · have := ih x hx
        refine ⟨?_, this.2⟩
        have h1 := this.1
        omega
    · rw [if_neg hz] at hx
      simp at hx
theorem tok_lb (l : List UInt8) (h : (Lx.tokensP l).2.2 = 0) : LnB 1 ((Lx.textD 0 l).2.1 : Int) (Lx.tokensP l).1 := by
  intro x hx hk
  unfold Lx.tokensP at hx h
  by_cases hl : l.length ≤ 16777216
  · rw [if_pos hl] at hx h
    by_cases he : (Lx.textD 0 l).1 = 0
    · rw [if_pos he] at hx
      simp only at hx
      rcases List.mem_append.1 hx with hx | hx
      · have := text_lb l.length 0 l x hx
        exact ⟨by have := this.1; omega, this.2⟩
      · rw [List.mem_singleton.1 hx] at hk
        exact absurd rfl hk
    · rw [if_neg he] at h
      exact absurd h he
  · rw [if_neg hl] at h
    simp at h
theorem ahead_num : ∀ (k n : Nat) (l : List UInt8), BadA n k l → (Lx.textD n (l.take (ahN k l))).2.1 = n + k
  | 0, n, l, _ => by
    show (Lx.textD n (l.take 0)).2.1 = n
    rw [List.take_zero]
    rfl
  | k + 1, n, l, h => by
    obtain ⟨hb, hne, hz⟩ := h.step
    obtain ⟨he, hx⟩ := cut_split hne
    have ih := ahead_num k (n + 1) _ hb
    generalize hX : (Lx.cutL l).1 = x at *
    generalize hY : (Lx.cutL l).2 = y at *
    have ha : ahN (k + 1) l = x.length + 1 + ahN k y := by
      show (Lx.cutL l).1.length + 1 + ahN k (Lx.cutL l).2 = _
      rw [hX, hY]
    rw [ha]
    have htk : l.take (x.length + 1 + ahN k y) = x ++ 10 :: y.take (ahN k y) := by
      rw [he, List.take_append, List.take_of_length_le (by omega), show x.length + 1 + ahN k y - x.length = ahN k y + 1 by omega]
      rfl
    rw [htk]
    have hc := cut_app (y := y.take (ahN k y)) hx
    rw [Lx.textD_ok n _ (by simp) (by rw [hc]; exact hz), hc]
    simp only
    rw [ih]
    omega
/-- what ParseLexes asks -/
theorem lexes_P (l : List UInt8) : ((Lx.tokensP l).2.2 = 0 → ((statsP l).2.2 = 0 ∧ (statsP l).2.1 = 0) ∨ 1 ≤ (statsP l).2.1) ∧ (¬ (Lx.tokensP l).2.2 = 0 → ((statsP l).2.2 = (Lx.tokensP l).2.2 ∧ (statsP l).2.1 = (Lx.tokensP l).2.1) ∨ (¬ (statsP l).2.2 = 0 ∧ 1 ≤ (statsP l).2.1 ∧ (statsP l).2.1 < (Lx.tokensP l).2.1)) := by
  constructor
  · intro h
    have hs : statsP l = readQ (Lx.tokensP l).1 := by unfold statsP; rw [if_pos h]
    rw [hs]
    rcases readQ_b (tok_shape l h).1 (tok_lb l h) with ⟨h1, h2⟩ | ⟨h1, h2⟩
    · exact .inl ⟨h2, h1⟩
    · exact .inr h1
  · intro h
    have h1 := ahead_tok l h
    have hs : statsP l = if (readQ (Lx.tokensP (aheadP l (Lx.tokensP l).2.1)).1).2.2 = 0 then ([], (Lx.tokensP l).2.1, (Lx.tokensP l).2.2) else readQ (Lx.tokensP (aheadP l (Lx.tokensP l).2.1)).1 := by unfold statsP; rw [if_neg h]
    rw [hs]
    by_cases hz : (readQ (Lx.tokensP (aheadP l (Lx.tokensP l).2.1)).1).2.2 = 0
    · rw [if_pos hz]; exact .inl ⟨rfl, rfl⟩
    · rw [if_neg hz]
      right
      rcases readQ_b (tok_shape _ h1).1 (tok_lb _ h1) with ⟨_, h3⟩ | ⟨h2, h3⟩
      · exact absurd h3 hz
      · refine ⟨hz, h2, ?_⟩
        rcases bad_at l h with ⟨_, e⟩ | ⟨k, e1, hb, e2, _⟩
        · rw [e] at hz; exact absurd rfl hz
        · have hn := ahead_num k 0 l hb
          rw [← e2] at hn
          rw [hn] at h3
          rw [e1] at h3 ⊢
          omega
end Go.Proofs.YtkihaohdcgjioaaGreatDoor
namespace Go.Proofs.YtkihaohdcgjioaaGreatDoor
open Go.RowKit
set_option linter.unusedVariables false
set_option linter.unusedSimpArgs false
theorem bc_one6 (O : List UInt8) : ∀ u ∈ Lib.byteCells O, u.oneCell' = true := fun u hu => by
  simp only [Lib.byteCells, List.mem_map] at hu
  obtain ⟨b, _, rfl⟩ := hu
  rfl
/-- a text of the call's own -/
def OwB6 (B : Nat) (v : Value) (O : List UInt8) (w : World) : Prop := w.ownsRow B 5 1 v O.length (Lib.byteCells O)
theorem owns_void6 (w : World) (B size : Nat) (e : TypeId) (hB : B ≤ w.heap.size) : (w.alloc (.cells #[] e)).ownsRow B e size (.slice (some ⟨w.heap.size, 0, none⟩) 0 0) 0 [] :=
  ⟨by simp, .inr ⟨w.heap.size, 0, #[], rfl, hB, heap_alloc_new w _, Nat.le_refl _, by decide, by simp, by simp⟩⟩
theorem out_own6 {B n sz : Nat} {w X w1 : World} {e : TypeId} {v : Value} {xs : List Value} (hB : B = w.heap.size) (h : X.ownsRow B e sz v n xs) (o : Out w X) (hg : X.grownBy w1 v.ownBlock) : Out w w1 :=
  Chg.out (S := fun k => v.ownBlock = some k) (Chg.of_grown hg (fun k h => h)) o (fun k hk => by have := (h.lt k hk).1; omega)
theorem infoB6 : (Tryz.prog.info? 5).map (fun i => (i.zero, i.size, i.bytes)) = some (some (.int .u8 0), 1, 1) := by kernel_rfl
set_option maxHeartbeats 800000 in
theorem copy6_any (w : World) (a : Option Addr) (cap : Nat) (l : List UInt8) (hr : Lx.RestAt w.heap.size w a l) (hll : l.length ≤ 140737488351232) : Calls Tryz.prog 17 #[.slice a l.length cap] w fun e w' => ∃ v, e = .returned v ∧ OwB6 w.heap.size v l w' ∧ Out w w' := by
  obtain ⟨i0, hi, hz0, hz1, hz2⟩ := info_parts infoB6
  have H0 := hidOf (owns_void6 w w.heap.size 1 5 (Nat.le_refl _))
  cases a with
  | none =>
    obtain rfl : l = [] := by
      rcases hr with h | ⟨b, off, _, h, _⟩
      · exact h
      · cases h
    simp only [List.length_nil]
    go_enter Tryz.func17, Tryz.ntmps17
    go_wp2
    go_ret
    exact ⟨_, rfl, H0.out, Out.alloc (Out.refl _) _⟩
  | some ad =>
    have HC : Hid (∀ j u, (Lib.byteCells l)[j]? = some u → (w.alloc (.cells #[] 5)).cell? (ad.add j) = some u) := hidOf (fun j u hu => by
      simp only [Lib.byteCells, List.getElem?_map, Option.map_eq_some_iff] at hu
      obtain ⟨x, hx, rfl⟩ := hu
      rcases hr with rfl | ⟨b, off, _, h, hc⟩
      · simp at hx
      · cases h
        rw [WideShapes.add_plain]
        exact cell_later ((Out.refl w).alloc _) (hc j x hx))
    clear hr
    go_enter Tryz.func17, Tryz.ntmps17
    go_wp2_with (at_builtin; refine wpList_append_own _ rfl (.tmp 3) (.tmp 4) 24 rfl w.heap.size 5 i0 _ 1 1 Tryz.underlying24 hi hz0 hz1 hz2 rfl (by decide) (.slice (some ⟨w.heap.size, 0, none⟩) 0 0) 0 [] rfl H0.out ad l.length cap (Lib.byteCells l) rfl (by rw [Lib.byteCells_length, Nat.mul_one]) HC.out (bc_one6 l) (by unfold maxLen; omega) (by omega) (by rw [size_alloc]; omega) ?_; intro v' w3 hown' hgrow _; have H3 := hidOf (out_own6 rfl H0.out ((Out.refl w).alloc _) hgrow); have HN : Hid (OwB6 w.heap.size v' l w3) := hidOf (by unfold OwB6; rw [← Nat.zero_add l.length]; exact hown'); clear hown' hgrow)
    go_ret
    exact ⟨_, rfl, HN.out, H3.out⟩
theorem OwB6.rest {B : Nat} {v : Value} {l : List UInt8} {w : World} (h : OwB6 B v l w) : ∃ a cap, v = .slice a l.length cap ∧ l.length ≤ cap ∧ Lx.RestAt w.heap.size w a l := by
  rcases h.2 with ⟨hv, hn⟩ | ⟨g, cap, cur, hv, hb, hg, hc, _⟩
  · exact ⟨none, 0, by rw [hv, hn], by omega, .inl (List.length_eq_zero_iff.1 hn)⟩
  · refine ⟨_, _, hv, hc, .inr ⟨g, 0, (Array.getElem?_eq_some_iff.1 hg).1, rfl, fun k x hx => ?_⟩⟩
    have := World.ownsRow.cells h (g := g) (by rw [hv]; rfl) k (.int .u8 (x.toNat : Int)) (by simp [Lib.byteCells, hx])
    rw [← this, Go.WideShapes.add_plain]
set_option maxRecDepth 20000 in
set_option maxHeartbeats 4000000 in
theorem parseLexes_walk (w : World) (hE : Lx.LEnv w) (hP : PEnv w) (a : Option Addr) (cap : Nat) (l : List UInt8) (hr : Lx.RestAt w.heap.size w a l) (hll : l.length ≤ 140737488351232) :
    Calls Tryz.prog 7 #[.slice a l.length cap] w fun e w' => e = .returned (.bool true) ∧ Out w w' := by
  have CA := hidOf (awake6_any w hE hP)
  have CN := hidOf num6_any
  have CC : Hid (∀ wx, Out w wx → Calls Tryz.prog 17 #[.slice a l.length cap] wx fun e w' => ∃ ad cp, e = .returned (.slice ad l.length cp) ∧ l.length ≤ cp ∧ Lx.RestAt w'.heap.size w' ad l ∧ Out wx w') := hidOf (fun wx o => (copy6_any wx a cap l (restAt_out hr o) hll).mono (by
    rintro e w' ⟨v, he, hv, ho⟩
    obtain ⟨ad, cp, rfl, h1, h2⟩ := hv.rest
    exact ⟨ad, cp, he, h1, h2, ho⟩))
  have CT : Hid (∀ wx ad cp, Out w wx → l.length ≤ cp → Lx.RestAt wx.heap.size wx ad l → Calls Tryz.prog 18 #[.slice ad l.length cp] wx fun e w' => ∃ v, e = .returned (.tuple #[v, .int .i64 (Lx.tokensP l).2.1, .int .i64 (Lx.tokensP l).2.2]) ∧ Out wx w') := hidOf (fun wx ad cp o h1 h2 => tok6_bad wx (hE.out o) ad cp l h2 h1 (by omega))
  have CS : Hid (∀ wx ad cp, Out w wx → l.length ≤ cp → Lx.RestAt wx.heap.size wx ad l → Calls Tryz.prog 15 #[.slice ad l.length cp] wx fun e w' => ∃ sv, e = .returned (.tuple #[sv, .int .i64 (statsP l).2.1, .int .i64 (statsP l).2.2]) ∧ Out wx w') := hidOf (fun wx ad cp o h1 h2 => (stats_any wx (hE.out o) (hP.out o) ad cp l h2 h1 (by omega)).mono (by
    rintro e w' ⟨sv, B, _, he, _, ho⟩
    exact ⟨sv, he, ho⟩))
  obtain ⟨hL1, hL2⟩ := lexes_P l
  generalize (Lx.tokensP l).2.1 = ln at *
  generalize (Lx.tokensP l).2.2 = ec at *
  generalize (statsP l).2.1 = at_ at *
  generalize (statsP l).2.2 = fc at *
  obtain ⟨n, hn⟩ : ∃ n, n = l.length := ⟨_, rfl⟩
  rw [← hn] at CC CT CS ⊢
  clear hr hll hn hE hP
  have HL1 := hidOf hL1
  have HL2 := hidOf hL2
  clear hL1 hL2
  cases he : (ec == 0) with
  | true =>
    have h0 : ec = 0 := by simpa using he
    rcases HL1.out h0 with ⟨h1, h2⟩ | h1
    · subst h0 h1 h2
      clear he
      go_enter Tryz.func7, Tryz.ntmps7
      go_upto_region 3 with (go_at_call 9; refine CA.out.mono ?_; rintro e w1 ⟨rfl, ho⟩; have O1 := hidOf ho; clear ho)
      go_upto_region 4 with (first | (go_at_call 17; refine (CC.out _ O1.out).mono ?_; rintro e w2 ⟨ad, cp, rfl, h1, h2, ho⟩; have O2 := hidOf (O1.out.trans ho); have T2 := hidOf (CT.out _ ad cp O2.out h1 h2); clear h1 h2 ho) | (go_at_call 18; refine T2.out.mono ?_; rintro e w3 ⟨v3, rfl, ho⟩; have O3 := hidOf (O2.out.trans ho); clear ho))
      go_upto_region 5 with (first | (go_at_call 17; refine (CC.out _ O3.out).mono ?_; rintro e w4 ⟨ad4, cp4, rfl, h1, h2, ho⟩; have O4 := hidOf (O3.out.trans ho); have T4 := hidOf (CS.out _ ad4 cp4 O4.out h1 h2); clear h1 h2 ho) | (go_at_call 15; refine T4.out.mono ?_; rintro e w5 ⟨v5, rfl, ho⟩; have O5 := hidOf (O4.out.trans ho); clear ho))
      go_wp2_with (go_at_call 14; refine (CN.out _ _).mono ?_; rintro e wn ⟨rfl, hwn⟩; subst hwn)
      all_goals go_ret
      all_goals refine ⟨?_, O5.out⟩
      all_goals first | rfl | simp_all | (simp; omega)
    · subst h0
      clear he
      have hge : (1 : Int) ≤ at_ := h1
      go_enter Tryz.func7, Tryz.ntmps7
      go_upto_region 3 with (go_at_call 9; refine CA.out.mono ?_; rintro e w1 ⟨rfl, ho⟩; have O1 := hidOf ho; clear ho)
      go_upto_region 4 with (first | (go_at_call 17; refine (CC.out _ O1.out).mono ?_; rintro e w2 ⟨ad, cp, rfl, h1, h2, ho⟩; have O2 := hidOf (O1.out.trans ho); have T2 := hidOf (CT.out _ ad cp O2.out h1 h2); clear h1 h2 ho) | (go_at_call 18; refine T2.out.mono ?_; rintro e w3 ⟨v3, rfl, ho⟩; have O3 := hidOf (O2.out.trans ho); clear ho))
      go_upto_region 5 with (first | (go_at_call 17; refine (CC.out _ O3.out).mono ?_; rintro e w4 ⟨ad4, cp4, rfl, h1, h2, ho⟩; have O4 := hidOf (O3.out.trans ho); have T4 := hidOf (CS.out _ ad4 cp4 O4.out h1 h2); clear h1 h2 ho) | (go_at_call 15; refine T4.out.mono ?_; rintro e w5 ⟨v5, rfl, ho⟩; have O5 := hidOf (O4.out.trans ho); clear ho))
      go_wp2_with (go_at_call 14; refine (CN.out _ _).mono ?_; rintro e wn ⟨rfl, hwn⟩; subst hwn)
      all_goals go_ret
      all_goals refine ⟨?_, O5.out⟩
      all_goals first | rfl | simp_all | (simp; omega)
  | false =>
    have h0 : ¬ ec = 0 := by simpa using he
    rcases HL2.out h0 with ⟨h1, h2⟩ | ⟨h1, h2, h3⟩
    · subst h1 h2
      go_enter Tryz.func7, Tryz.ntmps7
      go_upto_region 3 with (go_at_call 9; refine CA.out.mono ?_; rintro e w1 ⟨rfl, ho⟩; have O1 := hidOf ho; clear ho)
      go_upto_region 4 with (first | (go_at_call 17; refine (CC.out _ O1.out).mono ?_; rintro e w2 ⟨ad, cp, rfl, h1, h2, ho⟩; have O2 := hidOf (O1.out.trans ho); have T2 := hidOf (CT.out _ ad cp O2.out h1 h2); clear h1 h2 ho) | (go_at_call 18; refine T2.out.mono ?_; rintro e w3 ⟨v3, rfl, ho⟩; have O3 := hidOf (O2.out.trans ho); clear ho))
      go_upto_region 5 with (first | (go_at_call 17; refine (CC.out _ O3.out).mono ?_; rintro e w4 ⟨ad4, cp4, rfl, h1, h2, ho⟩; have O4 := hidOf (O3.out.trans ho); have T4 := hidOf (CS.out _ ad4 cp4 O4.out h1 h2); clear h1 h2 ho) | (go_at_call 15; refine T4.out.mono ?_; rintro e w5 ⟨v5, rfl, ho⟩; have O5 := hidOf (O4.out.trans ho); clear ho))
      go_wp2_with (go_at_call 14; refine (CN.out _ _).mono ?_; rintro e wn ⟨rfl, hwn⟩; subst hwn)
      all_goals go_ret
      all_goals refine ⟨?_, O5.out⟩
      all_goals first | rfl | simp_all | (simp; omega)
    · have hf : (fc != 0) = true := by simpa using h1
      go_enter Tryz.func7, Tryz.ntmps7
      go_upto_region 3 with (go_at_call 9; refine CA.out.mono ?_; rintro e w1 ⟨rfl, ho⟩; have O1 := hidOf ho; clear ho)
      go_upto_region 4 with (first | (go_at_call 17; refine (CC.out _ O1.out).mono ?_; rintro e w2 ⟨ad, cp, rfl, h1, h2, ho⟩; have O2 := hidOf (O1.out.trans ho); have T2 := hidOf (CT.out _ ad cp O2.out h1 h2); clear h1 h2 ho) | (go_at_call 18; refine T2.out.mono ?_; rintro e w3 ⟨v3, rfl, ho⟩; have O3 := hidOf (O2.out.trans ho); clear ho))
      go_upto_region 5 with (first | (go_at_call 17; refine (CC.out _ O3.out).mono ?_; rintro e w4 ⟨ad4, cp4, rfl, h1, h2, ho⟩; have O4 := hidOf (O3.out.trans ho); have T4 := hidOf (CS.out _ ad4 cp4 O4.out h1 h2); clear h1 h2 ho) | (go_at_call 15; refine T4.out.mono ?_; rintro e w5 ⟨v5, rfl, ho⟩; have O5 := hidOf (O4.out.trans ho); clear ho))
      go_wp2_with (go_at_call 14; refine (CN.out _ _).mono ?_; rintro e wn ⟨rfl, hwn⟩; subst hwn)
      all_goals go_ret
      all_goals refine ⟨?_, O5.out⟩
      all_goals first | rfl | simp_all | (simp; omega)
end Go.Proofs.YtkihaohdcgjioaaGreatDoor
