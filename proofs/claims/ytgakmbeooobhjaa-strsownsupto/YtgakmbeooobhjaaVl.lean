import Derived.Test.YtgakmbeooobhjaaVk
namespace Go.Proofs.Ytgakmbeooobhjaa
open Go.RowKit
open Go.Maps (Keyed)
set_option linter.unusedVariables false
set_option linter.unusedSimpArgs false
theorem open_any (a : Option Addr) (c : Nat) (l : List UInt8) (w : World) (hr : RestAt w.heap.size w a l) (hc : l.length ≤ c) (hl : l.length ≤ 100000000000) : Calls Try.prog 7 #[.slice a l.length c] w fun e w' => ∃ d S, e = .returned (.tuple #[.pointer (some ⟨d, 0, none⟩), .bool true]) ∧ DS d w' S (FN (fun _ => False) w w') ∧ szS S ≤ l.length + 1 ∧ Out w w' := by
  by_cases h0 : l = []
  · subst h0
    refine (open_empty a c w).mono ?_
    rintro e w' ⟨rfl, h1, h2⟩
    exact ⟨_, _, rfl, h1, by simp [szS, szF], h2⟩
  · refine (open_full a c l w hr hc hl h0).mono ?_
    rintro e w' ⟨d, S, rfl, h1, h2, h3⟩
    exact ⟨d, S, rfl, h1, by omega, h3⟩
set_option maxRecDepth 20000 in
set_option maxHeartbeats 1000000 in
theorem nils_any (w : World) : Calls Try.prog 8 #[] w fun e w' => e = .returned (.bool true) ∧ Out w w' := by
  have CR := hidOf (read_empty none 0 w)
  have HD : Hid (DkN w.heap.size (w.alloc (.cells #[.pointer none, .slice none 0 0] 68))) := heap_alloc_new _ _
  have Ho : Hid (Out w (w.alloc (.cells #[.pointer none, .slice none 0 0] 68))) := (Out.refl w).alloc _
  go_enter Try.func8, Try.ntmps8
  go_wp2_with (go_at_call 21; refine (CR.out).mono ?_; rintro e w2 ⟨rfl, hw⟩; have hw := hw.symm; subst hw)
  generalize w.alloc (.cells #[.pointer none, .slice none 0 0] 68) = w1 at *
  generalize w.heap.size = d at *
  go_loopw [5] (fun kv wr => ∃ k : Nat, kv = .int .i64 k ∧ 1 ≤ k ∧ k ≤ 5 ∧ Hid (DkN d wr) ∧ Hid (Out w wr)) (fun kv _ => 5 - (intOf kv).toNat)
  case atStart => exact ⟨1, rfl, by omega, by omega, HD.out, Ho.out⟩
  case round =>
    obtain ⟨k, rfl, hk1, hk5, HDr, Hor⟩ := hrel
    by_cases hk : k < 5
    · have hkI : (k : Int) ≤ 4 := by omega
      have CN := hidOf (nothing_any d ⟨0, k, [97], 0⟩ wr HDr.out)
      simp only [Ac.cs] at CN
      go_wp2_with (go_at_call 27; refine (CN.out).mono ?_; rintro e w2 ⟨rfl, ho⟩; have P2 := hidOf ho; clear ho)
      go_roundw
      case rel => exact ⟨k + 1, by simp, by omega, by omega, HDr.out.out P2.out, Hor.out.trans P2.out⟩
      case measure => simp [intOf]; omega
    · have hkI : ¬ (k : Int) ≤ 4 := by omega
      go_wp2
      go_ret
      exact ⟨rfl, Hor.out⟩
/-- two desks apart -/
structure D2 (W wr : World) (d1 d2 : Nat) (T1 T2 : Option (List (List UInt8))) (G1 G2 : Nat → Prop) : Prop where
  a : DS d1 wr T1 G1
  b : DS d2 wr T2 G2
  dj : ∀ k, G1 k → ¬ G2 k
  l1 : ∀ k, G1 k → W.heap.size ≤ k ∧ k < wr.heap.size
  l2 : ∀ k, G2 k → W.heap.size ≤ k ∧ k < wr.heap.size
  out : Out W wr
theorem D2.swap {W wr : World} {d1 d2 : Nat} {T1 T2 : Option (List (List UInt8))} {G1 G2 : Nat → Prop} (h : D2 W wr d1 d2 T1 T2 G1 G2) : D2 W wr d2 d1 T2 T1 G2 G1 := ⟨h.b, h.a, fun k h2 h1 => h.dj k h1 h2, h.l2, h.l1, h.out⟩
theorem D2.act {W wr w' : World} {d1 d2 : Nat} {T1 T2 T1' : Option (List (List UInt8))} {G1 G2 : Nat → Prop} (h : D2 W wr d1 d2 T1 T2 G1 G2) (ha : DS d1 w' T1' (FN G1 wr w')) (hc : Chg G1 wr w') : D2 W w' d1 d2 T1' T2 (FN G1 wr w') G2 := by
  refine ⟨ha, h.b.chg hc (fun k h2 h1 => h.dj k h1 h2), fun k h1 h2 => ?_, fun k hk => ?_, fun k hk => ⟨(h.l2 k hk).1, Nat.lt_of_lt_of_le (h.l2 k hk).2 hc.size⟩, Chg.out hc h.out (fun k hk => (h.l1 k hk).1)⟩
  · rcases h1 with h1 | h1
    · exact h.dj k h1 h2
    · have := (h.l2 k h2).2; omega
  · rcases hk with hk | hk
    · exact ⟨(h.l1 k hk).1, Nat.lt_of_lt_of_le (h.l1 k hk).2 hc.size⟩
    · exact ⟨Nat.le_trans h.out.size hk.1, hk.2⟩
theorem D2.more {W wr w' : World} {d1 d2 : Nat} {T1 T2 : Option (List (List UInt8))} {G1 G2 : Nat → Prop} (h : D2 W wr d1 d2 T1 T2 G1 G2) (o : Out wr w') : D2 W w' d1 d2 T1 T2 G1 G2 :=
  ⟨h.a.out o, h.b.out o, h.dj, fun k hk => ⟨(h.l1 k hk).1, Nat.lt_of_lt_of_le (h.l1 k hk).2 o.size⟩, fun k hk => ⟨(h.l2 k hk).1, Nat.lt_of_lt_of_le (h.l2 k hk).2 o.size⟩, h.out.trans o⟩
theorem ActsAt.get {B : Nat} {W wr : World} {a : Option Addr} {l : List Ac} (h : ActsAt B W a l) (hB : B ≤ W.heap.size) (o : Out W wr) {k : Nat} {x : Ac} (hx : l[k]? = some x) : ∃ b off, a = some ⟨b, off, none⟩ ∧ wr.cell? ⟨b, off + k * 4, none⟩ = some (.int .i64 x.w) ∧ wr.cell? ⟨b, off + k * 4 + 1, none⟩ = some (.int .i64 x.k) ∧ wr.cell? ⟨b, off + k * 4 + 2, none⟩ = some (.string ⟨x.s.toArray⟩) ∧ wr.cell? ⟨b, off + k * 4 + 3, none⟩ = some (.int .i64 x.p) := by
  rcases h with rfl | ⟨b, off, hb, rfl, hc⟩
  · simp at hx
  · obtain ⟨h0, h1, h2, h3⟩ := hc k x hx
    exact ⟨b, off, rfl, cell_later o h0, cell_later o h1, cell_later o h2, cell_later o h3⟩
end Go.Proofs.Ytgakmbeooobhjaa
