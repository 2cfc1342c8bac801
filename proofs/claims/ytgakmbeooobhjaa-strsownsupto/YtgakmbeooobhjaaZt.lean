import Derived.Test.YtgakmbeooobhjaaZs
namespace Go.Proofs.Ytgakmbeooobhjaa
open Go.RowKit
set_option linter.unusedVariables false
set_option linter.unusedSimpArgs false
theorem RestAt.more {w w' : World} {a : Option Addr} {l : List UInt8} (h : RestAt w.heap.size w a l) (o : Out w w') : RestAt w'.heap.size w' a l := by
  rcases h with h | ⟨b, off, hb, h, hc⟩
  · exact .inl h
  · exact .inr ⟨b, off, Nat.lt_of_lt_of_le hb o.size, h, fun k x hx => cell_later o (hc k x hx)⟩
theorem RestAt.grow {B B' : Nat} {w : World} {a : Option Addr} {l : List UInt8} (h : RestAt B w a l) (hb : B ≤ B') : RestAt B' w a l := by
  rcases h with h | ⟨b, off, h1, h2, hc⟩
  · exact .inl h
  · exact .inr ⟨b, off, Nat.lt_of_lt_of_le h1 hb, h2, hc⟩
theorem OwB.rest8 {B c : Nat} {a : Option Addr} {l : List UInt8} {w : World} (h : OwB B (.slice a l.length c) l w) : l.length ≤ c ∧ RestAt w.heap.size w a l := by
  obtain ⟨a', c', hv, h1, h2⟩ := OwB.rest h
  simp only [Value.slice.injEq] at hv
  obtain ⟨rfl, _, rfl⟩ := hv
  exact ⟨h1, h2⟩
/-- a box of the reference's table -/
def BoxT (w : World) (b : Nat) (v : Value) : Prop := w.heap[b]? = some (.cells #[v] 66 (0, 0))
theorem BoxT.lt {w : World} {b : Nat} {v : Value} (h : BoxT w b v) : b < w.heap.size := (Array.getElem?_eq_some_iff.1 h).1
theorem BoxT.cell {w : World} {b : Nat} {v : Value} (h : BoxT w b v) : w.cell? ⟨b, 0, none⟩ = some v := by
  have h' : w.heap[b]? = some (.cells #[v] 66 (0, 0)) := h
  simp [World.cell?, h']
theorem BoxT.out {w w' : World} {b : Nat} {v : Value} (h : BoxT w b v) (o : Out w w') : BoxT w' b v := (o.block b h.lt).trans h
theorem BoxT.lp {p g b : Nat} {v : Value} {w w' : World} (h : BoxT w b v) (k : LP w p g) (c : Chg (SL p g) w w') : BoxT w' b v := by
  refine (c.block b h.lt (fun hs => ?_)).trans h
  have h' : w.heap[b]? = some (.cells #[v] 66 (0, 0)) := h
  rcases hs with e | e
  · obtain ⟨cs, h1⟩ := k.1
    rw [← e, h'] at h1; simp at h1
  · rcases k.2 with h1 | ⟨cs, h1⟩
    · have := h.lt; omega
    · rw [← e, h'] at h1; simp at h1
set_option maxRecDepth 20000 in
set_option maxHeartbeats 3000000 in
theorem rd_any (w0 w : World) (ho : Out w0 w) (p B : Nat) (hB : B = w0.heap.size) (hp : B ≤ p) (a : Option Addr) (cap : Nat) (l : List UInt8) (hr : RestAt w.heap.size w a l) (hcap : l.length ≤ cap) (hs : LS w p B l.length) (ha : Ap w p a l) (hll : l.length ≤ 100000000000) :
    Calls Try.prog 11 #[.slice a l.length cap, .pointer (some ⟨p, 0, none⟩)] w fun e w' => e = .returned (.bool true) ∧ LS w' p B l.length ∧ Out w0 w' := by
  have CC := hidOf (copyBytes_any w a cap l hr (by omega))
  have CB : Hid (∀ wx g m R, LeB wx p g m l.length (l ++ (lmsB l.length (l.length + 70) ++ R)) → RestAt wx.heap.size wx a l → Calls Try.prog 34 #[.pointer (some ⟨p, 0, none⟩), .slice a l.length cap] wx fun e w' => e = .returned (.bool true) ∧ (∃ L', LeB w' p g m l.length L') ∧ Chg (SL p g) wx w') := fun wx g m R h1 h2 => back_any wx p g m l R h1 _ a cap h2 (by omega)
  have HO := hidOf ho
  have HR := hidOf hr
  have HS := hidOf hs
  have HA := hidOf ha
  have Hsz := hidOf hB
  have hB1 : Hid (B ≤ w.heap.size) := by have := ho.size; show B ≤ _; omega
  have hl12 : l.length ≤ 1000000000000 := by omega
  clear ho hr hs ha hB
  cases hrd : (rdP l).1 with
  | none =>
    have Hrd := hidOf hrd
    obtain ⟨q, hq⟩ : ∃ q, q = (rdP l).2 := ⟨_, rfl⟩
    have Hq := hidOf hq
    have CR : Hid (∀ wx b cp, RestAt wx.heap.size wx b l → l.length ≤ cp → Calls Try.prog 24 #[.slice b l.length cp] wx fun e w' => e = .returned (.tuple #[.agg #[.slice none 0 0], .int .i64 q, .int .i64 80]) ∧ Out wx w') := fun wx b cp h1 h2 => (rread_any b cp l wx h1 h2 hl12).mono (fun e w' h => by
      obtain ⟨h1, h | ⟨N, _, _, h, _⟩⟩ := h
      · exact ⟨by rw [h.2, Hq.out], h1⟩
      · rw [Hrd.out] at h; cases h)
    have CT : Hid (∀ wx b cp, RestAt wx.heap.size wx b l → l.length ≤ cp → Calls Try.prog 21 #[.slice b l.length cp] wx fun e w' => e = .returned (.tuple #[.pointer none, .int .i64 q, .int .i64 80]) ∧ Out wx w') := fun wx b cp h1 h2 => (read_any b cp l wx h1 h2 hl12).mono (fun e w' h => by
      obtain ⟨h1, h | ⟨N, _, h, _⟩⟩ := h
      · exact ⟨by rw [h.2, Hq.out], h1⟩
      · rw [Hrd.out] at h; cases h)
    clear hrd hq
    go_enter Try.func11, Try.ntmps11
    go_upto_region 2 with (first | (go_at_call 25; refine CC.out.mono ?_; rintro e w1 ⟨v1, rfl, hown, ho⟩; have P1 := hidOf ho; obtain ⟨b1, c1, rfl, hc1, hr1⟩ := OwB.rest hown; have R1 := hidOf hr1; clear hown ho hr1) | (go_at_call 24; refine (CR.out w1 b1 c1 R1.out hc1).mono ?_; rintro e w2 ⟨rfl, ho⟩; have P2 := hidOf (Out.trans P1.out ho); clear ho))
    have P2a := hidOf (P2.out.alloc (.cells #[.slice none 0 0] 66))
    generalize w2.alloc (.cells #[.slice none 0 0] 66) = w3 at *
    have S2 := hidOf (HS.out.out P2a.out)
    have A2 := hidOf (HA.out.out HS.out P2a.out)
    have R2 := hidOf (HR.out.more P2a.out)
    have O2 := hidOf (Out.trans HO.out P2a.out)
    have CLd := hidOf (lend_any w3 p B a cap l S2.out (by have := P2a.out.size; have := hB1.out; omega) R2.out A2.out (by omega))
    go_upto_region 3 with (first | (go_at_call 33; refine CLd.out.mono ?_; rintro e w4 ⟨g, m, R, rfl, hb3, hc3, hlp, hg3, hne⟩; have B3 := hidOf hb3; have O3 := hidOf (Chg.lender hc3 O2.out Hsz.out hp hg3); have R3 := hidOf ((R2.out.keep hc3 hne).grow hc3.size); have N4 := hidOf hne; clear hb3 hc3 hlp hne) | (go_at_call 21; refine (CT.out w4 _ _ B3.out.rest (by omega)).mono ?_; rintro e w5 ⟨rfl, ho⟩; have P4 := hidOf ho; clear ho))
    have B4 := hidOf (B3.out.out P4.out)
    have R4 := hidOf (R3.out.more P4.out)
    have O4 := hidOf (Out.trans O3.out P4.out)
    go_upto_region 4 with (go_at_call 34; refine (CB.out w5 g m R B4.out R4.out).mono ?_; rintro e w6 ⟨rfl, ⟨L5, hb5⟩, hc5⟩; have B5 := hidOf hb5; have O5 := hidOf (Chg.lender hc5 O4.out Hsz.out hp hg3); have R5 := hidOf ((R4.out.keep hc5 (N4.out)).grow hc5.size); clear hb5 hc5)
    have hm5 : 2 * l.length + 70 ≤ m := by have := B4.out.len_; simp [lmsB_len] at this; omega
    go_wp2_with (go_at_call 26; refine (num_any _ _).mono ?_; rintro e w7 ⟨rfl, hw⟩; have hw := hw.symm; subst hw)
    go_ret
    exact ⟨rfl, .inr ⟨g, m, _, _, B5.out, hg3, hm5⟩, O5.out⟩
  | some N =>
    have Hrd := hidOf hrd
    have Hby := hidOf (rd_whole hrd)
    have hszl : szF 1 N = l.length := by rw [← byP_len, rd_whole hrd]
    have hNl := szF_ge N 1
    have Hsl := hidOf hszl
    have hN9 : N.length ≤ 1000000000000 := by omega
    have CR : Hid (∀ wx b cp, RestAt wx.heap.size wx b l → l.length ≤ cp → Calls Try.prog 24 #[.slice b l.length cp] wx fun e w' => ∃ ra rc, e = .returned (.tuple #[.agg #[.slice ra N.length rc], .int .i64 0, .int .i64 0]) ∧ OwS wx.heap.size (.slice ra N.length rc) N w' ∧ Out wx w') := fun wx b cp h1 h2 => (rread_any b cp l wx h1 h2 hl12).mono (fun e w' h => by
      obtain ⟨h1, h | ⟨N', ra, rc, h, he, hw⟩⟩ := h
      · rw [Hrd.out] at h; cases h.1
      · rw [Hrd.out] at h
        cases h
        exact ⟨ra, rc, he, hw, h1⟩)
    have CT : Hid (∀ wx b cp, RestAt wx.heap.size wx b l → l.length ≤ cp → Calls Try.prog 21 #[.slice b l.length cp] wx fun e w' => ∃ q, e = .returned (.tuple #[.pointer (some ⟨q, 0, none⟩), .int .i64 0, .int .i64 0]) ∧ Out wx w' ∧ Tab q w' N (FN (fun _ => False) wx w')) := fun wx b cp h1 h2 => (read_any b cp l wx h1 h2 hl12).mono (fun e w' h => by
      obtain ⟨h1, h | ⟨N', q, h, he, _, _, ht⟩⟩ := h
      · rw [Hrd.out] at h; cases h.1
      · rw [Hrd.out] at h
        cases h
        exact ⟨q, he, h1, ht⟩)
    clear hrd hszl hNl
    go_enter Try.func11, Try.ntmps11
    go_upto_region 2 with (first | (go_at_call 25; refine CC.out.mono ?_; rintro e w1 ⟨v1, rfl, hown, ho⟩; have P1 := hidOf ho; obtain ⟨b1, c1, rfl, hc1, hr1⟩ := OwB.rest hown; have R1 := hidOf hr1; clear hown ho hr1) | (go_at_call 24; refine (CR.out w1 b1 c1 R1.out hc1).mono ?_; rintro e w2 ⟨ra, rc, rfl, hown, ho⟩; have P2 := hidOf (Out.trans P1.out ho); have W2 := hidOf hown; clear ho hown))
    have P2a := hidOf (P2.out.alloc (.cells #[.slice ra N.length rc] 66))
    have W2a := hidOf (W2.out.out ((Out.refl w2).alloc (.cells #[.slice ra N.length rc] 66)))
    have X2 : Hid (BoxT (w2.alloc (.cells #[.slice ra N.length rc] 66)) w2.heap.size (.slice ra N.length rc)) := heap_alloc_new _ _
    generalize w2.heap.size = bx at *
    generalize w2.alloc (.cells #[.slice ra N.length rc] 66) = w3 at *
    have S2 := hidOf (HS.out.out P2a.out)
    have A2 := hidOf (HA.out.out HS.out P2a.out)
    have R2 := hidOf (HR.out.more P2a.out)
    have O2 := hidOf (Out.trans HO.out P2a.out)
    have CLd := hidOf (lend_any w3 p B a cap l S2.out (by have := P2a.out.size; have := hB1.out; omega) R2.out A2.out (by omega))
    go_upto_region 3 with (first | (go_at_call 33; refine CLd.out.mono ?_; rintro e w4 ⟨g, m, R, rfl, hb3, hc3, hlp, hg3, hne⟩; have B3 := hidOf hb3; have O3 := hidOf (Chg.lender hc3 O2.out Hsz.out hp hg3); have R3 := hidOf ((R2.out.keep hc3 hne).grow hc3.size); have W3 := hidOf (W2a.out.lp hlp hc3); have X3 := hidOf (X2.out.lp hlp hc3); have N4 := hidOf hne; clear hb3 hc3 hlp hne) | (go_at_call 21; refine (CT.out w4 _ _ B3.out.rest (by omega)).mono ?_; rintro e w5 ⟨tq, rfl, ho, ht⟩; have P4 := hidOf ho; have T4 := hidOf ht; clear ho ht))
    have B4 := hidOf (B3.out.out P4.out)
    have R4 := hidOf (R3.out.more P4.out)
    have O4 := hidOf (Out.trans O3.out P4.out)
    have W4 := hidOf (W3.out.out P4.out)
    have X4 := hidOf (X3.out.out P4.out)
    have L4 := hidOf (fun k (hk : FN (fun _ => False) w4 w5 k) (hs : SL p g k) => by
      rcases hk with hk | hk
      · exact hk
      · have := B3.out.ltp; have := B3.out.ltg; rcases hs with e | e <;> omega)
    go_upto_region 4 with (go_at_call 34; refine (CB.out w5 g m R B4.out R4.out).mono ?_; rintro e w6 ⟨rfl, ⟨L5, hb5⟩, hc5⟩; have B5 := hidOf hb5; have W5 := hidOf (W4.out.lp B4.out.lp hc5); have X5 := hidOf (X4.out.lp B4.out.lp hc5); have T5 := hidOf (T4.out.chg hc5 (fun k hk hs => L4.out k hk hs)); have O5 := hidOf (Chg.lender hc5 O4.out Hsz.out hp hg3); have R5 := hidOf ((R4.out.keep hc5 (N4.out)).grow hc5.size); clear hb5 hc5)
    have hm5 : 2 * l.length + 70 ≤ m := by have := B4.out.len_; simp [lmsB_len] at this; omega
    have CN := hidOf (names_any tq w6 N _ T5.out (by rw [Hsl.out]; omega))
    go_upto_region 9 with (first | (go_at_call 26; refine (num_any _ _).mono ?_; rintro e w7 ⟨rfl, hw⟩; have hw := hw.symm; subst hw) | (go_at_call 30; refine (CN.out).mono ?_; rintro e w7 ⟨na, nc, rfl, hown, ho⟩; have W7 := hidOf hown; have P7 := hidOf ho; clear hown ho))
    have CY := hidOf (bytes_any tq w7 N _ (T5.out.out P7.out) (by rw [Hsl.out]; omega))
    rw [Hby.out] at CY
    go_upto_region 10 with (go_at_call 20; refine (CY.out).mono ?_; rintro e w8 ⟨ya, yc, rfl, hown, ho⟩; have Y8 := hidOf (OwB.rest8 hown); have P8 := hidOf ho; clear hown ho)
    have P68 := hidOf (P7.out.trans P8.out)
    have x8 := (X5.out.out P68.out).cell
    have CS := hidOf (sameTexts_any na ra nc rc N w8 (W7.out.out P8.out).rt.1 (W5.out.out P68.out).rt.1 (W7.out.out P8.out).rt.2 (W5.out.out P68.out).rt.2 hN9)
    have CSB := hidOf (fun m => sameBytes_any ya a yc cap l (w8.drewN m) (Y8.out.2.below ((Out.refl w8).drewN m)) ((R5.out.more P68.out).below ((Out.refl w8).drewN m)))
    have O8 := hidOf (O5.out.trans P68.out)
    have B8 := hidOf (B5.out.out P68.out)
    go_wp2_with (first | (go_at_call 31; refine (CS.out).mono ?_; rintro e w9 ⟨rfl, m9, rfl⟩) | (go_at_call 23; refine (CSB.out _).mono ?_; rintro e w10 ⟨rfl, hw⟩; subst hw))
    go_ret
    exact ⟨rfl, .inr ⟨g, m, _, _, B8.out.drewN _, hg3, hm5⟩, O8.out.drewN _⟩
set_option maxRecDepth 20000 in
set_option maxHeartbeats 3000000 in
theorem strsReads_walk (w : World) (a : Option Addr) (cap : Nat) (l : List UInt8) (hr : RestAt w.heap.size w a l) (hcap : l.length ≤ cap) (hll : l.length ≤ 100000000000) :
    Calls Try.prog 4 #[.slice a l.length cap] w fun e w' => e = .returned (.bool true) ∧ Out w w' := by
  obtain ⟨B, hB⟩ : ∃ B, B = w.heap.size := ⟨_, rfl⟩
  have S1 : Hid (LS (w.alloc (.cells #[.slice none 0 0, .int .i64 0] 36)) B B l.length) := .inl (by rw [hB]; exact heap_alloc_new w _)
  have CT : Hid (Calls Try.prog 12 #[.slice a l.length cap] (w.alloc (.cells #[.slice none 0 0, .int .i64 0] 36)) fun e w' => ∃ v, e = .returned v ∧ ∃ O, O.length = l.length ∧ OwB (w.alloc (.cells #[.slice none 0 0, .int .i64 0] 36)).heap.size v O w' ∧ Out (w.alloc (.cells #[.slice none 0 0, .int .i64 0] 36)) w') := turned_any _ a cap l (hr.more ((Out.refl w).alloc _)) hcap (by omega)
  have CC : Hid (∀ wx b c O, O.length = l.length → O.length ≤ c → Out w wx → RestAt wx.heap.size wx b O → LS wx B B l.length → Ap wx B b O → Calls Try.prog 11 #[.slice b l.length c, .pointer (some ⟨B, 0, none⟩)] wx fun e w' => e = .returned (.bool true) ∧ LS w' B B l.length ∧ Out w w') := fun wx b c O hO hOc ho h1 h2 h3 => by
    have := rd_any w wx ho B B hB (Nat.le_refl _) b c O h1 hOc (by rw [hO]; exact h2) h3 (by omega)
    rw [hO] at this
    exact this
  have HR := hidOf hr
  have HB := hidOf hB
  have O1 := hidOf ((Out.refl w).alloc (.cells #[.slice none 0 0, .int .i64 0] 36))
  have Z1 := hidOf (size_alloc w (.cells #[.slice none 0 0, .int .i64 0] 36))
  have RX : Hid (∀ wx, Out w wx → RestAt wx.heap.size wx a l) := fun wx ho => hr.more ho
  have AX : Hid (∀ wx, LS wx B B l.length → Ap wx B a l) := fun wx hs hl ad had => by
    have hlt : ad.block < w.heap.size := by
      rcases hr with h | ⟨b, o, hb, h, hc⟩
      · exact absurd h hl
      · rw [h] at had; cases had; exact hb
    refine ⟨by omega, fun g m N L hb => ?_⟩
    rcases hs with s | ⟨g1, m1, N1, L1, s, hg, _⟩
    · have h1 := hb.hp
      rw [s] at h1; simp at h1
    · have h1 := hb.hp
      rw [s.hp] at h1
      simp at h1
      omega
  have A1 : Hid (∀ wx O b c, Out (w.alloc (.cells #[.slice none 0 0, .int .i64 0] 36)) wx → OwB (w.alloc (.cells #[.slice none 0 0, .int .i64 0] 36)).heap.size (.slice b O.length c) O wx → Ap wx B b O) := fun wx O b c ho hown hl ad had => by
    have hbk : (w.alloc (.cells #[.slice none 0 0, .int .i64 0] 36)).heap.size ≤ ad.block := (World.ownsRow.lt hown ad.block (by rw [had]; rfl)).1
    rw [size_alloc] at hbk
    refine ⟨by omega, fun g m N L hb => ?_⟩
    have h1 := hb.hp
    have h0 := heap_alloc_new w (.cells #[.slice none 0 0, .int .i64 0] 36)
    rw [hB, ho.block w.heap.size (by rw [size_alloc]; omega), h0] at h1
    simp at h1
  clear hr hB
  go_enter Try.func4, Try.ntmps4
  go_upto_region 2 with fail
  rw [← HB.out]
  generalize w.alloc (.cells #[.slice none 0 0, .int .i64 0] 36) = w1 at *
  go_wp2_with (first
    | (go_at_call 11; refine (CC.out w4 a cap l rfl hcap O4.out (RX.out w4 O4.out) S4.out (AX.out w4 S4.out)).mono ?_; rintro e w5 ⟨rfl, hs, ho⟩; have O5 := hidOf ho; clear hs ho)
    | (go_at_call 11; refine (CC.out w3 a cap l rfl hcap O3.out (RX.out w3 O3.out) S3.out (AX.out w3 S3.out)).mono ?_; rintro e w4 ⟨rfl, hs, ho⟩; have O4 := hidOf ho; have S4 := hidOf hs; clear hs ho)
    | (go_at_call 11; refine (CC.out w2 b2 c2 O HOl.out HOc.out O2.out R2.out S2.out A2.out).mono ?_; rintro e w3 ⟨rfl, hs, ho⟩; have O3 := hidOf ho; have S3 := hidOf hs; clear hs ho)
    | (go_at_call 12; refine CT.out.mono ?_; rintro e w2 ⟨v, rfl, O, hOl, hown, ho⟩; have O2 := hidOf (Out.trans O1.out ho); have S2 := hidOf (S1.out.out ho); obtain ⟨b2, c2, hv, hoc, hr2⟩ := OwB.rest hown; rw [hv] at hown; have A2 := hidOf (A1.out w2 O b2 c2 ho hown); have R2 := hidOf hr2; have HOc := hidOf hoc; rw [hOl] at hv; subst hv; have HOl := hidOf hOl; clear hown ho hr2 hOl hoc)
    | (go_at_call 10; refine (awake_any w5).mono ?_; rintro e w6 ⟨rfl, ho⟩; have O6 := hidOf (Out.trans O5.out ho); clear ho))
  go_ret
  exact ⟨rfl, O6.out⟩
end Go.Proofs.Ytgakmbeooobhjaa
