import Derived.Test.YtoobdcjkhphlcaaRer
namespace Go.Proofs.Ytoobdcjkhphlcaa
open Go.RowKit
set_option linter.unusedVariables false
set_option linter.unusedSimpArgs false
/-- the tray: new, or with a list that is long enough -/
def TS (w : World) (p B n : Nat) : Prop := w.heap[p]? = some (.cells #[.slice none 0 0] 25 (0, 0)) ∨ ∃ g m L, Tb w p g m L ∧ B ≤ g ∧ 2 * n + 70 ≤ m ∧ m ≤ 1000000000000
theorem TS.lt {w : World} {p B n : Nat} (h : TS w p B n) : p < w.heap.size := by
  rcases h with h | ⟨g, m, L, h, _⟩
  · exact (Array.getElem?_eq_some_iff.1 h).1
  · exact h.ltp
theorem TS.out {w w' : World} {p B n : Nat} (h : TS w p B n) (o : Out w w') : TS w' p B n := by
  have hl := h.lt
  rcases h with h | ⟨g, m, L, h, hg, hm⟩
  · exact .inl ((o.block p hl).trans h)
  · exact .inr ⟨g, m, L, h.out o, hg, hm⟩
/-- relocations that lie apart from the tray -/
def ApT (w : World) (p : Nat) (a : Option Addr) (l : List Rl) : Prop := ¬ l = [] → ∀ ad, a = some ad → ad.block < w.heap.size ∧ ¬ ad.block = p ∧ ∀ g m L, Tb w p g m L → ¬ ad.block = g
theorem ApT.out {w w' : World} {p B n : Nat} {a : Option Addr} {l : List Rl} (h : ApT w p a l) (s : TS w p B n) (o : Out w w') : ApT w' p a l := fun hl ad ha => by
  refine ⟨Nat.lt_of_lt_of_le (h hl ad ha).1 o.size, (h hl ad ha).2.1, fun g m L hb => ?_⟩
  rcases s with s | ⟨g1, m1, L1, s, _⟩
  · have h1 := hb.hp
    rw [(o.block p (Array.getElem?_eq_some_iff.1 s).1).trans s] at h1
    simp at h1
  · have h1 := hb.hp
    rw [(s.out o).hp] at h1
    simp at h1
    rw [← h1.1]
    exact (h hl ad ha).2.2 _ _ _ s
/-- the blocks that the tray writes hold no bytes -/
def LPT (w : World) (p g : Nat) : Prop := (∃ cs, w.heap[p]? = some (.cells cs 25 (0, 0))) ∧ (w.heap.size ≤ g ∨ ∃ cs, w.heap[g]? = some (.cells cs 27 (0, 0)))
theorem Tb.lp {w : World} {p g m : Nat} {L : List Rl} (h : Tb w p g m L) : LPT w p g := ⟨⟨_, h.hp⟩, .inr ⟨_, h.hg⟩⟩
theorem OwB.lpT {B p g : Nat} {v : Value} {T : List UInt8} {w w' : World} (h : OwB B v T w) (k : LPT w p g) (c : Chg (SL p g) w w') : OwB B v T w' := by
  refine owns_chg h (fun b hb hs => ?_) c
  rcases hs with e | e
  · obtain ⟨cs, h1⟩ := k.1
    exact own_type h h1 (by decide) (by rw [← e]; exact hb)
  · rcases k.2 with h1 | ⟨cs, h1⟩
    · have := (World.ownsRow.lt h b hb).2; omega
    · exact own_type h h1 (by decide) (by rw [← e]; exact hb)
theorem layT_any (w : World) (p B : Nat) (a : Option Addr) (cap : Nat) (l : List Rl) (hs : TS w p B l.length) (hB : B ≤ w.heap.size) (hr : RlAt w.heap.size w a l) (ha : ApT w p a l) (hll : l.length ≤ 100000000000) :
    Calls Try.prog 24 #[.pointer (some ⟨p, 0, none⟩), .slice a l.length cap] w fun e w' => ∃ g m, e = .returned (.slice (some ⟨g, 0, none⟩) l.length m) ∧ Tb w' p g m (l ++ behsR l.length (m - l.length)) ∧ Chg (SL p g) w w' ∧ LPT w p g ∧ B ≤ g ∧ 2 * l.length + 70 ≤ m ∧ m ≤ 1000000000000 ∧ (¬ l = [] → ∀ ad, a = some ad → ¬ SL p g ad.block) := by
  rcases hs with hs | ⟨g, m, L, hs, hg, hm, hmm⟩
  · have hne : ¬ l = [] → ∀ ad, a = some ad → ¬ SL p w.heap.size ad.block := fun h ad had hsl => by
      rcases hsl with e | e
      · exact (ha h ad had).2.1 e
      · have := (ha h ad had).1; omega
    refine (lay_new w p w.heap.size (4 * l.length + 140) (List.replicate (4 * l.length + 140) zeroR) hs a cap l hr hne rfl rfl rfl hll).mono ?_
    rintro e w' ⟨he, hb, hc⟩
    exact ⟨_, _, he, hb, hc, ⟨⟨_, hs⟩, .inl (Nat.le_refl _)⟩, hB, by omega, by omega, hne⟩
  · have hne : ¬ l = [] → ∀ ad, a = some ad → ¬ SL p g ad.block := fun h ad had hsl => by
      rcases hsl with e | e
      · exact (ha h ad had).2.1 e
      · exact (ha h ad had).2.2 _ _ _ hs e
    refine (lay_again w p g m L hs a cap l hr hne hm hmm).mono ?_
    rintro e w' ⟨he, hb, hc⟩
    exact ⟨_, _, he, hb, hc, hs.lp, hg, hm, hmm, hne⟩
theorem Chg.tray {p g B : Nat} {w0 w w' : World} (c : Chg (SL p g) w w') (o : Out w0 w) (hB : B = w0.heap.size) (hp : B ≤ p) (hg : B ≤ g) : Out w0 w' :=
  Chg.out c o (fun k hk => by rcases hk with e | e <;> omega)
/-- what Write tells, as bytes and an error -/
def wrB (l : List Rl) : List UInt8 := (wrP l).1.getD []
def wrN (l : List Rl) : Int := match wrP l with
  | (none, e) => e
  | (some _, _) => 0
theorem WrE.flat {w w' : World} {l : List Rl} {e : Ending} (h : WrE w (wrP l) e w') : ∃ v, e = .returned (.tuple #[v, .int .i64 (wrN l)]) ∧ OwB w.heap.size v (wrB l) w' ∧ Out w w' := by
  unfold wrN wrB
  cases hT : wrP l with
  | mk o er =>
    rw [hT] at h
    cases o with
    | none => exact ⟨_, h.2, ⟨rfl, .inl ⟨rfl, rfl⟩⟩, h.1⟩
    | some b =>
      obtain ⟨ho, a, c, he, hw⟩ := h
      exact ⟨_, he, hw, ho⟩
set_option maxRecDepth 20000 in
set_option maxHeartbeats 400000 in
theorem written_any (w0 w : World) (ho : Out w0 w) (p B : Nat) (hB : B = w0.heap.size) (hp : B ≤ p) (a : Option Addr) (cap : Nat) (l : List Rl) (hr : RlAt w.heap.size w a l) (hcap : l.length ≤ cap) (hs : TS w p B l.length) (ha : ApT w p a l) (hll : l.length ≤ 1000000000) :
    Calls Try.prog 8 #[.pointer (some ⟨p, 0, none⟩), .slice a l.length cap] w fun e w' => e = .returned (.bool true) ∧ TS w' p B l.length ∧ Out w0 w' := by
  have CR : Hid (Calls Try.prog 12 #[.slice a l.length cap] w fun e w' => ∃ v, e = .returned (.tuple #[v, .int .i64 (wrN l)]) ∧ OwB w.heap.size v (wrB l) w' ∧ Out w w') := (refWrite_any w a cap l hr hcap (by omega)).mono fun e w' h => h.flat
  have CU : Hid (∀ wx b cp, RlAt wx.heap.size wx b l → l.length ≤ cp → Calls Try.prog 13 #[.slice b l.length cp] wx fun e w' => ∃ v, e = .returned (.tuple #[v, .int .i64 (wrN l)]) ∧ OwB wx.heap.size v (wrB l) w' ∧ Out wx w') := fun wx b cp h1 h2 => (write_any wx b cp l h1 h2 (by omega)).mono fun e w' h => h.flat
  have CB : Hid (∀ wx g m, Tb wx p g m (l ++ behsR l.length (m - l.length)) → RlAt wx.heap.size wx a l → m ≤ 1000000000000 → l.length ≤ m → Calls Try.prog 25 #[.pointer (some ⟨p, 0, none⟩), .slice a l.length cap] wx fun e w' => e = .returned (.bool true) ∧ (∃ L', Tb w' p g m L') ∧ Chg (SL p g) wx w') := fun wx g m h1 h2 h3 h4 => tback_any wx p g m l h1 a cap h2 h3 h4
  have HO := hidOf ho
  have HR := hidOf hr
  have HS := hidOf hs
  have HA := hidOf ha
  have Hsz := hidOf hB
  have hB1 : Hid (B ≤ w.heap.size) := by have := ho.size; show B ≤ _; omega
  clear ho hr hs ha hB
  generalize wrN l = E at *
  generalize wrB l = U at *
  go_enter Try.func8, Try.ntmps8
  go_upto_region 2 with (go_at_call 12; refine CR.out.mono ?_; rintro e w2 ⟨v2, rfl, hown, ho⟩; have W2 := hidOf hown; have P2 := hidOf ho; clear hown ho)
  have S2 := hidOf (HS.out.out P2.out)
  have A2 := hidOf (HA.out.out HS.out P2.out)
  have R2 := hidOf (HR.out.out P2.out)
  have O2 := hidOf (Out.trans HO.out P2.out)
  have CLd := hidOf (layT_any w2 p B a cap l S2.out (by have := P2.out.size; have := hB1.out; omega) R2.out A2.out (by omega))
  go_upto_region 3 with (first | (go_at_call 24; refine CLd.out.mono ?_; rintro e w3 ⟨g, m, rfl, hb3, hc3, hlp, hg3, hm3, hmm3, hne⟩; have B3 := hidOf hb3; have W3 := hidOf (W2.out.lpT hlp hc3); have O3 := hidOf (Chg.tray hc3 O2.out Hsz.out hp hg3); have R3 := hidOf (R2.out.keep hc3 hc3.size hne); clear hb3 hc3 hne hlp) | (go_at_call 13; refine (CU.out w3 _ _ B3.out.hg.rels (by omega)).mono ?_; rintro e w4 ⟨v4, rfl, hown, ho⟩; have W4 := hidOf hown; have P4 := hidOf ho; clear hown ho))
  have B4 := hidOf (B3.out.out P4.out)
  have W4' := hidOf (W3.out.out P4.out)
  have R4 := hidOf (R3.out.out P4.out)
  have O4 := hidOf (Out.trans O3.out P4.out)
  go_upto_region 4 with (go_at_call 25; refine (CB.out w4 g m B4.out R4.out hmm3 (by omega)).mono ?_; rintro e w5 ⟨rfl, ⟨L5, hb5⟩, hc5⟩; have B5 := hidOf hb5; have X5 := hidOf (W4.out.lpT B4.out.lp hc5); have Y5 := hidOf (W4'.out.lpT B4.out.lp hc5); have O5 := hidOf (Chg.tray hc5 O4.out Hsz.out hp hg3); clear hb5 hc5)
  obtain ⟨b4, c4, rfl, _, ht4⟩ := OwB.rest X5.out
  obtain ⟨b2, c2, rfl, _, ht2⟩ := OwB.rest Y5.out
  have T4 := hidOf ht4
  have T2 := hidOf ht2
  clear ht4 ht2
  go_wp2_with (first | (go_at_call 17; refine (sameBytes_any _ _ _ _ U _ T4.out T2.out).mono ?_; rintro e w6 ⟨rfl, hw⟩; have hw := hw.symm; subst hw) | (go_at_call 18; refine (num_any _ _).mono ?_; rintro e w7 ⟨rfl, hw⟩; have hw := hw.symm; subst hw))
  go_ret
  exact ⟨rfl, .inr ⟨g, m, _, B5.out, hg3, hm3, hmm3⟩, O5.out⟩
end Go.Proofs.Ytoobdcjkhphlcaa
