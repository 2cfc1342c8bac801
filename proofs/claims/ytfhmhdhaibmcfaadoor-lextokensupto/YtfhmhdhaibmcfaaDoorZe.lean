import Derived.Test.YtfhmhdhaibmcfaaDoorFv
import Derived.Test.YtfhmhdhaibmcfaaDoorZd
namespace Go.Proofs.YtfhmhdhaibmcfaaDoor
open Go.RowKit
set_option linter.unusedVariables false
set_option linter.unusedSimpArgs false
/-- the lender: new, or with a buffer that is long enough -/
def LS (w : World) (p B n : Nat) : Prop := w.heap[p]? = some (.cells #[.slice none 0 0, .int .i64 0] 25 (0, 0)) ∨ ∃ g m N L, LeB w p g m N L ∧ B ≤ g ∧ 2 * n + 70 ≤ m
theorem LS.lt {w : World} {p B n : Nat} (h : LS w p B n) : p < w.heap.size := by
  rcases h with h | ⟨g, m, N, L, h, _⟩
  · exact (Array.getElem?_eq_some_iff.1 h).1
  · exact h.ltp
theorem LS.out {w w' : World} {p B n : Nat} (h : LS w p B n) (o : Out w w') : LS w' p B n := by
  have hl := h.lt
  rcases h with h | ⟨g, m, N, L, h, hg, hm⟩
  · exact .inl ((o.block p hl).trans h)
  · exact .inr ⟨g, m, N, L, h.out o, hg, hm⟩
/-- a text lies apart from the lender -/
def Ap (w : World) (p : Nat) (a : Option Addr) (l : List UInt8) : Prop := ¬ l = [] → ∀ ad, a = some ad → ¬ ad.block = p ∧ ∀ g m N L, LeB w p g m N L → ¬ ad.block = g
theorem Ap.out {w w' : World} {p B n : Nat} {a : Option Addr} {l : List UInt8} (h : Ap w p a l) (s : LS w p B n) (o : Out w w') : Ap w' p a l := fun hl ad ha => by
  refine ⟨(h hl ad ha).1, fun g m N L hb => ?_⟩
  rcases s with s | ⟨g1, m1, N1, L1, s, _⟩
  · have h1 := hb.hp
    rw [(o.block p (Array.getElem?_eq_some_iff.1 s).1).trans s] at h1
    simp at h1
  · have h1 := hb.hp
    rw [(s.out o).hp] at h1
    simp at h1
    rw [← h1.1.1]
    exact (h hl ad ha).2 _ _ _ _ s
/-- the blocks that Lend writes hold no tokens -/
def LP (w : World) (p g : Nat) : Prop := (∃ cs, w.heap[p]? = some (.cells cs 25 (0, 0))) ∧ (w.heap.size ≤ g ∨ ∃ cs, w.heap[g]? = some (.cells cs 5 (0, 0)))
theorem LeB.lp {w : World} {p g m : Nat} {N : Int} {L : List UInt8} (h : LeB w p g m N L) : LP w p g := ⟨⟨_, h.hp⟩, .inr ⟨_, h.hg⟩⟩
theorem OwT.lp {B p g : Nat} {v : Value} {T : List Tk} {w w' : World} (h : OwT B v T w) (k : LP w p g) (c : Chg (SL p g) w w') : OwT B v T w' := by
  refine owns_chg h (fun b hb hs => ?_) c
  rcases h.2 with ⟨hv, _⟩ | ⟨g1, cap, cur, hv, _, hg, _⟩
  · rw [hv] at hb; cases hb
  · rw [hv] at hb
    simp [Value.ownBlock] at hb
    subst hb
    rcases hs with e | e
    · obtain ⟨cs, h1⟩ := k.1
      rw [← e, hg] at h1; simp at h1
    · rcases k.2 with h1 | ⟨cs, h1⟩
      · have := (Array.getElem?_eq_some_iff.1 hg).1; omega
      · rw [← e, hg] at h1; simp at h1
theorem lend_any (w : World) (p B : Nat) (a : Option Addr) (cap : Nat) (l : List UInt8) (hs : LS w p B l.length) (hB : B ≤ w.heap.size) (hr : RestAt w.heap.size w a l) (ha : Ap w p a l) (hll : l.length ≤ 60000000000000) :
    Calls Tryd.prog 23 #[.pointer (some ⟨p, 0, none⟩), .slice a l.length cap] w fun e w' => ∃ g m R, e = .returned (.slice (some ⟨g, 0, none⟩) l.length (2 * l.length + 70)) ∧ LeB w' p g m l.length (l ++ (lmsB l.length (l.length + 70) ++ R)) ∧ Chg (SL p g) w w' ∧ LP w p g ∧ B ≤ g ∧ (¬ l = [] → ∀ ad, a = some ad → ¬ SL p g ad.block) := by
  rcases hs with hs | ⟨g, m, N, L, hs, hg, hm⟩
  · refine (lend_new w.heap.size w p w.heap.size (4 * l.length + 512) (List.replicate (4 * l.length + 512) 0) hs a cap l hr (Nat.le_refl _) (fun h ad had => (ha h ad had).1) rfl rfl rfl hll).mono ?_
    rintro e w' ⟨he, hb, hc⟩
    refine ⟨_, _, _, he, hb, hc, ⟨⟨_, hs⟩, .inl (Nat.le_refl _)⟩, hB, fun h ad had hsl => ?_⟩
    rcases hsl with e | e
    · exact (ha h ad had).1 e
    · rcases hr with h1 | ⟨b, o, hb, h1, _⟩
      · exact h h1
      · rw [h1] at had; cases had; simp at e; omega
  · refine (lend_again w.heap.size w p g m N L hs a cap l hr (fun h ad had => (ha h ad had).1) (fun h ad had => (ha h ad had).2 _ _ _ _ hs) hm (by omega)).mono ?_
    rintro e w' ⟨he, hb, hc⟩
    refine ⟨_, _, _, he, hb, hc, hs.lp, hg, fun h ad had hsl => ?_⟩
    rcases hsl with e | e
    · exact (ha h ad had).1 e
    · exact (ha h ad had).2 _ _ _ _ hs e
theorem RestAt.keep {N : Nat} {S : Nat → Prop} {w w' : World} {a : Option Addr} {l : List UInt8} (h : RestAt N w a l) (c : Chg S w w') (hs : ¬ l = [] → ∀ ad, a = some ad → ¬ S ad.block) : RestAt N w' a l := by
  by_cases hl : l = []
  · exact .inl hl
  · rcases h with h | ⟨b, o, hb, ha, hc⟩
    · exact .inl h
    · exact .inr ⟨b, o, hb, ha, fun k x hx => c.cell (hc k x hx) (show ¬ S b from hs hl ⟨b, o, none⟩ ha)⟩
theorem tokO (w : World) (hE : LEnv w) (a : Option Addr) (cap : Nat) (l : List UInt8) (hr : RestAt w.heap.size w a l) (hcap : l.length ≤ cap) (hll : l.length ≤ 140737488355328) : Calls Tryd.prog 15 #[.slice a l.length cap] w fun e w' => ∃ v, e = .returned (.tuple #[v, .int .i64 (tokensP l).2.1, .int .i64 (tokensP l).2.2]) ∧ OwT w.heap.size v (tokensP l).1 w' ∧ Out w w' :=
  tokens_any valC cutC w hE.1 a cap l hr hcap hll
theorem Chg.lender {p g B : Nat} {w0 w w' : World} (c : Chg (SL p g) w w') (o : Out w0 w) (hB : B = w0.heap.size) (hp : B ≤ p) (hg : B ≤ g) : Out w0 w' :=
  Chg.out c o (fun k hk => by rcases hk with e | e <;> omega)
set_option maxRecDepth 20000 in
set_option maxHeartbeats 3000000 in
theorem cut_any (w0 w : World) (hE : LEnv w0) (ho : Out w0 w) (p B : Nat) (hB : B = w0.heap.size) (hp : B ≤ p) (a : Option Addr) (cap : Nat) (l : List UInt8) (hr : RestAt w.heap.size w a l) (hs : LS w p B l.length) (ha : Ap w p a l) (hll : l.length ≤ 60000000000000) :
    Calls Tryd.prog 9 #[.slice a l.length cap, .pointer (some ⟨p, 0, none⟩)] w fun e w' => e = .returned (.bool true) ∧ LS w' p B l.length ∧ Out w0 w' := by
  have CC := hidOf (copyBytes_any w a cap l hr (by omega))
  have CR : Hid (∀ wx b cp, RestAt wx.heap.size wx b l → l.length ≤ cp → Calls Tryd.prog 13 #[.slice b l.length cp] wx fun e w' => ∃ v, e = .returned (.tuple #[v, .int .i64 (tokensP l).2.1, .int .i64 (tokensP l).2.2]) ∧ OwT wx.heap.size v (tokensP l).1 w' ∧ Out wx w') := fun wx b cp h1 h2 => refTokens_any wx b cp l h1 h2
  have CT : Hid (∀ wx b cp, Out w0 wx → RestAt wx.heap.size wx b l → l.length ≤ cp → Calls Tryd.prog 15 #[.slice b l.length cp] wx fun e w' => ∃ v, e = .returned (.tuple #[v, .int .i64 (tokensP l).2.1, .int .i64 (tokensP l).2.2]) ∧ OwT wx.heap.size v (tokensP l).1 w' ∧ Out wx w') := fun wx b cp h0 h1 h2 => tokO wx (hE.out h0) b cp l h1 h2 (by omega)
  have CB : Hid (∀ wx g m R, LeB wx p g m l.length (l ++ (lmsB l.length (l.length + 70) ++ R)) → RestAt wx.heap.size wx a l → Calls Tryd.prog 24 #[.pointer (some ⟨p, 0, none⟩), .slice a l.length cap] wx fun e w' => e = .returned (.bool true) ∧ (∃ L', LeB w' p g m l.length L') ∧ Chg (SL p g) wx w') := fun wx g m R h1 h2 => back_any wx p g m l R h1 _ a cap h2 (by omega)
  have htl := tokens_len l
  have CS : Hid (∀ wx b1 c1 b2 c2, TksAt wx b1 (tokensP l).1 → TksAt wx b2 (tokensP l).1 → Calls Tryd.prog 16 #[.slice b1 (tokensP l).1.length c1, .slice b2 (tokensP l).1.length c2] wx fun e w' => e = .returned (.bool true) ∧ Out wx w') := fun wx b1 c1 b2 c2 h1 h2 => sameTokens_any wx b1 b2 c1 c2 _ h1 h2 (by omega)
  have HO := hidOf ho
  have HR := hidOf hr
  have HS := hidOf hs
  have HA := hidOf ha
  have Hsz := hidOf hB
  have hB1 : Hid (B ≤ w.heap.size) := by have := ho.size; show B ≤ _; omega
  clear hE ho hr hs ha hB
  obtain ⟨T, L1, L2, hT⟩ : ∃ T L1 L2, tokensP l = (T, L1, L2) := ⟨_, _, _, rfl⟩
  rw [hT] at CR CT CS htl
  simp only at CR CT CS htl
  clear hT
  go_enter Tryd.func9, Tryd.ntmps9
  go_upto_region 2 with (first | (go_at_call 14; refine CC.out.mono ?_; rintro e w1 ⟨v1, rfl, hown, ho⟩; have P1 := hidOf ho; obtain ⟨b1, c1, rfl, hc1, hr1⟩ := OwB.rest hown; have R1 := hidOf hr1; clear hown ho hr1) | (go_at_call 13; refine (CR.out w1 b1 c1 R1.out hc1).mono ?_; rintro e w2 ⟨v2, rfl, hown, ho⟩; have W2 := hidOf hown; have P2 := hidOf (Out.trans P1.out ho); clear hown ho))
  have S2 := hidOf (HS.out.out P2.out)
  have A2 := hidOf (HA.out.out HS.out P2.out)
  have R2 : Hid (RestAt w2.heap.size w2 a l) := by
    rcases HR.out with h | ⟨b, o, hb, h, hc⟩
    · exact .inl h
    · exact .inr ⟨b, o, by have := P2.out.size; omega, h, fun k x hx => cell_later P2.out (hc k x hx)⟩
  have O2 := hidOf (Out.trans HO.out P2.out)
  have CLd := hidOf (lend_any w2 p B a cap l S2.out (by have := P2.out.size; have := hB1.out; omega) R2.out A2.out hll)
  go_upto_region 3 with (first | (go_at_call 23; refine CLd.out.mono ?_; rintro e w3 ⟨g, m, R, rfl, hb3, hc3, hlp, hg3, hne⟩; have B3 := hidOf hb3; have W3 := hidOf (W2.out.lp hlp hc3); have O3 := hidOf (Chg.lender hc3 O2.out Hsz.out hp hg3); have R3 := hidOf (R2.out.keep hc3 hne); have Z3 := hidOf hc3.size; have N3 := hidOf hne; clear hb3 hc3 hlp hne) | (go_at_call 15; refine (CT.out w3 _ _ O3.out B3.out.rest (by omega)).mono ?_; rintro e w4 ⟨v4, rfl, hown, ho⟩; have W4 := hidOf hown; have P4 := hidOf ho; clear hown ho))
  have B4 := hidOf (B3.out.out P4.out)
  have W4' := hidOf (W3.out.out P4.out)
  have R4 : Hid (RestAt w4.heap.size w4 a l) := by
    rcases R3.out with h | ⟨b, o, hb, h, hc⟩
    · exact .inl h
    · exact .inr ⟨b, o, by have := P4.out.size; have := Z3.out; omega, h, fun k x hx => cell_later P4.out (hc k x hx)⟩
  have O4 := hidOf (Out.trans O3.out P4.out)
  go_upto_region 4 with (go_at_call 24; refine (CB.out w4 g m R B4.out R4.out).mono ?_; rintro e w5 ⟨rfl, ⟨L5, hb5⟩, hc5⟩; have B5 := hidOf hb5; have X5 := hidOf (W4.out.lp B4.out.lp hc5); have Y5 := hidOf (W4'.out.lp B4.out.lp hc5); have O5 := hidOf (Chg.lender hc5 O4.out Hsz.out hp hg3); clear hb5 hc5)
  obtain ⟨b4, c4, rfl, _, ht4⟩ := owns_tks X5.out
  obtain ⟨b2, c2, rfl, _, ht2⟩ := owns_tks Y5.out
  have T4 := hidOf ht4
  have T2 := hidOf ht2
  have hm5 : 2 * l.length + 70 ≤ m := by have := B4.out.len_; simp [lmsB_len] at this; omega
  clear ht4 ht2
  go_wp2_with (first | (go_at_call 16; refine (CS.out w5 _ _ _ _ T4.out T2.out).mono ?_; rintro e w6 ⟨rfl, ho⟩; have O6 := hidOf (Out.trans O5.out ho); have B6 := hidOf (B5.out.out ho); clear ho) | (go_at_call 17; refine (refNum_any _ _).mono ?_; rintro e w7 ⟨rfl, hw⟩; have hw := hw.symm; subst hw))
  go_ret
  exact ⟨rfl, .inr ⟨g, m, _, _, B6.out, hg3, hm5⟩, O6.out⟩
end Go.Proofs.YtfhmhdhaibmcfaaDoor
