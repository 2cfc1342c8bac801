import Derived.Test.YtoobdcjkhphlcaaRgc
import Derived.Test.YtoobdcjkhphlcaaRfc
import Derived.Test.YtoobdcjkhphlcaaRer
namespace Go.Proofs.Ytoobdcjkhphlcaa
open Go.RowKit
set_option linter.unusedVariables false
set_option linter.unusedSimpArgs false
/-- the lender: new, or with a buffer that is long enough -/
def LS (w : World) (p B n : Nat) : Prop := w.heap[p]? = some (.cells #[.slice none 0 0, .int .i64 0] 33 (0, 0)) ∨ ∃ g m N L, LeB w p g m N L ∧ B ≤ g ∧ 2 * n + 70 ≤ m
theorem LS.lt {w : World} {p B n : Nat} (h : LS w p B n) : p < w.heap.size := by
  rcases h with h | ⟨g, m, N, L, h, _⟩
  · exact (Array.getElem?_eq_some_iff.1 h).1
  · exact h.ltp
theorem LS.out {w w' : World} {p B n : Nat} (h : LS w p B n) (o : Out w w') : LS w' p B n := by
  have hl := h.lt
  rcases h with h | ⟨g, m, N, L, h, hg, hm⟩
  · exact .inl ((o.block p hl).trans h)
  · exact .inr ⟨g, m, N, L, h.out o, hg, hm⟩
/-- a text lies apart from the lender -/
def Ap (w : World) (p : Nat) (a : Option Addr) (l : List UInt8) : Prop := ¬ l = [] → ∀ ad, a = some ad → ¬ ad.block = p ∧ ∀ g m N L, LeB w p g m N L → ¬ ad.block = g
theorem Ap.out {w w' : World} {p B n : Nat} {a : Option Addr} {l : List UInt8} (h : Ap w p a l) (s : LS w p B n) (o : Out w w') : Ap w' p a l := fun hl ad ha => by
  refine ⟨(h hl ad ha).1, fun g m N L hb => ?_⟩
  rcases s with s | ⟨g1, m1, N1, L1, s, _⟩
  · have h1 := hb.hp
    rw [(o.block p (Array.getElem?_eq_some_iff.1 s).1).trans s] at h1
    simp at h1
  · have h1 := hb.hp
    rw [(s.out o).hp] at h1
    simp at h1
    rw [← h1.1.1]
    exact (h hl ad ha).2 _ _ _ _ s
/-- the blocks that Lend writes hold no tokens -/
def LP (w : World) (p g : Nat) : Prop := (∃ cs, w.heap[p]? = some (.cells cs 33 (0, 0))) ∧ (w.heap.size ≤ g ∨ ∃ cs, w.heap[g]? = some (.cells cs 5 (0, 0)))
theorem LeB.lp {w : World} {p g m : Nat} {N : Int} {L : List UInt8} (h : LeB w p g m N L) : LP w p g := ⟨⟨_, h.hp⟩, .inr ⟨_, h.hg⟩⟩
theorem OwR.lp {B p g : Nat} {v : Value} {T : List Rl} {w w' : World} (h : OwR B v T w) (k : LP w p g) (c : Chg (SL p g) w w') : OwR B v T w' := by
  refine owns_chg h (fun b hb hs => ?_) c
  rcases hs with e | e
  · obtain ⟨cs, h1⟩ := k.1
    exact own_type h h1 (by decide) (by rw [← e]; exact hb)
  · rcases k.2 with h1 | ⟨cs, h1⟩
    · have := (World.ownsRow.lt h b hb).2; omega
    · exact own_type h h1 (by decide) (by rw [← e]; exact hb)
theorem lend_any (w : World) (p B : Nat) (a : Option Addr) (cap : Nat) (l : List UInt8) (hs : LS w p B l.length) (hB : B ≤ w.heap.size) (hr : RestAt w.heap.size w a l) (ha : Ap w p a l) (hll : l.length ≤ 60000000000000) :
    Calls Try.prog 26 #[.pointer (some ⟨p, 0, none⟩), .slice a l.length cap] w fun e w' => ∃ g m R, e = .returned (.slice (some ⟨g, 0, none⟩) l.length (2 * l.length + 70)) ∧ LeB w' p g m l.length (l ++ (lmsB l.length (l.length + 70) ++ R)) ∧ Chg (SL p g) w w' ∧ LP w p g ∧ B ≤ g ∧ (¬ l = [] → ∀ ad, a = some ad → ¬ SL p g ad.block) := by
  rcases hs with hs | ⟨g, m, N, L, hs, hg, hm⟩
  · refine (lend_new w.heap.size w p w.heap.size (4 * l.length + 512) (List.replicate (4 * l.length + 512) 0) hs a cap l hr (Nat.le_refl _) (fun h ad had => (ha h ad had).1) rfl rfl rfl hll).mono ?_
    rintro e w' ⟨he, hb, hc⟩
    refine ⟨_, _, _, he, hb, hc, ⟨⟨_, hs⟩, .inl (Nat.le_refl _)⟩, hB, fun h ad had hsl => ?_⟩
    rcases hsl with e | e
    · exact (ha h ad had).1 e
    · rcases hr with h1 | ⟨b, o, hb, h1, _⟩
      · exact h h1
      · rw [h1] at had; cases had; simp at e; omega
  · refine (lend_again w.heap.size w p g m N L hs a cap l hr (fun h ad had => (ha h ad had).1) (fun h ad had => (ha h ad had).2 _ _ _ _ hs) hm (by omega)).mono ?_
    rintro e w' ⟨he, hb, hc⟩
    refine ⟨_, _, _, he, hb, hc, hs.lp, hg, fun h ad had hsl => ?_⟩
    rcases hsl with e | e
    · exact (ha h ad had).1 e
    · exact (ha h ad had).2 _ _ _ _ hs e
theorem RestAt.keep {N : Nat} {S : Nat → Prop} {w w' : World} {a : Option Addr} {l : List UInt8} (h : RestAt N w a l) (c : Chg S w w') (hs : ¬ l = [] → ∀ ad, a = some ad → ¬ S ad.block) : RestAt N w' a l := by
  by_cases hl : l = []
  · exact .inl hl
  · rcases h with h | ⟨b, o, hb, ha, hc⟩
    · exact .inl h
    · exact .inr ⟨b, o, hb, ha, fun k x hx => c.cell (hc k x hx) (show ¬ S b from hs hl ⟨b, o, none⟩ ha)⟩
/-- what Read tells, as relocations, a place and an error -/
def rdL (b : List UInt8) : List Rl := (rdP b).1.getD []
def rdA (b : List UInt8) : Int := match rdP b with
  | (none, a, _) => a
  | (some _, _, _) => 0
def rdN (b : List UInt8) : Int := match rdP b with
  | (none, _, e) => e
  | (some _, _, _) => 0
theorem RdE.flat {w w' : World} {b : List UInt8} {e : Ending} (h : RdE w (rdP b) e w') : ∃ v, e = .returned (.tuple #[v, .int .i64 (rdA b), .int .i64 (rdN b)]) ∧ OwR w.heap.size v (rdL b) w' ∧ Out w w' := by
  unfold rdA rdN rdL
  cases hT : rdP b with
  | mk o r =>
    obtain ⟨a, er⟩ := r
    rw [hT] at h
    cases o with
    | none => exact ⟨_, h.2, ⟨rfl, .inl ⟨rfl, rfl⟩⟩, h.1⟩
    | some S =>
      obtain ⟨ho, a, c, he, hw⟩ := h
      exact ⟨_, he, hw, ho⟩
theorem rdL_len (b : List UInt8) : (rdL b).length ≤ 65536 := by
  unfold rdL
  cases hT : rdP b with
  | mk o r =>
    obtain ⟨a, er⟩ := r
    cases o with
    | none => simp
    | some S => exact (bytes_P hT).2.2.2
theorem Chg.lender {p g B : Nat} {w0 w w' : World} (c : Chg (SL p g) w w') (o : Out w0 w) (hB : B = w0.heap.size) (hp : B ≤ p) (hg : B ≤ g) : Out w0 w' :=
  Chg.out c o (fun k hk => by rcases hk with e | e <;> omega)
set_option maxRecDepth 20000 in
set_option maxHeartbeats 3000000 in
theorem readL_any (w0 w : World) (ho : Out w0 w) (p B : Nat) (hB : B = w0.heap.size) (hp : B ≤ p) (a : Option Addr) (cap : Nat) (l : List UInt8) (hr : RestAt w.heap.size w a l) (hs : LS w p B l.length) (ha : Ap w p a l) (hll : l.length ≤ 60000000000000) :
    Calls Try.prog 10 #[.slice a l.length cap, .pointer (some ⟨p, 0, none⟩)] w fun e w' => e = .returned (.bool true) ∧ LS w' p B l.length ∧ Out w0 w' := by
  have CC := hidOf (copyBytes_any w a cap l hr (by omega))
  have CR : Hid (∀ wx b cp, RestAt wx.heap.size wx b l → l.length ≤ cp → Calls Try.prog 14 #[.slice b l.length cp] wx fun e w' => ∃ v, e = .returned (.tuple #[v, .int .i64 (rdA l), .int .i64 (rdN l)]) ∧ OwR wx.heap.size v (rdL l) w' ∧ Out wx w') := fun wx b cp h1 h2 => (refRead_any wx b cp l h1 h2 (by omega)).mono fun e w' h => h.flat
  have CT : Hid (∀ wx b cp, RestAt wx.heap.size wx b l → l.length ≤ cp → Calls Try.prog 16 #[.slice b l.length cp] wx fun e w' => ∃ v, e = .returned (.tuple #[v, .int .i64 (rdA l), .int .i64 (rdN l)]) ∧ OwR wx.heap.size v (rdL l) w' ∧ Out wx w') := fun wx b cp h1 h2 => (read_any wx b cp l h1 h2 (by omega)).mono fun e w' h => h.flat
  have CB : Hid (∀ wx g m R, LeB wx p g m l.length (l ++ (lmsB l.length (l.length + 70) ++ R)) → RestAt wx.heap.size wx a l → Calls Try.prog 27 #[.pointer (some ⟨p, 0, none⟩), .slice a l.length cap] wx fun e w' => e = .returned (.bool true) ∧ (∃ L', LeB w' p g m l.length L') ∧ Chg (SL p g) wx w') := fun wx g m R h1 h2 => back_any wx p g m l R h1 _ a cap h2 (by omega)
  have htl := rdL_len l
  have CS : Hid (∀ wx b1 c1 b2 c2, RlAt wx.heap.size wx b1 (rdL l) → RlAt wx.heap.size wx b2 (rdL l) → Calls Try.prog 19 #[.slice b1 (rdL l).length c1, .slice b2 (rdL l).length c2] wx fun e w' => e = .returned (.bool true) ∧ Out wx w') := fun wx b1 c1 b2 c2 h1 h2 => sameRels_eq wx b1 b2 c1 c2 _ h1 h2 (by omega)
  have HO := hidOf ho
  have HR := hidOf hr
  have HS := hidOf hs
  have HA := hidOf ha
  have Hsz := hidOf hB
  have hB1 : Hid (B ≤ w.heap.size) := by have := ho.size; show B ≤ _; omega
  clear ho hr hs ha hB
  generalize rdL l = T at *
  generalize rdA l = L1 at *
  generalize rdN l = L2 at *
  go_enter Try.func10, Try.ntmps10
  go_upto_region 2 with (first | (go_at_call 15; refine CC.out.mono ?_; rintro e w1 ⟨v1, rfl, hown, ho⟩; have P1 := hidOf ho; obtain ⟨b1, c1, rfl, hc1, hr1⟩ := OwB.rest hown; have R1 := hidOf hr1; clear hown ho hr1) | (go_at_call 14; refine (CR.out w1 b1 c1 R1.out hc1).mono ?_; rintro e w2 ⟨v2, rfl, hown, ho⟩; have W2 := hidOf hown; have P2 := hidOf (Out.trans P1.out ho); clear hown ho))
  have S2 := hidOf (HS.out.out P2.out)
  have A2 := hidOf (HA.out.out HS.out P2.out)
  have R2 : Hid (RestAt w2.heap.size w2 a l) := by
    rcases HR.out with h | ⟨b, o, hb, h, hc⟩
    · exact .inl h
    · exact .inr ⟨b, o, by have := P2.out.size; omega, h, fun k x hx => cell_later P2.out (hc k x hx)⟩
  have O2 := hidOf (Out.trans HO.out P2.out)
  have CLd := hidOf (lend_any w2 p B a cap l S2.out (by have := P2.out.size; have := hB1.out; omega) R2.out A2.out hll)
  go_upto_region 3 with (first | (go_at_call 26; refine CLd.out.mono ?_; rintro e w3 ⟨g, m, R, rfl, hb3, hc3, hlp, hg3, hne⟩; have B3 := hidOf hb3; have W3 := hidOf (W2.out.lp hlp hc3); have O3 := hidOf (Chg.lender hc3 O2.out Hsz.out hp hg3); have R3 := hidOf (R2.out.keep hc3 hne); have Z3 := hidOf hc3.size; have N3 := hidOf hne; clear hb3 hc3 hlp hne) | (go_at_call 16; refine (CT.out w3 _ _ B3.out.rest (by omega)).mono ?_; rintro e w4 ⟨v4, rfl, hown, ho⟩; have W4 := hidOf hown; have P4 := hidOf ho; clear hown ho))
  have B4 := hidOf (B3.out.out P4.out)
  have W4' : Hid (OwR w1.heap.size v2 T w4) := hidOf (own_at W3.out P4.out)
  have R4 : Hid (RestAt w4.heap.size w4 a l) := by
    rcases R3.out with h | ⟨b, o, hb, h, hc⟩
    · exact .inl h
    · exact .inr ⟨b, o, by have := P4.out.size; have := Z3.out; omega, h, fun k x hx => cell_later P4.out (hc k x hx)⟩
  have O4 := hidOf (Out.trans O3.out P4.out)
  go_upto_region 4 with (go_at_call 27; refine (CB.out w4 g m R B4.out R4.out).mono ?_; rintro e w5 ⟨rfl, ⟨L5, hb5⟩, hc5⟩; have B5 := hidOf hb5; have X5 := hidOf (W4.out.lp B4.out.lp hc5); have Y5 := hidOf (W4'.out.lp B4.out.lp hc5); have O5 := hidOf (Chg.lender hc5 O4.out Hsz.out hp hg3); clear hb5 hc5)
  obtain ⟨b4, c4, rfl, _, ht4⟩ := OwR.at X5.out
  obtain ⟨b2, c2, rfl, _, ht2⟩ := OwR.at Y5.out
  have T4 := hidOf ht4
  have T2 := hidOf ht2
  have hm5 : 2 * l.length + 70 ≤ m := by have := B4.out.len_; simp [lmsB_len] at this; omega
  clear ht4 ht2
  go_wp2_with (first | (go_at_call 19; refine (CS.out w5 _ _ _ _ T4.out T2.out).mono ?_; rintro e w6 ⟨rfl, ho⟩; have O6 := hidOf (Out.trans O5.out ho); have B6 := hidOf (B5.out.out ho); clear ho) | (go_at_call 18; refine (num_any _ _).mono ?_; rintro e w7 ⟨rfl, hw⟩; have hw := hw.symm; subst hw))
  go_ret
  exact ⟨rfl, .inr ⟨g, m, _, _, B6.out, hg3, hm5⟩, O6.out⟩
end Go.Proofs.Ytoobdcjkhphlcaa
