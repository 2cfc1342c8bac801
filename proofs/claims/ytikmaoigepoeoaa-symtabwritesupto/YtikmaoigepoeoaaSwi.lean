import Derived.Test.YtikmaoigepoeoaaSwg
import Derived.Test.YtikmaoigepoeoaaSwh
import Derived.Test.YtikmaoigepoeoaaSvn
namespace Go.Proofs.Ytikmaoigepoeoaa
open Go.RowKit
set_option linter.unusedVariables false
set_option linter.unusedSimpArgs false
theorem bV_bytes (O : List UInt8) : bV (O.map (fun b => (b.toNat : Int))) = Lib.byteCells O := by simp [bV, Lib.byteCells]
/-- amid SymtabWrites: the desk at d, the book at pb -/
structure Wsy (W wr : World) (d pb B : Nat) (cb c1 : Int) : Prop where
  bk : ∃ fa ha ma ka wa F n hs M K V, Bk B wr pb cb c1 fa ha ma ka wa F n hs M K V ∧ F.length = n
  ds : DSt wr d B
  dB : B ≤ d
  bW : W.heap.size ≤ B
  out : Out W wr
theorem Wsy.more {W w w' : World} {d pb B : Nat} {cb c1 : Int} (h : Wsy W w d pb B cb c1) (o : Out w w') : Wsy W w' d pb B cb c1 := by
  obtain ⟨fa, ha, ma, ka, wa, F, n, hs, M, K, V, hb, hF⟩ := h.bk
  exact ⟨⟨fa, ha, ma, ka, wa, F, n, hs, M, K, V, hb.out o, hF⟩, h.ds.out o, h.dB, h.bW, h.out.trans o⟩
theorem Wsy.holds {W w : World} {d pb B : Nat} {cb c1 : Int} (h : Wsy W w d pb B cb c1) (hc : cb ≤ 20000000000) : Calls Try.prog 11 #[.pointer (some ⟨pb, 0, none⟩)] w fun e w' => e = .returned (.bool true) ∧ Out w w' := by
  obtain ⟨fa, ha, ma, ka, wa, F, m, hs, M, K, V, hb, hF⟩ := h.bk
  refine (hb.holds hc).mono ?_
  rintro e w' ⟨rfl, k, rfl⟩
  exact ⟨rfl, (Out.refl w).drewN k⟩
/-- the desk's blocks are none of the books' -/
theorem lpy_bkt {w : World} {d g B B1 n1 : Nat} {ma : Value} {x1 : List Value} (h : LPY w d g) (hm : w.ownsRow B1 3 1 ma n1 x1) : ∀ k, SL d g k → ¬ Bkt B w ma k := fun k hk ⟨_, cur, t, hc, ht⟩ => by
  have key : ∀ (t' : TypeId) (cs : Array Value), w.heap[k]? = some (.cells cs t' (0, 0)) → ¬ (t' = 32 ∨ t' = 37 ∨ t' = 5) → ¬ 3 = t' → False := fun t' cs h1 h2 h3 => by
    rw [h1] at hc
    simp at hc
    obtain ⟨_, h4⟩ := hc
    subst h4
    rcases ht with e | e | e | e
    · exact h2 (.inl e)
    · exact h2 (.inr (.inl e))
    · exact h2 (.inr (.inr e))
    · exact own_kind hm h1 h3 e
  rcases hk with e | e
  · obtain ⟨cs, h1⟩ := h.1
    rw [← e] at h1
    exact key _ cs h1 (by decide) (by decide)
  · rcases h.2 with h1 | ⟨cs, h1⟩
    · have := (Array.getElem?_eq_some_iff.1 hc).1; omega
    · rw [← e] at h1
      exact key _ cs h1 (by decide) (by decide)
/-- symbols in a block of symbols, apart from the desk -/
theorem db_bkt {w w' : World} {d g m B B1 n1 : Nat} {L : List Sy} {ma : Value} {x1 : List Value} (h : Db w d g m L) (hm : w.ownsRow B1 3 1 ma n1 x1) (c : Chg (Bkt B w ma) w w') : Db w' d g m L := by
  have hl : LPY w d g := ⟨⟨_, h.hp⟩, .inr ⟨_, h.hg⟩⟩
  exact ⟨(c.block d h.ltp (fun hk => lpy_bkt hl hm d (.inl rfl) hk)).trans h.hp, h.hg.same (c.block g h.hg.lt (fun hk => lpy_bkt hl hm g (.inr rfl) hk)), h.len_⟩
theorem wrB_lenY (l : List Sy) (hk : ∀ s ∈ l, SyOk s) : (wrB l).length ≤ 24 * l.length + 24 := by
  unfold wrB
  cases hT : wrP l with
  | mk o er =>
    cases o with
    | none => simp
    | some b =>
      obtain ⟨_, h1, _⟩ := back_S hT hk
      show b.length ≤ _
      omega
theorem symsT {w : World} {g : Nat} {l R : List Sy} (h : RowY w g (tgY l ++ R)) : SyAt w.heap.size w (some ⟨g, 0, none⟩) l := by
  unfold tgY at h
  rw [List.append_assoc] at h
  exact h.syms
set_option maxRecDepth 20000 in
set_option maxHeartbeats 2000000 in
theorem writes_any (W w : World) (d pb B : Nat) (cb c1 : Int) (h : Wsy W w d pb B cb c1) (a : Option Addr) (cap : Nat) (l : List Sy) (hr : SyAt w.heap.size w a l) (hcap : l.length ≤ cap) (hll : l.length ≤ 2000000) (hk : ∀ s ∈ l, SyOk s) (ha : ApY w d a l)
    (hbk : ¬ l = [] → ∀ ad, a = some ad → ad.block < B ∨ ∃ cs, w.heap[ad.block]? = some (.cells cs 57 (0, 0))) (hcb : cb ≤ 10000000000) (hc1 : c1 ≤ 800000000000000) :
    Calls Try.prog 9 #[.slice a l.length cap, .pointer (some ⟨d, 0, none⟩), .pointer (some ⟨pb, 0, none⟩)] w fun e w' => e = .returned (.bool true) ∧ ∃ c1', Wsy W w' d pb B (cb + 1) c1' ∧ c1' ≤ c1 + 24 * l.length + 24 := by
  have hBw : B ≤ w.heap.size := by obtain ⟨fa, ha, ma, ka, wa, F, n, hs, M, K, V, hb, hF⟩ := h.bk; exact hb.arr.bw
  have CL := hidOf (lendY_any w d B a cap l h.ds hBw hr ha hcap (by omega))
  have CR : Hid (∀ wx, SyAt wx.heap.size wx a l → Calls Try.prog 20 #[.slice a l.length cap] wx fun e w' => ∃ v, e = .returned (.tuple #[v, .int .i64 (wrN l)]) ∧ OwB wx.heap.size v (wrB l) w' ∧ Out wx w') := fun wx h1 => (refWrite_any wx a cap l h1 hcap (by omega) hk).mono fun e w' h => h.flat
  have CU : Hid (∀ wx b cp, SyAt wx.heap.size wx b l → l.length ≤ cp → Calls Try.prog 15 #[.slice b l.length cp] wx fun e w' => ∃ v, e = .returned (.tuple #[v, .int .i64 (wrN l)]) ∧ OwB wx.heap.size v (wrB l) w' ∧ Out wx w') := fun wx b cp h1 h2 => (write_any wx b cp l h1 h2 (by omega) hk).mono fun e w' h => h.flat
  have CB : Hid (∀ wx g m R, Db wx d g m (tgY l ++ R) → SyAt wx.heap.size wx a l → m ≤ 1000000000000 → Calls Try.prog 21 #[.pointer (some ⟨d, 0, none⟩), .slice a l.length cap] wx fun e w' => e = .returned (.bool true) ∧ Out wx w') := fun wx g m R h1 h2 h3 => backY_any wx d g m l R h1 a cap h2 hcap h3
  have HUl := hidOf (wrB_lenY l hk)
  have HH := hidOf h
  have HR := hidOf hr
  have HBk := hidOf hbk
  have HA := hidOf ha
  clear h hr ha hbk hk
  generalize wrN l = E at *
  generalize wrB l = U at *
  go_enter Try.func9, Try.ntmps9
  go_upto_region 2 with (go_at_call 19; refine CL.out.mono ?_; rintro e w1 ⟨g, m, R, rfl, hb1, hc1', hlp, hg1, hm1, hne⟩; have B1 := hidOf hb1; have C1 := hidOf hc1'; have LP1 := hidOf hlp; have NE1 := hidOf hne; clear hb1 hc1' hlp hne)
  have R1 : Hid (SyAt w1.heap.size w1 a l) := hidOf (HR.out.keep C1.out C1.out.size NE1.out)
  go_upto_region 4 with (first | (go_at_call 20; refine (CR.out w1 R1.out).mono ?_; rintro e w2 ⟨v2, rfl, hown, ho⟩; have W2 := hidOf hown; have P2 := hidOf ho; clear hown ho) | (go_at_call 15; refine (CU.out w2 _ _ (symsT (B1.out.out P2.out).hg) (by omega)).mono ?_; rintro e w3 ⟨v3, rfl, hown, ho⟩; have W3 := hidOf hown; have P3 := hidOf ho; clear hown ho))
  have B3 := hidOf ((B1.out.out P2.out).out P3.out)
  have R3 := hidOf ((R1.out.out P2.out).out P3.out)
  have W2' := hidOf (W2.out.out P3.out)
  have P13 : Hid (Out w1 w3) := hidOf (P2.out.trans P3.out)
  obtain ⟨b3, d3, rfl, hcp3, ht3⟩ := OwB.rest W3.out
  obtain ⟨b2, d2, rfl, _, ht2⟩ := OwB.rest W2'.out
  have k3 := conv_rest ht3 d3
  have k2 := conv_rest ht2 d2
  clear ht3 ht2
  go_upto_region 6 with (first | (go_at_call 16; refine (num_any _ _).mono ?_; rintro e w8 ⟨rfl, hw⟩; subst hw) | (go_at_call 21; refine (CB.out w3 g m R B3.out R3.out hm1).mono ?_; rintro e w4 ⟨rfl, ho⟩; have P4 := hidOf ho; clear ho))
  clear k2 k3
  have B4 := hidOf (B3.out.out P4.out)
  have R4 := hidOf (R3.out.out P4.out)
  have KEY : Hid (Calls Try.prog 22 #[.pointer (some ⟨pb, 0, none⟩), .slice b3 U.length d3, .int .i64 l.length] w4 fun e w' => (∃ q, e = .returned q) ∧ Wsy W w' d pb B (cb + 1) (c1 + U.length) ∧ Db w' d g m (tgY l ++ R) ∧ SyAt w'.heap.size w' a l) := by
    obtain ⟨fa, ha, ma, ka, wa, F, n, hs, M, K, V, hb, hF⟩ := HH.out.bk
    have b1 := hb.away C1.out (lpy_bkt LP1.out hb.arr.ma_)
    have o14 : Out w1 w4 := P13.out.trans P4.out
    have hb2 := b1.take o14 (v := .slice b3 U.length d3) (l := U.map (fun b => (b.toNat : Int))) (by rw [bV_bytes, List.length_map]; exact owns_lower (W3.out.out P4.out) P2.out.size) (by rw [List.length_map]; have := HUl.out; omega)
    refine (books_own w4 B pb cb c1 fa ha ma ka wa (F ++ [(.slice b3 U.length d3, U.map (fun b => (b.toNat : Int)))]) n hs M K V (by omega) hb2 b3 U.length d3 _ (by rw [List.getElem?_append_right (by omega), hF, Nat.sub_self]; rfl) (by simp) l.length (by omega) (by omega) (by omega)).mono ?_
    rintro e w' ⟨he, fa', ha', ma', ka', wa', hs', M', K', V', F', n', hb', hF', hc, hma⟩
    have hF2 : F'.length = n' := by
      rcases hF' with ⟨rfl, rfl⟩ | ⟨rfl, rfl⟩
      · simp; omega
      · simp; omega
    have hdb := db_bkt B4.out hb2.arr.ma_ hc
    have o1 : Out W w1 := Chg.out C1.out HH.out.out (fun k hk => by
      have := HH.out.dB
      have := HH.out.bW
      rcases hk with e | e <;> omega)
    -- a block of symbols, or below B, is none of the books'
    have far : ∀ k, k < w4.heap.size → (k < B ∨ ∃ cs, w4.heap[k]? = some (.cells cs 57 (0, 0))) → w'.heap[k]? = w4.heap[k]? := fun k hk hor => hc.block k hk (fun ⟨hB, cur, t, hcc, ht⟩ => by
      rcases hor with hor | ⟨cs, hor⟩
      · omega
      · rw [hor] at hcc
        simp at hcc
        obtain ⟨_, h4⟩ := hcc
        subst h4
        rcases ht with e | e | e | e
        · revert e; decide
        · revert e; decide
        · revert e; decide
        · exact own_kind hb2.arr.ma_ hor (by decide) e)
    have far1 : ∀ k, k < w.heap.size → (k < B ∨ ∃ cs, w.heap[k]? = some (.cells cs 57 (0, 0))) → ¬ SL d g k → w'.heap[k]? = w.heap[k]? := fun k hk hor hsl => by
      have e1 : w4.heap[k]? = w.heap[k]? := (o14.block k (Nat.lt_of_lt_of_le hk C1.out.size)).trans (C1.out.block k hk hsl)
      rw [← e1]
      exact far k (Nat.lt_of_lt_of_le hk (Nat.le_trans C1.out.size o14.size)) (by
        rcases hor with h1 | ⟨cs, h1⟩
        · exact .inl h1
        · exact .inr ⟨cs, by rw [e1]; exact h1⟩)
    refine ⟨he, ⟨⟨fa', ha', ma', ka', wa', F', n', hs', M', K', V', hb', hF2⟩, .inr ⟨g, m, _, hdb, hg1, hm1⟩, HH.out.dB, HH.out.bW, Chg.out hc (o1.trans o14) (fun k hk => Nat.le_trans HH.out.bW hk.1)⟩, hdb, ?_⟩
    by_cases hl : l = []
    · exact .inl hl
    · rcases HR.out with h1 | ⟨b, o, hb, h1, hcell⟩
      · exact .inl h1
      · have hblk : w'.heap[b]? = w.heap[b]? := far1 b hb (HBk.out hl ⟨b, o, none⟩ h1) (NE1.out hl ⟨b, o, none⟩ h1)
        have hlt : b < w'.heap.size := by have := C1.out.size; have := o14.size; have := hc.size; omega
        exact .inr ⟨b, o, hlt, h1, fun k x hx => by rw [World.cell?_of_block hblk]; exact hcell k x hx⟩
  go_upto_region 7 with (go_at_call 22; refine KEY.out.mono ?_; rintro e w5 ⟨⟨r5, rfl⟩, hws, hdb, hsy⟩; have WS5 := hidOf hws; have D5 := hidOf hdb; have S5 := hidOf hsy; clear hws hdb hsy)
  have CH := hidOf (WS5.out.holds (by omega))
  go_wp2_with (first | (go_at_call 11; refine CH.out.mono ?_; rintro e w6 ⟨rfl, ho⟩; have O6 := hidOf ho; clear ho) | (go_at_call 21; refine (CB.out w6 g m R (D5.out.out O6.out) (S5.out.out O6.out) hm1).mono ?_; rintro e w7 ⟨rfl, ho⟩; have O7 := hidOf ho; clear ho))
  go_ret
  exact ⟨rfl, _, (WS5.out.more O6.out).more O7.out, by have := HUl.out; omega⟩
end Go.Proofs.Ytikmaoigepoeoaa
