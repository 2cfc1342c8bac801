import Derived.Test.YtdffhnboehjeoaaWj
namespace Go.Proofs.Ytdffhnboehjeoaa
set_option linter.unusedVariables false
/-! PLAIN: WordOrders -/
theorem top_eq (width : Int) : shlW width 1 (bW width - 1) = hW width := by
  unfold shlW shlM
  rcases m_cases width with e | e | e | e <;> rw [e.1, e.2.1, e.2.2] <;> decide +kernel
theorem xtop (A k : Nat) : (A ^^^ 2 ^ k) % 2 ^ (k + 1) = if A % 2 ^ (k + 1) < 2 ^ k then A % 2 ^ (k + 1) + 2 ^ k else A % 2 ^ (k + 1) - 2 ^ k := by
  have hk := Nat.two_pow_pos k
  have e2 : 2 ^ (k + 1) = 2 * 2 ^ k := by rw [Nat.pow_succ]; omega
  rw [Nat.xor_mod_two_pow, Nat.mod_eq_of_lt (show 2 ^ k < 2 ^ (k + 1) by omega)]
  have hn : A % 2 ^ (k + 1) < 2 ^ (k + 1) := Nat.mod_lt _ (by omega)
  generalize A % 2 ^ (k + 1) = n at *
  have en := Nat.mod_add_div n (2 ^ k)
  have hl : n % 2 ^ k < 2 ^ k := Nat.mod_lt _ hk
  have s := xor_split (n % 2 ^ k) (n / 2 ^ k) 0 1 k hl hk
  rw [en] at s
  simp only [Nat.zero_add, Nat.mul_one, Nat.xor_zero] at s
  rw [s]
  by_cases c : n < 2 ^ k
  · have q0 : n / 2 ^ k = 0 := Nat.div_eq_of_lt c
    rw [if_pos c, q0, Nat.mod_eq_of_lt c]; simp
  · have q1 : n / 2 ^ k = 1 := by
      have h1 : 1 ≤ n / 2 ^ k := (Nat.le_div_iff_mul_le hk).2 (by omega)
      have h2 : n / 2 ^ k < 2 := (Nat.div_lt_iff_lt_mul hk).2 (by omega)
      omega
    rw [q1] at en
    rw [if_neg c, q1]; simp; omega
theorem xor_top (width a : Int) (h0 : 0 ≤ a) (h1 : a < 18446744073709551616) :
    xorW a (hW width) % mW width = if a % mW width < hW width then a % mW width + hW width else a % mW width - hW width := by
  obtain ⟨A, rfl⟩ := Int.eq_ofNat_of_zero_le h0
  unfold xorW
  rcases m_cases width with e | e | e | e <;> rw [e.1, e.2.1]
  · have x := xtop A 7
    have y := u64_xor_nat A 128 (by omega) (by omega)
    simp only [Nat.reducePow, Nat.reduceAdd] at x
    rw [show ((128 : Nat) : Int) = 128 from rfl] at y
    rw [y]; split at x <;> split <;> omega
  · have x := xtop A 15
    have y := u64_xor_nat A 32768 (by omega) (by omega)
    simp only [Nat.reducePow, Nat.reduceAdd] at x
    rw [show ((32768 : Nat) : Int) = 32768 from rfl] at y
    rw [y]; split at x <;> split <;> omega
  · have x := xtop A 31
    have y := u64_xor_nat A 2147483648 (by omega) (by omega)
    simp only [Nat.reducePow, Nat.reduceAdd] at x
    rw [show ((2147483648 : Nat) : Int) = 2147483648 from rfl] at y
    rw [y]; split at x <;> split <;> omega
  · have x := xtop A 63
    have y := u64_xor_nat A 9223372036854775808 (by omega) (by omega)
    simp only [Nat.reducePow, Nat.reduceAdd] at x
    rw [show ((9223372036854775808 : Nat) : Int) = 9223372036854775808 from rfl] at y
    rw [y]; split at x <;> split <;> omega
theorem orders_s (width a b : Int) (h0 : 0 ≤ a) (h1 : a < 18446744073709551616) (h2 : 0 ≤ b) (h3 : b < 18446744073709551616) :
    slessW width a b = lessW width (xorW a (shlW width 1 (bW width - 1))) (xorW b (shlW width 1 (bW width - 1))) := by
  unfold slessW lessW slessM lessM
  rw [top_eq, xor_top width a h0 h1, xor_top width b h2 h3, decide_eq_decide]
  have := m_bd width
  have := nar_lt width a
  have := nar_lt width b
  generalize a % mW width = n at *
  generalize b % mW width = d at *
  repeat' split
  all_goals omega

/-! PLAIN: WordSwaps -/
def nest2 (a b : Int) : Int := a + 256 * b
def nest4 (a b c d : Int) : Int := a + 256 * (b + 256 * (c + 256 * d))
def nest8 (a b c d e f g h : Int) : Int := a + 256 * (b + 256 * (c + 256 * (d + 256 * (e + 256 * (f + 256 * (g + 256 * h))))))
def isB (a : Int) : Prop := 0 ≤ a ∧ a < 256
theorem sw1 (a : Int) (ha : isB a) : swB 1 0 a = a := by
  unfold isB at ha; simp only [swB]; omega
theorem sw2 (a b : Int) (ha : isB a) (hb : isB b) : swB 2 0 (nest2 a b) = nest2 b a := by
  unfold nest2
  unfold isB at *
  rw [swB_step 1 _ _ _ ha.1 ha.2]; simp only [swB]; omega
theorem sw4 (a b c d : Int) (ha : isB a) (hb : isB b) (hc : isB c) (hd : isB d) : swB 4 0 (nest4 a b c d) = nest4 d c b a := by
  unfold nest4
  unfold isB at *
  rw [swB_step 3 _ _ _ ha.1 ha.2, swB_step 2 _ _ _ hb.1 hb.2, swB_step 1 _ _ _ hc.1 hc.2]; simp only [swB]; omega
theorem sw8 (a b c d e f g h : Int) (ha : isB a) (hb : isB b) (hc : isB c) (hd : isB d) (he : isB e) (hf : isB f) (hg : isB g) (hh : isB h) :
    swB 8 0 (nest8 a b c d e f g h) = nest8 h g f e d c b a := by
  unfold nest8
  unfold isB at *
  rw [swB_step 7 _ _ _ ha.1 ha.2, swB_step 6 _ _ _ hb.1 hb.2, swB_step 5 _ _ _ hc.1 hc.2, swB_step 4 _ _ _ hd.1 hd.2, swB_step 3 _ _ _ he.1 he.2, swB_step 2 _ _ _ hf.1 hf.2, swB_step 1 _ _ _ hg.1 hg.2]
  simp only [swB]; omega
theorem split2 (n : Int) (h0 : 0 ≤ n) (h1 : n < 65536) : ∃ a b, isB a ∧ isB b ∧ n = nest2 a b :=
  ⟨n % 256, n / 256, by unfold isB; omega, by unfold isB; omega, by unfold nest2; omega⟩
theorem split4 (n : Int) (h0 : 0 ≤ n) (h1 : n < 4294967296) : ∃ a b c d, isB a ∧ isB b ∧ isB c ∧ isB d ∧ n = nest4 a b c d := by
  obtain ⟨a, b, ha, hb, e⟩ := split2 (n % 65536) (by omega) (by omega)
  obtain ⟨c, d, hc, hd, f⟩ := split2 (n / 65536) (by omega) (by omega)
  exact ⟨a, b, c, d, ha, hb, hc, hd, by unfold nest2 at *; unfold nest4; omega⟩
theorem split8 (n : Int) (h0 : 0 ≤ n) (h1 : n < 18446744073709551616) : ∃ a b c d e f g h, isB a ∧ isB b ∧ isB c ∧ isB d ∧ isB e ∧ isB f ∧ isB g ∧ isB h ∧ n = nest8 a b c d e f g h := by
  obtain ⟨a, b, c, d, ha, hb, hc, hd, e1⟩ := split4 (n % 4294967296) (by omega) (by omega)
  obtain ⟨e, f, g, h, he, hf, hg, hh, e2⟩ := split4 (n / 4294967296) (by omega) (by omega)
  exact ⟨a, b, c, d, e, f, g, h, ha, hb, hc, hd, he, hf, hg, hh, by unfold nest4 at *; unfold nest8; omega⟩
theorem swap_twice (width a : Int) : swapW width (swapW width a) = narW width a := by
  have hs := swapW_lt width a
  have hn := nar_lt width a
  have e0 : swapW width (swapW width a) = swB (bW width / 8).toNat 0 (swapW width a) := by
    show swB _ 0 (swapW width a % mW width) = _
    rw [Int.emod_eq_of_lt hs.1 hs.2]
  rw [e0]
  unfold swapW narW
  rcases m_cases width with e | e | e | e <;> rw [e.1] at hn ⊢ <;> rw [e.2.2]
  · show swB 1 0 (swB 1 0 _) = _
    have hb : isB (a % 256) := by unfold isB; omega
    rw [sw1 _ hb, sw1 _ hb]
  · show swB 2 0 (swB 2 0 _) = _
    obtain ⟨p, q, hp, hq, f⟩ := split2 (a % 65536) hn.1 hn.2
    rw [f, sw2 _ _ hp hq, sw2 _ _ hq hp]
  · show swB 4 0 (swB 4 0 _) = _
    obtain ⟨p, q, r, s, hp, hq, hr, hs', f⟩ := split4 (a % 4294967296) hn.1 hn.2
    rw [f, sw4 _ _ _ _ hp hq hr hs', sw4 _ _ _ _ hs' hr hq hp]
  · show swB 8 0 (swB 8 0 _) = _
    obtain ⟨p, q, r, s, t, u, v, x, hp, hq, hr, hs', ht, hu, hv, hx, f⟩ := split8 (a % 18446744073709551616) hn.1 hn.2
    rw [f, sw8 _ _ _ _ _ _ _ _ hp hq hr hs' ht hu hv hx, sw8 _ _ _ _ _ _ _ _ hx hv hu ht hs' hr hq hp]
theorem nar_self (width s : Int) (h0 : 0 ≤ s) (h1 : s < mW width) : narW width s = s := Int.emod_eq_of_lt h0 h1
theorem m64 : mW 64 = 18446744073709551616 ∧ hW 64 = 9223372036854775808 ∧ bW 64 = 64 := ⟨rfl, rfl, rfl⟩
theorem swap_low (width a : Int) : narW 8 a = shrW 64 (swapW width a) (bW width - 8) := by
  have hs := swapW_bd width a
  have hn := nar_lt width a
  unfold narW shrW shrM
  rw [W8.1, m64.1, m64.2.2, Int.emod_eq_of_lt hs.1 hs.2]
  unfold swapW
  rcases m_cases width with e | e | e | e <;> rw [e.1] at hn ⊢ <;> rw [e.2.2]
  · show _ = swB 1 0 _ / 2 ^ 0
    have hb : isB (a % 256) := by unfold isB; omega
    rw [sw1 _ hb]; simp
  · show _ = swB 2 0 _ / 2 ^ 8
    obtain ⟨p, q, hp, hq, f⟩ := split2 (a % 65536) hn.1 hn.2
    have g : a % 256 = p := by unfold nest2 isB at *; omega
    rw [f, sw2 _ _ hp hq, g]; unfold nest2 isB at *; simp only [Int.reducePow]
    exact ((lohi _ _ _ (by omega) (by omega)).2).symm
  · show _ = swB 4 0 _ / 2 ^ 24
    obtain ⟨p, q, r, s, hp, hq, hr, hs', f⟩ := split4 (a % 4294967296) hn.1 hn.2
    have g : a % 256 = p := by unfold nest4 isB at *; omega
    rw [f, sw4 _ _ _ _ hp hq hr hs', g]; unfold nest4 isB at *; simp only [Int.reducePow]
    clear f g hs hn e
    rw [show s + 256 * (r + 256 * (q + 256 * p)) = (s + 256 * (r + 256 * q)) + 16777216 * p by omega]
    exact ((lohi _ _ _ (by omega) (by omega)).2).symm
  · show _ = swB 8 0 _ / 2 ^ 56
    obtain ⟨p, q, r, s, t, u, v, x, hp, hq, hr, hs', ht, hu, hv, hx, f⟩ := split8 (a % 18446744073709551616) hn.1 hn.2
    have g : a % 256 = p := by
      have : a % 256 = (a % 18446744073709551616) % 256 := by omega
      rw [this, f]; unfold nest8 isB at *; exact (lohi _ _ _ (by omega) (by omega)).1
    rw [f, sw8 _ _ _ _ _ _ _ _ hp hq hr hs' ht hu hv hx, g]; unfold nest8 isB at *; simp only [Int.reducePow]
    clear f g hs hn e
    rw [show x + 256 * (v + 256 * (u + 256 * (t + 256 * (s + 256 * (r + 256 * (q + 256 * p)))))) = (x + 256 * (v + 256 * (u + 256 * (t + 256 * (s + 256 * (r + 256 * q)))))) + 72057594037927936 * p by omega]
    exact ((lohi _ _ _ (by omega) (by omega)).2).symm
theorem sgn_nar (width a : Int) : narW width (sgnW width a) = narW width a := by
  have hn := nar_lt width a
  unfold narW sgnW sgnM
  rcases m_cases width with e | e | e | e <;> rw [e.1] at hn ⊢ <;> rw [e.2.1] <;> split <;> omega
theorem sgn_sgn (width a : Int) : sgnW width (sgnW width a) = sgnW width a := by
  have h := sgn_nar width a
  unfold narW at h
  unfold sgnW at *
  rw [h]
theorem sgn_sar (width a : Int) : sarW 64 (sgnW width a) (bW width - 1) = negW (shrW 64 (narW width a) (bW width - 1)) := by
  have hn := nar_lt width a
  have hb := sgn_bd width a
  have hc := nar_bd width a
  unfold sarW sarM shrW shrM negW
  rw [m64.1, m64.2.1, m64.2.2, Int.emod_eq_of_lt hb.1 hb.2, Int.emod_eq_of_lt hc.1 hc.2, IntKind.wrap_u64]
  unfold sgnW sgnM narW
  rcases m_cases width with e | e | e | e <;> rw [e.1] at hn ⊢ <;> rw [e.2.1, e.2.2] <;> simp only [Int.reduceSub, Int.reduceMod, Int.reduceToNat, Int.reducePow] <;> (repeat' split) <;> omega
end Go.Proofs.Ytdffhnboehjeoaa
