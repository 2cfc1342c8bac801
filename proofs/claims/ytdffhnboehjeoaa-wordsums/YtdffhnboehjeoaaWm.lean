import Derived.Test.YtdffhnboehjeoaaWl
namespace Go.Proofs.Ytdffhnboehjeoaa
set_option linter.unusedVariables false
/-! PLAIN: WordShifts -/
theorem k_eq (width k : Int) (h0 : 0 ≤ k) (h1 : k < 18446744073709551616) : modW 64 k (bW width) = k % bW width := by
  unfold modW modM
  rw [m64.1]
  rcases m_cases width with e | e | e | e <;> rw [e.2.2] <;> simp only [Int.reduceMod] <;> omega
theorem k_bd (width k : Int) : 0 ≤ k % bW width ∧ k % bW width < bW width ∧ bW width ≤ 64 ∧ 8 ≤ bW width := by
  rcases m_cases width with e | e | e | e <;> rw [e.2.2] <;> omega
theorem pow_le {i j : Nat} (h : i ≤ j) : (2 : Int) ^ i ≤ 2 ^ j := by
  have := Nat.pow_le_pow_right (show 0 < 2 by omega) h
  have e1 : ((2 ^ i : Nat) : Int) = 2 ^ i := by simp
  have e2 : ((2 ^ j : Nat) : Int) = 2 ^ j := by simp
  omega
theorem pow_bd {i : Nat} (h : i ≤ 63) : (1 : Int) ≤ 2 ^ i ∧ (2 : Int) ^ i ≤ 9223372036854775808 := by
  have a := pow_pos2 i
  have b := pow_le h
  rw [show (2 : Int) ^ 63 = 9223372036854775808 from rfl] at b
  omega
theorem p_eq (width k : Int) (h0 : 0 ≤ k) (h1 : k < 18446744073709551616) : shlW 64 1 (modW 64 k (bW width)) = 2 ^ (k % bW width).toNat := by
  rw [k_eq width k h0 h1]
  have hk := k_bd width k
  have hp := pow_bd (i := (k % bW width).toNat) (by omega)
  unfold shlW shlM
  rw [m64.1, m64.2.2, show k % bW width % 64 = k % bW width by omega]
  generalize (2 : Int) ^ (k % bW width).toNat = P at *
  omega
theorem shift_up (width a k : Int) (h0 : 0 ≤ k) (h1 : k < 18446744073709551616) : shlW width a k = narW width (mulW a (shlW 64 1 (modW 64 k (bW width)))) := by
  rw [p_eq width k h0 h1]
  unfold narW mulW shlW shlM
  rw [IntKind.wrap_u64, Int.emod_emod_of_dvd _ (m_dvd width), Int.mul_emod a, Int.mul_emod (a % mW width), Int.emod_emod_of_dvd _ (Int.dvd_refl _)]
theorem shift_down (width a k : Int) (h0 : 0 ≤ k) (h1 : k < 18446744073709551616) : shrW width a k = divW 64 (narW width a) (shlW 64 1 (modW 64 k (bW width))) := by
  rw [p_eq width k h0 h1]
  have hk := k_bd width k
  have hp := pow_bd (i := (k % bW width).toNat) (by omega)
  have hn := nar_bd width a
  unfold divW divM shrW shrM
  rw [m64.1, Int.emod_eq_of_lt hn.1 hn.2, Int.emod_eq_of_lt (a := 2 ^ (k % bW width).toNat) (by omega) (by omega), if_neg (by omega)]
  rfl
theorem shift_none (width a : Int) : shlW width a (bW width) = narW width a ∧ sarW width a (bW width) = narW width a := by
  have hn := nar_lt width a
  unfold shlW shlM sarW sarM narW
  rw [Int.emod_self, show (2 : Int) ^ (0 : Int).toNat = 1 from rfl, Int.mul_one, Int.ediv_one, Int.ediv_one, Int.emod_eq_of_lt hn.1 hn.2]
  refine ⟨rfl, ?_⟩
  split <;> omega
theorem shift_rest (width a k : Int) (h0 : 0 ≤ k) (h1 : k < 18446744073709551616) :
    subW (sgnW width a) (mulW (sgnW width (sarW width a k)) (shlW 64 1 (modW 64 k (bW width)))) < shlW 64 1 (modW 64 k (bW width)) := by
  rw [p_eq width k h0 h1]
  have hk := k_bd width k
  have hp := pow_bd (i := (k % bW width).toNat) (by omega)
  have hn := nar_lt width a
  have hm := m_bd width
  have hs := sarW_lt width a k
  unfold sgnW sgnM
  rw [Int.emod_eq_of_lt hs.1 hs.2]
  unfold sarW sarM at *
  generalize (2 : Int) ^ (k % bW width).toNat = P at *
  generalize a % mW width = n at *
  generalize mW width = m at *
  generalize hW width = h at *
  unfold subW mulW
  rw [IntKind.wrap_u64, IntKind.wrap_u64]
  by_cases c : h ≤ n
  · rw [if_pos c, if_pos c] at *
    have q := div_bd (x := m - 1 - n) (y := P) (B := m - 1 - n) (by omega) (by omega) (by omega)
    rw [if_pos (by omega)]
    have er := Int.emod_add_mul_ediv (m - 1 - n) P
    have rb := rem_bd (x := m - 1 - n) (y := P) (by omega)
    generalize (m - 1 - n) / P = Q at *
    generalize (m - 1 - n) % P = R at *
    have e1 : 18446744073709551616 - m + n - (18446744073709551616 - m + (m - 1 - Q)) * P = (P - 1 - R) + 18446744073709551616 * (1 - P) := by grind
    have e2 : ∀ x y : Int, (x - y % 18446744073709551616) % 18446744073709551616 = (x - y) % 18446744073709551616 := by intro x y; omega
    rw [e2, e1, Int.add_mul_emod_self_left, Int.emod_eq_of_lt (by omega) (by omega)]
    omega
  · rw [if_neg c, if_neg c] at *
    have q := div_bd (x := n) (y := P) (B := n) (by omega) (by omega) (by omega)
    rw [if_neg (by omega)]
    have er := Int.emod_add_mul_ediv n P
    have rb := rem_bd (x := n) (y := P) (by omega)
    have e2 : ∀ x y : Int, (x - y % 18446744073709551616) % 18446744073709551616 = (x - y) % 18446744073709551616 := by intro x y; omega
    rw [e2, show n - n / P * P = n % P by rw [Int.mul_comm]; omega, Int.emod_eq_of_lt (by omega) (by omega)]
    omega

/-! PLAIN: WordDivides -/
theorem div_zero (width a b : Int) (h : narW width b = 0) : divW width a b = 0 ∧ modW width a b = narW width a ∧ sdivW width a b = 0 ∧ smodW width a b = narW width a := by
  unfold narW at h
  unfold divW divM modW modM sdivW sdivM smodW smodM narW
  simp [h]
theorem div_plain (width a b : Int) (h : narW width b ≠ 0) : modW width a b < narW width b ∧ divW width a b ≤ narW width a ∧ addW (mulW (divW width a b) (narW width b)) (modW width a b) = narW width a := by
  have hn := nar_lt width a
  have hd := nar_lt width b
  have hm := m_bd width
  unfold narW at h
  unfold divW divM modW modM addW mulW narW
  rw [if_neg h, if_neg h, IntKind.wrap_u64, IntKind.wrap_u64]
  generalize a % mW width = n at *
  generalize b % mW width = d at *
  have q := div_bd (x := n) (y := d) (B := n) (by omega) (by omega) (by omega)
  have er := Int.emod_add_mul_ediv n d
  have rb := rem_bd (x := n) (y := d) (by omega)
  rw [Int.mul_comm (n / d) d]
  have := Int.mul_nonneg (show 0 ≤ d by omega) q.1
  generalize d * (n / d) = T at *
  omega
/-- what n is, by its sign and its size -/
theorem mag_case (h m n : Int) (hm : m = 2 * h) (h0 : 0 ≤ n) (h1 : n < m) : (negM h n = true ∧ h ≤ n ∧ n = m - magM h m n) ∨ (negM h n = false ∧ n < h ∧ n = magM h m n) := by
  unfold negM magM
  by_cases c : h ≤ n
  · left; simp [c]; omega
  · right; simp [c]; omega
theorem nar_wrap (width x : Int) : narW width (IntKind.u64.wrap x) = x % mW width := by
  unfold narW; rw [IntKind.wrap_u64, Int.emod_emod_of_dvd _ (m_dvd width)]
theorem emod_of (m n x c : Int) (h0 : 0 ≤ n) (h1 : n < m) (e : x = n + m * c) : x % m = n := by
  rw [e, Int.add_mul_emod_self_left, Int.emod_eq_of_lt h0 h1]
theorem neg_emod (m q : Int) : (-q) % m = -q + m * (-((-q) / m)) := by
  have := Int.emod_add_mul_ediv (-q) m
  rw [Int.mul_neg]; omega
theorem div_signed (width a b : Int) (h : narW width b ≠ 0) : narW width (addW (mulW (sdivW width a b) (narW width b)) (smodW width a b)) = narW width a := by
  have hn := nar_lt width a
  have hd := nar_lt width b
  have hm := m_bd width
  unfold addW mulW
  rw [nar_wrap]
  have e2 : ∀ x y : Int, (x % 18446744073709551616 + y) % mW width = (x + y) % mW width := by
    intro x y; rw [Int.add_emod, Int.emod_emod_of_dvd _ (m_dvd width), ← Int.add_emod]
  rw [IntKind.wrap_u64, e2]
  unfold narW at *
  unfold sdivW sdivM smodW smodM
  rw [if_neg h, if_neg h]
  generalize a % mW width = n at *
  generalize b % mW width = d at *
  generalize mW width = m at *
  generalize hW width = g at *
  have hp := mag_pos (h := g) (m := m) (n := d) (by omega) (by omega) (by omega)
  have er := Int.emod_add_mul_ediv (magM g m n) (magM g m d)
  have x1 := mag_case g m n (by omega) (by omega) (by omega)
  have x2 := mag_case g m d (by omega) (by omega) (by omega)
  generalize magM g m n = N at *
  generalize magM g m d = D at *
  generalize N / D = Q at *
  generalize N % D = R at *
  rcases x1 with ⟨s1, c1, i1⟩ | ⟨s1, c1, i1⟩ <;> rcases x2 with ⟨s2, c2, i2⟩ | ⟨s2, c2, i2⟩ <;> rw [s1, s2]
  · rw [if_pos rfl, if_pos c1, neg_emod m R]
    generalize -((-R) / m) = u
    exact emod_of m n _ (Q + u - 1) (by omega) (by omega) (by grind)
  · rw [if_neg (by simp), if_pos c1, neg_emod m R, neg_emod m Q]
    generalize -((-R) / m) = u
    generalize -((-Q) / m) = v
    exact emod_of m n _ (v * d + u - 1) (by omega) (by omega) (by grind)
  · rw [if_neg (by simp), if_neg (by omega), neg_emod m Q]
    generalize -((-Q) / m) = v
    exact emod_of m n _ (v * d - Q) (by omega) (by omega) (by grind)
  · rw [if_pos rfl, if_neg (by omega)]
    exact emod_of m n _ 0 (by omega) (by omega) (by grind)
theorem sless0 (width t : Int) (h0 : 0 ≤ t) (h1 : t < mW width) : slessW width t 0 = negM (hW width) t := by
  have hm := m_bd width
  unfold slessW slessM negM
  rw [Int.emod_eq_of_lt h0 h1, Int.zero_emod, decide_eq_decide]
  repeat' split
  all_goals omega
theorem mag_far (width t : Int) (h0 : 0 ≤ t) (h1 : t < mW width) : (negM (hW width) t = true → narW width (negW t) = magM (hW width) (mW width) t) ∧ (negM (hW width) t = false → t = magM (hW width) (mW width) t) := by
  have hm := m_bd width
  unfold negW
  rw [nar_wrap]
  unfold negM magM
  constructor
  · intro c
    have c' : hW width ≤ t := of_decide_eq_true c
    rw [if_pos c']
    exact emod_of _ _ _ (-1) (by omega) (by omega) (by omega)
  · intro c
    have c' := of_decide_eq_false c
    rw [if_neg c']
/-- what is left: its size, and its sign -/
theorem left_mag (width a b : Int) (h : narW width b ≠ 0) :
    magM (hW width) (mW width) (smodW width a b) < magM (hW width) (mW width) (narW width b) ∧ (smodW width a b ≠ 0 → negM (hW width) (smodW width a b) = negM (hW width) (narW width a)) := by
  have hn := nar_lt width a
  have hd := nar_lt width b
  have hm := m_bd width
  unfold narW at *
  unfold smodW smodM
  rw [if_neg h]
  generalize a % mW width = n at *
  generalize b % mW width = d at *
  generalize mW width = m at *
  generalize hW width = g at *
  have hp := mag_pos (h := g) (m := m) (n := d) (by omega) (by omega) (by omega)
  have hb := mag_bd (h := g) (m := m) (n := d) (by omega) (by omega) (by omega)
  have rb := rem_bd (x := magM g m n) (y := magM g m d) hp
  generalize magM g m d = D at *
  generalize magM g m n % D = R at *
  by_cases c : g ≤ n
  · rw [if_pos c]
    by_cases z : R = 0
    · subst z
      simp [magM, negM]; omega
    · have e : (-R) % m = m - R := emod_of m _ _ (-1) (by omega) (by omega) (by omega)
      rw [e]
      unfold magM negM
      rw [if_pos (by omega)]
      refine ⟨by omega, fun _ => ?_⟩
      rw [decide_eq_decide]; omega
  · rw [if_neg c]
    unfold magM negM
    rw [if_neg (by omega)]
    refine ⟨by omega, fun _ => ?_⟩
    rw [decide_eq_decide]; omega
end Go.Proofs.Ytdffhnboehjeoaa
