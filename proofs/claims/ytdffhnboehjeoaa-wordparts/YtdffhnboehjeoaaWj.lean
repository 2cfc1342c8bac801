import Derived.Test.YtdffhnboehjeoaaWr
import Derived.Deep.Draws
import Derived.OpenShut
import Derived.Laws.Closers25b
namespace Go.Proofs.Ytdffhnboehjeoaa
open Go.RowKit
set_option linter.unusedVariables false
/-! PLAIN: bounds, and what holds of words -/
theorem grown_drewN {W w' : World} (h : Grown W w') (n : Nat) : Grown W (w'.drewN n) := h
theorem drewN_drewN (w : World) (n m : Nat) : (w.drewN n).drewN m = w.drewN (n + m) := by
  unfold World.drewN; simp [Nat.add_assoc]
theorem wrap_bd (n : Int) : 0 ≤ IntKind.u64.wrap n ∧ IntKind.u64.wrap n < 18446744073709551616 := by
  rw [IntKind.wrap_u64]; omega
theorem add_bd (a b : Int) : 0 ≤ addW a b ∧ addW a b < 18446744073709551616 := wrap_bd _
theorem sub_bd (a b : Int) : 0 ≤ subW a b ∧ subW a b < 18446744073709551616 := wrap_bd _
theorem mul_bd (a b : Int) : 0 ≤ mulW a b ∧ mulW a b < 18446744073709551616 := wrap_bd _
theorem negW_bd (a : Int) : 0 ≤ negW a ∧ negW a < 18446744073709551616 := wrap_bd _
theorem bits_bd (op : BinOp) (a b : Int) : 0 ≤ bits op .u64 a b ∧ bits op .u64 a b < 18446744073709551616 := by
  have h1 := bits_lo_u64 op a b
  have h2 := bits_hi_u64 op a b
  omega
theorem and_bd (a b : Int) : 0 ≤ andW a b ∧ andW a b < 18446744073709551616 := bits_bd _ _ _
theorem or_bd (a b : Int) : 0 ≤ orW a b ∧ orW a b < 18446744073709551616 := bits_bd _ _ _
theorem xor_bd (a b : Int) : 0 ≤ xorW a b ∧ xorW a b < 18446744073709551616 := bits_bd _ _ _
theorem m_cases (width : Int) : (mW width = 256 ∧ hW width = 128 ∧ bW width = 8) ∨ (mW width = 65536 ∧ hW width = 32768 ∧ bW width = 16) ∨ (mW width = 4294967296 ∧ hW width = 2147483648 ∧ bW width = 32) ∨ (mW width = 18446744073709551616 ∧ hW width = 9223372036854775808 ∧ bW width = 64) := by
  unfold mW hW bW
  repeat' split
  all_goals simp
theorem m_bd (width : Int) : 256 ≤ mW width ∧ mW width ≤ 18446744073709551616 ∧ mW width = 2 * hW width := by
  rcases m_cases width with h | h | h | h <;> omega
theorem nar_lt (width a : Int) : 0 ≤ a % mW width ∧ a % mW width < mW width := by
  have := m_bd width
  exact ⟨Int.emod_nonneg _ (by omega), Int.emod_lt_of_pos _ (by omega)⟩
theorem nar_bd (width a : Int) : 0 ≤ narW width a ∧ narW width a < 18446744073709551616 := by
  have := m_bd width
  have := nar_lt width a
  unfold narW; omega
theorem sgn_bd (width a : Int) : 0 ≤ sgnW width a ∧ sgnW width a < 18446744073709551616 := by
  have := m_bd width
  have := nar_lt width a
  unfold sgnW sgnM; split <;> omega
theorem divW_bd (width a b : Int) : 0 ≤ divW width a b ∧ divW width a b < 18446744073709551616 := by
  have := m_bd width
  have := nar_lt width a
  have := nar_lt width b
  unfold divW divM; split
  · omega
  · have := div_bd (x := a % mW width) (y := b % mW width) (B := a % mW width) (by omega) (by omega) (by omega)
    omega
theorem modW_bd (width a b : Int) : 0 ≤ modW width a b ∧ modW width a b < 18446744073709551616 := by
  have := m_bd width
  have := nar_lt width a
  have := nar_lt width b
  unfold modW modM; split
  · omega
  · have := rem_bd (x := a % mW width) (y := b % mW width) (by omega)
    omega
theorem sdivW_lt (width a b : Int) : 0 ≤ sdivW width a b ∧ sdivW width a b < mW width := by
  have := m_bd width
  have := nar_lt width a
  have := nar_lt width b
  unfold sdivW sdivM; split
  · omega
  · have h1 := mag_bd (h := hW width) (m := mW width) (n := a % mW width) (by omega) (by omega) (by omega)
    have h2 := mag_pos (h := hW width) (m := mW width) (n := b % mW width) (by omega) (by omega) (by omega)
    have := div_bd (x := magM (hW width) (mW width) (a % mW width)) (y := magM (hW width) (mW width) (b % mW width)) (B := hW width) (by omega) (by omega) (by omega)
    split
    · omega
    · exact ⟨Int.emod_nonneg _ (by omega), Int.emod_lt_of_pos _ (by omega)⟩
theorem smodW_lt (width a b : Int) : 0 ≤ smodW width a b ∧ smodW width a b < mW width := by
  have := m_bd width
  have := nar_lt width a
  have := nar_lt width b
  unfold smodW smodM; split
  · omega
  · have h1 := mag_bd (h := hW width) (m := mW width) (n := b % mW width) (by omega) (by omega) (by omega)
    have h2 := mag_pos (h := hW width) (m := mW width) (n := b % mW width) (by omega) (by omega) (by omega)
    have := rem_bd (x := magM (hW width) (mW width) (a % mW width)) (y := magM (hW width) (mW width) (b % mW width)) (by omega)
    split
    · exact ⟨Int.emod_nonneg _ (by omega), Int.emod_lt_of_pos _ (by omega)⟩
    · omega
theorem sdivW_bd (width a b : Int) : 0 ≤ sdivW width a b ∧ sdivW width a b < 18446744073709551616 := by
  have := m_bd width
  have := sdivW_lt width a b
  omega
theorem smodW_bd (width a b : Int) : 0 ≤ smodW width a b ∧ smodW width a b < 18446744073709551616 := by
  have := m_bd width
  have := smodW_lt width a b
  omega
theorem shlW_lt (width a k : Int) : 0 ≤ shlW width a k ∧ shlW width a k < mW width := by
  have := m_bd width
  unfold shlW shlM
  exact ⟨Int.emod_nonneg _ (by omega), Int.emod_lt_of_pos _ (by omega)⟩
theorem shlW_bd (width a k : Int) : 0 ≤ shlW width a k ∧ shlW width a k < 18446744073709551616 := by
  have := m_bd width
  have := shlW_lt width a k
  omega
theorem shrW_lt (width a k : Int) : 0 ≤ shrW width a k ∧ shrW width a k < mW width := by
  have := nar_lt width a
  have := div_bd (x := a % mW width) (y := 2 ^ (k % bW width).toNat) (B := a % mW width) (by omega) (by omega) (pow_pos2 _)
  unfold shrW shrM
  omega
theorem shrW_bd (width a k : Int) : 0 ≤ shrW width a k ∧ shrW width a k < 18446744073709551616 := by
  have := m_bd width
  have := shrW_lt width a k
  omega
theorem sarW_lt (width a k : Int) : 0 ≤ sarW width a k ∧ sarW width a k < mW width := by
  have := m_bd width
  have := nar_lt width a
  have := div_bd (x := a % mW width) (y := 2 ^ (k % bW width).toNat) (B := a % mW width) (by omega) (by omega) (pow_pos2 _)
  have := div_bd (x := mW width - 1 - a % mW width) (y := 2 ^ (k % bW width).toNat) (B := mW width - 1 - a % mW width) (by omega) (by omega) (pow_pos2 _)
  unfold sarW sarM
  split <;> omega
theorem sarW_bd (width a k : Int) : 0 ≤ sarW width a k ∧ sarW width a k < 18446744073709551616 := by
  have := m_bd width
  have := sarW_lt width a k
  omega
theorem swB_bd (n : Nat) (out x : Int) (h : 0 ≤ out) : 0 ≤ swB n out x ∧ swB n out x < (out + 1) * 256 ^ n := by
  induction n generalizing out x with
  | zero => simp [swB]; omega
  | succ n ih =>
    rw [swB]
    have h2 : 0 ≤ x % 256 ∧ x % 256 < 256 := by omega
    obtain ⟨i1, i2⟩ := ih (out * 256 + x % 256) (x / 256) (by omega)
    refine ⟨i1, Int.lt_of_lt_of_le i2 ?_⟩
    have : (out * 256 + x % 256 + 1) * 256 ^ n ≤ ((out + 1) * 256) * 256 ^ n := Int.mul_le_mul_of_nonneg_right (by omega) (Int.pow_nonneg (by omega))
    rw [Int.pow_succ, Int.mul_comm (256 ^ n) 256, ← Int.mul_assoc]
    exact this
theorem swapW_lt (width a : Int) : 0 ≤ swapW width a ∧ swapW width a < mW width := by
  unfold swapW
  have h := swB_bd (bW width / 8).toNat 0 (a % mW width) (by omega)
  rcases m_cases width with e | e | e | e <;> (rw [e.2.2] at h ⊢; rw [e.1] at h ⊢; simpa using h)
theorem swapW_bd (width a : Int) : 0 ≤ swapW width a ∧ swapW width a < 18446744073709551616 := by
  have := m_bd width
  have := swapW_lt width a
  omega
theorem xor_split (p q r s k : Nat) (hp : p < 2 ^ k) (hr : r < 2 ^ k) : (p + 2 ^ k * q) ^^^ (r + 2 ^ k * s) = (p ^^^ r) + 2 ^ k * (q ^^^ s) := by
  have hk := Nat.two_pow_pos k
  have e1 : (p + 2 ^ k * q) % 2 ^ k = p := by rw [Nat.add_mul_mod_self_left, Nat.mod_eq_of_lt hp]
  have e2 : (r + 2 ^ k * s) % 2 ^ k = r := by rw [Nat.add_mul_mod_self_left, Nat.mod_eq_of_lt hr]
  have e3 : (p + 2 ^ k * q) / 2 ^ k = q := by rw [Nat.add_mul_div_left _ _ hk, Nat.div_eq_of_lt hp, Nat.zero_add]
  have e4 : (r + 2 ^ k * s) / 2 ^ k = s := by rw [Nat.add_mul_div_left _ _ hk, Nat.div_eq_of_lt hr, Nat.zero_add]
  have h := Nat.mod_add_div ((p + 2 ^ k * q) ^^^ (r + 2 ^ k * s)) (2 ^ k)
  rw [Nat.xor_mod_two_pow, Nat.xor_div_two_pow, e1, e2, e3, e4] at h
  exact h.symm
theorem bits_sum (n : Nat) : ∀ x y : Nat, x ≤ n → (x &&& y) + (x ||| y) = x + y ∧ (x ^^^ y) + (x &&& y) = (x ||| y) := by
  induction n with
  | zero => intro x y h; obtain rfl : x = 0 := by omega
            simp
  | succ n ih =>
    intro x y h
    have ex : x = x % 2 + 2 ^ 1 * (x / 2) := by omega
    have ey : y = y % 2 + 2 ^ 1 * (y / 2) := by omega
    by_cases h0 : x = 0
    · subst h0; simp
    · obtain ⟨i1, i2⟩ := ih (x / 2) (y / 2) (by omega)
      have hx : x % 2 < 2 ^ 1 := by omega
      have hy : y % 2 < 2 ^ 1 := by omega
      rw [ex, ey, and_split _ _ _ _ 1 hx hy, or_split _ _ _ _ 1 hx hy, xor_split _ _ _ _ 1 hx hy]
      generalize x / 2 &&& y / 2 = A at *
      generalize x / 2 ||| y / 2 = B at *
      generalize x / 2 ^^^ y / 2 = C at *
      rcases Nat.mod_two_eq_zero_or_one x with a | a <;> rcases Nat.mod_two_eq_zero_or_one y with b | b <;> rw [a, b] <;> simp <;> omega
theorem and_or_sum (a b : Int) (h0 : 0 ≤ a) (h1 : a < 18446744073709551616) (h2 : 0 ≤ b) (h3 : b < 18446744073709551616) : andW a b + orW a b = a + b ∧ xorW a b + andW a b = orW a b := by
  obtain ⟨x, rfl⟩ := Int.eq_ofNat_of_zero_le h0
  obtain ⟨y, rfl⟩ := Int.eq_ofNat_of_zero_le h2
  unfold andW orW xorW
  rw [u64_and_nat _ _ (by omega) (by omega), u64_or_nat _ _ (by omega) (by omega), u64_xor_nat _ _ (by omega) (by omega)]
  have := bits_sum x x y (Nat.le_refl _)
  omega

/-- WordJoins -/
theorem joins_sum (width a b : Int) : narW width (addW a b) = narW width (addW (narW width a) (narW width b)) := by
  unfold narW addW
  rw [IntKind.wrap_u64, IntKind.wrap_u64]
  rcases m_cases width with e | e | e | e <;> rw [e.1] <;> omega
theorem m_dvd (width : Int) : mW width ∣ 18446744073709551616 := by
  rcases m_cases width with e | e | e | e <;> rw [e.1]
  · exact ⟨72057594037927936, by omega⟩
  · exact ⟨281474976710656, by omega⟩
  · exact ⟨4294967296, by omega⟩
  · exact ⟨1, by omega⟩
theorem joins_product (width a b : Int) : narW width (mulW a b) = narW width (mulW (narW width a) (narW width b)) := by
  unfold narW mulW
  rw [IntKind.wrap_u64, IntKind.wrap_u64, Int.emod_emod_of_dvd _ (m_dvd width), Int.emod_emod_of_dvd _ (m_dvd width), Int.mul_emod a b]
theorem joins_bits (a b : Int) (h0 : 0 ≤ a) (h1 : a < 18446744073709551616) (h2 : 0 ≤ b) (h3 : b < 18446744073709551616) :
    addW (andW a b) (orW a b) = addW a b ∧ subW (orW a b) (andW a b) = xorW a b ∧ subW (addW a b) b = a ∧ addW a (negW a) = 0 := by
  have h := and_or_sum a b h0 h1 h2 h3
  have b1 := xor_bd a b
  unfold addW subW negW
  simp only [IntKind.wrap_u64]
  omega
end Go.Proofs.Ytdffhnboehjeoaa
