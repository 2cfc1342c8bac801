import Derived.Test.YtdffhnboehjeoaaWq
namespace Go.Proofs.Ytdffhnboehjeoaa
set_option linter.unusedVariables false
/-! PLAIN: the product, the bits and the bytes, as they grow -/
def axj (a : Int) (j : Nat) : Int := IntKind.u64.wrap (a * pw j)
def bxj (b : Int) (j : Nat) : Int := b / pw j
def sxj (a b : Int) (j : Nat) : Int := mulW a (b % pw j)
theorem axj_zero {a : Int} (h0 : 0 ≤ a) (h1 : a < 18446744073709551616) : axj a 0 = a := by
  unfold axj; rw [pw_zero, Int.mul_one, IntKind.wrap_u64]; omega
theorem bxj_zero (b : Int) : bxj b 0 = b := by unfold bxj; rw [pw_zero, Int.ediv_one]
theorem sxj_zero (a b : Int) : sxj a b 0 = 0 := by unfold sxj mulW; rw [pw_zero, Int.emod_one, Int.mul_zero]; rfl
theorem axj_succ (a : Int) (j : Nat) : IntKind.u64.wrap (axj a j + axj a j) = axj a (j + 1) := dbl_step a j
theorem bxj_succ (b : Int) (j : Nat) : bxj b j / 2 = bxj b (j + 1) := half_step b j
theorem bxj_nonneg {b : Int} (j : Nat) (h : 0 ≤ b) : 0 ≤ bxj b j := Int.ediv_nonneg h (Int.le_of_lt (pw_pos j))
theorem sxj_one {a b : Int} {j : Nat} (h : 0 ≤ b) (c : bxj b j % 2 = 1) : IntKind.u64.wrap (sxj a b j + axj a j) = sxj a b (j + 1) := by
  have := mul_step a b j h
  unfold sxj axj
  unfold bxj at c
  rw [this, if_pos c]
theorem sxj_none {a b : Int} {j : Nat} (h : 0 ≤ b) (c : bxj b j % 2 ≠ 1) : sxj a b j = sxj a b (j + 1) := by
  have := mul_step a b j h
  unfold sxj
  unfold bxj at c
  rw [this, if_neg c]
theorem sxj_end {a b : Int} (h0 : 0 ≤ b) (h1 : b < 18446744073709551616) : sxj a b 64 = mulW a b := by
  unfold sxj
  rw [show pw 64 = 18446744073709551616 from rfl, Int.emod_eq_of_lt h0 h1]
def oand (a b : Int) (j : Nat) : Int := ((hi a j).toNat &&& (hi b j).toNat : Nat)
def oor (a b : Int) (j : Nat) : Int := ((hi a j).toNat ||| (hi b j).toNat : Nat)
def oxor (a b : Int) (j : Nat) : Int := ((hi a j).toNat ^^^ (hi b j).toNat : Nat)
theorem hi_nat {a : Int} (j : Nat) (hj : j ≤ 63) (h0 : 0 ≤ a) (h1 : a < 18446744073709551616) : (hi a (j + 1)).toNat = 2 * (hi a j).toNat + (bitJ a j).toNat := by
  have := hi_bd j h0 h1
  have := bitJ_bd a j
  rw [hi_succ a j hj]; omega
theorem oand_zero {a b : Int} (h0 : 0 ≤ a) (h1 : a < 18446744073709551616) (h2 : 0 ≤ b) (h3 : b < 18446744073709551616) : oand a b 0 = 0 := by
  unfold oand; rw [hi_zero h0 h1, hi_zero h2 h3]; rfl
theorem oand_succ {a b : Int} (j : Nat) (hj : j ≤ 63) (h0 : 0 ≤ a) (h1 : a < 18446744073709551616) (h2 : 0 ≤ b) (h3 : b < 18446744073709551616) :
    IntKind.u64.wrap (IntKind.u64.wrap (oand a b j + oand a b j) + (a / pw (63 - j) % 2 + b / pw (63 - j) % 2) / 2) = oand a b (j + 1) := by
  have ha := bitJ_bd a j
  have hb := bitJ_bd b j
  have ka := hi_bd (j + 1) h0 h1
  have kb := hi_bd (j + 1) h2 h3
  have lt : (hi a (j + 1)).toNat &&& (hi b (j + 1)).toNat < 2 ^ 64 := Nat.and_lt_two_pow _ (show (hi b (j + 1)).toNat < 2 ^ 64 by omega)
  have e := op_and (hi a j).toNat (hi b j).toNat (bitJ a j).toNat (bitJ b j).toNat (by omega) (by omega)
  rw [← hi_nat j hj h0 h1, ← hi_nat j hj h2 h3] at e
  rw [e] at lt
  unfold oand
  rw [e]
  have za : a / pw (63 - j) % 2 = bitJ a j := rfl
  have zb : b / pw (63 - j) % 2 = bitJ b j := rfl
  rw [za, zb]
  simp only [IntKind.wrap_u64]
  generalize (hi a j).toNat &&& (hi b j).toNat = O at *
  omega
theorem oand_end {a b : Int} (h0 : 0 ≤ a) (h1 : a < 18446744073709551616) (h2 : 0 ≤ b) (h3 : b < 18446744073709551616) : oand a b 64 = andW a b := by
  unfold oand andW
  rw [hi_all, hi_all, u64_and a b h0 h1 h2 h3]
theorem oor_zero {a b : Int} (h0 : 0 ≤ a) (h1 : a < 18446744073709551616) (h2 : 0 ≤ b) (h3 : b < 18446744073709551616) : oor a b 0 = 0 := by
  unfold oor; rw [hi_zero h0 h1, hi_zero h2 h3]; rfl
theorem oor_succ {a b : Int} (j : Nat) (hj : j ≤ 63) (h0 : 0 ≤ a) (h1 : a < 18446744073709551616) (h2 : 0 ≤ b) (h3 : b < 18446744073709551616) :
    IntKind.u64.wrap (IntKind.u64.wrap (oor a b j + oor a b j) + (a / pw (63 - j) % 2 + b / pw (63 - j) % 2 + 1) / 2) = oor a b (j + 1) := by
  have ha := bitJ_bd a j
  have hb := bitJ_bd b j
  have ka := hi_bd (j + 1) h0 h1
  have kb := hi_bd (j + 1) h2 h3
  have lt : (hi a (j + 1)).toNat ||| (hi b (j + 1)).toNat < 2 ^ 64 := Nat.or_lt_two_pow (show (hi a (j + 1)).toNat < 2 ^ 64 by omega) (show (hi b (j + 1)).toNat < 2 ^ 64 by omega)
  have e := op_or (hi a j).toNat (hi b j).toNat (bitJ a j).toNat (bitJ b j).toNat (by omega) (by omega)
  rw [← hi_nat j hj h0 h1, ← hi_nat j hj h2 h3] at e
  rw [e] at lt
  unfold oor
  rw [e]
  have za : a / pw (63 - j) % 2 = bitJ a j := rfl
  have zb : b / pw (63 - j) % 2 = bitJ b j := rfl
  rw [za, zb]
  simp only [IntKind.wrap_u64]
  generalize (hi a j).toNat ||| (hi b j).toNat = O at *
  omega
theorem oor_end {a b : Int} (h0 : 0 ≤ a) (h1 : a < 18446744073709551616) (h2 : 0 ≤ b) (h3 : b < 18446744073709551616) : oor a b 64 = orW a b := by
  unfold oor orW
  rw [hi_all, hi_all, u64_or a b h0 h1 h2 h3]
theorem oxor_zero {a b : Int} (h0 : 0 ≤ a) (h1 : a < 18446744073709551616) (h2 : 0 ≤ b) (h3 : b < 18446744073709551616) : oxor a b 0 = 0 := by
  unfold oxor; rw [hi_zero h0 h1, hi_zero h2 h3]; rfl
theorem oxor_succ {a b : Int} (j : Nat) (hj : j ≤ 63) (h0 : 0 ≤ a) (h1 : a < 18446744073709551616) (h2 : 0 ≤ b) (h3 : b < 18446744073709551616) :
    IntKind.u64.wrap (IntKind.u64.wrap (oxor a b j + oxor a b j) + (a / pw (63 - j) % 2 + b / pw (63 - j) % 2) % 2) = oxor a b (j + 1) := by
  have ha := bitJ_bd a j
  have hb := bitJ_bd b j
  have ka := hi_bd (j + 1) h0 h1
  have kb := hi_bd (j + 1) h2 h3
  have lt : (hi a (j + 1)).toNat ^^^ (hi b (j + 1)).toNat < 2 ^ 64 := Nat.xor_lt_two_pow (show (hi a (j + 1)).toNat < 2 ^ 64 by omega) (show (hi b (j + 1)).toNat < 2 ^ 64 by omega)
  have e := op_xor (hi a j).toNat (hi b j).toNat (bitJ a j).toNat (bitJ b j).toNat (by omega) (by omega)
  rw [← hi_nat j hj h0 h1, ← hi_nat j hj h2 h3] at e
  rw [e] at lt
  unfold oxor
  rw [e]
  have za : a / pw (63 - j) % 2 = bitJ a j := rfl
  have zb : b / pw (63 - j) % 2 = bitJ b j := rfl
  rw [za, zb]
  simp only [IntKind.wrap_u64]
  generalize (hi a j).toNat ^^^ (hi b j).toNat = O at *
  omega
theorem oxor_end {a b : Int} (h0 : 0 ≤ a) (h1 : a < 18446744073709551616) (h2 : 0 ≤ b) (h3 : b < 18446744073709551616) : oxor a b 64 = xorW a b := by
  unfold oxor xorW
  rw [hi_all, hi_all, u64_xor a b h0 h1 h2 h3]
def ox (n : Int) : Nat → Int × Int
  | 0 => (0, n)
  | j + 1 => ((ox n j).1 * 256 + (ox n j).2 % 256, (ox n j).2 / 256)
def oO (n : Int) (j : Nat) : Int := (ox n j).1
def oX (n : Int) (j : Nat) : Int := (ox n j).2
theorem oO_zero (n : Int) : oO n 0 = 0 := rfl
theorem oX_zero (n : Int) : oX n 0 = n := rfl
theorem oO_succ (n : Int) (j : Nat) : oO n j * 256 + oX n j % 256 = oO n (j + 1) := rfl
theorem oX_succ (n : Int) (j : Nat) : oX n j / 256 = oX n (j + 1) := rfl
theorem o_bd (n : Int) (h : 0 ≤ n) (j : Nat) : 0 ≤ oO n j ∧ oO n j < 256 ^ j ∧ 0 ≤ oX n j := by
  induction j with
  | zero => rw [oO_zero, oX_zero]; simp; omega
  | succ j ih =>
    rw [← oO_succ, ← oX_succ, Int.pow_succ]
    omega
theorem o_swB (n : Int) (k j : Nat) : swB k (oO n j) (oX n j) = swB 0 (oO n (j + k)) (oX n (j + k)) := by
  induction k generalizing j with
  | zero => rfl
  | succ k ih =>
    show swB k (oO n j * 256 + oX n j % 256) (oX n j / 256) = _
    rw [oO_succ, oX_succ, ih (j + 1), show j + 1 + k = j + (k + 1) by omega]
theorem o_end (width a : Int) : oO (narW width a) (bW width / 8).toNat = swapW width a := by
  have h := o_swB (narW width a) (bW width / 8).toNat 0
  rw [Nat.zero_add] at h
  exact h.symm
theorem o_room (n : Int) (h : 0 ≤ n) (j : Nat) (hj : j ≤ 7) : oO n j * 256 < 18446744073709551616 ∧ oO n j * 256 + oX n j % 256 < 18446744073709551616 := by
  have a := o_bd n h (j + 1)
  have b := o_bd n h j
  have c : (256 : Int) ^ (j + 1) ≤ 256 ^ 8 := by
    have := Nat.pow_le_pow_right (show 0 < 256 by omega) (show j + 1 ≤ 8 by omega)
    have e1 : ((256 ^ (j + 1) : Nat) : Int) = 256 ^ (j + 1) := by simp
    have e2 : ((256 ^ 8 : Nat) : Int) = 256 ^ 8 := by simp
    omega
  rw [show (256 : Int) ^ 8 = 18446744073709551616 from rfl] at c
  rw [← oO_succ] at a
  omega
theorem n_bytes (width : Int) : ∃ N : Nat, N ≤ 8 ∧ (bW width / 8).toNat = N ∧ bW width ≤ 8 * (N : Int) ∧ 8 * (N : Int) ≤ bW width := by
  rcases m_cases width with e | e | e | e <;> rw [e.2.2]
  · exact ⟨1, by omega, rfl, by omega, by omega⟩
  · exact ⟨2, by omega, rfl, by omega, by omega⟩
  · exact ⟨4, by omega, rfl, by omega, by omega⟩
  · exact ⟨8, by omega, rfl, by omega, by omega⟩
theorem bxj_lt {b : Int} (j : Nat) (h : 0 ≤ b) (h1 : b < 18446744073709551616) : bxj b j < 18446744073709551616 := by
  have := div_bd (x := b) (y := pw j) (B := b) h (by omega) (pw_pos j)
  unfold bxj; omega
theorem oX_lt (n : Int) (h : 0 ≤ n) (h1 : n < 18446744073709551616) (j : Nat) : oX n j < 18446744073709551616 := by
  induction j with
  | zero => exact h1
  | succ j ih => rw [← oX_succ]; omega
theorem oxor_succ' {a b : Int} (j : Nat) (hj : j ≤ 63) (h0 : 0 ≤ a) (h1 : a < 18446744073709551616) (h2 : 0 ≤ b) (h3 : b < 18446744073709551616) :
    IntKind.u64.wrap (IntKind.u64.wrap (oxor a b j + oxor a b j) + (a / pw (63 - j) + b / pw (63 - j)) % 2) = oxor a b (j + 1) := by
  rw [← oxor_succ j hj h0 h1 h2 h3, show (a / pw (63 - j) + b / pw (63 - j)) % 2 = (a / pw (63 - j) % 2 + b / pw (63 - j) % 2) % 2 by omega]
end Go.Proofs.Ytdffhnboehjeoaa
