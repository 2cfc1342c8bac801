import Derived.Test.YtdffhnboehjeoaaWm
namespace Go.Proofs.Ytdffhnboehjeoaa
set_option linter.unusedVariables false
/-! PLAIN: the steps of the document's own answers -/
def pw (j : Nat) : Int := 2 ^ j
theorem pw_zero : pw 0 = 1 := rfl
theorem pw_succ (j : Nat) : pw (j + 1) = pw j + pw j := by unfold pw; rw [Int.pow_succ]; omega
theorem pw_bd {j : Nat} (h : j ≤ 63) : 1 ≤ pw j ∧ pw j ≤ 9223372036854775808 := pow_bd h
theorem pw_pos (j : Nat) : 0 < pw j := pow_pos2 j
theorem pw_b {width : Int} (c : bW width < 64) : pw (bW width).toNat = mW width := by
  rcases m_cases width with e | e | e | e <;> rw [e.2.2] at c ⊢ <;> rw [e.1]
  · rfl
  · rfl
  · rfl
  · omega
theorem pw_b1 (width : Int) : pw (bW width - 1).toNat = hW width := by
  rcases m_cases width with e | e | e | e <;> rw [e.2.2, e.2.1] <;> rfl
theorem bW_64 {width : Int} (c : ¬ bW width < 64) : mW width = 18446744073709551616 ∧ hW width = 9223372036854775808 ∧ bW width = 64 := by
  rcases m_cases width with e | e | e | e <;> omega
theorem b_b (width : Int) : mW (bW width) = mW width ∧ hW (bW width) = hW width ∧ bW (bW width) = bW width := by
  rcases wide_cases width with rfl | rfl | rfl | ⟨a, b, c⟩
  · exact ⟨rfl, rfl, rfl⟩
  · exact ⟨rfl, rfl, rfl⟩
  · exact ⟨rfl, rfl, rfl⟩
  · have e := W64 a b c
    rw [e.2.2, e.1, e.2.1]
    exact ⟨rfl, rfl, rfl⟩
theorem nar_b (width a : Int) : narW (bW width) a = narW width a := by unfold narW; rw [(b_b width).1]
theorem narrow_ref {width a : Int} (h0 : 0 ≤ a) (c : bW width < 64) : IntKind.u64.wrap (a - IntKind.u64.wrap (a / pw (bW width).toNat * pw (bW width).toNat)) = narW width a := by
  rw [pw_b c]
  unfold narW
  rw [IntKind.wrap_u64, IntKind.wrap_u64]
  have hm := m_bd width
  have hn := nar_lt width a
  have e := Int.emod_add_mul_ediv a (mW width)
  rw [Int.mul_comm] at e
  generalize a / mW width * mW width = T at *
  omega
theorem sgn_ref {width a : Int} (c : bW width < 64) (d : negM (hW width) (narW width a) = true) : IntKind.u64.wrap (narW width a - mW width) = sgnW width a := by
  have hm := m_bd width
  have hn := nar_lt width a
  have d' : hW width ≤ a % mW width := of_decide_eq_true d
  unfold sgnW sgnM narW
  rw [if_pos d', IntKind.wrap_u64]
  rcases m_cases width with e | e | e | e <;> rw [e.1] at * <;> omega
theorem sgn_ref' {width a : Int} (d : negM (hW width) (narW width a) = false) : narW width a = sgnW width a := by
  have d' : ¬ hW width ≤ a % mW width := of_decide_eq_false d
  unfold sgnW sgnM narW
  rw [if_neg d']
theorem sgn_ref64 {width a : Int} (c : ¬ bW width < 64) : narW width a = sgnW width a := by
  have e := bW_64 c
  unfold sgnW sgnM narW
  rw [e.1, e.2.1]
  split <;> omega
theorem less_ref (width a b : Int) : decide (narW width a < narW width b) = lessW width a b := rfl
theorem sless_ref (width a b : Int) : slessW width a b = (if negM (hW width) (narW width a) = negM (hW width) (narW width b) then lessW width a b else negM (hW width) (narW width a)) := by
  have hm := m_bd width
  have hn := nar_lt width a
  have hd := nar_lt width b
  unfold slessW slessM lessW lessM negM narW
  generalize a % mW width = n at *
  generalize b % mW width = d at *
  by_cases c1 : hW width ≤ n <;> by_cases c2 : hW width ≤ d <;> simp [c1, c2] <;> omega
/-- one step of the long division -/
theorem div_step (A b bit : Int) (hA : 0 ≤ A) (hb : 0 < b) (h0 : 0 ≤ bit) (h1 : bit ≤ 1) :
    (b ≤ 2 * (A % b) + bit → (2 * A + bit) / b = 2 * (A / b) + 1 ∧ (2 * A + bit) % b = 2 * (A % b) + bit - b) ∧
    (2 * (A % b) + bit < b → (2 * A + bit) / b = 2 * (A / b) ∧ (2 * A + bit) % b = 2 * (A % b) + bit) := by
  have e := Int.emod_add_mul_ediv A b
  have r := rem_bd (x := A) (y := b) hb
  generalize A / b = q at *
  generalize A % b = s at *
  constructor
  · intro h
    have x := lohi (2 * s + bit - b) (2 * q + 1) b (by omega) (by omega)
    rw [show 2 * s + bit - b + b * (2 * q + 1) = 2 * A + bit by grind] at x
    exact ⟨x.2, x.1⟩
  · intro h
    have x := lohi (2 * s + bit) (2 * q) b (by omega) (by omega)
    rw [show 2 * s + bit + b * (2 * q) = 2 * A + bit by grind] at x
    exact ⟨x.2, x.1⟩
/-- the first j bits of a word, from above -/
def hi (a : Int) (j : Nat) : Int := a / 2 ^ (64 - j)
theorem hi_zero {a : Int} (h0 : 0 ≤ a) (h1 : a < 18446744073709551616) : hi a 0 = 0 := Int.ediv_eq_zero_of_lt h0 h1
theorem hi_all (a : Int) : hi a 64 = a := by unfold hi; simp
def bitJ (a : Int) (j : Nat) : Int := a / pw (63 - j) % 2
theorem bitJ_bd (a : Int) (j : Nat) : 0 ≤ bitJ a j ∧ bitJ a j ≤ 1 := by unfold bitJ; omega
theorem hi_succ (a : Int) (j : Nat) (h : j ≤ 63) : hi a (j + 1) = 2 * hi a j + bitJ a j := by
  unfold hi bitJ pw
  have e : 64 - j = (63 - j) + 1 := by omega
  rw [show 64 - (j + 1) = 63 - j by omega, e, Int.pow_succ, ← Int.ediv_ediv_of_nonneg (Int.le_of_lt (pow_pos2 _))]
  generalize a / 2 ^ (63 - j) = x
  omega
theorem hi_bd {a : Int} (j : Nat) (h0 : 0 ≤ a) (h1 : a < 18446744073709551616) : 0 ≤ hi a j ∧ hi a j < 18446744073709551616 := by
  have := div_bd (x := a) (y := 2 ^ (64 - j)) (B := a) h0 (by omega) (pow_pos2 _)
  unfold hi; omega
/-- the product, bit by bit -/
theorem mul_step (a b : Int) (j : Nat) (hb : 0 ≤ b) : mulW a (b % pw (j + 1)) = (if b / pw j % 2 = 1 then IntKind.u64.wrap (mulW a (b % pw j) + IntKind.u64.wrap (a * pw j)) else mulW a (b % pw j)) := by
  have hp := pw_pos j
  have e0 : b % pw (j + 1) = b % pw j + pw j * (b / pw j % 2) := by
    have x := Int.emod_add_mul_ediv b (pw j)
    have y := Int.emod_add_mul_ediv (b / pw j) 2
    have r := rem_bd (x := b) (y := pw j) hp
    have z : b = (b % pw j + pw j * (b / pw j % 2)) + pw (j + 1) * (b / pw j / 2) := by rw [pw_succ]; grind
    have hbit : b / pw j % 2 = 0 ∨ b / pw j % 2 = 1 := by omega
    have hlt : 0 ≤ b % pw j + pw j * (b / pw j % 2) ∧ b % pw j + pw j * (b / pw j % 2) < pw (j + 1) := by
      rw [pw_succ]
      rcases hbit with t | t <;> rw [t] <;> omega
    have := (lohi _ (b / pw j / 2) _ hlt.1 hlt.2).1
    rw [← z] at this
    exact this
  have hbit : b / pw j % 2 = 0 ∨ b / pw j % 2 = 1 := by omega
  unfold mulW
  rw [e0]
  rcases hbit with t | t <;> rw [t]
  · simp
  · rw [if_pos rfl, Int.mul_one, Int.mul_add]
    simp only [IntKind.wrap_u64]
    omega
theorem dbl_step (a : Int) (j : Nat) : IntKind.u64.wrap (IntKind.u64.wrap (a * pw j) + IntKind.u64.wrap (a * pw j)) = IntKind.u64.wrap (a * pw (j + 1)) := by
  rw [pw_succ, Int.mul_add]
  simp only [IntKind.wrap_u64]
  omega
theorem half_step (b : Int) (j : Nat) : b / pw j / 2 = b / pw (j + 1) := by
  have hp := pw_pos j
  rw [Int.ediv_ediv_of_nonneg (Int.le_of_lt hp), pw_succ, show pw j * 2 = pw j + pw j by omega]
/-- shifts, step by step -/
theorem shl_step (m n : Int) (j : Nat) (hm : m ∣ 18446744073709551616) : IntKind.u64.wrap (n * pw j % m + n * pw j % m) % m = n * pw (j + 1) % m := by
  rw [IntKind.wrap_u64, Int.emod_emod_of_dvd _ hm, ← Int.add_emod, pw_succ, Int.mul_add]
theorem sar_step (h m n : Int) (j : Nat) (hm : m = 2 * h) (h0 : 0 ≤ n) (h1 : n < m) :
    (h ≤ n → h ≤ m - 1 - (m - 1 - n) / pw j ∧ (m - 1 - (m - 1 - n) / pw j) / 2 + h = m - 1 - (m - 1 - n) / pw (j + 1)) ∧ (n < h → n / pw j < h ∧ n / pw j / 2 = n / pw (j + 1)) := by
  have hp := pw_pos j
  constructor
  · intro c
    have q := div_bd (x := m - 1 - n) (y := pw j) (B := m - 1 - n) (by omega) (by omega) hp
    rw [← half_step]
    generalize (m - 1 - n) / pw j = Q at *
    omega
  · intro c
    have q := div_bd (x := n) (y := pw j) (B := n) (by omega) (by omega) hp
    rw [← half_step]
    omega
/-- bit by bit, from above -/
theorem op_and (A B x y : Nat) (hx : x ≤ 1) (hy : y ≤ 1) : (2 * A + x) &&& (2 * B + y) = 2 * (A &&& B) + (x + y) / 2 := by
  have h := and_split x A y B 1 (by omega) (by omega)
  rw [show 2 * A + x = x + 2 ^ 1 * A by omega, show 2 * B + y = y + 2 ^ 1 * B by omega, h]
  rcases (show x = 0 ∨ x = 1 by omega) with r | r <;> rcases (show y = 0 ∨ y = 1 by omega) with s | s <;> subst r <;> subst s <;> simp <;> omega
theorem op_or (A B x y : Nat) (hx : x ≤ 1) (hy : y ≤ 1) : (2 * A + x) ||| (2 * B + y) = 2 * (A ||| B) + (x + y + 1) / 2 := by
  have h := or_split x A y B 1 (by omega) (by omega)
  rw [show 2 * A + x = x + 2 ^ 1 * A by omega, show 2 * B + y = y + 2 ^ 1 * B by omega, h]
  rcases (show x = 0 ∨ x = 1 by omega) with r | r <;> rcases (show y = 0 ∨ y = 1 by omega) with s | s <;> subst r <;> subst s <;> simp <;> omega
theorem op_xor (A B x y : Nat) (hx : x ≤ 1) (hy : y ≤ 1) : (2 * A + x) ^^^ (2 * B + y) = 2 * (A ^^^ B) + (x + y) % 2 := by
  have h := xor_split x A y B 1 (by omega) (by omega)
  rw [show 2 * A + x = x + 2 ^ 1 * A by omega, show 2 * B + y = y + 2 ^ 1 * B by omega, h]
  rcases (show x = 0 ∨ x = 1 by omega) with r | r <;> rcases (show y = 0 ∨ y = 1 by omega) with s | s <;> subst r <;> subst s <;> simp <;> omega
theorem pw_b1' (width : Int) : pw ((bW width).toNat - 1) = hW width := by
  have := k_bd width 0
  rw [← pw_b1, show (bW width).toNat - 1 = (bW width - 1).toNat by omega]
/-- one round of the long division, as words -/
theorem divide_high (a b : Int) (j : Nat) (h0 : 0 ≤ a) (h1 : a < 18446744073709551616) (h2 : 0 < b) (h3 : b < 18446744073709551616) (hj : j ≤ 63) (h : pw 63 ≤ hi a j % b) :
    IntKind.u64.wrap (IntKind.u64.wrap (IntKind.u64.wrap (hi a j % b + hi a j % b) + bitJ a j) - b) = hi a (j + 1) % b ∧ IntKind.u64.wrap (IntKind.u64.wrap (hi a j / b + hi a j / b) + 1) = hi a (j + 1) / b := by
  have e63 : pw 63 = 9223372036854775808 := rfl
  rw [e63] at h
  have hb := bitJ_bd a j
  have hh := hi_bd j h0 h1
  have hh' := hi_bd (j + 1) h0 h1
  have r := rem_bd (x := hi a j) (y := b) h2
  have q := div_bd (x := hi a j) (y := b) (B := hi a j) hh.1 (by omega) h2
  have q' := div_bd (x := hi a (j + 1)) (y := b) (B := hi a (j + 1)) hh'.1 (by omega) h2
  have s := (div_step (hi a j) b (bitJ a j) hh.1 h2 hb.1 hb.2).1 (by omega)
  rw [← hi_succ a j hj] at s
  simp only [IntKind.wrap_u64]
  omega
theorem divide_over (a b : Int) (j : Nat) (h0 : 0 ≤ a) (h1 : a < 18446744073709551616) (h2 : 0 < b) (h3 : b < 18446744073709551616) (hj : j ≤ 63) (h : hi a j % b < pw 63) (g : b ≤ IntKind.u64.wrap (IntKind.u64.wrap (hi a j % b + hi a j % b) + bitJ a j)) :
    IntKind.u64.wrap (IntKind.u64.wrap (IntKind.u64.wrap (hi a j % b + hi a j % b) + bitJ a j) - b) = hi a (j + 1) % b ∧ IntKind.u64.wrap (IntKind.u64.wrap (hi a j / b + hi a j / b) + 1) = hi a (j + 1) / b := by
  have e63 : pw 63 = 9223372036854775808 := rfl
  rw [e63] at h
  have hb := bitJ_bd a j
  have hh := hi_bd j h0 h1
  have hh' := hi_bd (j + 1) h0 h1
  have r := rem_bd (x := hi a j) (y := b) h2
  have q := div_bd (x := hi a j) (y := b) (B := hi a j) hh.1 (by omega) h2
  have q' := div_bd (x := hi a (j + 1)) (y := b) (B := hi a (j + 1)) hh'.1 (by omega) h2
  simp only [IntKind.wrap_u64] at g
  have s := (div_step (hi a j) b (bitJ a j) hh.1 h2 hb.1 hb.2).1 (by omega)
  rw [← hi_succ a j hj] at s
  simp only [IntKind.wrap_u64]
  omega
theorem divide_under (a b : Int) (j : Nat) (h0 : 0 ≤ a) (h1 : a < 18446744073709551616) (h2 : 0 < b) (h3 : b < 18446744073709551616) (hj : j ≤ 63) (h : hi a j % b < pw 63) (g : IntKind.u64.wrap (IntKind.u64.wrap (hi a j % b + hi a j % b) + bitJ a j) < b) :
    IntKind.u64.wrap (IntKind.u64.wrap (hi a j % b + hi a j % b) + bitJ a j) = hi a (j + 1) % b ∧ IntKind.u64.wrap (hi a j / b + hi a j / b) = hi a (j + 1) / b := by
  have e63 : pw 63 = 9223372036854775808 := rfl
  rw [e63] at h
  have hb := bitJ_bd a j
  have hh := hi_bd j h0 h1
  have hh' := hi_bd (j + 1) h0 h1
  have r := rem_bd (x := hi a j) (y := b) h2
  have q := div_bd (x := hi a j) (y := b) (B := hi a j) hh.1 (by omega) h2
  have q' := div_bd (x := hi a (j + 1)) (y := b) (B := hi a (j + 1)) hh'.1 (by omega) h2
  simp only [IntKind.wrap_u64] at g
  have s := (div_step (hi a j) b (bitJ a j) hh.1 h2 hb.1 hb.2).2 (by omega)
  rw [← hi_succ a j hj] at s
  simp only [IntKind.wrap_u64]
  omega
/-- sizes -/
theorem size_ref {width x : Int} (h0 : 0 ≤ x) (h1 : x < mW width) (d : negM (hW width) x = true) : narW width (IntKind.u64.wrap (-x)) = magM (hW width) (mW width) x := (mag_far width x h0 h1).1 d
theorem size_ref' {width x : Int} (h0 : 0 ≤ x) (h1 : x < mW width) (d : negM (hW width) x = false) : x = magM (hW width) (mW width) x := (mag_far width x h0 h1).2 d
theorem div_ref0 {width b : Int} (a : Int) (h : narW width b = 0) : divW width a b = 0 ∧ modW width a b = narW width a := ⟨(div_zero width a b h).1, (div_zero width a b h).2.1⟩
theorem div_ref {width b : Int} (a : Int) (h : narW width b ≠ 0) : divW width a b = narW width a / narW width b ∧ modW width a b = narW width a % narW width b := by
  unfold narW at *
  unfold divW divM modW modM
  rw [if_neg h, if_neg h]
  exact ⟨rfl, rfl⟩
def magW (width a : Int) : Int := magM (hW width) (mW width) (narW width a)
def negB (width a : Int) : Bool := negM (hW width) (narW width a)
theorem magW_bd (width a : Int) : 0 ≤ magW width a ∧ magW width a < 18446744073709551616 ∧ magW width a ≤ hW width := by
  have hm := m_bd width
  have hn := nar_lt width a
  have := mag_bd (h := hW width) (m := mW width) (n := narW width a) (by omega) hn.1 hn.2
  unfold magW; omega
theorem magW_pos {width a : Int} (h : narW width a ≠ 0) : 0 < magW width a := by
  have hm := m_bd width
  have hn := nar_lt width a
  have : 0 ≤ narW width a ∧ narW width a < mW width := hn
  exact mag_pos (by omega) (by omega) (by omega)
theorem sdiv_ref {width b : Int} (a : Int) (h : narW width b ≠ 0) (s : negB width a = negB width b) : narW width (magW width a / magW width b) = sdivW width a b := by
  have hm := m_bd width
  have ha := magW_bd width a
  have hp := magW_pos h
  have q := div_bd (x := magW width a) (y := magW width b) (B := magW width a) (by omega) (by omega) hp
  rw [nar_self width _ q.1 (by omega)]
  have e : sdivW width a b = sdivM (hW width) (mW width) (narW width a) (narW width b) := rfl
  rw [e]
  unfold sdivM
  unfold negB at s
  rw [if_neg h, if_pos s]
  rfl
theorem sdiv_ref' {width b : Int} (a : Int) (h : narW width b ≠ 0) (s : negB width a ≠ negB width b) : narW width (IntKind.u64.wrap (-(magW width a / magW width b))) = sdivW width a b := by
  rw [nar_wrap]
  have e : sdivW width a b = sdivM (hW width) (mW width) (narW width a) (narW width b) := rfl
  rw [e]
  unfold sdivM
  unfold negB at s
  rw [if_neg h, if_neg s]
  rfl
theorem smod_ref {width b : Int} (a : Int) (h : narW width b ≠ 0) (s : negB width a = true) : narW width (IntKind.u64.wrap (-(magW width a % magW width b))) = smodW width a b := by
  rw [nar_wrap]
  have e : smodW width a b = smodM (hW width) (mW width) (narW width a) (narW width b) := rfl
  have s' : hW width ≤ narW width a := of_decide_eq_true s
  rw [e]
  unfold smodM
  rw [if_neg h, if_pos s']
  rfl
theorem smod_ref' {width b : Int} (a : Int) (h : narW width b ≠ 0) (s : negB width a = false) : narW width (magW width a % magW width b) = smodW width a b := by
  have hm := m_bd width
  have hb := magW_bd width b
  have hp := magW_pos h
  have r := rem_bd (x := magW width a) (y := magW width b) hp
  rw [nar_self width _ r.1 (by omega)]
  have e : smodW width a b = smodM (hW width) (mW width) (narW width a) (narW width b) := rfl
  have s' : ¬ hW width ≤ narW width a := of_decide_eq_false s
  rw [e]
  unfold smodM
  rw [if_neg h, if_neg s']
  rfl
/-- shifts as they grow -/
def shlx (width a : Int) (j : Nat) : Int := narW width a * pw j % mW width
def shrx (width a : Int) (j : Nat) : Int := narW width a / pw j
def sarx (width a : Int) (j : Nat) : Int := if hW width ≤ narW width a then mW width - 1 - (mW width - 1 - narW width a) / pw j else narW width a / pw j
theorem shlx_bd (width a : Int) (j : Nat) : 0 ≤ shlx width a j ∧ shlx width a j < 18446744073709551616 := by
  have := m_bd width
  have := nar_lt width (narW width a * pw j)
  unfold shlx; omega
theorem shrx_bd (width a : Int) (j : Nat) : 0 ≤ shrx width a j ∧ shrx width a j < 18446744073709551616 := by
  have hn := nar_bd width a
  have := div_bd (x := narW width a) (y := pw j) (B := narW width a) (by omega) (by omega) (pw_pos j)
  unfold shrx; omega
theorem sarx_bd (width a : Int) (j : Nat) : 0 ≤ sarx width a j ∧ sarx width a j < mW width := by
  have hm := m_bd width
  have hn : 0 ≤ narW width a ∧ narW width a < mW width := nar_lt width a
  have := div_bd (x := narW width a) (y := pw j) (B := narW width a) (by omega) (by omega) (pw_pos j)
  have := div_bd (x := mW width - 1 - narW width a) (y := pw j) (B := mW width - 1 - narW width a) (by omega) (by omega) (pw_pos j)
  unfold sarx; split <;> omega
theorem shlx_zero (width a : Int) : shlx width a 0 = narW width a := by
  unfold shlx
  rw [pw_zero, Int.mul_one]
  exact nar_self width _ (nar_lt width a).1 (nar_lt width a).2
theorem shrx_zero (width a : Int) : shrx width a 0 = narW width a := by
  unfold shrx
  rw [pw_zero, Int.ediv_one]
theorem sarx_zero (width a : Int) : sarx width a 0 = narW width a := by
  unfold sarx
  rw [pw_zero, Int.ediv_one, Int.ediv_one]
  split <;> omega
theorem shlx_succ (width a : Int) (j : Nat) : narW width (IntKind.u64.wrap (shlx width a j + shlx width a j)) = shlx width a (j + 1) := shl_step _ _ _ (m_dvd width)
theorem shrx_succ (width a : Int) (j : Nat) : shrx width a j / 2 = shrx width a (j + 1) := half_step _ _
theorem sarx_succ (width a : Int) (j : Nat) : (negM (hW width) (sarx width a j) = true → sarx width a j / 2 + hW width = sarx width a (j + 1)) ∧ (negM (hW width) (sarx width a j) = false → sarx width a j / 2 = sarx width a (j + 1)) := by
  have hm := m_bd width
  have hn : 0 ≤ narW width a ∧ narW width a < mW width := nar_lt width a
  have s := sar_step (hW width) (mW width) (narW width a) j (by omega) hn.1 hn.2
  unfold negM sarx
  by_cases c : hW width ≤ narW width a
  · rw [if_pos c, if_pos c]
    have s1 := s.1 c
    refine ⟨fun _ => s1.2, fun x => ?_⟩
    have := of_decide_eq_false x
    omega
  · rw [if_neg c, if_neg c]
    have s1 := s.2 (by omega)
    refine ⟨fun x => ?_, fun _ => s1.2⟩
    have := of_decide_eq_true x
    omega
theorem shlx_end (width a k : Int) : shlx width a (k % bW width).toNat = shlW width a k := rfl
theorem shrx_end (width a k : Int) : shrx width a (k % bW width).toNat = shrW width a k := rfl
theorem sarx_end (width a k : Int) : sarx width a (k % bW width).toNat = sarW width a k := rfl
end Go.Proofs.Ytdffhnboehjeoaa
