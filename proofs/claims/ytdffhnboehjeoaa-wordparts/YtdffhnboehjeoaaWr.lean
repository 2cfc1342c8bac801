import Derived.Test.YtdffhnboehjeoaaWp
namespace Go.Proofs.Ytdffhnboehjeoaa
set_option linter.unusedVariables false
/-! PLAIN: a word's bytes turned round -/
theorem and_split (p q r s k : Nat) (hp : p < 2 ^ k) (hr : r < 2 ^ k) : (p + 2 ^ k * q) &&& (r + 2 ^ k * s) = (p &&& r) + 2 ^ k * (q &&& s) := by
  have hk := Nat.two_pow_pos k
  have e1 : (p + 2 ^ k * q) % 2 ^ k = p := by rw [Nat.add_mul_mod_self_left, Nat.mod_eq_of_lt hp]
  have e2 : (r + 2 ^ k * s) % 2 ^ k = r := by rw [Nat.add_mul_mod_self_left, Nat.mod_eq_of_lt hr]
  have e3 : (p + 2 ^ k * q) / 2 ^ k = q := by rw [Nat.add_mul_div_left _ _ hk, Nat.div_eq_of_lt hp, Nat.zero_add]
  have e4 : (r + 2 ^ k * s) / 2 ^ k = s := by rw [Nat.add_mul_div_left _ _ hk, Nat.div_eq_of_lt hr, Nat.zero_add]
  have h := Nat.mod_add_div ((p + 2 ^ k * q) &&& (r + 2 ^ k * s)) (2 ^ k)
  rw [Nat.and_mod_two_pow, Nat.and_div_two_pow, e1, e2, e3, e4] at h
  exact h.symm
theorem or_split (p q r s k : Nat) (hp : p < 2 ^ k) (hr : r < 2 ^ k) : (p + 2 ^ k * q) ||| (r + 2 ^ k * s) = (p ||| r) + 2 ^ k * (q ||| s) := by
  have hk := Nat.two_pow_pos k
  have e1 : (p + 2 ^ k * q) % 2 ^ k = p := by rw [Nat.add_mul_mod_self_left, Nat.mod_eq_of_lt hp]
  have e2 : (r + 2 ^ k * s) % 2 ^ k = r := by rw [Nat.add_mul_mod_self_left, Nat.mod_eq_of_lt hr]
  have e3 : (p + 2 ^ k * q) / 2 ^ k = q := by rw [Nat.add_mul_div_left _ _ hk, Nat.div_eq_of_lt hp, Nat.zero_add]
  have e4 : (r + 2 ^ k * s) / 2 ^ k = s := by rw [Nat.add_mul_div_left _ _ hk, Nat.div_eq_of_lt hr, Nat.zero_add]
  have h := Nat.mod_add_div ((p + 2 ^ k * q) ||| (r + 2 ^ k * s)) (2 ^ k)
  rw [Nat.or_mod_two_pow, Nat.or_div_two_pow, e1, e2, e3, e4] at h
  exact h.symm
/-- a digit and a mask that covers its lower half -/
theorem low8 (x y : Nat) (hx : x < 256) : (x + 256 * y) &&& 255 = x := by
  have := Nat.and_two_pow_sub_one_eq_mod (x + 256 * y) 8
  simp at this; rw [this]; omega
theorem low16 (x y : Nat) (hx : x < 65536) : (x + 65536 * y) &&& 65535 = x := by
  have := Nat.and_two_pow_sub_one_eq_mod (x + 65536 * y) 16
  simp at this; rw [this]; omega
theorem or8 (x y : Nat) (hx : x < 256) : x ||| (256 * y) = x + 256 * y := by
  have := Nat.two_pow_add_eq_or_of_lt (i := 8) (b := x) (by simpa using hx) y
  rw [Nat.or_comm]; simp at this; omega
theorem or16 (x y : Nat) (hx : x < 65536) : x ||| (65536 * y) = x + 65536 * y := by
  have := Nat.two_pow_add_eq_or_of_lt (i := 16) (b := x) (by simpa using hx) y
  rw [Nat.or_comm]; simp at this; omega
theorem or32 (x y : Nat) (hx : x < 4294967296) : x ||| (4294967296 * y) = x + 4294967296 * y := by
  have := Nat.two_pow_add_eq_or_of_lt (i := 32) (b := x) (by simpa using hx) y
  rw [Nat.or_comm]; simp at this; omega
theorem mask8 (a b c d p q r s : Nat) (ha : a < 256) (hb : b < 256) (hc : c < 256) (hd : d < 256) (hp : p < 256) (hq : q < 256) (hr : r < 256) (hs : s < 256) :
    (a + 256 * p + 65536 * (b + 256 * q + 65536 * (c + 256 * r + 65536 * (d + 256 * s)))) &&& 71777214294589695 = a + 65536 * (b + 65536 * (c + 65536 * d)) := by
  have e : (71777214294589695 : Nat) = 255 + 2 ^ 16 * (255 + 2 ^ 16 * (255 + 2 ^ 16 * 255)) := by omega
  rw [e, show (65536 : Nat) = 2 ^ 16 from rfl, and_split _ _ _ _ 16 (by omega) (by omega), and_split _ _ _ _ 16 (by omega) (by omega), and_split _ _ _ _ 16 (by omega) (by omega), low8 a p ha, low8 b q hb, low8 c r hc, low8 d s hd]
theorem join8 (a b c d p q r s : Nat) (ha : a < 256) (hb : b < 256) (hc : c < 256) (hd : d < 256) (hp : p < 256) (hq : q < 256) (hr : r < 256) (hs : s < 256) :
    (a + 65536 * (b + 65536 * (c + 65536 * d))) ||| ((p + 65536 * (q + 65536 * (r + 65536 * s))) * 256) = a + 256 * p + 65536 * (b + 256 * q + 65536 * (c + 256 * r + 65536 * (d + 256 * s))) := by
  have e : (p + 65536 * (q + 65536 * (r + 65536 * s))) * 256 = 256 * p + 65536 * (256 * q + 65536 * (256 * r + 65536 * (256 * s))) := by omega
  rw [e, show (65536 : Nat) = 2 ^ 16 from rfl, or_split _ _ _ _ 16 (by omega) (by omega), or_split _ _ _ _ 16 (by omega) (by omega), or_split _ _ _ _ 16 (by omega) (by omega), or8 a p ha, or8 b q hb, or8 c r hc, or8 d s hd]
theorem mask16 (a b p q : Nat) (ha : a < 65536) (hb : b < 65536) (hp : p < 65536) (hq : q < 65536) :
    (a + 65536 * p + 4294967296 * (b + 65536 * q)) &&& 281470681808895 = a + 4294967296 * b := by
  have e : (281470681808895 : Nat) = 65535 + 2 ^ 32 * 65535 := by omega
  rw [e, show (4294967296 : Nat) = 2 ^ 32 from rfl, and_split _ _ _ _ 32 (by omega) (by omega), low16 a p ha, low16 b q hb]
theorem join16 (a b p q : Nat) (ha : a < 65536) (hb : b < 65536) (hp : p < 65536) (hq : q < 65536) :
    (a + 4294967296 * b) ||| ((p + 4294967296 * q) * 65536) = a + 65536 * p + 4294967296 * (b + 65536 * q) := by
  have e : (p + 4294967296 * q) * 65536 = 65536 * p + 4294967296 * (65536 * q) := by omega
  rw [e, show (4294967296 : Nat) = 2 ^ 32 from rfl, or_split _ _ _ _ 32 (by omega) (by omega), or16 a p ha, or16 b q hb]

/-- the word of eight bytes, the lowest first -/
def word8 (a b c d e f g h : Nat) : Nat := a + 256 * b + 65536 * (c + 256 * d + 65536 * (e + 256 * f + 65536 * (g + 256 * h)))
def rev1 (x : Int) : Int := bits .or .u64 (bits .and .u64 (x / 256) 71777214294589695) (IntKind.u64.wrap (bits .and .u64 x 71777214294589695 * 256))
def rev2 (x : Int) : Int := bits .or .u64 (bits .and .u64 (x / 65536) 281470681808895) (IntKind.u64.wrap (bits .and .u64 x 281470681808895 * 65536))
def rev3 (x : Int) : Int := bits .or .u64 (x / 4294967296) (IntKind.u64.wrap (x * 4294967296))
theorem rev1_word (a b c d e f g h : Nat) (ha : a < 256) (hb : b < 256) (hc : c < 256) (hd : d < 256) (he : e < 256) (hf : f < 256) (hg : g < 256) (hh : h < 256) :
    rev1 (word8 a b c d e f g h : Nat) = (word8 b a d c f e h g : Nat) := by
  unfold rev1
  have x1 : ((word8 a b c d e f g h : Nat) : Int) / 256 = ((word8 b c d e f g h 0 : Nat) : Int) := by unfold word8; omega
  rw [x1, show (71777214294589695 : Int) = ((71777214294589695 : Nat) : Int) from rfl, u64_and_nat _ _ (by unfold word8; omega) (by omega), u64_and_nat _ _ (by unfold word8; omega) (by omega)]
  unfold word8
  rw [mask8 b d f h c e g 0 hb hd hf hh hc he hg (by omega), mask8 a c e g b d f h ha hc he hg hb hd hf hh, IntKind.wrap_u64]
  rw [show (((a + 65536 * (c + 65536 * (e + 65536 * g)) : Nat) : Int) * 256) % 18446744073709551616 = (((a + 65536 * (c + 65536 * (e + 65536 * g))) * 256 : Nat) : Int) by omega]
  rw [u64_or_nat _ _ (by omega) (by omega), join8 b d f h a c e g hb hd hf hh ha hc he hg]
theorem rev2_word (a b c d e f g h : Nat) (ha : a < 256) (hb : b < 256) (hc : c < 256) (hd : d < 256) (he : e < 256) (hf : f < 256) (hg : g < 256) (hh : h < 256) :
    rev2 (word8 a b c d e f g h : Nat) = (word8 c d a b g h e f : Nat) := by
  unfold rev2
  have x0 : word8 a b c d e f g h = (a + 256 * b) + 65536 * (c + 256 * d) + 4294967296 * ((e + 256 * f) + 65536 * (g + 256 * h)) := by unfold word8; omega
  have x1 : ((word8 a b c d e f g h : Nat) : Int) / 65536 = (((c + 256 * d) + 65536 * (e + 256 * f) + 4294967296 * ((g + 256 * h) + 65536 * 0) : Nat) : Int) := by unfold word8; omega
  rw [x1, x0, show (281470681808895 : Int) = ((281470681808895 : Nat) : Int) from rfl, u64_and_nat _ _ (by omega) (by omega), u64_and_nat _ _ (by omega) (by omega)]
  rw [mask16 _ _ _ _ (by omega) (by omega) (by omega) (by omega), mask16 _ _ _ _ (by omega) (by omega) (by omega) (by omega), IntKind.wrap_u64]
  rw [show (((a + 256 * b + 4294967296 * (e + 256 * f) : Nat) : Int) * 65536) % 18446744073709551616 = (((a + 256 * b + 4294967296 * (e + 256 * f)) * 65536 : Nat) : Int) by omega]
  rw [u64_or_nat _ _ (by omega) (by omega), join16 _ _ _ _ (by omega) (by omega) (by omega) (by omega)]
  unfold word8; omega
theorem rev3_word (a b c d e f g h : Nat) (ha : a < 256) (hb : b < 256) (hc : c < 256) (hd : d < 256) (he : e < 256) (hf : f < 256) (hg : g < 256) (hh : h < 256) :
    rev3 (word8 a b c d e f g h : Nat) = (word8 e f g h a b c d : Nat) := by
  unfold rev3
  have x1 : ((word8 a b c d e f g h : Nat) : Int) / 4294967296 = ((e + 256 * f + 65536 * (g + 256 * h) : Nat) : Int) := by unfold word8; omega
  have x2 : IntKind.u64.wrap (((word8 a b c d e f g h : Nat) : Int) * 4294967296) = ((4294967296 * (a + 256 * b + 65536 * (c + 256 * d)) : Nat) : Int) := by rw [IntKind.wrap_u64]; unfold word8; omega
  rw [x1, x2, u64_or_nat _ _ (by omega) (by omega), or32 _ _ (by omega)]
  unfold word8; omega
def byteN (a : Int) (i : Nat) : Nat := a.toNat / 256 ^ i % 256
theorem byteN_lt (a : Int) (i : Nat) : byteN a i < 256 := Nat.mod_lt _ (by omega)
theorem word8_of (a : Int) (h0 : 0 ≤ a) (h1 : a < 18446744073709551616) :
    a = (word8 (byteN a 0) (byteN a 1) (byteN a 2) (byteN a 3) (byteN a 4) (byteN a 5) (byteN a 6) (byteN a 7) : Nat) := by
  unfold word8 byteN
  simp only [Nat.reducePow]
  omega
def revI (a : Int) : Int := (word8 (byteN a 7) (byteN a 6) (byteN a 5) (byteN a 4) (byteN a 3) (byteN a 2) (byteN a 1) (byteN a 0) : Nat)
theorem rev_all (a : Int) (h0 : 0 ≤ a) (h1 : a < 18446744073709551616) : rev3 (rev2 (rev1 a)) = revI a := by
  have e := word8_of a h0 h1
  have l0 := byteN_lt a 0
  have l1 := byteN_lt a 1
  have l2 := byteN_lt a 2
  have l3 := byteN_lt a 3
  have l4 := byteN_lt a 4
  have l5 := byteN_lt a 5
  have l6 := byteN_lt a 6
  have l7 := byteN_lt a 7
  unfold revI
  generalize byteN a 0 = b0 at *
  generalize byteN a 1 = b1 at *
  generalize byteN a 2 = b2 at *
  generalize byteN a 3 = b3 at *
  generalize byteN a 4 = b4 at *
  generalize byteN a 5 = b5 at *
  generalize byteN a 6 = b6 at *
  generalize byteN a 7 = b7 at *
  rw [e, rev1_word _ _ _ _ _ _ _ _ l0 l1 l2 l3 l4 l5 l6 l7, rev2_word _ _ _ _ _ _ _ _ l1 l0 l3 l2 l5 l4 l7 l6, rev3_word _ _ _ _ _ _ _ _ l3 l2 l1 l0 l7 l6 l5 l4]

def swB : Nat → Int → Int → Int
  | 0, out, _ => out
  | n + 1, out, x => swB n (out * 256 + x % 256) (x / 256)
def swapW (width a : Int) : Int := swB (bW width / 8).toNat 0 (a % mW width)
theorem swB_step (n : Nat) (out b y : Int) (h0 : 0 ≤ b) (h1 : b < 256) : swB (n + 1) out (b + 256 * y) = swB n (out * 256 + b) y := by
  rw [swB, show (b + 256 * y) % 256 = b by omega, show (b + 256 * y) / 256 = y by omega]
theorem lohi (lo hi m : Int) (h0 : 0 ≤ lo) (h1 : lo < m) : (lo + m * hi) % m = lo ∧ (lo + m * hi) / m = hi := by
  have hm : 0 < m := by omega
  rw [Int.add_mul_emod_self_left, Int.emod_eq_of_lt h0 h1, Int.add_mul_ediv_left _ _ (by omega), Int.ediv_eq_zero_of_lt h0 h1]
  exact ⟨rfl, by omega⟩
theorem sw_8 (a : Int) (h0 : 0 ≤ a) (h1 : a < 18446744073709551616) : revI a / 72057594037927936 = swB 1 0 (a % 256) := by
  have e := word8_of a h0 h1
  have l0 := byteN_lt a 0
  have l1 := byteN_lt a 1
  have l2 := byteN_lt a 2
  have l3 := byteN_lt a 3
  have l4 := byteN_lt a 4
  have l5 := byteN_lt a 5
  have l6 := byteN_lt a 6
  have l7 := byteN_lt a 7
  unfold revI
  generalize byteN a 0 = b0 at *
  generalize byteN a 1 = b1 at *
  generalize byteN a 2 = b2 at *
  generalize byteN a 3 = b3 at *
  generalize byteN a 4 = b4 at *
  generalize byteN a 5 = b5 at *
  generalize byteN a 6 = b6 at *
  generalize byteN a 7 = b7 at *
  have e1 : a % 256 = (b0 : Int) := by
    rw [show a = (b0 : Int) + 256 * ((b1 : Int) + 256 * ((b2 : Int) + 256 * ((b3 : Int) + 256 * ((b4 : Int) + 256 * ((b5 : Int) + 256 * ((b6 : Int) + 256 * (b7 : Int))))))) by rw [e]; unfold word8; omega]
    exact (lohi _ _ _ (by omega) (by omega)).1
  have e2 : ((word8 b7 b6 b5 b4 b3 b2 b1 b0 : Nat) : Int) / 72057594037927936 = (b0 : Int) := by
    rw [show ((word8 b7 b6 b5 b4 b3 b2 b1 b0 : Nat) : Int) = ((b7 : Int) + 256 * ((b6 : Int) + 256 * ((b5 : Int) + 256 * ((b4 : Int) + 256 * ((b3 : Int) + 256 * ((b2 : Int) + 256 * (b1 : Int))))))) + 72057594037927936 * (b0 : Int) by unfold word8; omega]
    exact (lohi _ _ _ (by omega) (by omega)).2
  rw [e1, e2]
  clear e e1 e2 h0 h1
  simp only [swB]
  omega
theorem sw_16 (a : Int) (h0 : 0 ≤ a) (h1 : a < 18446744073709551616) : revI a / 281474976710656 = swB 2 0 (a % 65536) := by
  have e := word8_of a h0 h1
  have l0 := byteN_lt a 0
  have l1 := byteN_lt a 1
  have l2 := byteN_lt a 2
  have l3 := byteN_lt a 3
  have l4 := byteN_lt a 4
  have l5 := byteN_lt a 5
  have l6 := byteN_lt a 6
  have l7 := byteN_lt a 7
  unfold revI
  generalize byteN a 0 = b0 at *
  generalize byteN a 1 = b1 at *
  generalize byteN a 2 = b2 at *
  generalize byteN a 3 = b3 at *
  generalize byteN a 4 = b4 at *
  generalize byteN a 5 = b5 at *
  generalize byteN a 6 = b6 at *
  generalize byteN a 7 = b7 at *
  have e1 : a % 65536 = ((b0 : Int) + 256 * (b1 : Int)) := by
    rw [show a = ((b0 : Int) + 256 * (b1 : Int)) + 65536 * ((b2 : Int) + 256 * ((b3 : Int) + 256 * ((b4 : Int) + 256 * ((b5 : Int) + 256 * ((b6 : Int) + 256 * (b7 : Int)))))) by rw [e]; unfold word8; omega]
    exact (lohi _ _ _ (by omega) (by omega)).1
  have e2 : ((word8 b7 b6 b5 b4 b3 b2 b1 b0 : Nat) : Int) / 281474976710656 = ((b1 : Int) + 256 * (b0 : Int)) := by
    rw [show ((word8 b7 b6 b5 b4 b3 b2 b1 b0 : Nat) : Int) = ((b7 : Int) + 256 * ((b6 : Int) + 256 * ((b5 : Int) + 256 * ((b4 : Int) + 256 * ((b3 : Int) + 256 * (b2 : Int)))))) + 281474976710656 * ((b1 : Int) + 256 * (b0 : Int)) by unfold word8; omega]
    exact (lohi _ _ _ (by omega) (by omega)).2
  rw [e1, e2, swB_step 1 _ _ _ (by omega) (by omega)]
  clear e e1 e2 h0 h1
  simp only [swB]
  omega
theorem sw_32 (a : Int) (h0 : 0 ≤ a) (h1 : a < 18446744073709551616) : revI a / 4294967296 = swB 4 0 (a % 4294967296) := by
  have e := word8_of a h0 h1
  have l0 := byteN_lt a 0
  have l1 := byteN_lt a 1
  have l2 := byteN_lt a 2
  have l3 := byteN_lt a 3
  have l4 := byteN_lt a 4
  have l5 := byteN_lt a 5
  have l6 := byteN_lt a 6
  have l7 := byteN_lt a 7
  unfold revI
  generalize byteN a 0 = b0 at *
  generalize byteN a 1 = b1 at *
  generalize byteN a 2 = b2 at *
  generalize byteN a 3 = b3 at *
  generalize byteN a 4 = b4 at *
  generalize byteN a 5 = b5 at *
  generalize byteN a 6 = b6 at *
  generalize byteN a 7 = b7 at *
  have e1 : a % 4294967296 = ((b0 : Int) + 256 * ((b1 : Int) + 256 * ((b2 : Int) + 256 * (b3 : Int)))) := by
    rw [show a = ((b0 : Int) + 256 * ((b1 : Int) + 256 * ((b2 : Int) + 256 * (b3 : Int)))) + 4294967296 * ((b4 : Int) + 256 * ((b5 : Int) + 256 * ((b6 : Int) + 256 * (b7 : Int)))) by rw [e]; unfold word8; omega]
    exact (lohi _ _ _ (by omega) (by omega)).1
  have e2 : ((word8 b7 b6 b5 b4 b3 b2 b1 b0 : Nat) : Int) / 4294967296 = ((b3 : Int) + 256 * ((b2 : Int) + 256 * ((b1 : Int) + 256 * (b0 : Int)))) := by
    rw [show ((word8 b7 b6 b5 b4 b3 b2 b1 b0 : Nat) : Int) = ((b7 : Int) + 256 * ((b6 : Int) + 256 * ((b5 : Int) + 256 * (b4 : Int)))) + 4294967296 * ((b3 : Int) + 256 * ((b2 : Int) + 256 * ((b1 : Int) + 256 * (b0 : Int)))) by unfold word8; omega]
    exact (lohi _ _ _ (by omega) (by omega)).2
  rw [e1, e2, swB_step 3 _ _ _ (by omega) (by omega), swB_step 2 _ _ _ (by omega) (by omega), swB_step 1 _ _ _ (by omega) (by omega)]
  clear e e1 e2 h0 h1
  simp only [swB]
  omega
theorem sw_64 (a : Int) (h0 : 0 ≤ a) (h1 : a < 18446744073709551616) : revI a / 1 = swB 8 0 (a % 18446744073709551616) := by
  have e := word8_of a h0 h1
  have l0 := byteN_lt a 0
  have l1 := byteN_lt a 1
  have l2 := byteN_lt a 2
  have l3 := byteN_lt a 3
  have l4 := byteN_lt a 4
  have l5 := byteN_lt a 5
  have l6 := byteN_lt a 6
  have l7 := byteN_lt a 7
  unfold revI
  generalize byteN a 0 = b0 at *
  generalize byteN a 1 = b1 at *
  generalize byteN a 2 = b2 at *
  generalize byteN a 3 = b3 at *
  generalize byteN a 4 = b4 at *
  generalize byteN a 5 = b5 at *
  generalize byteN a 6 = b6 at *
  generalize byteN a 7 = b7 at *
  have e1 : a % 18446744073709551616 = ((b0 : Int) + 256 * ((b1 : Int) + 256 * ((b2 : Int) + 256 * ((b3 : Int) + 256 * ((b4 : Int) + 256 * ((b5 : Int) + 256 * ((b6 : Int) + 256 * (b7 : Int)))))))) := by
    rw [show a % 18446744073709551616 = a by omega, e]; unfold word8; omega
  have e2 : ((word8 b7 b6 b5 b4 b3 b2 b1 b0 : Nat) : Int) / 1 = ((b7 : Int) + 256 * ((b6 : Int) + 256 * ((b5 : Int) + 256 * ((b4 : Int) + 256 * ((b3 : Int) + 256 * ((b2 : Int) + 256 * ((b1 : Int) + 256 * (b0 : Int)))))))) := by
    rw [Int.ediv_one]; unfold word8; omega
  rw [e1, e2, swB_step 7 _ _ _ (by omega) (by omega), swB_step 6 _ _ _ (by omega) (by omega), swB_step 5 _ _ _ (by omega) (by omega), swB_step 4 _ _ _ (by omega) (by omega), swB_step 3 _ _ _ (by omega) (by omega), swB_step 2 _ _ _ (by omega) (by omega), swB_step 1 _ _ _ (by omega) (by omega)]
  clear e e1 e2 h0 h1
  simp only [swB]
  omega
theorem revI_bd (a : Int) : 0 ≤ revI a ∧ revI a < 18446744073709551616 := by
  have l0 := byteN_lt a 0
  have l1 := byteN_lt a 1
  have l2 := byteN_lt a 2
  have l3 := byteN_lt a 3
  have l4 := byteN_lt a 4
  have l5 := byteN_lt a 5
  have l6 := byteN_lt a 6
  have l7 := byteN_lt a 7
  unfold revI
  generalize byteN a 0 = b0 at *
  generalize byteN a 1 = b1 at *
  generalize byteN a 2 = b2 at *
  generalize byteN a 3 = b3 at *
  generalize byteN a 4 = b4 at *
  generalize byteN a 5 = b5 at *
  generalize byteN a 6 = b6 at *
  generalize byteN a 7 = b7 at *
  unfold word8
  omega
end Go.Proofs.Ytdffhnboehjeoaa
