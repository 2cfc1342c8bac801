import Derived.Test.YtcomhlimgocoaaaGreatDoorGc09
import Derived.WalkKit
namespace Go.Proofs.YtcomhlimgocoaaaGreatDoor
open Go.RowKit
set_option linter.unusedVariables false
set_option linter.unusedSimpArgs false
/-- the value of a number without a sign: the number, too great, one at all -/
def valP (l : List UInt8) : Int × Bool × Bool :=
  if l = [48] then (0, false, true)
  else if Lib.hasPrefix l [48, 120] then (if 16 < (Lib.trimPrefix l [48, 120]).length then (0, false, false) else dig16 (Lib.trimPrefix l [48, 120]))
  else if Lib.hasPrefix l [48] then (0, false, false) else dig10 l
theorem valueOf_any (s : ByteArray) (hs : s.size ≤ 281474976710656) (w : World) (HE : Hid (ErrR w)) : Calls Tryz.prog 153 #[.string s] w fun e w' => e = .returned (.tuple #[.int .u64 (valP s.toList).1, .bool (valP s.toList).2.1, .bool (valP s.toList).2.2]) ∧ Below w.heap.size w w' := by
  obtain ⟨d, hd⟩ : ∃ d : ByteArray, d = ⟨(Lib.trimPrefix s.data.toList [48, 120]).toArray⟩ := ⟨_, rfl⟩
  have hdl : d.toList = Lib.trimPrefix s.toList [48, 120] := by rw [hd, mk_list, ByteArray.toList_eq]
  have CC : ∀ b, Lib.hasPrefix s.toList [48, 120] = b → Hid (Calls Tryz.prog 171 #[.string s, .string ⟨#[48, 120]⟩] w fun e w' => e = .returned (.tuple #[.string d, .bool b]) ∧ w' = w) := fun b hb => by
    have h := Tryz.strings_CutPrefix s ⟨#[48, 120]⟩ w
    rw [ByteArray.toList_eq] at hb
    subst hb
    rw [hd]
    exact h
  have CH : ∀ b, Lib.hasPrefix s.toList [48] = b → Hid (Calls Tryz.prog 174 #[.string s, .string ⟨#[48]⟩] w fun e w' => e = .returned (.bool b) ∧ w' = w) := fun b hb => by
    have h := Tryz.strings_HasPrefix s ⟨#[48]⟩ w
    rw [ByteArray.toList_eq] at hb
    subst hb
    exact h
  have CD := hidOf (digits10 s hs w HE)
  have HV : Hid (valP s.toList = if s.toList = [48] then (0, false, true) else if Lib.hasPrefix s.toList [48, 120] then (if 16 < d.size then (0, false, false) else dig16 d.toList) else if Lib.hasPrefix s.toList [48] then (0, false, false) else dig10 s.toList) := by
    show _ = _
    rw [← lsize d, hdl]
    rfl
  clear hd hdl HE
  cases h1 : (s.toList == [48])
  · have h1' : ¬ s.toList = [48] := by simpa using h1
    cases h2 : Lib.hasPrefix s.toList [48, 120]
    · have C1 := CC _ h2
      cases h3 : Lib.hasPrefix s.toList [48]
      · have C2 := CH _ h3
        have Hf : Hid (dig10 s.toList = valP s.toList) := by show _ = _; rw [HV.out, if_neg h1', h2, h3]; rfl
        rw [Hf.out] at CD
        clear CC CH HV h1' h2 h3
        go_enter Tryz.func153, Tryz.ntmps153
        go_wp2_with (first | (go_at_call 171; refine C1.out.mono ?_; rintro e w1 ⟨rfl, hw1⟩; have hw1 := hw1.symm; subst hw1) | (go_at_call 174; refine C2.out.mono ?_; rintro e w2 ⟨rfl, hw2⟩; have hw2 := hw2.symm; subst hw2) | (go_at_call 172; refine CD.out.mono ?_; rintro e w3 ⟨rfl, hw3⟩; have HW := hidOf hw3; clear hw3))
        go_ret3
        exact ⟨rfl, HW.out⟩
      · have C2 := CH _ h3
        have Hf : Hid (valP s.toList = (0, false, false)) := by show _ = _; rw [HV.out, if_neg h1', h2, h3]; rfl
        clear CC CH HV h1' h2 h3
        go_enter Tryz.func153, Tryz.ntmps153
        go_wp2_with (first | (go_at_call 171; refine C1.out.mono ?_; rintro e w1 ⟨rfl, hw1⟩; have hw1 := hw1.symm; subst hw1) | (go_at_call 174; refine C2.out.mono ?_; rintro e w2 ⟨rfl, hw2⟩; have hw2 := hw2.symm; subst hw2))
        go_ret3
        rw [Hf.out]
        exact ⟨rfl, Below.refl _ _⟩
    · have C1 := CC _ h2
      by_cases h3 : 16 < d.size
      · have Hf : Hid (valP s.toList = (0, false, false)) := by show _ = _; rw [HV.out, if_neg h1', h2, if_pos h3]; rfl
        have h3' : (16 : Int) < d.size := by omega
        clear CC CH HV h1' h2
        go_enter Tryz.func153, Tryz.ntmps153
        go_wp2_with (go_at_call 171; refine C1.out.mono ?_; rintro e w1 ⟨rfl, hw1⟩; have hw1 := hw1.symm; subst hw1)
        go_ret3
        rw [Hf.out]
        exact ⟨rfl, Below.refl _ _⟩
      · have Hf : Hid (dig16 d.toList = valP s.toList) := by show _ = _; rw [HV.out, if_neg h1', h2, if_neg h3]; rfl
        have h3' : ¬ (16 : Int) < d.size := by omega
        have C6 := hidOf (digits16 d (by omega) w)
        rw [Hf.out] at C6
        clear CC CH HV h1' h2 CD
        go_enter Tryz.func153, Tryz.ntmps153
        go_wp2_with (first | (go_at_call 171; refine C1.out.mono ?_; rintro e w1 ⟨rfl, hw1⟩; have hw1 := hw1.symm; subst hw1) | (go_at_call 172; refine C6.out.mono ?_; rintro e w3 ⟨rfl, hw3⟩; have HW := hidOf hw3; clear hw3))
        go_ret3
        exact ⟨rfl, HW.out⟩
  · have h1' : s.toList = [48] := by simpa using h1
    have Hf : Hid (valP s.toList = (0, false, true)) := by show _ = _; rw [h1']; rfl
    clear CC CH HV h1' CD
    go_enter Tryz.func153, Tryz.ntmps153
    go_wp2
    go_ret3
    rw [Hf.out]
    exact ⟨rfl, Below.refl _ _⟩
end Go.Proofs.YtcomhlimgocoaaaGreatDoor
namespace Go.Proofs.YtcomhlimgocoaaaGreatDoor.Wo
/-! PLAIN: the words' functions on numbers. n, d: narrowed words; m: 2 to the width; h: half of it. -/
def negM (h n : Int) : Bool := decide (h ≤ n)
def magM (h m n : Int) : Int := if h ≤ n then m - n else n
def sgnM (h m n : Int) : Int := if h ≤ n then 18446744073709551616 - m + n else n
def divM (n d : Int) : Int := if d = 0 then 0 else n / d
def modM (n d : Int) : Int := if d = 0 then n else n % d
def sdivM (h m n d : Int) : Int := if d = 0 then 0 else if negM h n = negM h d then magM h m n / magM h m d else (-(magM h m n / magM h m d)) % m
def smodM (h m n d : Int) : Int := if d = 0 then n else if h ≤ n then (-(magM h m n % magM h m d)) % m else magM h m n % magM h m d
def shlM (m n k : Int) : Int := n * 2 ^ k.toNat % m
def shrM (n k : Int) : Int := n / 2 ^ k.toNat
def sarM (h m n k : Int) : Int := if h ≤ n then m - 1 - (m - 1 - n) / 2 ^ k.toNat else n / 2 ^ k.toNat
def lessM (n d : Int) : Bool := decide (n < d)
def slessM (h m n d : Int) : Bool := decide ((if h ≤ n then n - m else n) < (if h ≤ d then d - m else d))

def mW (width : Int) : Int := if width = 8 then 256 else if width = 16 then 65536 else if width = 32 then 4294967296 else 18446744073709551616
def hW (width : Int) : Int := if width = 8 then 128 else if width = 16 then 32768 else if width = 32 then 2147483648 else 9223372036854775808
def bW (width : Int) : Int := if width = 8 then 8 else if width = 16 then 16 else if width = 32 then 32 else 64
def addW (a b : Int) : Int := IntKind.u64.wrap (a + b)
def subW (a b : Int) : Int := IntKind.u64.wrap (a - b)
def mulW (a b : Int) : Int := IntKind.u64.wrap (a * b)
def negW (a : Int) : Int := IntKind.u64.wrap (-a)
def andW (a b : Int) : Int := bits .and .u64 a b
def orW (a b : Int) : Int := bits .or .u64 a b
def xorW (a b : Int) : Int := bits .xor .u64 a b
def narW (width a : Int) : Int := a % mW width
def sgnW (width a : Int) : Int := sgnM (hW width) (mW width) (a % mW width)
def divW (width a b : Int) : Int := divM (a % mW width) (b % mW width)
def modW (width a b : Int) : Int := modM (a % mW width) (b % mW width)
def sdivW (width a b : Int) : Int := sdivM (hW width) (mW width) (a % mW width) (b % mW width)
def smodW (width a b : Int) : Int := smodM (hW width) (mW width) (a % mW width) (b % mW width)
def shlW (width a k : Int) : Int := shlM (mW width) (a % mW width) (k % bW width)
def shrW (width a k : Int) : Int := shrM (a % mW width) (k % bW width)
def sarW (width a k : Int) : Int := sarM (hW width) (mW width) (a % mW width) (k % bW width)
def lessW (width a b : Int) : Bool := lessM (a % mW width) (b % mW width)
def slessW (width a b : Int) : Bool := slessM (hW width) (mW width) (a % mW width) (b % mW width)

theorem mag_bd {h m n : Int} (hm : m = 2 * h) (h0 : 0 ≤ n) (h1 : n < m) : 0 ≤ magM h m n ∧ magM h m n ≤ h := by
  unfold magM; split <;> omega
theorem mag_pos {h m n : Int} (hm : m = 2 * h) (h0 : 0 < n) (h1 : n < m) : 0 < magM h m n := by
  unfold magM; split <;> omega
theorem div_bd {x y B : Int} (h0 : 0 ≤ x) (h1 : x ≤ B) (h2 : 0 < y) : 0 ≤ x / y ∧ x / y ≤ B := by
  have a := Int.ediv_nonneg h0 (Int.le_of_lt h2)
  have b := Int.ediv_le_self y h0
  omega
theorem rem_bd {x y : Int} (h2 : 0 < y) : 0 ≤ x % y ∧ x % y < y := ⟨Int.emod_nonneg _ (by omega), Int.emod_lt_of_pos _ h2⟩
theorem rem_le {x y : Int} (h0 : 0 ≤ x) (h2 : 0 < y) : x % y ≤ x := by
  have := Int.emod_add_mul_ediv x y
  have := Int.mul_nonneg (Int.le_of_lt h2) (Int.ediv_nonneg h0 (Int.le_of_lt h2))
  omega
theorem pow_pos2 (k : Nat) : (0 : Int) < 2 ^ k := by
  have := Nat.two_pow_pos k
  have e : ((2 ^ k : Nat) : Int) = 2 ^ k := by simp
  omega
theorem wide_cases (width : Int) : width = 8 ∨ width = 16 ∨ width = 32 ∨ (width ≠ 8 ∧ width ≠ 16 ∧ width ≠ 32) := by omega
theorem W8 : mW 8 = 256 ∧ hW 8 = 128 ∧ bW 8 = 8 := ⟨rfl, rfl, rfl⟩
theorem W16 : mW 16 = 65536 ∧ hW 16 = 32768 ∧ bW 16 = 16 := ⟨rfl, rfl, rfl⟩
theorem W32 : mW 32 = 4294967296 ∧ hW 32 = 2147483648 ∧ bW 32 = 32 := ⟨rfl, rfl, rfl⟩
theorem W64 {width : Int} (a : width ≠ 8) (b : width ≠ 16) (c : width ≠ 32) : mW width = 18446744073709551616 ∧ hW width = 9223372036854775808 ∧ bW width = 64 := by
  simp [mW, hW, bW, a, b, c]
theorem ret_int {k : IntKind} {a b : Int} (h : a = b) : Ending.returned (.int k a) = .returned (.int k b) := by rw [h]
theorem ret_bool {a b : Bool} (h : a = b) : Ending.returned (.bool a) = .returned (.bool b) := by rw [h]

theorem max_u8 : IntKind.u8.max = 255 := rfl
theorem max_u16 : IntKind.u16.max = 65535 := rfl
theorem max_u32 : IntKind.u32.max = 4294967295 := rfl
theorem max_u64 : IntKind.u64.max = 18446744073709551615 := rfl
theorem not_u8 (a : Int) (h0 : 0 ≤ a) (h1 : a < 256) : bits .xor .u8 IntKind.u8.max a = 255 - a := by
  obtain ⟨n, rfl⟩ := Int.eq_ofNat_of_zero_le h0
  show IntKind.u8.wrap ((BitVec.ofInt 8 255 ^^^ BitVec.ofInt 8 (n : Int)).toNat : Int) = _
  have e : BitVec.ofInt 8 255 = BitVec.allOnes 8 := by decide
  rw [e, BitVec.allOnes_xor, BitVec.toNat_not, ofInt_u8 n (by omega), IntKind.wrap_u8']
  omega
theorem not_u16 (a : Int) (h0 : 0 ≤ a) (h1 : a < 65536) : bits .xor .u16 IntKind.u16.max a = 65535 - a := by
  obtain ⟨n, rfl⟩ := Int.eq_ofNat_of_zero_le h0
  show IntKind.u16.wrap ((BitVec.ofInt 16 65535 ^^^ BitVec.ofInt 16 (n : Int)).toNat : Int) = _
  have e : BitVec.ofInt 16 65535 = BitVec.allOnes 16 := by decide
  rw [e, BitVec.allOnes_xor, BitVec.toNat_not, ofInt_u16 n (by omega), IntKind.wrap_u16]
  omega
theorem not_u32 (a : Int) (h0 : 0 ≤ a) (h1 : a < 4294967296) : bits .xor .u32 IntKind.u32.max a = 4294967295 - a := by
  obtain ⟨n, rfl⟩ := Int.eq_ofNat_of_zero_le h0
  show IntKind.u32.wrap ((BitVec.ofInt 32 4294967295 ^^^ BitVec.ofInt 32 (n : Int)).toNat : Int) = _
  have e : BitVec.ofInt 32 4294967295 = BitVec.allOnes 32 := by decide
  rw [e, BitVec.allOnes_xor, BitVec.toNat_not, ofInt_u32 n (by omega), IntKind.wrap_u32']
  omega
theorem not_u64 (a : Int) (h0 : 0 ≤ a) (h1 : a < 18446744073709551616) : bits .xor .u64 IntKind.u64.max a = 18446744073709551615 - a := by
  obtain ⟨n, rfl⟩ := Int.eq_ofNat_of_zero_le h0
  show IntKind.u64.wrap ((BitVec.ofInt 64 18446744073709551615 ^^^ BitVec.ofInt 64 (n : Int)).toNat : Int) = _
  have e : BitVec.ofInt 64 18446744073709551615 = BitVec.allOnes 64 := by decide
  rw [e, BitVec.allOnes_xor, BitVec.toNat_not, ofInt_u64 n (by omega), IntKind.wrap_u64]
  omega
end Go.Proofs.YtcomhlimgocoaaaGreatDoor.Wo
