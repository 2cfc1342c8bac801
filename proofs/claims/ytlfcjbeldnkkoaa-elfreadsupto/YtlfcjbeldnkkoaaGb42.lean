import Derived.Test.YtlfcjbeldnkkoaaGb23
import Derived.Test.YtlfcjbeldnkkoaaGb25
namespace Go.Proofs.Ytlfcjbeldnkkoaa
open Go.RowKit
set_option linter.unusedVariables false
set_option linter.unusedSimpArgs false
def fB (b : List UInt8) (f n : Nat) : Nat := nmB ((b.drop f).take n)
def atP (b : List UInt8) (f n : Nat) : Int := if n = 8 ∧ 9223372036854775807 < fB b f n then -1 else fB b f n
theorem nmB_consR (b : UInt8) (r : List UInt8) : nmB (b :: r) = b.toNat + 256 * nmB r := rfl
theorem fB_step {b : List UInt8} {f n k : Nat} {x : UInt8} (hk : k < n) (hx : b[f + k]? = some x) : nmB (((b.drop f).take n).drop k) = x.toNat + 256 * nmB (((b.drop f).take n).drop (k + 1)) := by
  have h : ((b.drop f).take n)[k]? = some x := by rw [List.getElem?_take, if_pos hk, List.getElem?_drop]; exact hx
  obtain ⟨hi, hx'⟩ := List.getElem?_eq_some_iff.1 h
  rw [List.drop_eq_getElem_cons hi, hx', nmB_consR]
theorem nmB_dropLe : ∀ (l : List UInt8) (i : Nat), nmB (l.drop i) ≤ nmB l
  | [], i => by simp
  | b :: r, 0 => by simp
  | b :: r, i + 1 => by
    have := nmB_dropLe r i
    rw [List.drop_succ_cons, nmB_consR]
    omega
theorem bits_or_i64 (a b : Nat) (ha : a < 9223372036854775808) (hb : b < 9223372036854775808) : bits .or .i64 (a : Int) (b : Int) = ((a ||| b : Nat) : Int) := by
  have hx : a ||| b < 2 ^ 63 := Nat.or_lt_two_pow (by omega) (by omega)
  have h1 : (BitVec.ofInt 64 (a : Int)).toNat = a := by
    rw [BitVec.ofInt_natCast, BitVec.toNat_ofNat]; exact Nat.mod_eq_of_lt (by omega)
  have h2 : (BitVec.ofInt 64 (b : Int)).toNat = b := by
    rw [BitVec.ofInt_natCast, BitVec.toNat_ofNat]; exact Nat.mod_eq_of_lt (by omega)
  show IntKind.i64.wrap ((BitVec.ofInt 64 (a : Int) ||| BitVec.ofInt 64 (b : Int)).toNat : Int) = _
  rw [BitVec.toNat_or, h1, h2, IntKind.wrap_i64]
  omega
theorem or_byte (q x : Nat) (hx : x < 256) (hq : x + 256 * q ≤ 9223372036854775807) : bits .or .i64 ((q : Int) * 256) (x : Int) = ((x + 256 * q : Nat) : Int) := by
  have e : 256 * q ||| x = 256 * q + x := (Nat.two_pow_add_eq_or_of_lt (i := 8) (b := x) (by omega) q).symm
  rw [show (q : Int) * 256 = ((256 * q : Nat) : Int) by omega, bits_or_i64 _ _ (by omega) (by omega), e]
  omega
set_option maxRecDepth 8000 in
set_option maxHeartbeats 1000000 in
theorem at9_small (w : World) (g off c : Nat) (b : List UInt8) (hb : BAt w g off b) (hc : b.length ≤ c) (hl : b.length ≤ 1000000000000) (f n : Nat) (hn : n = 2 ∨ n = 4 ∨ n = 8) (hf : f + n ≤ b.length) (hs : fB b f n ≤ 9223372036854775807) (h8 : n = 8 → ∃ x : UInt8, b[f + 7]? = some x ∧ x.toNat < 128) :
    Calls Try.prog 38 #[.slice (some ⟨g, off, none⟩) b.length c, .int .i64 (f : Int), .int .i64 (n : Int)] w fun e w' => e = .returned (.int .i64 (fB b f n : Nat)) ∧ w' = w := by
  have H := hidOf hb
  have hm := hidOf (fun i => Nat.le_trans (nmB_dropLe ((b.drop f).take n) i) hs)
  have Hn := hidOf hn
  have HLl : Hid (((b.drop f).take n).length = n) := hidOf (by rw [List.length_take, List.length_drop]; omega)
  have hfI : (f : Int) + n ≤ b.length := by omega
  have hf0 : (0 : Int) ≤ f := by omega
  have hfl : (f : Int) ≤ 1000000000000 := by omega
  clear hs hb
  have START : ∀ (P : Prop), (((n : Int) == 8) = false → P) → (∀ x : UInt8, n = 8 → w.cell? ⟨g, off + (f + 7), none⟩ = some (.int .u8 (x.toNat : Int)) → x.toNat < 128 → P) → P := fun P h1 h2 => by
    by_cases e : n = 8
    · obtain ⟨x, hx, hx7⟩ := h8 e
      exact h2 x e (H.out (f + 7) x hx) hx7
    · exact h1 (by simp; omega)
  refine START _ (fun e8 => ?_) (fun x e8 d7 hx7 => ?_)
  · clear START h8 hn
    go_enter Try.func38, Try.ntmps38
    go_wp2
    go_loopw [8, 7] (fun iv xv wr => ∃ (k : Nat) (z : Int), iv = .int .i64 z ∧ z = (k : Int) - 1 ∧ k ≤ n ∧ xv = .int .i64 (nmB (((b.drop f).take n).drop k) : Nat) ∧ wr = w) (fun iv _ _ => (intOf iv + 1).toNat)
    case atStart => exact ⟨n, (n : Int) - 1, rfl, by omega, Nat.le_refl _, by rw [List.drop_eq_nil_of_le (by have := HLl.out; omega)]; rfl, rfl⟩
    case round =>
      obtain ⟨k, z, rfl, hz, hk, rfl, rfl⟩ := hrel
      by_cases hk0 : k = 0
      · subst hk0
        have hzn : ¬ (0 : Int) ≤ z := by omega
        clear hz hk
        go_wp2
        go_ret
        exact ⟨rfl, rfl⟩
      · obtain ⟨j, hj⟩ : ∃ j, k = j + 1 := ⟨k - 1, by omega⟩
        subst hj
        obtain rfl : z = (j : Int) := by omega
        have hj0 : (0 : Int) ≤ j := by omega
        obtain ⟨x, hx⟩ : ∃ x, b[f + j]? = some x := ⟨_, List.getElem?_eq_getElem (by omega)⟩
        have d := H.out (f + j) x hx
        have hlt : (f : Int) + j < b.length := by omega
        have hm0 := fB_step (n := n) (by omega : j < n) hx
        have hb0 := hm.out j
        have hxb := x.toNat_lt
        generalize hq : nmB (((b.drop f).take n).drop (j + 1)) = q at *
        have Hob := hidOf (or_byte q x.toNat (by omega) (by omega))
        have Hm0 := hidOf hm0
        have hqI : (q : Int) * 256 ≤ 9223372036854775807 := by omega
        have hq0 : (0 : Int) ≤ q := by omega
        have hx0 : (0 : Int) ≤ x.toNat := by omega
        have hxI : (x.toNat : Int) < 256 := by omega
        clear hx hz hm0 hb0 hxb hq
        go_wp2
        exact ⟨⟨j, (j : Int) - 1, rfl, rfl, by omega, by rw [Hob.out, Hm0.out], trivial⟩, by simp [intOf]⟩
  · subst e8
    have hx7I : ¬ (127 : Int) < x.toNat := by omega
    have hf7 : (f : Int) + 7 < b.length := by omega
    clear START h8 hn hx7
    go_enter Try.func38, Try.ntmps38
    go_wp2
    clear d7 hx7I
    go_loopw [8, 7] (fun iv xv wr => ∃ (k : Nat) (z : Int), iv = .int .i64 z ∧ z = (k : Int) - 1 ∧ k ≤ 8 ∧ xv = .int .i64 (nmB (((b.drop f).take 8).drop k) : Nat) ∧ wr = w) (fun iv _ _ => (intOf iv + 1).toNat)
    case atStart => exact ⟨8, 7, rfl, by omega, Nat.le_refl _, by rw [List.drop_eq_nil_of_le (by have := HLl.out; omega)]; rfl, rfl⟩
    case round =>
      obtain ⟨k, z, rfl, hz, hk, rfl, rfl⟩ := hrel
      by_cases hk0 : k = 0
      · subst hk0
        have hzn : ¬ (0 : Int) ≤ z := by omega
        clear hz hk
        go_wp2
        go_ret
        exact ⟨rfl, rfl⟩
      · obtain ⟨j, hj⟩ : ∃ j, k = j + 1 := ⟨k - 1, by omega⟩
        subst hj
        obtain rfl : z = (j : Int) := by omega
        have hj0 : (0 : Int) ≤ j := by omega
        obtain ⟨x, hx⟩ : ∃ x, b[f + j]? = some x := ⟨_, List.getElem?_eq_getElem (by omega)⟩
        have d := H.out (f + j) x hx
        have hlt : (f : Int) + j < b.length := by omega
        have hm0 := fB_step (n := 8) (by omega : j < 8) hx
        have hb0 := hm.out j
        have hxb := x.toNat_lt
        generalize hq : nmB (((b.drop f).take 8).drop (j + 1)) = q at *
        have Hob := hidOf (or_byte q x.toNat (by omega) (by omega))
        have Hm0 := hidOf hm0
        have hqI : (q : Int) * 256 ≤ 9223372036854775807 := by omega
        have hq0 : (0 : Int) ≤ q := by omega
        have hx0 : (0 : Int) ≤ x.toNat := by omega
        have hxI : (x.toNat : Int) < 256 := by omega
        clear hx hz hm0 hb0 hxb hq
        go_wp2
        exact ⟨⟨j, (j : Int) - 1, rfl, rfl, by omega, by rw [Hob.out, Hm0.out], trivial⟩, by simp [intOf]⟩
set_option maxRecDepth 8000 in
theorem at9_big (w : World) (g off c : Nat) (b : List UInt8) (hb : BAt w g off b) (hc : b.length ≤ c) (hl : b.length ≤ 1000000000000) (f : Nat) (hf : f + 8 ≤ b.length) (x : UInt8) (hx : b[f + 7]? = some x) (hx7 : 128 ≤ x.toNat) :
    Calls Try.prog 38 #[.slice (some ⟨g, off, none⟩) b.length c, .int .i64 (f : Int), .int .i64 8] w fun e w' => e = .returned (.int .i64 (-1)) ∧ w' = w := by
  have d7 := hb (f + 7) x hx
  have hx7I : (127 : Int) < x.toNat := by omega
  have hf7 : (f : Int) + 7 < b.length := by omega
  have hf0 : (0 : Int) ≤ f := by omega
  have hfl : (f : Int) ≤ 1000000000000 := by omega
  clear hb hx
  go_enter Try.func38, Try.ntmps38
  go_wp2
  go_ret
  exact ⟨rfl, rfl⟩
theorem fB8 {b : List UInt8} {f : Nat} {x : UInt8} (hx : b[f + 7]? = some x) (hf : f + 8 ≤ b.length) : fB b f 8 / 72057594037927936 = x.toNat := by
  have hl : ((b.drop f).take 8).length = 8 := by rw [List.length_take, List.length_drop]; omega
  obtain ⟨a, ha⟩ : ∃ a, a = (b.drop f).take 8 := ⟨_, rfl⟩
  have h7 : a[7]? = some x := by rw [ha, List.getElem?_take, if_pos (by omega), List.getElem?_drop]; exact hx
  unfold fB
  rw [← ha] at hl ⊢
  match a, hl, h7 with
  | [a0, a1, a2, a3, a4, a5, a6, a7], _, h7 =>
    simp at h7
    subst h7
    have := a0.toNat_lt; have := a1.toNat_lt; have := a2.toNat_lt; have := a3.toNat_lt; have := a4.toNat_lt; have := a5.toNat_lt; have := a6.toNat_lt; have := a7.toNat_lt
    simp only [nmB]
    omega
theorem fB_lt (b : List UInt8) (f n : Nat) (hn : n ≤ 4) : fB b f n < 4294967296 := by
  unfold fB
  have h := nmB_lt ((b.drop f).take n)
  have h4 : 256 ^ ((b.drop f).take n).length ≤ 256 ^ 4 := Nat.pow_le_pow_right (by omega) (by rw [List.length_take]; omega)
  have h5 : (256 : Nat) ^ 4 = 4294967296 := by decide
  omega
theorem fB_lt8 (b : List UInt8) (f : Nat) : fB b f 8 < 18446744073709551616 := by
  unfold fB
  have h := nmB_lt ((b.drop f).take 8)
  have h4 : 256 ^ ((b.drop f).take 8).length ≤ 256 ^ 8 := Nat.pow_le_pow_right (by omega) (by rw [List.length_take]; omega)
  have h5 : (256 : Nat) ^ 8 = 18446744073709551616 := by decide
  omega
/-- at -/
theorem at9_any (w : World) (g off c : Nat) (b : List UInt8) (hb : BAt w g off b) (hc : b.length ≤ c) (hl : b.length ≤ 1000000000000) (f n : Nat) (hn : n = 2 ∨ n = 4 ∨ n = 8) (hf : f + n ≤ b.length) :
    Calls Try.prog 38 #[.slice (some ⟨g, off, none⟩) b.length c, .int .i64 (f : Int), .int .i64 (n : Int)] w fun e w' => e = .returned (.int .i64 (atP b f n)) ∧ w' = w := by
  by_cases h8 : n = 8
  · subst h8
    obtain ⟨x, hx⟩ : ∃ x, b[f + 7]? = some x := ⟨_, List.getElem?_eq_getElem (by omega)⟩
    have hd := fB8 hx hf
    by_cases hx7 : x.toNat < 128
    · have hs : fB b f 8 ≤ 9223372036854775807 := by omega
      rw [show atP b f 8 = (fB b f 8 : Nat) by unfold atP; rw [if_neg (by omega)]]
      exact at9_small w g off c b hb hc hl f 8 hn hf hs (fun _ => ⟨x, hx, hx7⟩)
    · rw [show atP b f 8 = -1 by unfold atP; rw [if_pos (by omega)]]
      exact at9_big w g off c b hb hc hl f hf x hx (by omega)
  · have := fB_lt b f n (by omega)
    rw [show atP b f n = (fB b f n : Nat) by unfold atP; rw [if_neg (by omega)]]
    exact at9_small w g off c b hb hc hl f n hn hf (by omega) (fun e => absurd e h8)
end Go.Proofs.Ytlfcjbeldnkkoaa
namespace Go.Proofs.Ytlfcjbeldnkkoaa
open Go.RowKit
set_option linter.unusedVariables false
set_option linter.unusedSimpArgs false
def hRl : List UInt8 := h16 ++ (leB 1 2 ++ (leB 247 2 ++ (leB 1 4 ++ (leB 0 8 ++ (leB 0 8 ++ (leB 0 8 ++ (leB 0 4 ++ (leB 64 2 ++ (leB 0 4 ++ (leB 64 2 ++ (leB (0 + 2) 2 ++ leB (0 + 1) 2)))))))))))
theorem hRl_len : hRl.length = 64 := by decide
theorem hRl_A : ∀ k, k < 40 → hRl[k]? = hdA[k]? := by decide
theorem hRl_B : ∀ k, k < 12 → hRl[48 + k]? = hdB[k]? := by decide
/-- a fault at a place of the head -/
def hdN (b : List UInt8) (i : Nat) : Bool :=
  if i = 40 then decide (atP b 40 8 < 64 ∨ ¬ atP b 40 8 % 8 = 0 ∨ ¬ atP b 40 8 = tpP b)
  else if i = 60 then decide (cntP b < 2 ∨ 18 < cntP b)
  else if i = 62 then decide (¬ (fB b 62 2 : Int) = (cntP b : Int) - 1)
  else if (40 < i ∧ i < 48) ∨ 60 < i then false
  else decide (¬ b[i]? = hRl[i]?)
theorem flt_bw (b : List UInt8) (r : List Fd) : ∀ (l : List UInt8) (p : Nat), p + l.length ≤ b.length → ((∀ k, k < l.length → b[p + k]? = l[k]?) → fltF b p (bwF l ++ r) = fltF b (p + l.length) r) ∧ ∀ k, k < l.length → (∀ j, j < k → b[p + j]? = l[j]?) → ¬ b[p + k]? = l[k]? → fltF b p (bwF l ++ r) = some (p + k)
  | [], p, _ => ⟨fun _ => by simp [bwF], fun k hk => by simp at hk⟩
  | x :: l, p, hp => by
    rw [List.length_cons] at hp
    obtain ⟨y, hy⟩ : ∃ y, b[p]? = some y := ⟨_, List.getElem?_eq_getElem (by omega)⟩
    have hn : nmB ((b.drop p).take 1) = y.toNat := by
      have : (b.drop p).take 1 = [y] := by
        obtain ⟨h1, h2⟩ := List.getElem?_eq_some_iff.1 hy
        rw [List.drop_eq_getElem_cons h1, h2]; rfl
      rw [this]; simp [nmB]
    obtain ⟨ih1, ih2⟩ := flt_bw b r l (p + 1) (by omega)
    have hst : fltF b p (bwF (x :: l) ++ r) = if y.toNat < x.toNat ∨ x.toNat < y.toNat then some p else fltF b (p + 1) (bwF l ++ r) := by
      show fltF b p (⟨1, x.toNat, x.toNat⟩ :: (bwF l ++ r)) = _
      rw [fltF]
      simp only [hn]
    refine ⟨fun h => ?_, fun k hk h h2 => ?_⟩
    · have h0 := h 0 (by simp)
      rw [Nat.add_zero, hy] at h0
      simp at h0
      subst h0
      rw [hst, if_neg (by omega), ih1 (fun k hk => by have := h (k + 1) (by simpa using hk); rw [show p + 1 + k = p + (k + 1) by omega, this]; rfl), List.length_cons]
      congr 1
      omega
    · cases k with
      | zero =>
        rw [Nat.add_zero, hy] at h2
        simp at h2
        have hne : ¬ y.toNat = x.toNat := fun e => h2 (UInt8.toNat_inj.1 e)
        rw [hst, if_pos (by omega)]
        rfl
      | succ k =>
        have h0 := h 0 (by omega)
        rw [Nat.add_zero, hy] at h0
        simp at h0
        subst h0
        rw [hst, if_neg (by omega), ih2 k (by simpa using hk) (fun j hj => by have := h (j + 1) (by omega); rw [show p + 1 + j = p + (j + 1) by omega, this]; rfl) (by rw [show p + 1 + k = p + (k + 1) by omega]; simpa using h2)]
        congr 1
        omega
theorem hd_byte {b : List UInt8} {i : Nat} (h : i < 40 ∨ (48 ≤ i ∧ i < 60)) : hdN b i = decide (¬ b[i]? = hRl[i]?) := by
  unfold hdN
  rw [if_neg (by omega), if_neg (by omega), if_neg (by omega), if_neg (by omega)]
theorem hd_40 {b : List UInt8} (hl : b.length ≤ 1000000000000) : (hdN b 40 = true ↔ fB b 40 8 < (tsP b).1 ∨ (tsP b).2 < fB b 40 8) := by
  have hc : cntP b < 4294967296 := fB_lt b 60 2 (by omega)
  unfold hdN
  rw [if_pos rfl, decide_eq_true_iff]
  unfold tsP
  have ht : tpP b ≤ 1000000000000 := by unfold tpP; omega
  have hj : 0 ≤ tpP b → (jw (tpP b) : Int) = tpP b := fun h => by unfold jw; omega
  unfold atP
  by_cases hg : 64 ≤ tpP b ∧ tpP b % 8 = 0
  · rw [if_pos hg]
    have := hj (by omega)
    split
    · constructor
      · intro _; right; simp only; omega
      · intro _; left; omega
    · simp only; omega
  · rw [if_neg hg]
    simp only
    constructor
    · intro _; omega
    · intro _
      split
      · left; omega
      · by_cases h1 : (fB b 40 8 : Int) = tpP b
        · rw [h1]; omega
        · right; right; exact h1
theorem hd_tail (b : List UInt8) (r : List Fd) (f : Fd) (p : Nat) : fltF b p (f :: r) = if fB b p f.w < f.lo ∨ f.hi < fB b p f.w then some p else fltF b (p + f.w) r := rfl
theorem hd_dec {b : List UInt8} (hl : 64 ≤ b.length) (hm : b.length ≤ 1000000000000) : ((∀ i, i < 64 → hdN b i = false) → hdFlt b = none) ∧ ∀ i, i < 64 → (∀ k, k < i → hdN b k = false) → hdN b i = true → hdFlt b = some i := by
  have hA : hdA.length = 40 := by decide
  have hB : hdB.length = 12 := by decide
  have e0 : hdFlt b = fltF b 0 (bwF hdA ++ (⟨8, (tsP b).1, (tsP b).2⟩ :: (bwF hdB ++ [⟨2, 2, 18⟩, ⟨2, jw ((cntP b : Int) - 1), jw ((cntP b : Int) - 1)⟩]))) := by
    unfold hdFlt hfP headF
    simp
  obtain ⟨a1, a2⟩ := flt_bw b (⟨8, (tsP b).1, (tsP b).2⟩ :: (bwF hdB ++ [⟨2, 2, 18⟩, ⟨2, jw ((cntP b : Int) - 1), jw ((cntP b : Int) - 1)⟩])) hdA 0 (by omega)
  obtain ⟨b1, b2⟩ := flt_bw b [⟨2, 2, 18⟩, ⟨2, jw ((cntP b : Int) - 1), jw ((cntP b : Int) - 1)⟩] hdB 48 (by omega)
  have sA : ∀ i, i < 40 → (hdN b i = true ↔ ¬ b[0 + i]? = hdA[i]?) := fun i hi => by rw [hd_byte (.inl hi), decide_eq_true_iff, Nat.zero_add, hRl_A i hi]
  have sB : ∀ k, k < 12 → (hdN b (48 + k) = true ↔ ¬ b[48 + k]? = hdB[k]?) := fun k hk => by rw [hd_byte (.inr (by omega)), decide_eq_true_iff, hRl_B k hk]
  have h40 := hd_40 hm
  have s60 : hdN b 60 = true ↔ cntP b < 2 ∨ 18 < cntP b := by unfold hdN; rw [if_neg (by omega), if_pos rfl, decide_eq_true_iff]
  have s62 : hdN b 62 = true ↔ ¬ (fB b 62 2 : Int) = (cntP b : Int) - 1 := by unfold hdN; rw [if_neg (by omega), if_neg (by omega), if_pos rfl, decide_eq_true_iff]
  have sN : ∀ i, (40 < i ∧ i < 48) ∨ i = 61 ∨ i = 63 → hdN b i = false := fun i hi => by
    unfold hdN
    rw [if_neg (by omega), if_neg (by omega), if_neg (by omega), if_pos (by omega)]
  have fls : ∀ {x : Bool} {P : Prop}, (x = true ↔ ¬ P) → x = false → P := fun h hx => by
    rw [hx] at h
    simp at h
    exact h
  have fl2 : ∀ {x : Bool} {P : Prop}, (x = true ↔ P) → x = false → ¬ P := fun h hx => by
    rw [hx] at h
    simp at h
    exact h
  have c60 : fB b 60 2 = cntP b := rfl
  have z40 : (∀ k, k < 40 → hdN b k = false) → hdFlt b = fltF b 40 (⟨8, (tsP b).1, (tsP b).2⟩ :: (bwF hdB ++ [⟨2, 2, 18⟩, ⟨2, jw ((cntP b : Int) - 1), jw ((cntP b : Int) - 1)⟩])) := fun h => by
    rw [e0, a1 (fun k hk => fls (sA k (by omega)) (h k (by omega))), hA]
  have z48 : (∀ k, k < 41 → hdN b k = false) → hdFlt b = fltF b 48 (bwF hdB ++ [⟨2, 2, 18⟩, ⟨2, jw ((cntP b : Int) - 1), jw ((cntP b : Int) - 1)⟩]) := fun h => by
    rw [z40 (fun k hk => h k (by omega)), hd_tail, if_neg (fl2 h40 (h 40 (by omega)))]
    rfl
  have z60 : (∀ k, k < 60 → hdN b k = false) → hdFlt b = fltF b 60 [⟨2, 2, 18⟩, ⟨2, jw ((cntP b : Int) - 1), jw ((cntP b : Int) - 1)⟩] := fun h => by
    rw [z48 (fun k hk => h k (by omega)), b1 (fun k hk => fls (sB k (by omega)) (h (48 + k) (by omega))), hB]
  have z62 : (∀ k, k < 61 → hdN b k = false) → hdFlt b = fltF b 62 [⟨2, jw ((cntP b : Int) - 1), jw ((cntP b : Int) - 1)⟩] ∧ 2 ≤ cntP b ∧ cntP b ≤ 18 := fun h => by
    have := fl2 s60 (h 60 (by omega))
    refine ⟨?_, by omega, by omega⟩
    rw [z60 (fun k hk => h k (by omega)), hd_tail, if_neg (by rw [c60]; simp only; omega)]
    rfl
  have j62 : 2 ≤ cntP b → cntP b ≤ 18 → jw ((cntP b : Int) - 1) = cntP b - 1 := fun h1 h2 => by unfold jw; omega
  refine ⟨fun h => ?_, fun i hi h ht => ?_⟩
  · obtain ⟨e, h1, h2⟩ := z62 (fun k hk => h k (by omega))
    have := fls s62 (h 62 (by omega))
    rw [e, hd_tail, j62 h1 h2, if_neg (by simp only; omega)]
    rfl
  · by_cases c1 : i < 40
    · rw [e0, a2 i (by omega) (fun j hj => fls (sA j (by omega)) (h j hj)) ((sA i c1).1 ht), Nat.zero_add]
    · by_cases c2 : i = 40
      · subst c2
        rw [z40 h, hd_tail, if_pos (h40.1 ht)]
      · by_cases c3 : i < 48
        · rw [sN i (.inl (by omega))] at ht; cases ht
        · by_cases c4 : i < 60
          · obtain ⟨k, rfl⟩ : ∃ k, i = 48 + k := ⟨i - 48, by omega⟩
            rw [z48 (fun k hk => h k (by omega)), b2 k (by omega) (fun j hj => fls (sB j (by omega)) (h (48 + j) (by omega))) ((sB k (by omega)).1 ht)]
          · by_cases c5 : i = 60
            · subst c5
              have := s60.1 ht
              rw [z60 h, hd_tail, if_pos (by rw [c60]; exact this)]
            · by_cases c6 : i = 62
              · subst c6
                obtain ⟨e, h1, h2⟩ := z62 (fun k hk => h k (by omega))
                have := s62.1 ht
                rw [e, hd_tail, j62 h1 h2, if_pos (by simp only; omega)]
              · rw [sN i (by omega)] at ht; cases ht
end Go.Proofs.Ytlfcjbeldnkkoaa
