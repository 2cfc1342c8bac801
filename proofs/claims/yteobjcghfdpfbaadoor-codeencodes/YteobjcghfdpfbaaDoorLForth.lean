import Derived.Test.YteobjcghfdpfbaaDoorLBack
import Derived.Deep.RegionWith
namespace Go.Proofs.YteobjcghfdpfbaaDoor
open Go.RowKit
set_option linter.unusedVariables false
set_option linter.unusedSimpArgs false
theorem copyB' (w : World) (a : Option Addr) (n cap : Nat) (B : List Int) (hn : B.length = n) (hi : BytA w a B) (hm : n ≤ 3518437208883) : Calls Tryd.prog 28 #[.slice a n cap] w fun e w' => ∃ a1 c1, e = .returned (.slice a1 n c1) ∧ BytA w' a1 B ∧ n ≤ c1 ∧ Out w w' := by
  refine (copyB w a n cap B hn hi hm).mono ?_
  rintro e w' ⟨v, rfl, hown, ho⟩
  obtain ⟨a1, c1, rfl, hA, hc⟩ := owns_bytA hown
  rw [hn] at hc ⊢
  exact ⟨a1, c1, rfl, hA, hc, ho⟩
theorem decode_of (w : World) (ht : Tabs w) (a : Option Addr) (len cap : Nat) (B : List Int) (hlen : B.length = len) (hB : Byts B) (hA : BytA w a B) (hll : len ≤ 10000000) (hcap : len ≤ cap) (l0 : List Ins) (k0 f0 : Int) (hd : DecIs may B l0 k0 f0) :
    Calls Tryd.prog 21 #[.slice a len cap] w fun e w' => ∃ a1 c1, e = .returned (.tuple #[.slice a1 l0.length c1, .int .i64 k0, .int .i64 f0]) ∧ InsA w' a1 l0 ∧ Out w w' := by
  refine (decode_any w ht a len cap B hlen hB hA (by omega) hcap (dec_small B hB (by omega))).mono ?_
  rintro e w' ⟨v, l, k, f, rfl, hdec, hown, ho⟩
  obtain ⟨rfl, rfl, rfl⟩ := hdec.one hd
  obtain ⟨a1, c1, rfl, hA1, _⟩ := owns_insA hown
  exact ⟨a1, c1, rfl, hA1, ho⟩
theorem dec_ex (B : List Int) (hB : Byts B) : ∃ l k f, DecIs may B l k f := by
  have key : ∀ n, (∃ m, m ≤ n ∧ Stuck may B m) ∨ (8 * n ≤ (decN may B n).2) := by
    intro n
    induction n with
    | zero => exact .inr (by simp [decN])
    | succ n ih =>
      rcases ih with ⟨m, hm, h⟩ | h
      · exact .inl ⟨m, by omega, h⟩
      · by_cases hs : Stuck may B n
        · exact .inl ⟨n, by omega, hs⟩
        · right
          have hs' : (decN may B n).2 < B.length ∧ errD may (B.drop (decN may B n).2) = 0 := Classical.not_not.1 hs
          have e : decN may B (n + 1) = ((decN may B n).1 ++ [insD (B.drop (decN may B n).2)], (decN may B n).2 + sizeD (B.drop (decN may B n).2)) := if_pos hs'
          rw [e]
          have := sizeD_pos (B.drop (decN may B n).2)
          simp only; omega
  obtain ⟨m, hs⟩ : ∃ m, Stuck may B m := by
    rcases key (B.length + 1) with ⟨m, _, h⟩ | h
    · exact ⟨m, h⟩
    · have := (decN_inv may B hB (B.length + 1)).1
      omega
  have hle := (decN_inv may B hB m).1
  by_cases he : (decN may B m).2 = B.length
  · exact ⟨_, 0, 0, m, hs, .inl ⟨rfl, he, rfl, rfl⟩⟩
  · refine ⟨[], ((decN may B m).2 / 8 : Nat), errD may (B.drop (decN may B m).2), m, hs, .inr ⟨rfl, by omega, by simp, rfl, fun h => hs ⟨by omega, h⟩⟩⟩
theorem bytA_take {w : World} {a : Option Addr} {B : List Int} (h : BytA w a B) (m : Nat) : BytA w a (B.take m) := by
  rcases h with rfl | ⟨b, off, rfl, h⟩
  · exact .inl (by simp)
  · refine .inr ⟨b, off, rfl, fun k hk => ?_⟩
    simp at hk
    rw [gB_take _ _ _ (by omega)]; exact h k (by omega)
theorem sx_rng (v : Int) (h0 : 0 ≤ v) (h1 : v < 4294967296) : -2147483648 ≤ sx 2147483648 v ∧ sx 2147483648 v ≤ 2147483647 := by unfold sx; split <;> omega
theorem insD_rng (B : List Int) (hB : Byts B) : -9223372036854775808 ≤ (insD B).i ∧ (insD B).i ≤ 9223372036854775807 := by
  have h4 := u32_bd hB 4
  have h12 := u32_bd hB 12
  have r4 := sx_rng (u32 B 4) h4.1 h4.2
  have r12 := sx_rng (u32 B 12) h12.1 h12.2
  unfold insD
  split
  · show -9223372036854775808 ≤ u32 B 4 + 4294967296 * sx 2147483648 (u32 B 12) ∧ u32 B 4 + 4294967296 * sx 2147483648 (u32 B 12) ≤ 9223372036854775807
    omega
  · show -9223372036854775808 ≤ sx 2147483648 (u32 B 4) ∧ sx 2147483648 (u32 B 4) ≤ 9223372036854775807
    omega
theorem decN_rng (B : List Int) (hB : Byts B) : ∀ n, ∀ x ∈ (decN may B n).1, -9223372036854775808 ≤ x.i ∧ x.i ≤ 9223372036854775807
  | 0, x, hx => by simp [decN] at hx
  | n + 1, x, hx => by
    by_cases h : (decN may B n).2 < B.length ∧ errD may (B.drop (decN may B n).2) = 0
    · have e : decN may B (n + 1) = ((decN may B n).1 ++ [insD (B.drop (decN may B n).2)], (decN may B n).2 + sizeD (B.drop (decN may B n).2)) := if_pos h
      rw [e] at hx
      simp only [List.mem_append, List.mem_singleton] at hx
      rcases hx with hx | rfl
      · exact decN_rng B hB n x hx
      · exact insD_rng _ (hB.drop _)
    · have e : decN may B (n + 1) = decN may B n := if_neg h
      rw [e] at hx; exact decN_rng B hB n x hx
theorem dec_rng (B : List Int) (hB : Byts B) (l : List Ins) (k f : Int) (h : DecIs may B l k f) : ∀ x ∈ l, -9223372036854775808 ≤ x.i ∧ x.i ≤ 9223372036854775807 := by
  obtain ⟨n, _, ⟨rfl, _⟩ | ⟨rfl, _⟩⟩ := h
  · exact decN_rng B hB n
  · intro x hx; cases hx
theorem encode_of (w : World) (ht : Tabs w) (a : Option Addr) (n cap : Nat) (l : List Ins) (hn : l.length = n) (hi : InsA w a l) (hm : n ≤ 3518437208883) (hI : ∀ x ∈ l, -9223372036854775808 ≤ x.i ∧ x.i ≤ 9223372036854775807) (hall : ∀ x ∈ l, may x = 0) (N : Nat) (hN : (encL l).length = N) :
    Calls Tryd.prog 12 #[.slice a n cap] w fun e w' => ∃ g, e = .returned (.tuple #[.slice (some ⟨g, 0, none⟩) N N, .int .i64 0, .int .i64 0]) ∧ BytA w' (some ⟨g, 0, none⟩) (encL l) ∧ Out w w' := by
  refine (encode_any w ht a n cap l hn hi hm hI).mono ?_
  rintro e w' ⟨v, k, f, rfl, henc, ho⟩
  obtain ⟨rfl, rfl, hown, g, hg, rfl⟩ := enc_ok henc hall
  obtain ⟨a2, c2, e1, e2, _⟩ := owns_bytA hown
  cases e1
  rw [hN]
  exact ⟨g, rfl, e2, ho⟩
theorem encode_not (w : World) (ht : Tabs w) (a : Option Addr) (n cap : Nat) (l : List Ins) (hn : l.length = n) (hi : InsA w a l) (hm : n ≤ 3518437208883) (hI : ∀ x ∈ l, -9223372036854775808 ≤ x.i ∧ x.i ≤ 9223372036854775807) (p M : Int) (hr : RefIs l p M) (hM : M ≠ 0) :
    Calls Tryd.prog 12 #[.slice a n cap] w fun e w' => e = .returned (.tuple #[.slice none 0 0, .int .i64 p, .int .i64 M]) ∧ Out w w' := by
  refine (encode_any w ht a n cap l hn hi hm hI).mono ?_
  rintro e w' ⟨v, k, f, rfl, henc, ho⟩
  obtain ⟨rfl, rfl, rfl⟩ := enc_no henc hr hM
  exact ⟨rfl, ho⟩
theorem forth_ok (w : World) (ht : Tabs w) (a : Option Addr) (n cap : Nat) (B : List Int) (cut : Int) (hn : B.length = n) (hi : BytA w a B) (hB : Byts B) (hm : n ≤ 10000000) (hcap : n ≤ cap) (l : List Ins) (k : Int) (hd : DecIs may B l k 0) :
    Calls Tryd.prog 6 #[.slice a n cap, .int .i64 cut] w fun e w' => e = .returned (.bool true) ∧ Out w w' := by
  obtain ⟨rfl, henc, hall⟩ := dec_forth may B hB l k hd
  have hlen : l.length ≤ n := by
    have h1 : (encL l).length = n := by rw [henc]; exact hn
    rw [encL_len] at h1
    have : l.length ≤ slotsP l := by simp [slotsP]
    omega
  have hrng : ∀ x ∈ l, -9223372036854775808 ≤ x.i ∧ x.i ≤ 9223372036854775807 := dec_rng B hB l 0 0 hd
  have Ht := hidOf ht
  have Hi := hidOf hi
  have Hn := hidOf hn
  have HB := hidOf hB
  have Hd := hidOf hd
  have Henc := hidOf henc
  have Hall := hidOf hall
  have Hrng := hidOf hrng
  clear ht hi hn hB hd henc hall hrng
  go_enter Tryd.func6, Tryd.ntmps6
  go_wp2_with (first | (go_at_call 8; refine (awake_any _ Ht.out).mono ?_; rintro e w1 ⟨rfl, ho1⟩; have Ho1 := hidOf ho1; clear ho1) | (go_at_call 28; refine (copyB' _ a n cap B Hn.out (Hi.out.out Ho1.out) (by omega)).mono ?_; rintro e w2 ⟨a2, c2, rfl, hA2, hc2, ho2⟩; have Ho2 := hidOf (Out.trans Ho1.out ho2); have HA2 := hidOf hA2; clear ho2 hA2) | (go_at_call 21; refine (decode_of _ (Ht.out.out Ho2.out) a2 n c2 B Hn.out HB.out HA2.out hm hc2 l 0 0 Hd.out).mono ?_; rintro e w3 ⟨a3, c3, rfl, hA3, ho3⟩; have Ho3 := hidOf (Out.trans Ho2.out ho3); have HA3 := hidOf hA3; clear ho3 hA3) | (go_at_call 13; refine (num_any _ _).mono ?_; rintro e w5 ⟨rfl, rfl⟩) | (go_at_call 12; refine (encode_of _ (Ht.out.out Ho3.out) a3 l.length c3 l rfl HA3.out (by omega) Hrng.out Hall.out n (by rw [Henc.out]; exact Hn.out)).mono ?_; rintro e w4 ⟨g, rfl, hA4, ho4⟩; have Ho4 := hidOf (Out.trans Ho3.out ho4); have HA4 := hidOf hA4; rw [Henc.out] at HA4; clear hA4 ho4) | (go_at_call 14; refine (sameB _ _ a n _ cap B Hn.out HA4.out (Hi.out.out Ho4.out)).mono ?_; rintro e w5 ⟨rfl, rfl⟩))
  go_ret
  exact ⟨rfl, Ho4.out⟩
theorem and_bd (x : Int) : 0 ≤ bits .and .i64 x 65535 ∧ bits .and .i64 x 65535 ≤ 65535 := by
  have h : bits .and .i64 x 65535 = IntKind.i64.wrap (((BitVec.ofInt 64 x &&& BitVec.ofInt 64 65535).toNat : Nat) : Int) := rfl
  have h2 : (BitVec.ofInt 64 x &&& BitVec.ofInt 64 65535).toNat ≤ 65535 := by
    rw [BitVec.toNat_and]
    exact Nat.le_trans Nat.and_le_right (by decide)
  rw [h, IntKind.wrap_i64]
  omega
theorem forth_bad (w : World) (ht : Tabs w) (a : Option Addr) (n cap : Nat) (B : List Int) (cut : Int) (hn : B.length = n) (hi : BytA w a B) (hB : Byts B) (hm : n ≤ 10000000) (hcap : n ≤ cap) (l : List Ins) (k f : Int) (hd : DecIs may B l k f) (hf : f ≠ 0) :
    Calls Tryd.prog 6 #[.slice a n cap, .int .i64 cut] w fun e w' => e = .returned (.bool true) ∧ Out w w' := by
  obtain ⟨rfl, q, rfl, hq, ⟨hf0, hf1⟩, ⟨l2, hd2⟩, hd3⟩ := dec_refused may B hB l k f hd hf
  rw [hn] at hq hd3
  rcases hi with hz | ⟨b, off, rfl, hc⟩
  · simp [hz] at hn; omega
  have hi : BytA w (some ⟨b, off, none⟩) B := .inr ⟨b, off, rfl, hc⟩
  have Ht := hidOf ht
  have Hi := hidOf hi
  have Hn := hidOf hn
  have HB := hidOf hB
  have Hd := hidOf hd
  have Hd2 := hidOf hd2
  have Hd3 := hidOf hd3
  clear ht hi hn hB hd hc hd2 hd3
  have hne : (f == 0) = false := by simpa using hf
  have hc0 : ¬ cap = 0 := by omega
  have hb1 := and_bd cut
  have hb2 := hb1.1
  have hb3 := hb1.2
  clear hb1
  generalize hC : bits BinOp.and IntKind.i64 cut 65535 = C at *
  have hq1 : (8 : Int) * q < n := by omega
  have hq2 : (8 : Int) * q ≤ n := by omega
  have hq3 : (8 : Int) * q ≤ cap := by omega
  have hq0 : (0 : Int) ≤ 8 * q := by omega
  have hn1 : (n : Int) ≤ 10000000 := by omega
  go_enter Tryd.func6, Tryd.ntmps6
  go_upto_region 12 with (first | (go_at_call 8; refine (awake_any _ Ht.out).mono ?_; rintro e w1 ⟨rfl, ho1⟩; have Ho1 := hidOf ho1; clear ho1) | (go_at_call_of 28 n; refine (copyB' _ _ n cap B Hn.out (Hi.out.out Ho1.out) (by omega)).mono ?_; rintro e w2 ⟨a2, c2, rfl, hA2, hc2, ho2⟩; have Ho2 := hidOf (Out.trans Ho1.out ho2); have HA2 := hidOf hA2; clear ho2 hA2) | (go_at_call_of 21 n; refine (decode_of _ (Ht.out.out Ho2.out) a2 n c2 B Hn.out HB.out HA2.out hm hc2 [] q f Hd.out).mono ?_; rintro e w3 ⟨a3, c3, rfl, hA3, ho3⟩; have Ho3 := hidOf (Out.trans Ho2.out ho3); clear ho3 hA3) | (go_at_call 13; refine (num_any _ _).mono ?_; rintro e w5 ⟨rfl, rfl⟩) | (go_at_call 28; go_loud (refine (copyB' _ _ (8 * q) cap (B.take (8 * q)) (by rw [List.length_take, Hn.out]; omega) (bytA_take (Hi.out.out Ho3.out) _) (by omega)).mono ?_); rintro e w4 ⟨a4, c4, rfl, hA4, hc4, ho4⟩; have Ho4 := hidOf (Out.trans Ho3.out ho4); have HA4 := hidOf hA4; clear ho4 hA4) | (go_at_call 21; go_loud (refine (decode_of _ (Ht.out.out Ho4.out) a4 (8 * q) c4 (B.take (8 * q)) (by rw [List.length_take, Hn.out]; omega) (HB.out.take _) HA4.out (by omega) hc4 l2 0 0 Hd2.out).mono ?_); rintro e w6 ⟨a6, c6, rfl, hA6, ho6⟩; have Ho6 := hidOf (Out.trans Ho4.out ho6); clear ho6 hA6))
  go_upto_region 13 with fail
  obtain ⟨m, hm1, hm2, hm3⟩ : ∃ m : Nat, 8 * q < m ∧ m ≤ n + 1 ∧ wrap64 (8 * (q : Int) + 1 + C % ((n : Int) - 8 * (q : Int) + 1)) = m := by
    have e1 : 0 ≤ C % ((n : Int) - 8 * (q : Int) + 1) := Int.emod_nonneg _ (by omega)
    have e2 : C % ((n : Int) - 8 * (q : Int) + 1) < (n : Int) - 8 * (q : Int) + 1 := Int.emod_lt_of_pos _ (by omega)
    generalize C % ((n : Int) - 8 * (q : Int) + 1) = D at *
    refine ⟨(8 * (q : Int) + 1 + D).toNat, by omega, by omega, ?_⟩
    have : wrap64 (8 * (q : Int) + 1 + D) = 8 * (q : Int) + 1 + D := by unfold wrap64; omega
    omega
  rw [hm3]
  clear hm3 hC hb2 hb3
  by_cases hmn : m ≤ n
  · have h1 : ¬ (m : Int) > n := by omega
    have h2 : (0 : Int) ≤ m := by omega
    have h3 : (m : Int) ≤ cap := by omega
    obtain ⟨e', he', Hd4⟩ : ∃ e', e' ≠ 0 ∧ Hid (DecIs may (B.take m) [] q e') := Hd3.out m hm1 hmn
    have hne' : (e' != 0) = true := by simpa using he'
    go_wp2_with (first | (go_at_call 28; go_loud (refine (copyB' _ _ m cap (B.take m) (by rw [List.length_take, Hn.out]; omega) (bytA_take (Hi.out.out Ho6.out) _) (by omega)).mono ?_); rintro e w7 ⟨a7, c7, rfl, hA7, hc7, ho7⟩; have Ho7 := hidOf (Out.trans Ho6.out ho7); have HA7 := hidOf hA7; clear ho7 hA7) | (go_at_call 21; go_loud (refine (decode_of _ (Ht.out.out Ho7.out) a7 m c7 (B.take m) (by rw [List.length_take, Hn.out]; omega) (HB.out.take _) HA7.out (by omega) hc7 [] q e' Hd4.out).mono ?_); rintro e w8 ⟨a8, c8, rfl, hA8, ho8⟩; have Ho8 := hidOf (Out.trans Ho7.out ho8); clear ho8 hA8) | (go_at_call 13; refine (num_any _ _).mono ?_; rintro e w5 ⟨rfl, rfl⟩))
    go_ret
    exact ⟨rfl, Ho8.out⟩
  · have h1 : (m : Int) > n := by omega
    go_wp2
    go_ret
    exact ⟨rfl, Ho6.out⟩
theorem codeForth_walk (w : World) (ht : Tabs w) (a : Option Addr) (n cap : Nat) (B : List Int) (cut : Int) (hn : B.length = n) (hi : BytA w a B) (hB : Byts B) (hm : n ≤ 10000000) (hcap : n ≤ cap) :
    Calls Tryd.prog 6 #[.slice a n cap, .int .i64 cut] w fun e w' => e = .returned (.bool true) ∧ Out w w' := by
  obtain ⟨l, k, f, hd⟩ := dec_ex B hB
  by_cases hf : f = 0
  · subst hf; exact forth_ok w ht a n cap B cut hn hi hB hm hcap l k hd
  · exact forth_bad w ht a n cap B cut hn hi hB hm hcap l k f hd hf
end Go.Proofs.YteobjcghfdpfbaaDoor
