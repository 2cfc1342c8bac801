import Derived.Test.YtlhcjcoimlgciaaDoorAz
namespace Go.Proofs.YtlhcjcoimlgciaaDoor
open Go.RowKit
set_option linter.unusedVariables false
set_option linter.unusedSimpArgs false
theorem ref_left {a c : List Ins} {p M : Int} (h : RefIs a p M) (hM : M ≠ 0) : RefIs (a ++ c) p M := by
  rcases h with ⟨_, _, h⟩ | ⟨q, x, rfl, h1, h2, h3, h4⟩
  · exact absurd h hM
  · have hq : q < a.length := (List.getElem?_eq_some_iff.1 h1).1
    refine .inr ⟨q, x, rfl, by rw [List.getElem?_append_left hq]; exact h1, h2, h3, fun j y hj hy => h4 j y hj ?_⟩
    rw [List.getElem?_append_left (by omega)] at hy; exact hy
theorem ref_right {a c : List Ins} {p : Nat} {M : Int} (ha : ∀ x ∈ a, may x = 0) (h : RefIs c p M) (hM : M ≠ 0) : RefIs (a ++ c) ((a.length + p : Nat) : Int) M := by
  rcases h with ⟨_, _, h⟩ | ⟨q, x, hq, h1, h2, h3, h4⟩
  · exact absurd h hM
  · obtain rfl : p = q := by omega
    refine .inr ⟨a.length + p, x, rfl, by rw [List.getElem?_append_right (by omega)]; simpa using h1, h2, h3, fun j y hj hy => ?_⟩
    by_cases hja : j < a.length
    · rw [List.getElem?_append_left hja] at hy; exact ha y (List.mem_of_getElem? hy)
    · rw [List.getElem?_append_right (by omega)] at hy; exact h4 (j - a.length) y (by omega) hy
theorem copyIo (w : World) (a : Option Addr) (n cap : Nat) (l : List Ins) (hn : l.length = n) (hi : InsA w a l) (hm : n ≤ 3518437208883) : Calls Tryd.prog 25 #[.slice a n cap] w fun e w' => ∃ a1 c1, e = .returned (.slice a1 n c1) ∧ InsA w' a1 l ∧ w'.ownsRow w.heap.size 55 5 (.slice a1 n c1) l.length (insV l) ∧ Out w w' := by
  refine (copyI w a n cap l hn hi hm).mono ?_
  rintro e w' ⟨v, rfl, hown, ho⟩
  obtain ⟨a1, c1, rfl, hA, _⟩ := owns_insA hown
  subst hn
  exact ⟨a1, c1, rfl, hA, hown, ho⟩
/-- what all three ways share: the two lists -/
structure Two (w : World) (a0 a1 : Option Addr) (n0 n1 : Nat) (l0 l1 : List Ins) : Prop where
  t : Tabs w
  h0 : l0.length = n0
  h1 : l1.length = n1
  i0 : InsA w a0 l0
  i1 : InsA w a1 l1
  r0 : ∀ x ∈ l0, -9223372036854775808 ≤ x.i ∧ x.i ≤ 9223372036854775807
  r1 : ∀ x ∈ l1, -9223372036854775808 ≤ x.i ∧ x.i ≤ 9223372036854775807
theorem Two.rng {w : World} {a0 a1 : Option Addr} {n0 n1 : Nat} {l0 l1 : List Ins} (h : Two w a0 a1 n0 n1 l0 l1) : ∀ x ∈ l0 ++ l1, -9223372036854775808 ≤ x.i ∧ x.i ≤ 9223372036854775807 := by
  intro x hx
  rcases List.mem_append.1 hx with hx | hx
  · exact h.r0 x hx
  · exact h.r1 x hx
theorem encode_some (w : World) (ht : Tabs w) (a : Option Addr) (n cap : Nat) (l : List Ins) (hn : l.length = n) (hi : InsA w a l) (hm : n ≤ 3518437208883) (hI : ∀ x ∈ l, -9223372036854775808 ≤ x.i ∧ x.i ≤ 9223372036854775807) :
    Calls Tryd.prog 12 #[.slice a n cap] w fun e w' => ∃ v k f, e = .returned (.tuple #[v, .int .i64 k, .int .i64 f]) ∧ Out w w' := by
  refine (encode_any w ht a n cap l hn hi hm hI).mono ?_
  rintro e w' ⟨v, k, f, rfl, henc, ho⟩
  exact ⟨v, k, f, rfl, ho⟩
theorem joins_first (w : World) (a0 a1 : Option Addr) (n0 n1 c0 c1 : Nat) (l0 l1 : List Ins) (rest : Int) (H : Two w a0 a1 n0 n1 l0 l1) (hm : n0 + n1 ≤ 10000000) (p M : Int) (hr : RefIs l0 p M) (hM : M ≠ 0) :
    Calls Tryd.prog 7 #[.slice a0 n0 c0, .slice a1 n1 c1, .int .i64 rest] w fun e w' => e = .returned (.bool true) ∧ Out w w' := by
  have HH := hidOf H
  have Hr := hidOf hr
  have Hr2 := hidOf (ref_left (c := l1) hr hM)
  clear H hr
  have hM0 : (M != 0) = true := by simpa using hM
  go_enter Tryd.func7, Tryd.ntmps7
  go_upto_region 4 with (first | (go_at_call 8; refine (awake_any _ HH.out.t).mono ?_; rintro e w1 ⟨rfl, ho1⟩; have Ho1 := hidOf ho1; clear ho1) | (go_at_call 25; refine (copyI' _ a0 n0 c0 l0 HH.out.h0 (HH.out.i0.out Ho1.out) (by omega)).mono ?_; rintro e w2 ⟨a2, c2, rfl, hA2, ho2⟩; have Ho2 := hidOf (Out.trans Ho1.out ho2); have HA2 := hidOf hA2; clear ho2 hA2) | (go_at_call 12; refine (encode_not _ (HH.out.t.out Ho2.out) a2 n0 c2 l0 HH.out.h0 HA2.out (by omega) HH.out.r0 p M Hr.out hM).mono ?_; rintro e w3 ⟨rfl, ho3⟩; have Ho3 := hidOf (Out.trans Ho2.out ho3); clear ho3))
  go_upto_region 5 with (first | (go_at_call 25; refine (copyI' _ a1 n1 c1 l1 HH.out.h1 (HH.out.i1.out Ho3.out) (by omega)).mono ?_; rintro e w4 ⟨a4, c4, rfl, hA4, ho4⟩; have Ho4 := hidOf (Out.trans Ho3.out ho4); have HA4 := hidOf hA4; clear ho4 hA4) | (go_at_call 12; refine (encode_some _ (HH.out.t.out Ho4.out) a4 n1 c4 l1 HH.out.h1 HA4.out (by omega) HH.out.r1).mono ?_; rintro e w5 ⟨v5, k5, f5, rfl, ho5⟩; have Ho5 := hidOf (Out.trans Ho4.out ho5); clear ho5))
  go_wp2_with (first | (go_at_call 25; refine (copyIo _ a0 n0 c0 l0 HH.out.h0 (HH.out.i0.out Ho5.out) (by omega)).mono ?_; rintro e w6 ⟨a6, c6, rfl, hA6, hown6, ho6⟩; have Ho6 := hidOf (Out.trans Ho5.out ho6); have Ho6' := hidOf ho6; have Hown6 := hidOf hown6; clear ho6 hA6 hown6) | (at_builtin; go_loud (refine wpList_append_insA (by rfl) (.tmp 41) (.tmp 42) rfl _ _ l0 rfl Hown6.out a1 n1 c1 l1 rfl HH.out.h1 (HH.out.i1.out Ho6.out) (by have := HH.out.h0; omega) Ho6'.out.size ?_); intro a7 c7 w7 hA7 hc7 hown7 hg7; have Ho7 := hidOf (Out.trans Ho5.out (out_grow (wr := w) rfl Hown6.out Ho6'.out hg7)); have HA7 := hidOf hA7; clear hA7 hown7 hg7) | (go_at_call 12; go_loud (refine (encode_not _ (HH.out.t.out Ho7.out) a7 _ c7 (l0 ++ l1) (by rw [List.length_append, HH.out.h1]) HA7.out (by have := HH.out.h0; omega) HH.out.rng p M Hr2.out hM).mono ?_); rintro e w8 ⟨rfl, ho8⟩; have Ho8 := hidOf (Out.trans Ho7.out ho8); clear ho8) | (go_at_call 13; refine (num_any _ _).mono ?_; rintro e w9 ⟨rfl, rfl⟩))
  go_ret
  exact ⟨rfl, Ho8.out⟩
theorem joins_second (w : World) (a0 a1 : Option Addr) (n0 n1 c0 c1 : Nat) (l0 l1 : List Ins) (rest : Int) (H : Two w a0 a1 n0 n1 l0 l1) (hm : n0 + n1 ≤ 10000000) (ha : ∀ x ∈ l0, may x = 0) (p : Nat) (M : Int) (hr : RefIs l1 p M) (hM : M ≠ 0) :
    Calls Tryd.prog 7 #[.slice a0 n0 c0, .slice a1 n1 c1, .int .i64 rest] w fun e w' => e = .returned (.bool true) ∧ Out w w' := by
  have HH := hidOf H
  have Hr := hidOf hr
  have Hr2 := hidOf (ref_right ha hr hM)
  rw [H.h0] at Hr2
  have Ha := hidOf ha
  clear H hr ha
  have hM0 : (M != 0) = true := by simpa using hM
  go_enter Tryd.func7, Tryd.ntmps7
  go_upto_region 4 with (first | (go_at_call 8; refine (awake_any _ HH.out.t).mono ?_; rintro e w1 ⟨rfl, ho1⟩; have Ho1 := hidOf ho1; clear ho1) | (go_at_call 25; refine (copyI' _ a0 n0 c0 l0 HH.out.h0 (HH.out.i0.out Ho1.out) (by omega)).mono ?_; rintro e w2 ⟨a2, c2, rfl, hA2, ho2⟩; have Ho2 := hidOf (Out.trans Ho1.out ho2); have HA2 := hidOf hA2; clear ho2 hA2) | (go_at_call 12; refine (encode_of _ (HH.out.t.out Ho2.out) a2 n0 c2 l0 HH.out.h0 HA2.out (by omega) HH.out.r0 Ha.out _ rfl).mono ?_; rintro e w3 ⟨g3, rfl, _, ho3⟩; have Ho3 := hidOf (Out.trans Ho2.out ho3); clear ho3))
  go_upto_region 5 with (first | (go_at_call 25; refine (copyI' _ a1 n1 c1 l1 HH.out.h1 (HH.out.i1.out Ho3.out) (by omega)).mono ?_; rintro e w4 ⟨a4, c4, rfl, hA4, ho4⟩; have Ho4 := hidOf (Out.trans Ho3.out ho4); have HA4 := hidOf hA4; clear ho4 hA4) | (go_at_call 12; refine (encode_not _ (HH.out.t.out Ho4.out) a4 n1 c4 l1 HH.out.h1 HA4.out (by omega) HH.out.r1 p M Hr.out hM).mono ?_; rintro e w5 ⟨rfl, ho5⟩; have Ho5 := hidOf (Out.trans Ho4.out ho5); clear ho5))
  go_wp2_with (first | (go_at_call 25; refine (copyIo _ a0 n0 c0 l0 HH.out.h0 (HH.out.i0.out Ho5.out) (by omega)).mono ?_; rintro e w6 ⟨a6, c6, rfl, hA6, hown6, ho6⟩; have Ho6 := hidOf (Out.trans Ho5.out ho6); have Ho6' := hidOf ho6; have Hown6 := hidOf hown6; clear ho6 hA6 hown6) | (at_builtin; go_loud (refine wpList_append_insA (by rfl) (.tmp 41) (.tmp 42) rfl _ _ l0 rfl Hown6.out a1 n1 c1 l1 rfl HH.out.h1 (HH.out.i1.out Ho6.out) (by have := HH.out.h0; omega) Ho6'.out.size ?_); intro a7 c7 w7 hA7 hc7 hown7 hg7; have Ho7 := hidOf (Out.trans Ho5.out (out_grow (wr := w) rfl Hown6.out Ho6'.out hg7)); have HA7 := hidOf hA7; clear hA7 hown7 hg7) | (go_at_call 12; go_loud (refine (encode_not _ (HH.out.t.out Ho7.out) a7 _ c7 (l0 ++ l1) (by rw [List.length_append, HH.out.h1]) HA7.out (by have := HH.out.h0; omega) HH.out.rng _ M Hr2.out hM).mono ?_); rintro e w8 ⟨rfl, ho8⟩; have Ho8 := hidOf (Out.trans Ho7.out ho8); clear ho8) | (go_at_call 13; refine (num_any _ _).mono ?_; rintro e w9 ⟨rfl, rfl⟩))
  go_ret
  exact ⟨rfl, Ho8.out⟩
theorem copyBo (w : World) (a : Option Addr) (n cap : Nat) (B : List Int) (hn : B.length = n) (hi : BytA w a B) (hm : n ≤ 3518437208883) : Calls Tryd.prog 28 #[.slice a n cap] w fun e w' => ∃ a1 c1, e = .returned (.slice a1 n c1) ∧ BytA w' a1 B ∧ n ≤ c1 ∧ w'.ownsRow w.heap.size 5 1 (.slice a1 n c1) n (bV B) ∧ Out w w' := by
  refine (copyB w a n cap B hn hi hm).mono ?_
  rintro e w' ⟨v, rfl, hown, ho⟩
  obtain ⟨a1, c1, rfl, hA, hc⟩ := owns_bytA hown
  subst hn
  exact ⟨a1, c1, rfl, hA, hc, hown, ho⟩
theorem bytA_cells {w : World} {b off : Nat} {B : List Int} (h : BytA w (some ⟨b, off, none⟩) B) : ∀ j u, (bV B)[j]? = some u → w.cell? ((⟨b, off, none⟩ : Addr).add j) = some u := by
  intro j u hu
  obtain ⟨hj, rfl⟩ := bV_get hu
  rcases h with rfl | ⟨b', off', h, hc⟩
  · simp at hj
  · cases h
    rw [WideShapes.add_plain]; exact hc j hj
theorem decode_of' (w : World) (ht : Tabs w) (a : Option Addr) (len cap : Nat) (B : List Int) (hlen : B.length = len) (hB : Byts B) (hA : BytA w a B) (hll : len ≤ 28147497671064) (hcap : len ≤ cap) (l0 : List Ins) (k0 f0 : Int) (hd : DecIs may B l0 k0 f0) :
    Calls Tryd.prog 21 #[.slice a len cap] w fun e w' => ∃ a1 c1, e = .returned (.tuple #[.slice a1 l0.length c1, .int .i64 k0, .int .i64 f0]) ∧ InsA w' a1 l0 ∧ Out w w' := by
  refine (decode_any w ht a len cap B hlen hB hA (by omega) hcap (dec_small B hB (by omega))).mono ?_
  rintro e w' ⟨v, l, k, f, rfl, hdec, hown, ho⟩
  obtain ⟨rfl, rfl, rfl⟩ := hdec.one hd
  obtain ⟨a1, c1, rfl, hA1, _⟩ := owns_insA hown
  exact ⟨a1, c1, rfl, hA1, ho⟩
theorem zeros_bytA {w : World} {base M k : Nat} {v : Value} {E : List Int} (h : w.ownsRow base 5 1 v (M + k) (bV E ++ List.replicate k (.int .u8 0))) (hz : (E ++ List.replicate k 0).length = M + k) : ∃ a c, v = .slice a (M + k) c ∧ BytA w a (E ++ List.replicate k 0) ∧ M + k ≤ c := by
  rw [show bV E ++ List.replicate k (.int .u8 0) = bV (E ++ List.replicate k 0) from by simp [bV]] at h
  rw [← hz] at h ⊢
  exact owns_bytA h
theorem joins_both (w : World) (a0 a1 : Option Addr) (n0 n1 c0 c1 : Nat) (l0 l1 : List Ins) (rest : Int) (H : Two w a0 a1 n0 n1 l0 l1) (hm : n0 + n1 ≤ 10000000) (ha : ∀ x ∈ l0, may x = 0) (hc : ∀ x ∈ l1, may x = 0) :
    Calls Tryd.prog 7 #[.slice a0 n0 c0, .slice a1 n1 c1, .int .i64 rest] w fun e w' => e = .returned (.bool true) ∧ Out w w' := by
  obtain ⟨i8, hi8, hz0, hz1, hz2⟩ := info_parts info8
  have HH := hidOf H
  have Ha := hidOf ha
  have Hc := hidOf hc
  have Hac : Hid (∀ x ∈ l0 ++ l1, may x = 0) := fun x hx => by
    rcases List.mem_append.1 hx with hx | hx
    · exact ha x hx
    · exact hc x hx
  have Hfit : Hid (∀ x ∈ l0 ++ l1, Fit x ∧ may x = 0) := fun x hx => ⟨may_fit x (Hac.out x hx) (H.rng x hx).1 (H.rng x hx).2, Hac.out x hx⟩
  have s0 := slots_le l0
  have s1 := slots_le l1
  obtain ⟨N0, HN0⟩ : ∃ N0, Hid ((encL l0).length = N0) := ⟨_, hidOf rfl⟩
  obtain ⟨N1, HN1⟩ : ∃ N1, Hid ((encL l1).length = N1) := ⟨_, hidOf rfl⟩
  have hN0 : N0 ≤ 16 * n0 := by have := HN0.out; rw [encL_len] at this; have := H.h0; omega
  have hN1 : N1 ≤ 16 * n1 := by have := HN1.out; rw [encL_len] at this; have := H.h1; omega
  have HN : Hid ((encL (l0 ++ l1)).length = N0 + N1) := by show _ = _; rw [encL_append, List.length_append, HN0.out, HN1.out]
  clear H ha hc s0 s1
  have hb1 := and_bd rest
  have hb2 := hb1.1
  have hb3 := hb1.2
  clear hb1
  generalize hC : bits BinOp.and IntKind.i64 rest 65535 = C at *
  go_enter Tryd.func7, Tryd.ntmps7
  go_upto_region 4 with (first | (go_at_call 8; refine (awake_any _ HH.out.t).mono ?_; rintro e w1 ⟨rfl, ho1⟩; have Ho1 := hidOf ho1; clear ho1) | (go_at_call 25; refine (copyI' _ a0 n0 c0 l0 HH.out.h0 (HH.out.i0.out Ho1.out) (by omega)).mono ?_; rintro e w2 ⟨a2, c2, rfl, hA2, ho2⟩; have Ho2 := hidOf (Out.trans Ho1.out ho2); have HA2 := hidOf hA2; clear ho2 hA2) | (go_at_call 12; refine (encode_of _ (HH.out.t.out Ho2.out) a2 n0 c2 l0 HH.out.h0 HA2.out (by omega) HH.out.r0 Ha.out N0 HN0.out).mono ?_; rintro e w3 ⟨g0, rfl, hX, ho3⟩; have HX := hidOf hX; have Ho3 := hidOf (Out.trans Ho2.out ho3); clear ho3 hX))
  go_upto_region 5 with (first | (go_at_call 25; refine (copyI' _ a1 n1 c1 l1 HH.out.h1 (HH.out.i1.out Ho3.out) (by omega)).mono ?_; rintro e w4 ⟨a4, c4, rfl, hA4, ho4⟩; have Ho4 := hidOf (Out.trans Ho3.out ho4); have Ho4' := hidOf ho4; have HA4 := hidOf hA4; clear ho4 hA4) | (go_at_call 12; refine (encode_of _ (HH.out.t.out Ho4.out) a4 n1 c4 l1 HH.out.h1 HA4.out (by omega) HH.out.r1 Hc.out N1 HN1.out).mono ?_; rintro e w5 ⟨g1, rfl, hY, ho5⟩; have HY := hidOf hY; have Ho5 := hidOf (Out.trans Ho4.out ho5); have HX5 := hidOf (HX.out.out (Out.trans Ho4'.out ho5)); clear ho5 hY HX Ho4'))
  go_upto_region 6 with (first | (go_at_call 25; refine (copyIo _ a0 n0 c0 l0 HH.out.h0 (HH.out.i0.out Ho5.out) (by omega)).mono ?_; rintro e w6 ⟨a6, c6, rfl, hA6, hown6, ho6⟩; have Ho6 := hidOf (Out.trans Ho5.out ho6); have Ho6' := hidOf ho6; have Hown6 := hidOf hown6; clear ho6 hA6 hown6) | (at_builtin; go_loud (refine wpList_append_insA (by rfl) (.tmp 41) (.tmp 42) rfl _ _ l0 rfl Hown6.out a1 n1 c1 l1 rfl HH.out.h1 (HH.out.i1.out Ho6.out) (by have := HH.out.h0; omega) Ho6'.out.size ?_); intro a7 c7 w7 hA7 hc7 hown7 hg7; have Ho7' := hidOf (out_grow (wr := w) rfl Hown6.out Ho6'.out hg7); have Ho7 := hidOf (Out.trans Ho5.out Ho7'.out); have HA7 := hidOf hA7; clear hA7 hown7 hg7) | (go_at_call 12; go_loud (refine (encode_of _ (HH.out.t.out Ho7.out) a7 _ c7 (l0 ++ l1) (by rw [List.length_append, HH.out.h1]) HA7.out (by have := HH.out.h0; omega) HH.out.rng Hac.out (N0 + N1) HN.out).mono ?_); rintro e w8 ⟨g2, rfl, hZ, ho8⟩; have HZ8 := hidOf hZ; have Ho8 := hidOf (Out.trans Ho7.out ho8); have Ho58 := hidOf (Out.trans Ho7'.out ho8); have HX8 := hidOf (HX5.out.out Ho58.out); have HY8 := hidOf (HY.out.out Ho58.out); clear ho8 hZ))
  clear HX5 HY
  go_upto_region 11 with (first | (go_at_call 13; refine (num_any _ _).mono ?_; rintro e w9 ⟨rfl, rfl⟩) | (go_at_call 28; refine (copyBo _ (some ⟨g0, 0, none⟩) N0 N0 (encL l0) HN0.out HX8.out (by omega)).mono ?_; rintro e w9 ⟨a9, c9, rfl, hA9, hc9, hown9, ho9⟩; have Ho9' := hidOf ho9; have Ho9 := hidOf (Out.trans Ho8.out ho9); have Hown9 := hidOf hown9; have HY9 := hidOf (HY8.out.out ho9); clear ho9 hA9 hown9) | (at_builtin; go_loud (refine wpList_append_own _ rfl (.tmp 77) (.tmp 78) 30 rfl w8.heap.size 5 i8 _ 1 1 Tryd.underlying30 hi8 hz0 hz1 hz2 rfl (by decide) _ N0 (bV (encL l0)) rfl Hown9.out ⟨g1, 0, none⟩ N1 N1 (bV (encL l1)) rfl (by simp only [bV, List.length_map, HN1.out]; omega) (bytA_cells HY9.out) (bV_one _) (by simp only [maxLen]; omega) (by omega) Ho9'.out.size ?_); intro v10 w10 hown10 hg10 _; have Ho10' := hidOf (out_grow (wr := w) rfl Hown9.out Ho9'.out hg10); have Ho10 := hidOf (Out.trans Ho8.out Ho10'.out); have Hown10 := hidOf hown10; have HZ10 := hidOf (HZ8.out.out Ho10'.out); clear hown10 hg10))
  obtain ⟨a10, c10, rfl, HA10, hc10⟩ : ∃ a10 c10, v10 = .slice a10 (N0 + N1) c10 ∧ Hid (BytA w10 a10 (encL (l0 ++ l1))) ∧ N0 + N1 ≤ c10 := by
    have h := Hown10.out
    rw [show bV (encL l0) ++ bV (encL l1) = bV (encL (l0 ++ l1)) from by rw [encL_append]; simp [bV]] at h
    have h2 : w10.ownsRow w8.heap.size 5 1 v10 (encL (l0 ++ l1)).length (bV (encL (l0 ++ l1))) := by rw [HN.out]; exact h
    obtain ⟨a10, c10, e1, e2, e3⟩ := owns_bytA h2
    rw [HN.out] at e1 e3
    exact ⟨a10, c10, e1, e2, e3⟩
  clear Hown10 Hown9 HX8 HY8 HY9 HZ8
  have hMM : N0 + N1 ≤ 160000000 := by omega
  generalize N0 + N1 = M at *
  have Hlen : Hid ((l0 ++ l1).length = n0 + n1) := by show _ = _; rw [List.length_append, HH.out.h0, HH.out.h1]
  have Hback := hidOf (dec_back may (l0 ++ l1) Hfit.out)
  go_upto_region 14 with (first | (go_at_call 13; refine (num_any _ _).mono ?_; rintro e w9 ⟨rfl, rfl⟩) | (go_at_call 14; refine (sameB _ _ _ M _ _ (encL (l0 ++ l1)) HN.out HZ10.out HA10.out).mono ?_; rintro e w11 ⟨rfl, rfl⟩) | (go_at_call 28; refine (copyB' _ a10 M c10 (encL (l0 ++ l1)) HN.out HA10.out (by omega)).mono ?_; rintro e w12 ⟨a12, c12, rfl, hA12, hc12, ho12⟩; have Ho12' := hidOf ho12; have Ho12 := hidOf (Out.trans Ho10.out ho12); have HA12 := hidOf hA12; clear ho12 hA12) | (go_at_call 21; refine (decode_of' _ (HH.out.t.out Ho12.out) a12 M c12 (encL (l0 ++ l1)) HN.out (encL_byts _) HA12.out (by omega) hc12 (l0 ++ l1) 0 0 Hback.out).mono ?_; rw [Hlen.out]; rintro e w13 ⟨a13, c13, rfl, hA13, ho13⟩; have HA13 := hidOf hA13; have Ho13 := hidOf (Out.trans Ho12.out ho13); have HA10' := hidOf (HA10.out.out (Out.trans Ho12'.out ho13)); clear ho13 hA13))
  obtain ⟨k, hk0, hk7, hk⟩ : ∃ k : Nat, 0 < k ∧ k < 8 ∧ 1 + C % 7 = k := ⟨(1 + C % 7).toNat, by omega, by omega, by omega⟩
  have Hz : Hid ((encL (l0 ++ l1) ++ List.replicate k 0).length = M + k) := by show _ = _; rw [List.length_append, HN.out, List.length_replicate]
  have Hzb : Hid (Byts (encL (l0 ++ l1) ++ List.replicate k 0)) := (encL_byts _).append (fun j => by
    by_cases h : j < k
    · simp [gB, List.getD, List.getElem?_replicate, h]
    · simp [gB, List.getD, List.getElem?_replicate, h])
  have Hcut := hidOf (dec_cut may (l0 ++ l1) (List.replicate k 0) Hfit.out (by simpa using hk0) (by simpa using hk7))
  rw [HN.out] at Hcut
  go_upto_region 15 with (first | (go_at_call 28; refine (copyBo _ a10 M c10 (encL (l0 ++ l1)) HN.out HA10'.out (by omega)).mono ?_; rintro e w14 ⟨a14, c14, rfl, hA14, hc14, hown14, ho14⟩; have Ho14' := hidOf ho14; have Ho14 := hidOf (Out.trans Ho13.out ho14); have Hown14 := hidOf hown14; clear ho14 hA14 hown14) | (at_builtin; go_loud (refine wpList_append_own_zeros rfl (.tmp 98) (.tmp 102) 30 3 rfl w13.heap.size 5 i8 (.int .u8 0) .i64 .i64 Tryd.underlying30 Tryd.underlying3 hi8 hz0 hz1 hz2 rfl rfl _ M (bV (encL (l0 ++ l1))) rfl Hown14.out k rfl hk0 (by omega) (by omega) Ho14'.out.size ?_); intro v15 w15 hown15 hg15; have Ho15' := hidOf (out_grow (wr := w) rfl Hown14.out Ho14'.out hg15); have Ho15 := hidOf (Out.trans Ho13.out Ho15'.out); obtain ⟨a15, c15, rfl, hA15, hc15⟩ := zeros_bytA hown15 Hz.out; have HA15 := hidOf hA15; clear hown15 hg15 hA15) | (go_at_call 21; go_loud (refine (decode_of' _ (HH.out.t.out Ho15.out) a15 (M + k) c15 (encL (l0 ++ l1) ++ List.replicate k 0) Hz.out Hzb.out HA15.out (by omega) hc15 [] _ 30 Hcut.out).mono ?_); rintro e w16 ⟨a16, c16, rfl, hA16, ho16⟩; have Ho16 := hidOf (Out.trans Ho15.out ho16); have Ho1316 := hidOf (Out.trans Ho15'.out ho16); have HA13' := hidOf (HA13.out.out Ho1316.out); clear ho16 hA16))
  have hM0 : (0 : Int) ≤ M := by omega
  have hM1 : (M : Int) ≤ 160000000 := by omega
  go_wp2_with (first | (go_at_call 13; refine (num_any _ _).mono ?_; rintro e w9 ⟨rfl, rfl⟩) | (go_at_call 25; refine (copyIo _ a0 n0 c0 l0 HH.out.h0 (HH.out.i0.out Ho16.out) (by omega)).mono ?_; rintro e w17 ⟨a17, c17, rfl, hA17, hown17, ho17⟩; have Ho17 := hidOf (Out.trans Ho16.out ho17); have Ho17' := hidOf ho17; have Hown17 := hidOf hown17; clear ho17 hA17 hown17) | (at_builtin; go_loud (refine wpList_append_insA (by first | rfl | (simp [Region.wanted, yielded])) (.tmp 114) (.tmp 115) rfl _ _ l0 rfl Hown17.out a1 n1 c1 l1 rfl HH.out.h1 (HH.out.i1.out Ho17.out) (by have := HH.out.h0; omega) Ho17'.out.size ?_); intro a18 c18 w18 hA18 hc18 hown18 hg18; have Ho18' := hidOf (out_grow (wr := w) rfl Hown17.out Ho17'.out hg18); have Ho18 := hidOf (Out.trans Ho16.out Ho18'.out); have HA18 := hidOf hA18; have HA13'' := hidOf (HA13'.out.out Ho18'.out); clear hA18 hown18 hg18; rw [HH.out.h0]) | (go_at_call 22; go_loud (refine (sameI _ a13 a18 (n0 + n1) c13 c18 (l0 ++ l1) Hlen.out HA13''.out HA18.out (by omega)).mono ?_); rintro e w19 ⟨rfl, m19, rfl⟩))
  go_ret
  exact ⟨rfl, Ho18.out.drewN _⟩
theorem codeJoins_walk (w : World) (a0 a1 : Option Addr) (n0 n1 c0 c1 : Nat) (l0 l1 : List Ins) (rest : Int) (H : Two w a0 a1 n0 n1 l0 l1) (hm : n0 + n1 ≤ 10000000) :
    Calls Tryd.prog 7 #[.slice a0 n0 c0, .slice a1 n1 c1, .int .i64 rest] w fun e w' => e = .returned (.bool true) ∧ Out w w' := by
  rcases ref_ex l0 with h | ⟨p, y, h1, h2, h3⟩
  · rcases ref_ex l1 with h' | ⟨p, y, h1, h2, h3⟩
    · exact joins_both w a0 a1 n0 n1 c0 c1 l0 l1 rest H hm h h'
    · exact joins_second w a0 a1 n0 n1 c0 c1 l0 l1 rest H hm h p (may y) (.inr ⟨p, y, rfl, h1, rfl, h2, h3⟩) h2
  · exact joins_first w a0 a1 n0 n1 c0 c1 l0 l1 rest H hm p (may y) (.inr ⟨p, y, rfl, h1, rfl, h2, h3⟩) h2
end Go.Proofs.YtlhcjcoimlgciaaDoor
