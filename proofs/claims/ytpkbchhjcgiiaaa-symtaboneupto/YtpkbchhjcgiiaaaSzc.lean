import Derived.Test.YtpkbchhjcgiiaaaSzb
namespace Go.Proofs.Ytpkbchhjcgiiaaa
open Go.RowKit
set_option linter.unusedVariables false
set_option linter.unusedSimpArgs false
theorem OwB.setB {B g c n : Nat} {l : List UInt8} {w : World} (h : OwB B (.slice (some ⟨g, 0, none⟩) n c) l w) (k : Nat) (y : UInt8) : OwB B (.slice (some ⟨g, 0, none⟩) n c) (l.set k y) (w.setCell ⟨g, k, none⟩ (.int .u8 (y.toNat : Int))) ∧ w.frozen? ⟨g, k, none⟩ = false ∧ B ≤ g := by
  rcases h.2 with ⟨hv, _⟩ | ⟨g', cap, cur, hv, hb, hg, hc, hm, hs, ht⟩
  · cases hv
  · simp only [Value.slice.injEq, Option.some.injEq, Addr.mk.injEq] at hv
    obtain ⟨⟨rfl, _⟩, rfl, rfl⟩ := hv
    refine ⟨⟨by simp [Lib.byteCells], .inr ⟨g, c, cur.setIfInBounds k (.int .u8 (y.toNat : Int)), by simp, hb, ?_, by simpa using hc, hm, by simpa using hs, ?_⟩⟩, by simp [World.frozen?, hg], hb⟩
    · simp [World.setCell, Array.getElem?_modify, hg]
    · rw [Array.toList_setIfInBounds, List.take_set, List.length_set, ht]
      simp [Lib.byteCells, List.map_set]
theorem readC (wx : World) (a : Option Addr) (c : Nat) (b : List UInt8) (h : RestAt wx.heap.size wx a b) (hc : b.length ≤ c) (hb : b.length ≤ 70368744177672) : Calls Try.prog 17 #[.slice a b.length c] wx fun e w' => RdE wx (rdS b) e w' := by
  by_cases h24 : b.length < 24
  · refine (read_short wx a b.length c h24).mono ?_
    rintro e w' ⟨rfl, rfl⟩
    have e : rdS b = (none, (b.length : Int), 100) := by rw [rdS, show fzP b = some b.length from if_pos h24]
    rw [e]
    exact ⟨Out.refl _, rfl⟩
  · obtain ⟨g, off, rfl, hg, hB⟩ := h.at (by omega)
    exact read_any wx g off c b hg hB hc hb
theorem rdS_no {b : List UInt8} {pl er : Int} (h : rdS b = (none, pl, er)) : er = 100 ∨ er = 101 := by
  unfold rdS at h
  split at h
  · cases h; exact .inl rfl
  · exact (rd_no _ _ _ _ _ _ _ _ h).2
theorem copyC (wx : World) (a : Option Addr) (c : Nat) (b : List UInt8) (h : RestAt wx.heap.size wx a b) (hb : b.length ≤ 70368744177672) : Calls Try.prog 12 #[.slice a b.length c] wx fun e w' => ∃ a2 c2, e = .returned (.slice a2 b.length c2) ∧ b.length ≤ c2 ∧ RestAt w'.heap.size w' a2 b ∧ Out wx w' := by
  refine (copyBytes_any wx a c b h (by omega)).mono ?_
  rintro e w' ⟨v, rfl, hown, ho⟩
  obtain ⟨a2, c2, rfl, hl, hr⟩ := OwB.rest hown
  exact ⟨a2, c2, rfl, hl, hr, ho⟩
set_option maxRecDepth 8000 in
set_option maxHeartbeats 1000000 in
theorem one_no (a : Option Addr) (cap : Nat) (b : List UInt8) (x : Int) (t : UInt8) (w : World) (hr : RestAt w.heap.size w a b) (hc : b.length ≤ cap) (hb : b.length ≤ 1048576) (pl er : Int) (hT : rdS b = (none, pl, er)) : Calls Try.prog 6 #[.slice a b.length cap, .int .i64 x, .int .u8 (t.toNat : Int)] w fun e w' => e = .returned (.bool true) ∧ Out w w' := by
  have CA := hidOf awake10
  have CC := hidOf (fun wx (o : Out w wx) => copyC wx a cap b (rest_out hr o) (by omega))
  have CR : Hid (∀ wx a' c', RestAt wx.heap.size wx a' b → b.length ≤ c' → Calls Try.prog 17 #[.slice a' b.length c'] wx fun e w' => e = .returned (.tuple #[.slice none 0 0, .int .i64 pl, .int .i64 er]) ∧ Out wx w') := fun wx a' c' h1 h2 => (readC wx a' c' b h1 h2 (by omega)).mono fun e w' hh => by
    rw [hT] at hh
    exact ⟨hh.2, hh.1⟩
  have her := rdS_no hT
  have hEn : (er != 0) = true := by rcases her with rfl | rfl <;> rfl
  clear hT her hr
  go_enter Try.func6, Try.ntmps6
  go_wp2_with (first | (go_at_call 8; refine (CA.out _).mono ?_; rintro e w1 ⟨rfl, hO⟩; have O1 := hidOf hO; clear hO) | (go_at_call 12; with_reducible refine (CC.out w1 O1.out).mono ?_; rintro e w2 ⟨a2, c2, rfl, hl2, hr2, hO⟩; have R2 := hidOf hr2; have HL2 := hidOf hl2; have O2 := hidOf (O1.out.trans hO); clear hr2 hl2 hO) | (go_at_call 17; with_reducible refine (CR.out w2 a2 c2 R2.out HL2.out).mono ?_; rintro e w3 ⟨rfl, hO⟩; have O3 := hidOf (O2.out.trans hO); clear hO) | (go_at_call 16; refine (num_any _ _).mono ?_; rintro e w0' ⟨rfl, hw⟩; subst hw))
  go_ret
  exact ⟨rfl, O3.out⟩
set_option maxRecDepth 8000 in
set_option maxHeartbeats 1000000 in
theorem one_out (a : Option Addr) (cap : Nat) (b : List UInt8) (x : Int) (t : UInt8) (w : World) (hr : RestAt w.heap.size w a b) (hc : b.length ≤ cap) (hb : b.length ≤ 1048576) (L : List Sy) (hT : rdS b = (some L, 0, 0)) (hx : x < 0) : Calls Try.prog 6 #[.slice a b.length cap, .int .i64 x, .int .u8 (t.toNat : Int)] w fun e w' => e = .returned (.bool true) ∧ Out w w' := by
  obtain ⟨i0, hi0, hz0, hz1, hz2⟩ := info_parts infoSm
  have CA := hidOf awake10
  obtain ⟨_, _, hwp, hok, _, _⟩ := one_P hT
  obtain ⟨_, hbl, _⟩ := back_S hwp hok
  have CC := hidOf (fun wx (o : Out w wx) => copyC wx a cap b (rest_out hr o) (by omega))
  have CR : Hid (∀ wx a' c', RestAt wx.heap.size wx a' b → b.length ≤ c' → Calls Try.prog 17 #[.slice a' b.length c'] wx fun e w' => ∃ a2 c2, e = .returned (.tuple #[.slice a2 L.length c2, .int .i64 0, .int .i64 0]) ∧ OwS wx.heap.size (.slice a2 L.length c2) L w' ∧ Out wx w') := fun wx a' c' h1 h2 => (readC wx a' c' b h1 h2 (by omega)).mono fun e w' hh => by
    rw [hT] at hh
    obtain ⟨ho, a2, c2, he, hown⟩ := hh
    exact ⟨a2, c2, he, hown, ho⟩
  have CW : Hid (∀ wx a' c', SyAt wx.heap.size wx a' L → L.length ≤ c' → Calls Try.prog 15 #[.slice a' L.length c'] wx fun e w' => ∃ g c, e = .returned (.tuple #[.slice (some ⟨g, 0, none⟩) b.length c, .int .i64 0]) ∧ OwB wx.heap.size (.slice (some ⟨g, 0, none⟩) b.length c) b w' ∧ Out wx w') := fun wx a' c' h1 h2 => (write_any wx a' c' L h1 h2 (by omega) hok).mono fun e w' hh => by
    rw [hwp] at hh
    obtain ⟨ho, a2, c2, he, hown⟩ := hh
    obtain ⟨g, c', hv⟩ := own_some hown (by omega)
    rw [hv] at hown he
    exact ⟨g, c', he, hown, ho⟩
  obtain ⟨g, off, rfl, hg, hB⟩ := hr.at (by omega)
  have HBx : Hid (∀ wx, Out w wx → BAt wx g off b) := fun wx o => BAt.out hB hg o
  have HRx : Hid (∀ wx, Out w wx → RestAt wx.heap.size wx (some ⟨g, off, none⟩) b) := fun wx o => rest_out hr o
  have HLn := hidOf (show 24 * L.length ≤ 1048576 ∧ 24 ≤ b.length by omega)
  clear hT hwp hok hbl hr hB hg hb
  go_enter Try.func6, Try.ntmps6
  go_upto_region 6 with (first | (go_at_call 8; refine (CA.out _).mono ?_; rintro e w1 ⟨rfl, hO⟩; have O1 := hidOf hO; clear hO) | (go_at_call 12; with_reducible refine (CC.out w1 O1.out).mono ?_; rintro e w2 ⟨a2, c2, rfl, hl2, hr2, hO⟩; have R2 := hidOf hr2; have HL2 := hidOf hl2; have O2 := hidOf (O1.out.trans hO); clear hr2 hl2 hO) | (go_at_call 17; with_reducible refine (CR.out w2 a2 c2 R2.out HL2.out).mono ?_; rintro e w3 ⟨a3, c3, rfl, hs3, hO⟩; have S3 := hidOf hs3; have O3 := hidOf (O2.out.trans hO); clear hs3 hO) | (go_at_call 16; refine (num_any _ _).mono ?_; rintro e w0' ⟨rfl, hw⟩; subst hw))
  have k2 : Hid (∀ wx, Out w wx → (convert 37 9 (.slice (some ⟨g, off, none⟩) b.length cap)).run Try.prog wx = .ok (.string ⟨b.toArray⟩) wx) := fun wx o => conv_rest (HRx.out wx o) cap
  cases a3 with
  | none =>
    obtain rfl : L = [] := by
      obtain ⟨a', c', hv, _, ha⟩ := OwS.at S3.out
      injection hv with q1
      subst q1
      rcases ha with h | ⟨_, _, _, h, _⟩
      · exact h
      · cases h
    simp only [List.length_nil] at *
    go_upto_region 7 with (first | (go_at_call 15; refine (CW.out (w3.alloc (.cells #[] 57)) _ 0 (.inl rfl) (by simp)).mono ?_; rintro e w5 ⟨g5, c5, rfl, hown, hO⟩; have W5 := hidOf hown; have P5 := hidOf (((Out.refl w3).alloc _).trans hO); have O5 := hidOf (O3.out.trans (((Out.refl w3).alloc _).trans hO)); clear hown hO))
    have k1 : (convert 37 9 (.slice (some ⟨g5, 0, none⟩) b.length c5)).run Try.prog w5 = .ok (.string ⟨b.toArray⟩) w5 := by
      obtain ⟨a', c', hv, _, hr'⟩ := OwB.rest W5.out
      injection hv with q1 q2 q3
      rw [q1]
      exact conv_rest hr' c5
    have k2' := k2.out w5 O5.out
    go_wp2_with (first | (go_at_call 16; refine (num_any _ _).mono ?_; rintro e w0' ⟨rfl, hw⟩; subst hw))
    go_ret
    exact ⟨rfl, O5.out⟩
  | some ad =>
    have HC : Hid (∀ wx, Out w3 wx → ∀ j u, (syV L)[j]? = some u → wx.cell? (ad.add j) = some u) := fun wx o => by
      obtain ⟨a', c', hv, _, ha⟩ := OwS.at S3.out
      injection hv with q1
      subst q1
      exact (ha.out o).news
    go_upto_region 7 with (first | (at_builtin; refine wpList_append_own _ rfl (.tmp 31) (.tmp 32) 25 rfl w3.heap.size 57 i0 _ 6 48 Try.underlying25 hi0 hz0 hz1 hz2 rfl (by decide) (.slice (some ⟨w3.heap.size, 0, none⟩) 0 0) 0 [] rfl (owns_void w3 w3.heap.size 6 57 (Nat.le_refl _)) ad L.length c3 (syV L) rfl (syV_len L) (HC.out _ ((Out.refl w3).alloc _)) (syV_one _) (by unfold maxLen; have := HLn.out; omega) (by have := HLn.out; omega) (by rw [size_alloc]; omega) ?_; intro v' w4 hown' hgrow _; have P4 := hidOf (out_rowN ((Out.refl w3).alloc _) (owns_void w3 w3.heap.size 6 57 (Nat.le_refl _)) hgrow); have HN : OwS w3.heap.size v' L w4 := (by unfold OwS; rw [Nat.zero_add, List.nil_append] at hown'; exact hown'); obtain ⟨a4, c4, rfl, hl4, hr4⟩ := OwS.at HN; have R4 := hidOf hr4; have HL4 := hidOf hl4; clear hown' hgrow HN hr4 hl4) | (go_at_call 15; with_reducible refine (CW.out w4 a4 c4 R4.out HL4.out).mono ?_; rintro e w5 ⟨g5, c5, rfl, hown, hO⟩; have W5 := hidOf hown; have P5 := hidOf (P4.out.trans hO); have O5 := hidOf (O3.out.trans (P4.out.trans hO)); clear hown hO))
    have k1 : (convert 37 9 (.slice (some ⟨g5, 0, none⟩) b.length c5)).run Try.prog w5 = .ok (.string ⟨b.toArray⟩) w5 := by
      obtain ⟨a', c', hv, _, hr'⟩ := OwB.rest W5.out
      injection hv with q1 q2 q3
      rw [q1]
      exact conv_rest hr' c5
    have k2' := k2.out w5 O5.out
    go_wp2_with (first | (go_at_call 16; refine (num_any _ _).mono ?_; rintro e w0' ⟨rfl, hw⟩; subst hw))
    go_ret
    exact ⟨rfl, O5.out⟩
set_option maxRecDepth 8000 in
set_option maxHeartbeats 1000000 in
theorem one_far (a : Option Addr) (cap : Nat) (b : List UInt8) (x : Int) (t : UInt8) (w : World) (hr : RestAt w.heap.size w a b) (hc : b.length ≤ cap) (hb : b.length ≤ 1048576) (L : List Sy) (hT : rdS b = (some L, 0, 0)) (hx : ¬ x < 0) (hx2 : (b.length : Int) ≤ x) : Calls Try.prog 6 #[.slice a b.length cap, .int .i64 x, .int .u8 (t.toNat : Int)] w fun e w' => e = .returned (.bool true) ∧ Out w w' := by
  obtain ⟨i0, hi0, hz0, hz1, hz2⟩ := info_parts infoSm
  have CA := hidOf awake10
  obtain ⟨_, _, hwp, hok, _, _⟩ := one_P hT
  obtain ⟨_, hbl, _⟩ := back_S hwp hok
  have CC := hidOf (fun wx (o : Out w wx) => copyC wx a cap b (rest_out hr o) (by omega))
  have CR : Hid (∀ wx a' c', RestAt wx.heap.size wx a' b → b.length ≤ c' → Calls Try.prog 17 #[.slice a' b.length c'] wx fun e w' => ∃ a2 c2, e = .returned (.tuple #[.slice a2 L.length c2, .int .i64 0, .int .i64 0]) ∧ OwS wx.heap.size (.slice a2 L.length c2) L w' ∧ Out wx w') := fun wx a' c' h1 h2 => (readC wx a' c' b h1 h2 (by omega)).mono fun e w' hh => by
    rw [hT] at hh
    obtain ⟨ho, a2, c2, he, hown⟩ := hh
    exact ⟨a2, c2, he, hown, ho⟩
  have CW : Hid (∀ wx a' c', SyAt wx.heap.size wx a' L → L.length ≤ c' → Calls Try.prog 15 #[.slice a' L.length c'] wx fun e w' => ∃ g c, e = .returned (.tuple #[.slice (some ⟨g, 0, none⟩) b.length c, .int .i64 0]) ∧ OwB wx.heap.size (.slice (some ⟨g, 0, none⟩) b.length c) b w' ∧ Out wx w') := fun wx a' c' h1 h2 => (write_any wx a' c' L h1 h2 (by omega) hok).mono fun e w' hh => by
    rw [hwp] at hh
    obtain ⟨ho, a2, c2, he, hown⟩ := hh
    obtain ⟨g, c', hv⟩ := own_some hown (by omega)
    rw [hv] at hown he
    exact ⟨g, c', he, hown, ho⟩
  obtain ⟨g, off, rfl, hg, hB⟩ := hr.at (by omega)
  have HBx : Hid (∀ wx, Out w wx → BAt wx g off b) := fun wx o => BAt.out hB hg o
  have HRx : Hid (∀ wx, Out w wx → RestAt wx.heap.size wx (some ⟨g, off, none⟩) b) := fun wx o => rest_out hr o
  have HLn := hidOf (show 24 * L.length ≤ 1048576 ∧ 24 ≤ b.length by omega)
  clear hT hwp hok hbl hr hB hg hb
  go_enter Try.func6, Try.ntmps6
  go_upto_region 6 with (first | (go_at_call 8; refine (CA.out _).mono ?_; rintro e w1 ⟨rfl, hO⟩; have O1 := hidOf hO; clear hO) | (go_at_call 12; with_reducible refine (CC.out w1 O1.out).mono ?_; rintro e w2 ⟨a2, c2, rfl, hl2, hr2, hO⟩; have R2 := hidOf hr2; have HL2 := hidOf hl2; have O2 := hidOf (O1.out.trans hO); clear hr2 hl2 hO) | (go_at_call 17; with_reducible refine (CR.out w2 a2 c2 R2.out HL2.out).mono ?_; rintro e w3 ⟨a3, c3, rfl, hs3, hO⟩; have S3 := hidOf hs3; have O3 := hidOf (O2.out.trans hO); clear hs3 hO) | (go_at_call 16; refine (num_any _ _).mono ?_; rintro e w0' ⟨rfl, hw⟩; subst hw))
  have k2 : Hid (∀ wx, Out w wx → (convert 37 9 (.slice (some ⟨g, off, none⟩) b.length cap)).run Try.prog wx = .ok (.string ⟨b.toArray⟩) wx) := fun wx o => conv_rest (HRx.out wx o) cap
  cases a3 with
  | none =>
    obtain rfl : L = [] := by
      obtain ⟨a', c', hv, _, ha⟩ := OwS.at S3.out
      injection hv with q1
      subst q1
      rcases ha with h | ⟨_, _, _, h, _⟩
      · exact h
      · cases h
    simp only [List.length_nil] at *
    go_upto_region 7 with (first | (go_at_call 15; refine (CW.out (w3.alloc (.cells #[] 57)) _ 0 (.inl rfl) (by simp)).mono ?_; rintro e w5 ⟨g5, c5, rfl, hown, hO⟩; have W5 := hidOf hown; have P5 := hidOf (((Out.refl w3).alloc _).trans hO); have O5 := hidOf (O3.out.trans (((Out.refl w3).alloc _).trans hO)); clear hown hO))
    have k1 : (convert 37 9 (.slice (some ⟨g5, 0, none⟩) b.length c5)).run Try.prog w5 = .ok (.string ⟨b.toArray⟩) w5 := by
      obtain ⟨a', c', hv, _, hr'⟩ := OwB.rest W5.out
      injection hv with q1 q2 q3
      rw [q1]
      exact conv_rest hr' c5
    have k2' := k2.out w5 O5.out
    go_wp2_with (first | (go_at_call 16; refine (num_any _ _).mono ?_; rintro e w0' ⟨rfl, hw⟩; subst hw))
    go_ret
    exact ⟨rfl, O5.out⟩
  | some ad =>
    have HC : Hid (∀ wx, Out w3 wx → ∀ j u, (syV L)[j]? = some u → wx.cell? (ad.add j) = some u) := fun wx o => by
      obtain ⟨a', c', hv, _, ha⟩ := OwS.at S3.out
      injection hv with q1
      subst q1
      exact (ha.out o).news
    go_upto_region 7 with (first | (at_builtin; refine wpList_append_own _ rfl (.tmp 31) (.tmp 32) 25 rfl w3.heap.size 57 i0 _ 6 48 Try.underlying25 hi0 hz0 hz1 hz2 rfl (by decide) (.slice (some ⟨w3.heap.size, 0, none⟩) 0 0) 0 [] rfl (owns_void w3 w3.heap.size 6 57 (Nat.le_refl _)) ad L.length c3 (syV L) rfl (syV_len L) (HC.out _ ((Out.refl w3).alloc _)) (syV_one _) (by unfold maxLen; have := HLn.out; omega) (by have := HLn.out; omega) (by rw [size_alloc]; omega) ?_; intro v' w4 hown' hgrow _; have P4 := hidOf (out_rowN ((Out.refl w3).alloc _) (owns_void w3 w3.heap.size 6 57 (Nat.le_refl _)) hgrow); have HN : OwS w3.heap.size v' L w4 := (by unfold OwS; rw [Nat.zero_add, List.nil_append] at hown'; exact hown'); obtain ⟨a4, c4, rfl, hl4, hr4⟩ := OwS.at HN; have R4 := hidOf hr4; have HL4 := hidOf hl4; clear hown' hgrow HN hr4 hl4) | (go_at_call 15; with_reducible refine (CW.out w4 a4 c4 R4.out HL4.out).mono ?_; rintro e w5 ⟨g5, c5, rfl, hown, hO⟩; have W5 := hidOf hown; have P5 := hidOf (P4.out.trans hO); have O5 := hidOf (O3.out.trans (P4.out.trans hO)); clear hown hO))
    have k1 : (convert 37 9 (.slice (some ⟨g5, 0, none⟩) b.length c5)).run Try.prog w5 = .ok (.string ⟨b.toArray⟩) w5 := by
      obtain ⟨a', c', hv, _, hr'⟩ := OwB.rest W5.out
      injection hv with q1 q2 q3
      rw [q1]
      exact conv_rest hr' c5
    have k2' := k2.out w5 O5.out
    go_wp2_with (first | (go_at_call 16; refine (num_any _ _).mono ?_; rintro e w0' ⟨rfl, hw⟩; subst hw))
    go_ret
    exact ⟨rfl, O5.out⟩
set_option maxRecDepth 8000 in
set_option maxHeartbeats 1000000 in
theorem one_same (a : Option Addr) (cap : Nat) (b : List UInt8) (k : Nat) (t : UInt8) (w : World) (hr : RestAt w.heap.size w a b) (hc : b.length ≤ cap) (hb : b.length ≤ 1048576) (L : List Sy) (hT : rdS b = (some L, 0, 0)) (hkl : k < b.length) (hbk : b[k]? = some t) : Calls Try.prog 6 #[.slice a b.length cap, .int .i64 (k : Int), .int .u8 (t.toNat : Int)] w fun e w' => e = .returned (.bool true) ∧ Out w w' := by
  obtain ⟨i0, hi0, hz0, hz1, hz2⟩ := info_parts infoSm
  have CA := hidOf awake10
  obtain ⟨_, _, hwp, hok, _, _⟩ := one_P hT
  obtain ⟨_, hbl, _⟩ := back_S hwp hok
  have CC := hidOf (fun wx (o : Out w wx) => copyC wx a cap b (rest_out hr o) (by omega))
  have CR : Hid (∀ wx a' c', RestAt wx.heap.size wx a' b → b.length ≤ c' → Calls Try.prog 17 #[.slice a' b.length c'] wx fun e w' => ∃ a2 c2, e = .returned (.tuple #[.slice a2 L.length c2, .int .i64 0, .int .i64 0]) ∧ OwS wx.heap.size (.slice a2 L.length c2) L w' ∧ Out wx w') := fun wx a' c' h1 h2 => (readC wx a' c' b h1 h2 (by omega)).mono fun e w' hh => by
    rw [hT] at hh
    obtain ⟨ho, a2, c2, he, hown⟩ := hh
    exact ⟨a2, c2, he, hown, ho⟩
  have CW : Hid (∀ wx a' c', SyAt wx.heap.size wx a' L → L.length ≤ c' → Calls Try.prog 15 #[.slice a' L.length c'] wx fun e w' => ∃ g c, e = .returned (.tuple #[.slice (some ⟨g, 0, none⟩) b.length c, .int .i64 0]) ∧ OwB wx.heap.size (.slice (some ⟨g, 0, none⟩) b.length c) b w' ∧ Out wx w') := fun wx a' c' h1 h2 => (write_any wx a' c' L h1 h2 (by omega) hok).mono fun e w' hh => by
    rw [hwp] at hh
    obtain ⟨ho, a2, c2, he, hown⟩ := hh
    obtain ⟨g, c', hv⟩ := own_some hown (by omega)
    rw [hv] at hown he
    exact ⟨g, c', he, hown, ho⟩
  obtain ⟨g, off, rfl, hg, hB⟩ := hr.at (by omega)
  have HBx : Hid (∀ wx, Out w wx → BAt wx g off b) := fun wx o => BAt.out hB hg o
  have HRx : Hid (∀ wx, Out w wx → RestAt wx.heap.size wx (some ⟨g, off, none⟩) b) := fun wx o => rest_out hr o
  have HLn := hidOf (show 24 * L.length ≤ 1048576 ∧ 24 ≤ b.length by omega)
  have hx : ¬ (k : Int) < 0 := by omega
  have hx2 : ¬ (b.length : Int) ≤ k := by omega
  have hk0 : (0 : Int) ≤ k := by omega
  have hk1 : (k : Int) < b.length := by omega
  have Hd : Hid (∀ wx, Out w wx → wx.cell? ⟨g, off + k, none⟩ = some (.int .u8 (t.toNat : Int))) := fun wx o => HBx.out wx o k t hbk
  clear hbk
  clear hT hwp hok hbl hr hB hg hb
  go_enter Try.func6, Try.ntmps6
  go_upto_region 6 with (first | (go_at_call 8; refine (CA.out _).mono ?_; rintro e w1 ⟨rfl, hO⟩; have O1 := hidOf hO; clear hO) | (go_at_call 12; with_reducible refine (CC.out w1 O1.out).mono ?_; rintro e w2 ⟨a2, c2, rfl, hl2, hr2, hO⟩; have R2 := hidOf hr2; have HL2 := hidOf hl2; have O2 := hidOf (O1.out.trans hO); clear hr2 hl2 hO) | (go_at_call 17; with_reducible refine (CR.out w2 a2 c2 R2.out HL2.out).mono ?_; rintro e w3 ⟨a3, c3, rfl, hs3, hO⟩; have S3 := hidOf hs3; have O3 := hidOf (O2.out.trans hO); clear hs3 hO) | (go_at_call 16; refine (num_any _ _).mono ?_; rintro e w0' ⟨rfl, hw⟩; subst hw))
  have k2 : Hid (∀ wx, Out w wx → (convert 37 9 (.slice (some ⟨g, off, none⟩) b.length cap)).run Try.prog wx = .ok (.string ⟨b.toArray⟩) wx) := fun wx o => conv_rest (HRx.out wx o) cap
  cases a3 with
  | none =>
    obtain rfl : L = [] := by
      obtain ⟨a', c', hv, _, ha⟩ := OwS.at S3.out
      injection hv with q1
      subst q1
      rcases ha with h | ⟨_, _, _, h, _⟩
      · exact h
      · cases h
    simp only [List.length_nil] at *
    go_upto_region 7 with (first | (go_at_call 15; refine (CW.out (w3.alloc (.cells #[] 57)) _ 0 (.inl rfl) (by simp)).mono ?_; rintro e w5 ⟨g5, c5, rfl, hown, hO⟩; have W5 := hidOf hown; have P5 := hidOf (((Out.refl w3).alloc _).trans hO); have O5 := hidOf (O3.out.trans (((Out.refl w3).alloc _).trans hO)); clear hown hO))
    have k1 : (convert 37 9 (.slice (some ⟨g5, 0, none⟩) b.length c5)).run Try.prog w5 = .ok (.string ⟨b.toArray⟩) w5 := by
      obtain ⟨a', c', hv, _, hr'⟩ := OwB.rest W5.out
      injection hv with q1 q2 q3
      rw [q1]
      exact conv_rest hr' c5
    have k2' := k2.out w5 O5.out
    have d9 := Hd.out w5 O5.out
    go_wp2_with (first | (go_at_call 16; refine (num_any _ _).mono ?_; rintro e w0' ⟨rfl, hw⟩; subst hw))
    go_ret
    exact ⟨rfl, O5.out⟩
  | some ad =>
    have HC : Hid (∀ wx, Out w3 wx → ∀ j u, (syV L)[j]? = some u → wx.cell? (ad.add j) = some u) := fun wx o => by
      obtain ⟨a', c', hv, _, ha⟩ := OwS.at S3.out
      injection hv with q1
      subst q1
      exact (ha.out o).news
    go_upto_region 7 with (first | (at_builtin; refine wpList_append_own _ rfl (.tmp 31) (.tmp 32) 25 rfl w3.heap.size 57 i0 _ 6 48 Try.underlying25 hi0 hz0 hz1 hz2 rfl (by decide) (.slice (some ⟨w3.heap.size, 0, none⟩) 0 0) 0 [] rfl (owns_void w3 w3.heap.size 6 57 (Nat.le_refl _)) ad L.length c3 (syV L) rfl (syV_len L) (HC.out _ ((Out.refl w3).alloc _)) (syV_one _) (by unfold maxLen; have := HLn.out; omega) (by have := HLn.out; omega) (by rw [size_alloc]; omega) ?_; intro v' w4 hown' hgrow _; have P4 := hidOf (out_rowN ((Out.refl w3).alloc _) (owns_void w3 w3.heap.size 6 57 (Nat.le_refl _)) hgrow); have HN : OwS w3.heap.size v' L w4 := (by unfold OwS; rw [Nat.zero_add, List.nil_append] at hown'; exact hown'); obtain ⟨a4, c4, rfl, hl4, hr4⟩ := OwS.at HN; have R4 := hidOf hr4; have HL4 := hidOf hl4; clear hown' hgrow HN hr4 hl4) | (go_at_call 15; with_reducible refine (CW.out w4 a4 c4 R4.out HL4.out).mono ?_; rintro e w5 ⟨g5, c5, rfl, hown, hO⟩; have W5 := hidOf hown; have P5 := hidOf (P4.out.trans hO); have O5 := hidOf (O3.out.trans (P4.out.trans hO)); clear hown hO))
    have k1 : (convert 37 9 (.slice (some ⟨g5, 0, none⟩) b.length c5)).run Try.prog w5 = .ok (.string ⟨b.toArray⟩) w5 := by
      obtain ⟨a', c', hv, _, hr'⟩ := OwB.rest W5.out
      injection hv with q1 q2 q3
      rw [q1]
      exact conv_rest hr' c5
    have k2' := k2.out w5 O5.out
    have d9 := Hd.out w5 O5.out
    go_wp2_with (first | (go_at_call 16; refine (num_any _ _).mono ?_; rintro e w0' ⟨rfl, hw⟩; subst hw))
    go_ret
    exact ⟨rfl, O5.out⟩
set_option maxRecDepth 8000 in
set_option maxHeartbeats 1000000 in
theorem one_some (a : Option Addr) (cap : Nat) (b : List UInt8) (k : Nat) (t : UInt8) (w : World) (hr : RestAt w.heap.size w a b) (hc : b.length ≤ cap) (hb : b.length ≤ 1048576) (L : List Sy) (hT : rdS b = (some L, 0, 0)) (hkl : k < b.length) (x0 : UInt8) (hbk : b[k]? = some x0) (hne : ¬ x0 = t) (M : List Sy) (a9 e9 : Int) (hM : rdS (b.set k t) = (some M, a9, e9)) : Calls Try.prog 6 #[.slice a b.length cap, .int .i64 (k : Int), .int .u8 (t.toNat : Int)] w fun e w' => e = .returned (.bool true) ∧ Out w w' := by
  obtain ⟨i0, hi0, hz0, hz1, hz2⟩ := info_parts infoSm
  have CA := hidOf awake10
  obtain ⟨_, _, hwp, hok, _, _⟩ := one_P hT
  obtain ⟨_, hbl, _⟩ := back_S hwp hok
  have CC := hidOf (fun wx (o : Out w wx) => copyC wx a cap b (rest_out hr o) (by omega))
  have CR : Hid (∀ wx a' c', RestAt wx.heap.size wx a' b → b.length ≤ c' → Calls Try.prog 17 #[.slice a' b.length c'] wx fun e w' => ∃ a2 c2, e = .returned (.tuple #[.slice a2 L.length c2, .int .i64 0, .int .i64 0]) ∧ OwS wx.heap.size (.slice a2 L.length c2) L w' ∧ Out wx w') := fun wx a' c' h1 h2 => (readC wx a' c' b h1 h2 (by omega)).mono fun e w' hh => by
    rw [hT] at hh
    obtain ⟨ho, a2, c2, he, hown⟩ := hh
    exact ⟨a2, c2, he, hown, ho⟩
  have CW : Hid (∀ wx a' c', SyAt wx.heap.size wx a' L → L.length ≤ c' → Calls Try.prog 15 #[.slice a' L.length c'] wx fun e w' => ∃ g c, e = .returned (.tuple #[.slice (some ⟨g, 0, none⟩) b.length c, .int .i64 0]) ∧ OwB wx.heap.size (.slice (some ⟨g, 0, none⟩) b.length c) b w' ∧ Out wx w') := fun wx a' c' h1 h2 => (write_any wx a' c' L h1 h2 (by omega) hok).mono fun e w' hh => by
    rw [hwp] at hh
    obtain ⟨ho, a2, c2, he, hown⟩ := hh
    obtain ⟨g, c', hv⟩ := own_some hown (by omega)
    rw [hv] at hown he
    exact ⟨g, c', he, hown, ho⟩
  obtain ⟨g, off, rfl, hg, hB⟩ := hr.at (by omega)
  have HBx : Hid (∀ wx, Out w wx → BAt wx g off b) := fun wx o => BAt.out hB hg o
  have HRx : Hid (∀ wx, Out w wx → RestAt wx.heap.size wx (some ⟨g, off, none⟩) b) := fun wx o => rest_out hr o
  have HLn := hidOf (show 24 * L.length ≤ 1048576 ∧ 24 ≤ b.length by omega)
  have hx : ¬ (k : Int) < 0 := by omega
  have hx2 : ¬ (b.length : Int) ≤ k := by omega
  have hk0 : (0 : Int) ≤ k := by omega
  have hk1 : (k : Int) < b.length := by omega
  have Hd : Hid (∀ wx, Out w wx → wx.cell? ⟨g, off + k, none⟩ = some (.int .u8 (x0.toNat : Int))) := fun wx o => HBx.out wx o k x0 hbk
  have hxt : ((x0.toNat : Int) == (t.toNat : Int)) = false := by
    simp only [beq_eq_false_iff_ne, ne_eq]
    intro h
    exact hne (UInt8.toNat_inj.1 (by omega))
  have Hx0 := hidOf hbk
  have hbk2 : ¬ b[k]? = some t := by rw [hbk]; simpa using hne
  obtain ⟨hc1, hc2⟩ := chg_P hT k t hkl hbk2
  have hl2 : (b.set k t).length = b.length := List.length_set
  obtain ⟨hLM, rfl, rfl⟩ := hc1 M a9 e9 hM
  have CR2 : Hid (∀ wx a' c', RestAt wx.heap.size wx a' (b.set k t) → (b.set k t).length ≤ c' → Calls Try.prog 17 #[.slice a' b.length c'] wx fun e w' => ∃ a2 c2, e = .returned (.tuple #[.slice a2 M.length c2, .int .i64 0, .int .i64 0]) ∧ SyAt w'.heap.size w' a2 M ∧ Out wx w') := fun wx a' c' h1 h2 => by
    have := readC wx a' c' (b.set k t) h1 h2 (by omega)
    rw [hl2] at this
    refine this.mono fun e w' hh => ?_
    rw [hM] at hh
    obtain ⟨ho, a2, c2, he, hown⟩ := hh
    obtain ⟨a3, c3, hv, _, hr3⟩ := OwS.at hown
    injection hv with q1
    subst q1
    exact ⟨a2, c2, he, hr3, ho⟩
  have CS : Hid (∀ wx a' a2 c' c2, SyAt wx.heap.size wx a' L → SyAt wx.heap.size wx a2 M → Calls Try.prog 18 #[.slice a' L.length c', .slice a2 M.length c2] wx fun e w' => e = .returned (.bool false) ∧ Out wx w') := fun wx a' a2 c' c2 h1 h2 => (sameSymbols_any wx a' a2 c' c2 L M h1 h2 (by omega)).mono fun e w' ⟨he, ho⟩ => ⟨by rw [he, decide_eq_false hLM], ho⟩
  clear hM hc1 hc2 hl2 hbk hbk2 hne hLM
  clear hT hwp hok hbl hr hB hg hb
  go_enter Try.func6, Try.ntmps6
  go_upto_region 6 with (first | (go_at_call 8; refine (CA.out _).mono ?_; rintro e w1 ⟨rfl, hO⟩; have O1 := hidOf hO; clear hO) | (go_at_call 12; with_reducible refine (CC.out w1 O1.out).mono ?_; rintro e w2 ⟨a2, c2, rfl, hl2, hr2, hO⟩; have R2 := hidOf hr2; have HL2 := hidOf hl2; have O2 := hidOf (O1.out.trans hO); clear hr2 hl2 hO) | (go_at_call 17; with_reducible refine (CR.out w2 a2 c2 R2.out HL2.out).mono ?_; rintro e w3 ⟨a3, c3, rfl, hs3, hO⟩; have S3 := hidOf hs3; have O3 := hidOf (O2.out.trans hO); clear hs3 hO) | (go_at_call 16; refine (num_any _ _).mono ?_; rintro e w0' ⟨rfl, hw⟩; subst hw))
  have k2 : Hid (∀ wx, Out w wx → (convert 37 9 (.slice (some ⟨g, off, none⟩) b.length cap)).run Try.prog wx = .ok (.string ⟨b.toArray⟩) wx) := fun wx o => conv_rest (HRx.out wx o) cap
  cases a3 with
  | none =>
    obtain rfl : L = [] := by
      obtain ⟨a', c', hv, _, ha⟩ := OwS.at S3.out
      injection hv with q1
      subst q1
      rcases ha with h | ⟨_, _, _, h, _⟩
      · exact h
      · cases h
    simp only [List.length_nil] at *
    go_upto_region 7 with (first | (go_at_call 15; refine (CW.out (w3.alloc (.cells #[] 57)) _ 0 (.inl rfl) (by simp)).mono ?_; rintro e w5 ⟨g5, c5, rfl, hown, hO⟩; have W5 := hidOf hown; have P5 := hidOf (((Out.refl w3).alloc _).trans hO); have O5 := hidOf (O3.out.trans (((Out.refl w3).alloc _).trans hO)); clear hown hO))
    have k1 : (convert 37 9 (.slice (some ⟨g5, 0, none⟩) b.length c5)).run Try.prog w5 = .ok (.string ⟨b.toArray⟩) w5 := by
      obtain ⟨a', c', hv, _, hr'⟩ := OwB.rest W5.out
      injection hv with q1 q2 q3
      rw [q1]
      exact conv_rest hr' c5
    have k2' := k2.out w5 O5.out
    have d9 := Hd.out w5 O5.out
    obtain ⟨hset, f5, hgB⟩ := W5.out.setB k t
    have d5 : w5.cell? ⟨g5, k, none⟩ = some (.int .u8 (x0.toNat : Int)) := by
      obtain ⟨g', cap', hv, _, h⟩ := own_cell W5.out (k := k) (u := .int .u8 (x0.toNat : Int)) (by simp [Lib.byteCells, Hx0.out])
      injection hv with q1
      obtain rfl : g5 = g' := by simpa using q1
      exact h
    have S5 : Hid (OwS w2.heap.size (.slice none 0 c3) ([] : List Sy) w5) := hidOf (own_at S3.out P5.out)
    have hgw : w.heap.size ≤ g5 := (by have := O3.out.size; rw [size_alloc] at hgB; omega)
    have S6 : Hid (OwS w2.heap.size (.slice none 0 c3) ([] : List Sy) (w5.setCell ⟨g5, k, none⟩ (.int .u8 (t.toNat : Int)))) := by
      refine owns_chg (S := fun j => j = g5) S5.out (fun j hj hs => ?_) (Chg.setCell (S := fun j => j = g5) (Chg.refl _ w5) (p := ⟨g5, k, none⟩) rfl _)
      rw [hs] at hj
      exact own_apart (by decide) S5.out W5.out g5 hj rfl
    have B6 := hidOf hset
    have O6 := hidOf (O5.out.setCell (a := ⟨g5, k, none⟩) hgw (.int .u8 (t.toNat : Int)))
    have hc5 : (b.length : Int) ≤ c5 := by
      obtain ⟨a', c', hv, hl, _⟩ := OwB.rest W5.out
      injection hv with q1 q2 q3
      omega
    clear hset hgB hgw
    go_upto_region 12 with (first | (go_at_call 16; refine (num_any _ _).mono ?_; rintro e w0' ⟨rfl, hw⟩; subst hw))
    clear d9 d5 f5 k1 k2'
    generalize w5.setCell ⟨g5, k, none⟩ (.int .u8 (t.toNat : Int)) = w6 at *
    have R6 : Hid (RestAt w6.heap.size w6 (some ⟨g5, 0, none⟩) (b.set k t) ∧ (b.set k t).length ≤ c5) := by
      obtain ⟨a', c', hv, hl, hr'⟩ := OwB.rest B6.out
      injection hv with q1 q2 q3
      subst q1 q3
      exact ⟨hr', hl⟩
    have CR6 := hidOf (CR2.out w6 (some ⟨g5, 0, none⟩) c5 R6.out.1 R6.out.2)
    go_wp2_with (first | (go_at_call 16; refine (num_any _ _).mono ?_; rintro e w0' ⟨rfl, hw⟩; subst hw) | (go_at_call 17; go_loud (with_reducible refine (CR6.out).mono ?_); rintro e w7 ⟨a7, c7, rfl, hr7, hO⟩; have R7 := hidOf hr7; have O7 := hidOf (O6.out.trans hO); go_loud (have S7 : Hid (SyAt w7.heap.size w7 none ([] : List Sy)) := (by obtain ⟨a', c', hv, _, ha⟩ := OwS.at S6.out; injection hv with q1; subst q1; exact ha.out hO)); clear hr7 hO) | (go_at_call 18; go_loud (refine (CS.out w7 none a7 c3 c7 S7.out R7.out).mono ?_); rintro e w8 ⟨rfl, hO⟩; have O8 := hidOf (O7.out.trans hO); clear hO))
    go_ret
    exact ⟨rfl, O8.out⟩
  | some ad =>
    have HC : Hid (∀ wx, Out w3 wx → ∀ j u, (syV L)[j]? = some u → wx.cell? (ad.add j) = some u) := fun wx o => by
      obtain ⟨a', c', hv, _, ha⟩ := OwS.at S3.out
      injection hv with q1
      subst q1
      exact (ha.out o).news
    go_upto_region 7 with (first | (at_builtin; refine wpList_append_own _ rfl (.tmp 31) (.tmp 32) 25 rfl w3.heap.size 57 i0 _ 6 48 Try.underlying25 hi0 hz0 hz1 hz2 rfl (by decide) (.slice (some ⟨w3.heap.size, 0, none⟩) 0 0) 0 [] rfl (owns_void w3 w3.heap.size 6 57 (Nat.le_refl _)) ad L.length c3 (syV L) rfl (syV_len L) (HC.out _ ((Out.refl w3).alloc _)) (syV_one _) (by unfold maxLen; have := HLn.out; omega) (by have := HLn.out; omega) (by rw [size_alloc]; omega) ?_; intro v' w4 hown' hgrow _; have P4 := hidOf (out_rowN ((Out.refl w3).alloc _) (owns_void w3 w3.heap.size 6 57 (Nat.le_refl _)) hgrow); have HN : OwS w3.heap.size v' L w4 := (by unfold OwS; rw [Nat.zero_add, List.nil_append] at hown'; exact hown'); obtain ⟨a4, c4, rfl, hl4, hr4⟩ := OwS.at HN; have R4 := hidOf hr4; have HL4 := hidOf hl4; clear hown' hgrow HN hr4 hl4) | (go_at_call 15; with_reducible refine (CW.out w4 a4 c4 R4.out HL4.out).mono ?_; rintro e w5 ⟨g5, c5, rfl, hown, hO⟩; have W5 := hidOf hown; have P5 := hidOf (P4.out.trans hO); have O5 := hidOf (O3.out.trans (P4.out.trans hO)); clear hown hO))
    have k1 : (convert 37 9 (.slice (some ⟨g5, 0, none⟩) b.length c5)).run Try.prog w5 = .ok (.string ⟨b.toArray⟩) w5 := by
      obtain ⟨a', c', hv, _, hr'⟩ := OwB.rest W5.out
      injection hv with q1 q2 q3
      rw [q1]
      exact conv_rest hr' c5
    have k2' := k2.out w5 O5.out
    have d9 := Hd.out w5 O5.out
    obtain ⟨hset, f5, hgB⟩ := W5.out.setB k t
    have d5 : w5.cell? ⟨g5, k, none⟩ = some (.int .u8 (x0.toNat : Int)) := by
      obtain ⟨g', cap', hv, _, h⟩ := own_cell W5.out (k := k) (u := .int .u8 (x0.toNat : Int)) (by simp [Lib.byteCells, Hx0.out])
      injection hv with q1
      obtain rfl : g5 = g' := by simpa using q1
      exact h
    have S5 : Hid (OwS w2.heap.size (.slice (some ad) L.length c3) L w5) := hidOf (own_at S3.out P5.out)
    have hgw : w.heap.size ≤ g5 := (Nat.le_trans O3.out.size (Nat.le_trans P4.out.size hgB))
    have S6 : Hid (OwS w2.heap.size (.slice (some ad) L.length c3) L (w5.setCell ⟨g5, k, none⟩ (.int .u8 (t.toNat : Int)))) := by
      refine owns_chg (S := fun j => j = g5) S5.out (fun j hj hs => ?_) (Chg.setCell (S := fun j => j = g5) (Chg.refl _ w5) (p := ⟨g5, k, none⟩) rfl _)
      rw [hs] at hj
      exact own_apart (by decide) S5.out W5.out g5 hj rfl
    have B6 := hidOf hset
    have O6 := hidOf (O5.out.setCell (a := ⟨g5, k, none⟩) hgw (.int .u8 (t.toNat : Int)))
    have hc5 : (b.length : Int) ≤ c5 := by
      obtain ⟨a', c', hv, hl, _⟩ := OwB.rest W5.out
      injection hv with q1 q2 q3
      omega
    clear hset hgB hgw
    go_upto_region 12 with (first | (go_at_call 16; refine (num_any _ _).mono ?_; rintro e w0' ⟨rfl, hw⟩; subst hw))
    clear d9 d5 f5 k1 k2'
    generalize w5.setCell ⟨g5, k, none⟩ (.int .u8 (t.toNat : Int)) = w6 at *
    have R6 : Hid (RestAt w6.heap.size w6 (some ⟨g5, 0, none⟩) (b.set k t) ∧ (b.set k t).length ≤ c5) := by
      obtain ⟨a', c', hv, hl, hr'⟩ := OwB.rest B6.out
      injection hv with q1 q2 q3
      subst q1 q3
      exact ⟨hr', hl⟩
    have CR6 := hidOf (CR2.out w6 (some ⟨g5, 0, none⟩) c5 R6.out.1 R6.out.2)
    go_wp2_with (first | (go_at_call 16; refine (num_any _ _).mono ?_; rintro e w0' ⟨rfl, hw⟩; subst hw) | (go_at_call 17; go_loud (with_reducible refine (CR6.out).mono ?_); rintro e w7 ⟨a7, c7, rfl, hr7, hO⟩; have R7 := hidOf hr7; have O7 := hidOf (O6.out.trans hO); go_loud (have S7 : Hid (SyAt w7.heap.size w7 (some ad) L) := (by obtain ⟨a', c', hv, _, ha⟩ := OwS.at S6.out; injection hv with q1; subst q1; exact ha.out hO)); clear hr7 hO) | (go_at_call 18; go_loud (refine (CS.out w7 (some ad) a7 c3 c7 S7.out R7.out).mono ?_); rintro e w8 ⟨rfl, hO⟩; have O8 := hidOf (O7.out.trans hO); clear hO))
    go_ret
    exact ⟨rfl, O8.out⟩
set_option maxRecDepth 8000 in
set_option maxHeartbeats 1000000 in
theorem one_none (a : Option Addr) (cap : Nat) (b : List UInt8) (k : Nat) (t : UInt8) (w : World) (hr : RestAt w.heap.size w a b) (hc : b.length ≤ cap) (hb : b.length ≤ 1048576) (L : List Sy) (hT : rdS b = (some L, 0, 0)) (hkl : k < b.length) (x0 : UInt8) (hbk : b[k]? = some x0) (hne : ¬ x0 = t) (pl er : Int) (hM : rdS (b.set k t) = (none, pl, er)) : Calls Try.prog 6 #[.slice a b.length cap, .int .i64 (k : Int), .int .u8 (t.toNat : Int)] w fun e w' => e = .returned (.bool true) ∧ Out w w' := by
  obtain ⟨i0, hi0, hz0, hz1, hz2⟩ := info_parts infoSm
  have CA := hidOf awake10
  obtain ⟨_, _, hwp, hok, _, _⟩ := one_P hT
  obtain ⟨_, hbl, _⟩ := back_S hwp hok
  have CC := hidOf (fun wx (o : Out w wx) => copyC wx a cap b (rest_out hr o) (by omega))
  have CR : Hid (∀ wx a' c', RestAt wx.heap.size wx a' b → b.length ≤ c' → Calls Try.prog 17 #[.slice a' b.length c'] wx fun e w' => ∃ a2 c2, e = .returned (.tuple #[.slice a2 L.length c2, .int .i64 0, .int .i64 0]) ∧ OwS wx.heap.size (.slice a2 L.length c2) L w' ∧ Out wx w') := fun wx a' c' h1 h2 => (readC wx a' c' b h1 h2 (by omega)).mono fun e w' hh => by
    rw [hT] at hh
    obtain ⟨ho, a2, c2, he, hown⟩ := hh
    exact ⟨a2, c2, he, hown, ho⟩
  have CW : Hid (∀ wx a' c', SyAt wx.heap.size wx a' L → L.length ≤ c' → Calls Try.prog 15 #[.slice a' L.length c'] wx fun e w' => ∃ g c, e = .returned (.tuple #[.slice (some ⟨g, 0, none⟩) b.length c, .int .i64 0]) ∧ OwB wx.heap.size (.slice (some ⟨g, 0, none⟩) b.length c) b w' ∧ Out wx w') := fun wx a' c' h1 h2 => (write_any wx a' c' L h1 h2 (by omega) hok).mono fun e w' hh => by
    rw [hwp] at hh
    obtain ⟨ho, a2, c2, he, hown⟩ := hh
    obtain ⟨g, c', hv⟩ := own_some hown (by omega)
    rw [hv] at hown he
    exact ⟨g, c', he, hown, ho⟩
  obtain ⟨g, off, rfl, hg, hB⟩ := hr.at (by omega)
  have HBx : Hid (∀ wx, Out w wx → BAt wx g off b) := fun wx o => BAt.out hB hg o
  have HRx : Hid (∀ wx, Out w wx → RestAt wx.heap.size wx (some ⟨g, off, none⟩) b) := fun wx o => rest_out hr o
  have HLn := hidOf (show 24 * L.length ≤ 1048576 ∧ 24 ≤ b.length by omega)
  have hx : ¬ (k : Int) < 0 := by omega
  have hx2 : ¬ (b.length : Int) ≤ k := by omega
  have hk0 : (0 : Int) ≤ k := by omega
  have hk1 : (k : Int) < b.length := by omega
  have Hd : Hid (∀ wx, Out w wx → wx.cell? ⟨g, off + k, none⟩ = some (.int .u8 (x0.toNat : Int))) := fun wx o => HBx.out wx o k x0 hbk
  have hxt : ((x0.toNat : Int) == (t.toNat : Int)) = false := by
    simp only [beq_eq_false_iff_ne, ne_eq]
    intro h
    exact hne (UInt8.toNat_inj.1 (by omega))
  have Hx0 := hidOf hbk
  have hbk2 : ¬ b[k]? = some t := by rw [hbk]; simpa using hne
  obtain ⟨hc1, hc2⟩ := chg_P hT k t hkl hbk2
  have hl2 : (b.set k t).length = b.length := List.length_set
  obtain ⟨hp0, her, hpp⟩ := hc2 pl er hM
  have CR2 : Hid (∀ wx a' c', RestAt wx.heap.size wx a' (b.set k t) → (b.set k t).length ≤ c' → Calls Try.prog 17 #[.slice a' b.length c'] wx fun e w' => e = .returned (.tuple #[.slice none 0 0, .int .i64 pl, .int .i64 er]) ∧ Out wx w') := fun wx a' c' h1 h2 => by
    have := readC wx a' c' (b.set k t) h1 h2 (by omega)
    rw [hl2] at this
    refine this.mono fun e w' hh => ?_
    rw [hM] at hh
    exact ⟨hh.2, hh.1⟩
  have hEn : (er == 0) = false := by rcases her with rfl | rfl <;> rfl
  obtain ⟨P, hP⟩ : ∃ P, pl / 24 = P := ⟨_, rfl⟩
  obtain ⟨K, hK⟩ : ∃ K, (k : Int) / 24 = K := ⟨_, rfl⟩
  have hPt : pl.tdiv 24 = P := by rw [Int.tdiv_eq_ediv_of_nonneg hp0]; exact hP
  have hKt : (k : Int).tdiv 24 = K := by rw [Int.tdiv_eq_ediv_of_nonneg hk0]; exact hK
  rw [hP, hK] at hpp
  have hK0 : 0 ≤ K := by omega
  have hK1 : K ≤ 1048576 := by omega
  clear hM hc1 hc2 hl2 hbk hbk2 hne her
  clear hT hwp hok hbl hr hB hg hb
  rcases hpp with rfl | rfl
  all_goals
    go_enter Try.func6, Try.ntmps6
    go_upto_region 6 with (first | (go_at_call 8; refine (CA.out _).mono ?_; rintro e w1 ⟨rfl, hO⟩; have O1 := hidOf hO; clear hO) | (go_at_call 12; with_reducible refine (CC.out w1 O1.out).mono ?_; rintro e w2 ⟨a2, c2, rfl, hl2, hr2, hO⟩; have R2 := hidOf hr2; have HL2 := hidOf hl2; have O2 := hidOf (O1.out.trans hO); clear hr2 hl2 hO) | (go_at_call 17; with_reducible refine (CR.out w2 a2 c2 R2.out HL2.out).mono ?_; rintro e w3 ⟨a3, c3, rfl, hs3, hO⟩; have S3 := hidOf hs3; have O3 := hidOf (O2.out.trans hO); clear hs3 hO) | (go_at_call 16; refine (num_any _ _).mono ?_; rintro e w0' ⟨rfl, hw⟩; subst hw))
    have k2 : Hid (∀ wx, Out w wx → (convert 37 9 (.slice (some ⟨g, off, none⟩) b.length cap)).run Try.prog wx = .ok (.string ⟨b.toArray⟩) wx) := fun wx o => conv_rest (HRx.out wx o) cap
    cases a3 with
    | none =>
      obtain rfl : L = [] := by
        obtain ⟨a', c', hv, _, ha⟩ := OwS.at S3.out
        injection hv with q1
        subst q1
        rcases ha with h | ⟨_, _, _, h, _⟩
        · exact h
        · cases h
      simp only [List.length_nil] at *
      go_upto_region 7 with (first | (go_at_call 15; refine (CW.out (w3.alloc (.cells #[] 57)) _ 0 (.inl rfl) (by simp)).mono ?_; rintro e w5 ⟨g5, c5, rfl, hown, hO⟩; have W5 := hidOf hown; have P5 := hidOf (((Out.refl w3).alloc _).trans hO); have O5 := hidOf (O3.out.trans (((Out.refl w3).alloc _).trans hO)); clear hown hO))
      have k1 : (convert 37 9 (.slice (some ⟨g5, 0, none⟩) b.length c5)).run Try.prog w5 = .ok (.string ⟨b.toArray⟩) w5 := by
        obtain ⟨a', c', hv, _, hr'⟩ := OwB.rest W5.out
        injection hv with q1 q2 q3
        rw [q1]
        exact conv_rest hr' c5
      have k2' := k2.out w5 O5.out
      have d9 := Hd.out w5 O5.out
      obtain ⟨hset, f5, hgB⟩ := W5.out.setB k t
      have d5 : w5.cell? ⟨g5, k, none⟩ = some (.int .u8 (x0.toNat : Int)) := by
        obtain ⟨g', cap', hv, _, h⟩ := own_cell W5.out (k := k) (u := .int .u8 (x0.toNat : Int)) (by simp [Lib.byteCells, Hx0.out])
        injection hv with q1
        obtain rfl : g5 = g' := by simpa using q1
        exact h
      have S5 : Hid (OwS w2.heap.size (.slice none 0 c3) ([] : List Sy) w5) := hidOf (own_at S3.out P5.out)
      have hgw : w.heap.size ≤ g5 := (by have := O3.out.size; rw [size_alloc] at hgB; omega)
      have S6 : Hid (OwS w2.heap.size (.slice none 0 c3) ([] : List Sy) (w5.setCell ⟨g5, k, none⟩ (.int .u8 (t.toNat : Int)))) := by
        refine owns_chg (S := fun j => j = g5) S5.out (fun j hj hs => ?_) (Chg.setCell (S := fun j => j = g5) (Chg.refl _ w5) (p := ⟨g5, k, none⟩) rfl _)
        rw [hs] at hj
        exact own_apart (by decide) S5.out W5.out g5 hj rfl
      have B6 := hidOf hset
      have O6 := hidOf (O5.out.setCell (a := ⟨g5, k, none⟩) hgw (.int .u8 (t.toNat : Int)))
      have hc5 : (b.length : Int) ≤ c5 := by
        obtain ⟨a', c', hv, hl, _⟩ := OwB.rest W5.out
        injection hv with q1 q2 q3
        omega
      clear hset hgB hgw
      go_upto_region 12 with (first | (go_at_call 16; refine (num_any _ _).mono ?_; rintro e w0' ⟨rfl, hw⟩; subst hw))
      clear d9 d5 f5 k1 k2'
      generalize w5.setCell ⟨g5, k, none⟩ (.int .u8 (t.toNat : Int)) = w6 at *
      have R6 : Hid (RestAt w6.heap.size w6 (some ⟨g5, 0, none⟩) (b.set k t) ∧ (b.set k t).length ≤ c5) := by
        obtain ⟨a', c', hv, hl, hr'⟩ := OwB.rest B6.out
        injection hv with q1 q2 q3
        subst q1 q3
        exact ⟨hr', hl⟩
      have CR6 := hidOf (CR2.out w6 (some ⟨g5, 0, none⟩) c5 R6.out.1 R6.out.2)
      go_wp2_with (first | (go_at_call 16; refine (num_any _ _).mono ?_; rintro e w0' ⟨rfl, hw⟩; subst hw) | (go_at_call 17; with_reducible refine (CR6.out).mono ?_; rintro e w7 ⟨rfl, hO⟩; have O7 := hidOf (O6.out.trans hO); clear hO))
      go_ret
      exact ⟨rfl, O7.out⟩
    | some ad =>
      have HC : Hid (∀ wx, Out w3 wx → ∀ j u, (syV L)[j]? = some u → wx.cell? (ad.add j) = some u) := fun wx o => by
        obtain ⟨a', c', hv, _, ha⟩ := OwS.at S3.out
        injection hv with q1
        subst q1
        exact (ha.out o).news
      go_upto_region 7 with (first | (at_builtin; refine wpList_append_own _ rfl (.tmp 31) (.tmp 32) 25 rfl w3.heap.size 57 i0 _ 6 48 Try.underlying25 hi0 hz0 hz1 hz2 rfl (by decide) (.slice (some ⟨w3.heap.size, 0, none⟩) 0 0) 0 [] rfl (owns_void w3 w3.heap.size 6 57 (Nat.le_refl _)) ad L.length c3 (syV L) rfl (syV_len L) (HC.out _ ((Out.refl w3).alloc _)) (syV_one _) (by unfold maxLen; have := HLn.out; omega) (by have := HLn.out; omega) (by rw [size_alloc]; omega) ?_; intro v' w4 hown' hgrow _; have P4 := hidOf (out_rowN ((Out.refl w3).alloc _) (owns_void w3 w3.heap.size 6 57 (Nat.le_refl _)) hgrow); have HN : OwS w3.heap.size v' L w4 := (by unfold OwS; rw [Nat.zero_add, List.nil_append] at hown'; exact hown'); obtain ⟨a4, c4, rfl, hl4, hr4⟩ := OwS.at HN; have R4 := hidOf hr4; have HL4 := hidOf hl4; clear hown' hgrow HN hr4 hl4) | (go_at_call 15; with_reducible refine (CW.out w4 a4 c4 R4.out HL4.out).mono ?_; rintro e w5 ⟨g5, c5, rfl, hown, hO⟩; have W5 := hidOf hown; have P5 := hidOf (P4.out.trans hO); have O5 := hidOf (O3.out.trans (P4.out.trans hO)); clear hown hO))
      have k1 : (convert 37 9 (.slice (some ⟨g5, 0, none⟩) b.length c5)).run Try.prog w5 = .ok (.string ⟨b.toArray⟩) w5 := by
        obtain ⟨a', c', hv, _, hr'⟩ := OwB.rest W5.out
        injection hv with q1 q2 q3
        rw [q1]
        exact conv_rest hr' c5
      have k2' := k2.out w5 O5.out
      have d9 := Hd.out w5 O5.out
      obtain ⟨hset, f5, hgB⟩ := W5.out.setB k t
      have d5 : w5.cell? ⟨g5, k, none⟩ = some (.int .u8 (x0.toNat : Int)) := by
        obtain ⟨g', cap', hv, _, h⟩ := own_cell W5.out (k := k) (u := .int .u8 (x0.toNat : Int)) (by simp [Lib.byteCells, Hx0.out])
        injection hv with q1
        obtain rfl : g5 = g' := by simpa using q1
        exact h
      have S5 : Hid (OwS w2.heap.size (.slice (some ad) L.length c3) L w5) := hidOf (own_at S3.out P5.out)
      have hgw : w.heap.size ≤ g5 := (Nat.le_trans O3.out.size (Nat.le_trans P4.out.size hgB))
      have S6 : Hid (OwS w2.heap.size (.slice (some ad) L.length c3) L (w5.setCell ⟨g5, k, none⟩ (.int .u8 (t.toNat : Int)))) := by
        refine owns_chg (S := fun j => j = g5) S5.out (fun j hj hs => ?_) (Chg.setCell (S := fun j => j = g5) (Chg.refl _ w5) (p := ⟨g5, k, none⟩) rfl _)
        rw [hs] at hj
        exact own_apart (by decide) S5.out W5.out g5 hj rfl
      have B6 := hidOf hset
      have O6 := hidOf (O5.out.setCell (a := ⟨g5, k, none⟩) hgw (.int .u8 (t.toNat : Int)))
      have hc5 : (b.length : Int) ≤ c5 := by
        obtain ⟨a', c', hv, hl, _⟩ := OwB.rest W5.out
        injection hv with q1 q2 q3
        omega
      clear hset hgB hgw
      go_upto_region 12 with (first | (go_at_call 16; refine (num_any _ _).mono ?_; rintro e w0' ⟨rfl, hw⟩; subst hw))
      clear d9 d5 f5 k1 k2'
      generalize w5.setCell ⟨g5, k, none⟩ (.int .u8 (t.toNat : Int)) = w6 at *
      have R6 : Hid (RestAt w6.heap.size w6 (some ⟨g5, 0, none⟩) (b.set k t) ∧ (b.set k t).length ≤ c5) := by
        obtain ⟨a', c', hv, hl, hr'⟩ := OwB.rest B6.out
        injection hv with q1 q2 q3
        subst q1 q3
        exact ⟨hr', hl⟩
      have CR6 := hidOf (CR2.out w6 (some ⟨g5, 0, none⟩) c5 R6.out.1 R6.out.2)
      go_wp2_with (first | (go_at_call 16; refine (num_any _ _).mono ?_; rintro e w0' ⟨rfl, hw⟩; subst hw) | (go_at_call 17; with_reducible refine (CR6.out).mono ?_; rintro e w7 ⟨rfl, hO⟩; have O7 := hidOf (O6.out.trans hO); clear hO))
      go_ret
      exact ⟨rfl, O7.out⟩
theorem symtabOne_walk (a : Option Addr) (cap : Nat) (b : List UInt8) (x y : Int) (hy : ∃ t : UInt8, (t.toNat : Int) = y) (w : World) (hr : RestAt w.heap.size w a b) (hc : b.length ≤ cap) (hb : b.length ≤ 1048576) : Calls Try.prog 6 #[.slice a b.length cap, .int .i64 x, .int .u8 y] w fun e w' => e = .returned (.bool true) ∧ Out w w' := by
  obtain ⟨t, rfl⟩ := hy
  cases hT : rdS b with
  | mk o r =>
    obtain ⟨pl, er⟩ := r
    cases o with
    | none => exact one_no a cap b x t w hr hc hb pl er hT
    | some L =>
      obtain ⟨rfl, rfl, _⟩ := one_P hT
      by_cases hx : x < 0
      · exact one_out a cap b x t w hr hc hb L hT hx
      · by_cases hx2 : (b.length : Int) ≤ x
        · exact one_far a cap b x t w hr hc hb L hT hx hx2
        · obtain ⟨k, rfl⟩ : ∃ k : Nat, x = k := ⟨x.toNat, by omega⟩
          have hkl : k < b.length := by omega
          obtain ⟨x0, hbk⟩ : ∃ x0, b[k]? = some x0 := ⟨_, List.getElem?_eq_getElem hkl⟩
          by_cases hne : x0 = t
          · subst hne
            exact one_same a cap b k x0 w hr hc hb L hT hkl hbk
          · cases hM : rdS (b.set k t) with
            | mk o2 r2 =>
              obtain ⟨pl2, er2⟩ := r2
              cases o2 with
              | none => exact one_none a cap b k t w hr hc hb L hT hkl x0 hbk hne pl2 er2 hM
              | some M => exact one_some a cap b k t w hr hc hb L hT hkl x0 hbk hne M pl2 er2 hM
end Go.Proofs.Ytpkbchhjcgiiaaa
