import Derived.Test.YtcalbhcgimipeaaEnh
namespace Go.Proofs.Ytcalbhcgimipeaa
open Go.RowKit
set_option linter.unusedVariables false
set_option linter.unusedSimpArgs false
theorem RestAt.out {w w' : World} {a : Option Addr} {l : List UInt8} (h : RestAt w.heap.size w a l) (o : Out w w') : RestAt w'.heap.size w' a l := by
  rcases h with h | ⟨b, off, hb, ha, hc⟩
  · exact .inl h
  · exact .inr ⟨b, off, Nat.lt_of_lt_of_le hb o.size, ha, fun k y hy => cell_later o (hc k y hy)⟩
theorem RestAt.take {N : Nat} {w : World} {a : Option Addr} {l : List UInt8} (h : RestAt N w a l) (k : Nat) : RestAt N w a (l.take k) := by
  rcases h with h | ⟨b, off, hb, ha, hc⟩
  · exact .inl (by rw [h]; simp)
  · refine .inr ⟨b, off, hb, ha, fun j y hy => hc j y ?_⟩
    rw [List.getElem?_take] at hy
    split at hy
    · exact hy
    · cases hy
theorem OwB.restAt {B : Nat} {a : Option Addr} {n c : Nat} {l : List UInt8} {w : World} (h : OwB B (.slice a n c) l w) : RestAt w.heap.size w a l ∧ l.length ≤ c ∧ n = l.length := by
  obtain ⟨a', cp, hv, hc, hr⟩ := h.rest
  simp only [Value.slice.injEq] at hv
  obtain ⟨rfl, h2, rfl⟩ := hv
  exact ⟨hr, hc, h2⟩
/-- bytes that are refused -/
theorem read_not (l : List UInt8) (hl : l.length ≤ 1000000000000) (p e : Int) (h : rdEl l = (none, p, e)) (w : World) (B : Nat) (a : Option Addr) (c : Nat) (ho : OwB B (.slice a l.length c) l w) : Calls Try.prog 15 #[.slice a l.length c] w fun r w' => r = .returned (.tuple #[.slice none 0 0, .int .i64 p, .int .i64 e]) ∧ Out w w' := by
  refine (read_own w B a c l ho hl).mono ?_
  rintro r w' (⟨_, he, o⟩ | ⟨S, _, _, _, h3, _⟩)
  · rw [h] at he; exact ⟨he, o⟩
  · rw [h] at h3; cases h3
theorem cut_pe (ss : List Sec) (hok : writeOk ss = true) (h64 : ∀ s ∈ ss, I64 s) (hs : sumD ss ≤ 100000000000) (hb : (writeB ss).length ≤ 1000000000000) (k : Nat) (hk : k < (writeB ss).length) : ∃ p e, rdEl ((writeB ss).take k) = (none, p, e) ∧ (e = 90 ∨ e = 91) := by
  obtain ⟨h1, h2⟩ := cut_P ss hok h64 hs hb k hk
  exact ⟨_, _, Prod.ext h1 rfl, h2⟩
set_option maxRecDepth 8000 in
set_option maxHeartbeats 1000000 in
theorem cut_first (W : World) (a : Option Addr) (cap : Nat) (L : List SV) (h : SIn W a cap L) (keep : Int) (a2 : Option Addr) (cap2 : Nat) (m : List UInt8) (hok : writeOk (secs L) = false) : Calls Try.prog 8 #[.slice a L.length cap, .int .i64 keep, .slice a2 m.length cap2] W fun e W' => e = .returned (.bool true) ∧ Below W.heap.size W W' := by
  have CA := hidOf (awake9 W)
  have CC := hidOf (fun wx (o : Out W wx) => h.copy o)
  have CW := hidOf (h.not hok)
  clear h hok
  go_enter Try.func8, Try.ntmps8
  go_wp2_with (first | (go_at_call 9; refine (CA.out).mono ?_; rintro e w1 ⟨rfl, hO⟩; have HO := hidOf hO; clear hO) | (go_at_call 13; refine (CC.out _ HO.out).mono ?_; rintro e w2 ⟨a2, c2, Ls, rfl, hS, hs⟩; have HS := hidOf hS; have Hs := hidOf hs; have HO2 := hidOf (HO.out.trans hS.out); clear hS hs) | (go_at_call 12; refine (CW.out _ _ _ _ _ HS.out Hs.out).mono ?_; rintro e w3 ⟨rfl, hO⟩; have HO3 := hidOf (HO2.out.trans hO); clear hO) | (go_at_call 14; refine (num_any _ _).mono ?_; rintro e w4 ⟨rfl, hw⟩; subst hw))
  all_goals
    go_ret
    first | exact ⟨rfl, HO3.out⟩ | exact ⟨rfl, HO3.out.drew⟩
theorem grow2 {B : Nat} {w : World} {v : Value} {b m : List UInt8} (h : w.ownsRow B 5 1 v (b.length + m.length) (Lib.byteCells b ++ Lib.byteCells m)) : OwB B v (b ++ m) w := by
  unfold OwB
  rw [List.length_append]
  simpa [Lib.byteCells] using h
set_option maxRecDepth 8000 in
set_option maxHeartbeats 1000000 in
theorem cut_km (W : World) (a : Option Addr) (cap : Nat) (L : List SV) (h : SIn W a cap L) (kp : Nat) (a2 : Option Addr) (cap2 : Nat) (m : List UInt8) (hm : RestAt W.heap.size W a2 m) (hm0 : ¬ m = []) (hml : m.length ≤ 10000000) (hok : writeOk (secs L) = true) (hk : kp < (writeB (secs L)).length) : Calls Try.prog 8 #[.slice a L.length cap, .int .i64 kp, .slice a2 m.length cap2] W fun e W' => e = .returned (.bool true) ∧ Below W.heap.size W W' := by
  have CA := hidOf (awake9 W)
  have CC := hidOf (fun wx (o : Out W wx) => h.copy o)
  have CW := hidOf (h.ok hok)
  obtain ⟨j0, hj0, hy0, hy1, hy2⟩ := info_parts infoB
  have hz := write_size (secs L) hok (by have := h.sum; omega)
  obtain ⟨p, er, hr, her⟩ := cut_pe (secs L) hok h.i64 (by have := h.sum; omega) (by omega) kp hk
  have hmr := more_P (secs L) hok h.i64 (by have := h.sum; omega) m (by omega) hm0
  obtain ⟨mb, mo, rfl, HMC⟩ : ∃ mb mo, a2 = some ⟨mb, mo, none⟩ ∧ Hid (∀ wx, Out W wx → ∀ j u, (Lib.byteCells m)[j]? = some u → wx.cell? ((⟨mb, mo, none⟩ : Addr).add j) = some u) := by
    rcases hm with hm | ⟨mb, mo, hb, rfl, hc⟩
    · exact absurd hm hm0
    · refine ⟨mb, mo, rfl, fun wx o j u hu => ?_⟩
      simp only [Lib.byteCells, List.getElem?_map, Option.map_eq_some_iff] at hu
      obtain ⟨y, hy, rfl⟩ := hu
      rw [WideShapes.add_plain]
      exact cell_later o (hc j y hy)
  obtain ⟨b, hb⟩ : ∃ b, b = writeB (secs L) := ⟨_, rfl⟩
  rw [← hb] at CW hz hk hr hmr
  have htl : (b.take kp).length = kp := by rw [List.length_take]; omega
  have CR1 := hidOf (read_not (b.take kp) (by omega) p er hr)
  rw [htl] at CR1
  have CB1 := hidOf (fun wx g c (hr : RestAt wx.heap.size wx (some ⟨g, 0, none⟩) b) => copyBytes_any wx (some ⟨g, 0, none⟩) c (b.take kp) (hr.take kp) (by omega))
  rw [htl] at CB1
  have hkI : (kp : Int) < b.length := by omega
  have hk0 : (0 : Int) ≤ kp := by omega
  obtain ⟨bm, hbm⟩ : ∃ bm, bm = b ++ m := ⟨_, rfl⟩
  rw [← hbm] at hmr
  have CR2 := hidOf (read_not bm (by rw [hbm, List.length_append]; omega) 40 91 hmr)
  have HBM := hidOf hbm
  clear hbm
  have CB2 := hidOf (fun wx g c (hr : RestAt wx.heap.size wx (some ⟨g, 0, none⟩) b) => copyBytes_any wx (some ⟨g, 0, none⟩) c b hr (by omega))
  have hm1 : ¬ (m.length : Int) = 0 := by
    intro h
    exact hm0 (List.length_eq_zero_iff.1 (by omega))
  have hm2 : ((m.length : Int) == 0) = false := by simpa using hm0
  have HZ := hidOf hz
  clear h hok hb hr hmr hm hm0
  rcases her with rfl | rfl
  · go_enter Try.func8, Try.ntmps8
    go_upto_region 10 with (first | (go_at_call 9; refine (CA.out).mono ?_; rintro e w1 ⟨rfl, hO⟩; have HO := hidOf hO; clear hO) | (go_at_call 13; refine (CC.out _ HO.out).mono ?_; rintro e w2 ⟨a2', c2, Ls, rfl, hS, hs⟩; have HS := hidOf hS; have Hs := hidOf hs; have HO2 := hidOf (HO.out.trans hS.out); clear hS hs) | (go_at_call 12; refine (CW.out _ _ _ _ _ HS.out Hs.out).mono ?_; rintro e w3 ⟨g3, c3, rfl, hB, hO⟩; have HR3 := hidOf hB.restAt; have hc3 : (b.length : Int) ≤ c3 := by { have := HR3.out.2.1; omega }; have HO3 := hidOf (HO2.out.trans hO); clear hB hO) | (go_at_call 14; refine (num_any _ _).mono ?_; rintro e w4 ⟨rfl, hw⟩; subst hw) | (go_at_call 17; refine (CB1.out _ _ _ HR3.out.1).mono ?_; rintro e w5 ⟨v5, rfl, hown, hO⟩; obtain ⟨a5, c5, rfl⟩ := own_form hown; rw [htl] at hown; have HV5 := hidOf hown; have HO5 := hidOf (HO3.out.trans hO); have HO35 := hidOf hO; clear hown hO) | (go_at_call 15; refine (CR1.out _ _ _ _ HV5.out).mono ?_; rintro e w6 ⟨rfl, hO⟩; have HO6 := hidOf (HO5.out.trans hO); have HO36 := hidOf (HO35.out.trans hO); clear hO))
    have HRx : Hid (RestAt w6.heap.size w6 (some ⟨g3, 0, none⟩) b) := hidOf (HR3.out.1.out HO36.out)
    clear HR3
    go_upto_region 13 with (first | (go_at_call 17; refine (CB2.out _ _ _ HRx.out).mono ?_; rintro e w7 ⟨v7, rfl, hown, hO⟩; obtain ⟨a7, c7, rfl⟩ := own_form hown; have HV7 := hidOf hown; have HO7 := hidOf (HO6.out.trans hO); have HOx := hidOf hO; have hs7 : w6.heap.size ≤ w7.heap.size := hO.size; have HC7 : Hid (∀ j u, (Lib.byteCells m)[j]? = some u → w7.cell? ((⟨mb, mo, none⟩ : Addr).add j) = some u) := (hidOf (fun j u hu => HMC.out w7 HO7.out j u hu)); clear hown hO) | (at_builtin; refine wpList_append_own _ rfl (.tmp 59) (.tmp 60) 36 rfl w6.heap.size 5 j0 _ 1 1 Try.underlying36 hj0 hy0 hy1 hy2 rfl (by decide) (.slice a7 b.length c7) b.length (Lib.byteCells b) rfl HV7.out ⟨mb, mo, none⟩ m.length cap2 (Lib.byteCells m) rfl (by rw [Lib.byteCells_length, Nat.mul_one]) HC7.out (bc_one m) (by unfold maxLen; omega) (by omega) (by omega) ?_; intro v8 w8 hown8 hgrow _; have HO8 := hidOf (HO6.out.trans (out_row HOx.out HV7.out hgrow)); have hown9 := grow2 hown8; rw [← HBM.out] at hown9; clear hgrow hown8; obtain ⟨a8, c8, rfl⟩ := own_form hown9; have HV8 := hidOf hown9; clear hown9) | (go_at_call 15; refine (CR2.out _ _ _ _ HV8.out).mono ?_; rintro e w9 ⟨rfl, hO⟩; have HO9 := hidOf (HO8.out.trans hO); clear hO))
    go_wp2_with (first | (go_at_call 14; refine (num_any _ _).mono ?_; rintro e w4 ⟨rfl, hw⟩; subst hw))
    all_goals
      go_ret
      first | exact ⟨rfl, HO9.out⟩ | exact ⟨rfl, HO9.out.drew⟩
  · go_enter Try.func8, Try.ntmps8
    go_upto_region 10 with (first | (go_at_call 9; refine (CA.out).mono ?_; rintro e w1 ⟨rfl, hO⟩; have HO := hidOf hO; clear hO) | (go_at_call 13; refine (CC.out _ HO.out).mono ?_; rintro e w2 ⟨a2', c2, Ls, rfl, hS, hs⟩; have HS := hidOf hS; have Hs := hidOf hs; have HO2 := hidOf (HO.out.trans hS.out); clear hS hs) | (go_at_call 12; refine (CW.out _ _ _ _ _ HS.out Hs.out).mono ?_; rintro e w3 ⟨g3, c3, rfl, hB, hO⟩; have HR3 := hidOf hB.restAt; have hc3 : (b.length : Int) ≤ c3 := by { have := HR3.out.2.1; omega }; have HO3 := hidOf (HO2.out.trans hO); clear hB hO) | (go_at_call 14; refine (num_any _ _).mono ?_; rintro e w4 ⟨rfl, hw⟩; subst hw) | (go_at_call 17; refine (CB1.out _ _ _ HR3.out.1).mono ?_; rintro e w5 ⟨v5, rfl, hown, hO⟩; obtain ⟨a5, c5, rfl⟩ := own_form hown; rw [htl] at hown; have HV5 := hidOf hown; have HO5 := hidOf (HO3.out.trans hO); have HO35 := hidOf hO; clear hown hO) | (go_at_call 15; refine (CR1.out _ _ _ _ HV5.out).mono ?_; rintro e w6 ⟨rfl, hO⟩; have HO6 := hidOf (HO5.out.trans hO); have HO36 := hidOf (HO35.out.trans hO); clear hO))
    have HRx : Hid (RestAt w6.heap.size w6 (some ⟨g3, 0, none⟩) b) := hidOf (HR3.out.1.out HO36.out)
    clear HR3
    go_upto_region 13 with (first | (go_at_call 17; refine (CB2.out _ _ _ HRx.out).mono ?_; rintro e w7 ⟨v7, rfl, hown, hO⟩; obtain ⟨a7, c7, rfl⟩ := own_form hown; have HV7 := hidOf hown; have HO7 := hidOf (HO6.out.trans hO); have HOx := hidOf hO; have hs7 : w6.heap.size ≤ w7.heap.size := hO.size; have HC7 : Hid (∀ j u, (Lib.byteCells m)[j]? = some u → w7.cell? ((⟨mb, mo, none⟩ : Addr).add j) = some u) := (hidOf (fun j u hu => HMC.out w7 HO7.out j u hu)); clear hown hO) | (at_builtin; refine wpList_append_own _ rfl (.tmp 59) (.tmp 60) 36 rfl w6.heap.size 5 j0 _ 1 1 Try.underlying36 hj0 hy0 hy1 hy2 rfl (by decide) (.slice a7 b.length c7) b.length (Lib.byteCells b) rfl HV7.out ⟨mb, mo, none⟩ m.length cap2 (Lib.byteCells m) rfl (by rw [Lib.byteCells_length, Nat.mul_one]) HC7.out (bc_one m) (by unfold maxLen; omega) (by omega) (by omega) ?_; intro v8 w8 hown8 hgrow _; have HO8 := hidOf (HO6.out.trans (out_row HOx.out HV7.out hgrow)); have hown9 := grow2 hown8; rw [← HBM.out] at hown9; clear hgrow hown8; obtain ⟨a8, c8, rfl⟩ := own_form hown9; have HV8 := hidOf hown9; clear hown9) | (go_at_call 15; refine (CR2.out _ _ _ _ HV8.out).mono ?_; rintro e w9 ⟨rfl, hO⟩; have HO9 := hidOf (HO8.out.trans hO); clear hO))
    go_wp2_with (first | (go_at_call 14; refine (num_any _ _).mono ?_; rintro e w4 ⟨rfl, hw⟩; subst hw))
    all_goals
      go_ret
      first | exact ⟨rfl, HO9.out⟩ | exact ⟨rfl, HO9.out.drew⟩
set_option maxRecDepth 8000 in
set_option maxHeartbeats 1000000 in
theorem cut_ke (W : World) (a : Option Addr) (cap : Nat) (L : List SV) (h : SIn W a cap L) (kp : Nat) (a2 : Option Addr) (cap2 : Nat)  (hok : writeOk (secs L) = true) (hk : kp < (writeB (secs L)).length) : Calls Try.prog 8 #[.slice a L.length cap, .int .i64 kp, .slice a2 0 cap2] W fun e W' => e = .returned (.bool true) ∧ Below W.heap.size W W' := by
  have CA := hidOf (awake9 W)
  have CC := hidOf (fun wx (o : Out W wx) => h.copy o)
  have CW := hidOf (h.ok hok)
  obtain ⟨j0, hj0, hy0, hy1, hy2⟩ := info_parts infoB
  have hz := write_size (secs L) hok (by have := h.sum; omega)
  obtain ⟨p, er, hr, her⟩ := cut_pe (secs L) hok h.i64 (by have := h.sum; omega) (by omega) kp hk
  obtain ⟨b, hb⟩ : ∃ b, b = writeB (secs L) := ⟨_, rfl⟩
  rw [← hb] at CW hz hk hr
  have htl : (b.take kp).length = kp := by rw [List.length_take]; omega
  have CR1 := hidOf (read_not (b.take kp) (by omega) p er hr)
  rw [htl] at CR1
  have CB1 := hidOf (fun wx g c (hr : RestAt wx.heap.size wx (some ⟨g, 0, none⟩) b) => copyBytes_any wx (some ⟨g, 0, none⟩) c (b.take kp) (hr.take kp) (by omega))
  rw [htl] at CB1
  have hkI : (kp : Int) < b.length := by omega
  have hk0 : (0 : Int) ≤ kp := by omega
  have HZ := hidOf hz
  clear h hok hb hr
  rcases her with rfl | rfl
  · go_enter Try.func8, Try.ntmps8
    go_upto_region 10 with (first | (go_at_call 9; refine (CA.out).mono ?_; rintro e w1 ⟨rfl, hO⟩; have HO := hidOf hO; clear hO) | (go_at_call 13; refine (CC.out _ HO.out).mono ?_; rintro e w2 ⟨a2', c2, Ls, rfl, hS, hs⟩; have HS := hidOf hS; have Hs := hidOf hs; have HO2 := hidOf (HO.out.trans hS.out); clear hS hs) | (go_at_call 12; refine (CW.out _ _ _ _ _ HS.out Hs.out).mono ?_; rintro e w3 ⟨g3, c3, rfl, hB, hO⟩; have HR3 := hidOf hB.restAt; have hc3 : (b.length : Int) ≤ c3 := by { have := HR3.out.2.1; omega }; have HO3 := hidOf (HO2.out.trans hO); clear hB hO) | (go_at_call 14; refine (num_any _ _).mono ?_; rintro e w4 ⟨rfl, hw⟩; subst hw) | (go_at_call 17; refine (CB1.out _ _ _ HR3.out.1).mono ?_; rintro e w5 ⟨v5, rfl, hown, hO⟩; obtain ⟨a5, c5, rfl⟩ := own_form hown; rw [htl] at hown; have HV5 := hidOf hown; have HO5 := hidOf (HO3.out.trans hO); have HO35 := hidOf hO; clear hown hO) | (go_at_call 15; refine (CR1.out _ _ _ _ HV5.out).mono ?_; rintro e w6 ⟨rfl, hO⟩; have HO6 := hidOf (HO5.out.trans hO); have HO36 := hidOf (HO35.out.trans hO); clear hO))
    go_wp2
    go_ret
    exact ⟨rfl, HO6.out⟩
  · go_enter Try.func8, Try.ntmps8
    go_upto_region 10 with (first | (go_at_call 9; refine (CA.out).mono ?_; rintro e w1 ⟨rfl, hO⟩; have HO := hidOf hO; clear hO) | (go_at_call 13; refine (CC.out _ HO.out).mono ?_; rintro e w2 ⟨a2', c2, Ls, rfl, hS, hs⟩; have HS := hidOf hS; have Hs := hidOf hs; have HO2 := hidOf (HO.out.trans hS.out); clear hS hs) | (go_at_call 12; refine (CW.out _ _ _ _ _ HS.out Hs.out).mono ?_; rintro e w3 ⟨g3, c3, rfl, hB, hO⟩; have HR3 := hidOf hB.restAt; have hc3 : (b.length : Int) ≤ c3 := by { have := HR3.out.2.1; omega }; have HO3 := hidOf (HO2.out.trans hO); clear hB hO) | (go_at_call 14; refine (num_any _ _).mono ?_; rintro e w4 ⟨rfl, hw⟩; subst hw) | (go_at_call 17; refine (CB1.out _ _ _ HR3.out.1).mono ?_; rintro e w5 ⟨v5, rfl, hown, hO⟩; obtain ⟨a5, c5, rfl⟩ := own_form hown; rw [htl] at hown; have HV5 := hidOf hown; have HO5 := hidOf (HO3.out.trans hO); have HO35 := hidOf hO; clear hown hO) | (go_at_call 15; refine (CR1.out _ _ _ _ HV5.out).mono ?_; rintro e w6 ⟨rfl, hO⟩; have HO6 := hidOf (HO5.out.trans hO); have HO36 := hidOf (HO35.out.trans hO); clear hO))
    go_wp2
    go_ret
    exact ⟨rfl, HO6.out⟩
set_option maxRecDepth 8000 in
set_option maxHeartbeats 1000000 in
theorem cut_om (W : World) (a : Option Addr) (cap : Nat) (L : List SV) (h : SIn W a cap L) (kp : Int) (a2 : Option Addr) (cap2 : Nat) (m : List UInt8) (hm : RestAt W.heap.size W a2 m) (hm0 : ¬ m = []) (hml : m.length ≤ 10000000) (hok : writeOk (secs L) = true) (hk : kp < 0 ∨ (writeB (secs L)).length ≤ kp) : Calls Try.prog 8 #[.slice a L.length cap, .int .i64 kp, .slice a2 m.length cap2] W fun e W' => e = .returned (.bool true) ∧ Below W.heap.size W W' := by
  have CA := hidOf (awake9 W)
  have CC := hidOf (fun wx (o : Out W wx) => h.copy o)
  have CW := hidOf (h.ok hok)
  obtain ⟨j0, hj0, hy0, hy1, hy2⟩ := info_parts infoB
  have hz := write_size (secs L) hok (by have := h.sum; omega)
  have hmr := more_P (secs L) hok h.i64 (by have := h.sum; omega) m (by omega) hm0
  obtain ⟨mb, mo, rfl, HMC⟩ : ∃ mb mo, a2 = some ⟨mb, mo, none⟩ ∧ Hid (∀ wx, Out W wx → ∀ j u, (Lib.byteCells m)[j]? = some u → wx.cell? ((⟨mb, mo, none⟩ : Addr).add j) = some u) := by
    rcases hm with hm | ⟨mb, mo, hb, rfl, hc⟩
    · exact absurd hm hm0
    · refine ⟨mb, mo, rfl, fun wx o j u hu => ?_⟩
      simp only [Lib.byteCells, List.getElem?_map, Option.map_eq_some_iff] at hu
      obtain ⟨y, hy, rfl⟩ := hu
      rw [WideShapes.add_plain]
      exact cell_later o (hc j y hy)
  obtain ⟨b, hb⟩ : ∃ b, b = writeB (secs L) := ⟨_, rfl⟩
  rw [← hb] at CW hz hk hmr
  obtain ⟨bm, hbm⟩ : ∃ bm, bm = b ++ m := ⟨_, rfl⟩
  rw [← hbm] at hmr
  have CR2 := hidOf (read_not bm (by rw [hbm, List.length_append]; omega) 40 91 hmr)
  have HBM := hidOf hbm
  clear hbm
  have CB2 := hidOf (fun wx g c (hr : RestAt wx.heap.size wx (some ⟨g, 0, none⟩) b) => copyBytes_any wx (some ⟨g, 0, none⟩) c b hr (by omega))
  have hm1 : ¬ (m.length : Int) = 0 := by
    intro h
    exact hm0 (List.length_eq_zero_iff.1 (by omega))
  have hm2 : ((m.length : Int) == 0) = false := by simpa using hm0
  have HZ := hidOf hz
  clear h hok hb hmr hm hm0
  rcases hk with hk | hk
  · have hk1 : ¬ (0 : Int) ≤ kp := by omega
    go_enter Try.func8, Try.ntmps8
    go_upto_region 10 with (first | (go_at_call 9; refine (CA.out).mono ?_; rintro e w1 ⟨rfl, hO⟩; have HO := hidOf hO; clear hO) | (go_at_call 13; refine (CC.out _ HO.out).mono ?_; rintro e w2 ⟨a2', c2, Ls, rfl, hS, hs⟩; have HS := hidOf hS; have Hs := hidOf hs; have HO2 := hidOf (HO.out.trans hS.out); clear hS hs) | (go_at_call 12; refine (CW.out _ _ _ _ _ HS.out Hs.out).mono ?_; rintro e w3 ⟨g3, c3, rfl, hB, hO⟩; have HR3 := hidOf hB.restAt; have hc3 : (b.length : Int) ≤ c3 := by { have := HR3.out.2.1; omega }; have HO3 := hidOf (HO2.out.trans hO); clear hB hO) | (go_at_call 14; refine (num_any _ _).mono ?_; rintro e w4 ⟨rfl, hw⟩; subst hw))
    have HRx : Hid (RestAt w3.heap.size w3 (some ⟨g3, 0, none⟩) b) := hidOf (HR3.out.1.out (Out.refl w3))
    clear HR3
    go_upto_region 13 with (first | (go_at_call 17; refine (CB2.out _ _ _ HRx.out).mono ?_; rintro e w7 ⟨v7, rfl, hown, hO⟩; obtain ⟨a7, c7, rfl⟩ := own_form hown; have HV7 := hidOf hown; have HO7 := hidOf (HO3.out.trans hO); have HOx := hidOf hO; have hs7 : w3.heap.size ≤ w7.heap.size := hO.size; have HC7 : Hid (∀ j u, (Lib.byteCells m)[j]? = some u → w7.cell? ((⟨mb, mo, none⟩ : Addr).add j) = some u) := (hidOf (fun j u hu => HMC.out w7 HO7.out j u hu)); clear hown hO) | (at_builtin; refine wpList_append_own _ rfl (.tmp 59) (.tmp 60) 36 rfl w3.heap.size 5 j0 _ 1 1 Try.underlying36 hj0 hy0 hy1 hy2 rfl (by decide) (.slice a7 b.length c7) b.length (Lib.byteCells b) rfl HV7.out ⟨mb, mo, none⟩ m.length cap2 (Lib.byteCells m) rfl (by rw [Lib.byteCells_length, Nat.mul_one]) HC7.out (bc_one m) (by unfold maxLen; omega) (by omega) (by omega) ?_; intro v8 w8 hown8 hgrow _; have HO8 := hidOf (HO3.out.trans (out_row HOx.out HV7.out hgrow)); have hown9 := grow2 hown8; rw [← HBM.out] at hown9; clear hgrow hown8; obtain ⟨a8, c8, rfl⟩ := own_form hown9; have HV8 := hidOf hown9; clear hown9) | (go_at_call 15; refine (CR2.out _ _ _ _ HV8.out).mono ?_; rintro e w9 ⟨rfl, hO⟩; have HO9 := hidOf (HO8.out.trans hO); clear hO))
    go_wp2_with (first | (go_at_call 14; refine (num_any _ _).mono ?_; rintro e w4 ⟨rfl, hw⟩; subst hw))
    all_goals
      go_ret
      first | exact ⟨rfl, HO9.out⟩ | exact ⟨rfl, HO9.out.drew⟩
  · have hk1 : (0 : Int) ≤ kp := by omega
    have hk2 : ¬ kp < (b.length : Int) := by omega
    go_enter Try.func8, Try.ntmps8
    go_upto_region 10 with (first | (go_at_call 9; refine (CA.out).mono ?_; rintro e w1 ⟨rfl, hO⟩; have HO := hidOf hO; clear hO) | (go_at_call 13; refine (CC.out _ HO.out).mono ?_; rintro e w2 ⟨a2', c2, Ls, rfl, hS, hs⟩; have HS := hidOf hS; have Hs := hidOf hs; have HO2 := hidOf (HO.out.trans hS.out); clear hS hs) | (go_at_call 12; refine (CW.out _ _ _ _ _ HS.out Hs.out).mono ?_; rintro e w3 ⟨g3, c3, rfl, hB, hO⟩; have HR3 := hidOf hB.restAt; have hc3 : (b.length : Int) ≤ c3 := by { have := HR3.out.2.1; omega }; have HO3 := hidOf (HO2.out.trans hO); clear hB hO) | (go_at_call 14; refine (num_any _ _).mono ?_; rintro e w4 ⟨rfl, hw⟩; subst hw))
    have HRx : Hid (RestAt w3.heap.size w3 (some ⟨g3, 0, none⟩) b) := hidOf (HR3.out.1.out (Out.refl w3))
    clear HR3
    go_upto_region 13 with (first | (go_at_call 17; refine (CB2.out _ _ _ HRx.out).mono ?_; rintro e w7 ⟨v7, rfl, hown, hO⟩; obtain ⟨a7, c7, rfl⟩ := own_form hown; have HV7 := hidOf hown; have HO7 := hidOf (HO3.out.trans hO); have HOx := hidOf hO; have hs7 : w3.heap.size ≤ w7.heap.size := hO.size; have HC7 : Hid (∀ j u, (Lib.byteCells m)[j]? = some u → w7.cell? ((⟨mb, mo, none⟩ : Addr).add j) = some u) := (hidOf (fun j u hu => HMC.out w7 HO7.out j u hu)); clear hown hO) | (at_builtin; refine wpList_append_own _ rfl (.tmp 59) (.tmp 60) 36 rfl w3.heap.size 5 j0 _ 1 1 Try.underlying36 hj0 hy0 hy1 hy2 rfl (by decide) (.slice a7 b.length c7) b.length (Lib.byteCells b) rfl HV7.out ⟨mb, mo, none⟩ m.length cap2 (Lib.byteCells m) rfl (by rw [Lib.byteCells_length, Nat.mul_one]) HC7.out (bc_one m) (by unfold maxLen; omega) (by omega) (by omega) ?_; intro v8 w8 hown8 hgrow _; have HO8 := hidOf (HO3.out.trans (out_row HOx.out HV7.out hgrow)); have hown9 := grow2 hown8; rw [← HBM.out] at hown9; clear hgrow hown8; obtain ⟨a8, c8, rfl⟩ := own_form hown9; have HV8 := hidOf hown9; clear hown9) | (go_at_call 15; refine (CR2.out _ _ _ _ HV8.out).mono ?_; rintro e w9 ⟨rfl, hO⟩; have HO9 := hidOf (HO8.out.trans hO); clear hO))
    go_wp2_with (first | (go_at_call 14; refine (num_any _ _).mono ?_; rintro e w4 ⟨rfl, hw⟩; subst hw))
    all_goals
      go_ret
      first | exact ⟨rfl, HO9.out⟩ | exact ⟨rfl, HO9.out.drew⟩
set_option maxRecDepth 8000 in
set_option maxHeartbeats 1000000 in
theorem cut_oe (W : World) (a : Option Addr) (cap : Nat) (L : List SV) (h : SIn W a cap L) (kp : Int) (a2 : Option Addr) (cap2 : Nat)  (hok : writeOk (secs L) = true) (hk : kp < 0 ∨ (writeB (secs L)).length ≤ kp) : Calls Try.prog 8 #[.slice a L.length cap, .int .i64 kp, .slice a2 0 cap2] W fun e W' => e = .returned (.bool true) ∧ Below W.heap.size W W' := by
  have CA := hidOf (awake9 W)
  have CC := hidOf (fun wx (o : Out W wx) => h.copy o)
  have CW := hidOf (h.ok hok)
  obtain ⟨j0, hj0, hy0, hy1, hy2⟩ := info_parts infoB
  have hz := write_size (secs L) hok (by have := h.sum; omega)
  obtain ⟨b, hb⟩ : ∃ b, b = writeB (secs L) := ⟨_, rfl⟩
  rw [← hb] at CW hz hk
  have HZ := hidOf hz
  clear h hok hb
  rcases hk with hk | hk
  · have hk1 : ¬ (0 : Int) ≤ kp := by omega
    go_enter Try.func8, Try.ntmps8
    go_upto_region 10 with (first | (go_at_call 9; refine (CA.out).mono ?_; rintro e w1 ⟨rfl, hO⟩; have HO := hidOf hO; clear hO) | (go_at_call 13; refine (CC.out _ HO.out).mono ?_; rintro e w2 ⟨a2', c2, Ls, rfl, hS, hs⟩; have HS := hidOf hS; have Hs := hidOf hs; have HO2 := hidOf (HO.out.trans hS.out); clear hS hs) | (go_at_call 12; refine (CW.out _ _ _ _ _ HS.out Hs.out).mono ?_; rintro e w3 ⟨g3, c3, rfl, hB, hO⟩; have HR3 := hidOf hB.restAt; have hc3 : (b.length : Int) ≤ c3 := by { have := HR3.out.2.1; omega }; have HO3 := hidOf (HO2.out.trans hO); clear hB hO) | (go_at_call 14; refine (num_any _ _).mono ?_; rintro e w4 ⟨rfl, hw⟩; subst hw))
    go_wp2
    go_ret
    exact ⟨rfl, HO3.out⟩
  · have hk1 : (0 : Int) ≤ kp := by omega
    have hk2 : ¬ kp < (b.length : Int) := by omega
    go_enter Try.func8, Try.ntmps8
    go_upto_region 10 with (first | (go_at_call 9; refine (CA.out).mono ?_; rintro e w1 ⟨rfl, hO⟩; have HO := hidOf hO; clear hO) | (go_at_call 13; refine (CC.out _ HO.out).mono ?_; rintro e w2 ⟨a2', c2, Ls, rfl, hS, hs⟩; have HS := hidOf hS; have Hs := hidOf hs; have HO2 := hidOf (HO.out.trans hS.out); clear hS hs) | (go_at_call 12; refine (CW.out _ _ _ _ _ HS.out Hs.out).mono ?_; rintro e w3 ⟨g3, c3, rfl, hB, hO⟩; have HR3 := hidOf hB.restAt; have hc3 : (b.length : Int) ≤ c3 := by { have := HR3.out.2.1; omega }; have HO3 := hidOf (HO2.out.trans hO); clear hB hO) | (go_at_call 14; refine (num_any _ _).mono ?_; rintro e w4 ⟨rfl, hw⟩; subst hw))
    go_wp2
    go_ret
    exact ⟨rfl, HO3.out⟩
theorem elfCut_walk (W : World) (a : Option Addr) (cap : Nat) (L : List SV) (h : SIn W a cap L) (keep : Int) (a2 : Option Addr) (cap2 : Nat) (m : List UInt8) (hm : RestAt W.heap.size W a2 m) (hml : m.length ≤ 10000000) : Calls Try.prog 8 #[.slice a L.length cap, .int .i64 keep, .slice a2 m.length cap2] W fun e W' => e = .returned (.bool true) ∧ Below W.heap.size W W' := by
  cases hok : writeOk (secs L) with
  | false => exact cut_first W a cap L h keep a2 cap2 m hok
  | true =>
    by_cases hk : 0 ≤ keep ∧ keep < (writeB (secs L)).length
    · obtain ⟨kp, rfl⟩ : ∃ kp : Nat, keep = kp := ⟨keep.toNat, by omega⟩
      by_cases hm0 : m = []
      · subst hm0
        exact cut_ke W a cap L h kp a2 cap2 hok (by omega)
      · exact cut_km W a cap L h kp a2 cap2 m hm hm0 hml hok (by omega)
    · by_cases hm0 : m = []
      · subst hm0
        exact cut_oe W a cap L h keep a2 cap2 hok (by omega)
      · exact cut_om W a cap L h keep a2 cap2 m hm hm0 hml hok (by omega)
end Go.Proofs.Ytcalbhcgimipeaa
