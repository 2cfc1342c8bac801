import Derived.Test.YtcalbhcgimipeaaEne
namespace Go.Proofs.Ytcalbhcgimipeaa
open Go.RowKit
set_option linter.unusedVariables false
set_option linter.unusedSimpArgs false
theorem rdEl_err {b : List UInt8} (hb : b.length ≤ 1000000000000) (h : (rdEl b).1 = none) : (rdEl b).2.2 = 90 ∨ (rdEl b).2.2 = 91 ∨ (rdEl b).2.2 = 92 ∨ (rdEl b).2.2 = 93 := by
  by_cases h0 : b.length < 64
  · rw [rdEl_short h0]; exact .inl rfl
  · cases h1 : hdFlt b with
    | some a => rw [rdEl_head (by omega) h1]; exact .inr (.inl rfl)
    | none =>
      cases h2 : (tkF b (tpP b).toNat (cntP b) (tpP b).toNat 64 []).2 with
      | some a => rw [rdEl_tk (by omega) h1 h2]; exact .inr (.inr (.inl rfl))
      | none =>
        obtain ⟨T, k, E, nb, r⟩ := rdg_of (by omega) hb h1 h2
        cases h3 : padF b E with
        | some a => rw [rdEl_pad h1 r h3]; exact .inr (.inr (.inr rfl))
        | none =>
          cases h4 : (tnR b E nb.bg.toNat nb.en.toNat).2.1 with
          | false => rw [rdEl_ok h1 r h3 h4] at h; cases h
          | true => rw [rdEl_nm h1 r h3 h4]; exact .inr (.inr (.inl rfl))
theorem read_own (w : World) (B : Nat) (a : Option Addr) (c : Nat) (l : List UInt8) (h : OwB B (.slice a l.length c) l w) (hl : l.length ≤ 1000000000000) : Calls Try.prog 15 #[.slice a l.length c] w fun e w' => RdEnd w l e w' := by
  by_cases h0 : l.length < 64
  · refine (read_short w _ _ c h0).mono ?_
    rintro e w' ⟨rfl, rfl⟩
    exact .bad (rdEl_short h0) (Out.refl _)
  · obtain ⟨g, rfl, _, hB⟩ := h.bin (by omega) hl
    exact read_elf w g 0 c l hB
theorem endF_sum : ∀ (S : List Sec) (p : Nat), p + sumD S ≤ endF p S
  | [], p => by simp [sumD, endF]
  | s :: S, p => by
    have h1 := endF_sum S (up8 (p + s.d.length))
    have h2 := up8_ge (p + s.d.length)
    have h3 : sumD (s :: S) = s.d.length + sumD S := by simp [sumD]
    show p + sumD (s :: S) ≤ endF (up8 (p + s.d.length)) S
    omega
theorem sumD_le (ss : List Sec) : sumD ss ≤ (writeB ss).length := by
  have h1 := endF_sum (allS ss) 64
  have hsum : sumD (allS ss) = sumD ss + (tabD ss).length := by simp [allS, sumD, tabS]
  have hl : endF 64 (allS ss) ≤ (writeB ss).length := by
    unfold writeB
    rw [List.length_append, bodF_len, layB_len, headF_wid]
    omega
  omega
/-- what was read, written again -/
theorem form_ok {b : List UInt8} (hb : b.length ≤ 100000000000) {S : List Sec} {p e : Int} (h : rdEl b = (some S, p, e)) : writeOk S = true ∧ writeB S = b ∧ sumD S ≤ 100000000000 := by
  obtain ⟨T, k, E, nb, t⟩ := took_of (by omega) h
  obtain ⟨h1, h2⟩ := form_P (by omega) t
  have := sumD_le S
  rw [h2] at this
  exact ⟨h1, h2, by omega⟩
theorem write_again (w w0 : World) (a : Option Addr) (n c : Nat) (Ls : List SV) (b : List UInt8) (hS : SS w0 w (.slice a n c) Ls) (hok : writeOk (secs Ls) = true) (hb : writeB (secs Ls) = b) (hs : sumD (secs Ls) ≤ 100000000000) : Calls Try.prog 12 #[.slice a n c] w fun e w' => ∃ a' c', e = .returned (.tuple #[.slice a' b.length c', .int .i64 0]) ∧ OwB w.heap.size (.slice a' b.length c') b w' ∧ Out w w' := by
  obtain ⟨h1, h2, h3⟩ := hS.at
  subst h3
  have h16 : Ls.length ≤ 16 := by
    simp only [writeOk, Bool.and_eq_true, decide_eq_true_eq] at hok
    have := hok.1.1
    rwa [secs_len] at this
  refine (write_elf w a c Ls h1 hS.datAt h2 (by omega) hs).mono ?_
  rintro e w' (⟨h, _⟩ | ⟨_, a', c', he, ho, o⟩)
  · rw [hok] at h; cases h
  · rw [hb] at he ho
    exact ⟨a', c', he, ho, o⟩
set_option maxRecDepth 8000 in
set_option maxHeartbeats 1000000 in
theorem elfForm_walk (W : World) (a : Option Addr) (cap : Nat) (l : List UInt8) (hr : RestAt W.heap.size W a l) (hc : l.length ≤ cap) (hl : l.length ≤ 100000000000) : Calls Try.prog 6 #[.slice a l.length cap] W fun e W' => e = .returned (.bool true) ∧ Below W.heap.size W W' := by
  have CA := hidOf (awake9 W)
  have CC := hidOf (fun wx (o : Out W wx) => copyBytes_any wx a cap l (by
    rcases hr with h | ⟨b, off, hb, ha, hc⟩
    · exact .inl h
    · exact .inr ⟨b, off, Nat.lt_of_lt_of_le hb o.size, ha, fun k y hy => cell_later o (hc k y hy)⟩) (by omega))
  have CR := hidOf (fun wx a c (h : OwB 0 (.slice a l.length c) l wx) => read_own wx 0 a c l h (by omega))
  have HR := hidOf hr
  clear hr
  cases h1 : (rdEl l).1 with
  | none =>
    have herr := rdEl_err (by omega) h1
    have CR2 : Hid (∀ wx a c, OwB 0 (.slice a l.length c) l wx → Calls Try.prog 15 #[.slice a l.length c] wx fun e w' => e = .returned (.tuple #[.slice none 0 0, .int .i64 (rdEl l).2.1, .int .i64 (rdEl l).2.2]) ∧ Out wx w') := fun wx a c h => (CR.out wx a c h).mono fun e w' h2 => by
      rcases h2 with ⟨_, he, o⟩ | ⟨S, _, _, _, h3, _⟩
      · exact ⟨he, o⟩
      · rw [h3] at h1; cases h1
    generalize (rdEl l).2.1 = pl at *
    generalize (rdEl l).2.2 = er at *
    have hne : (er != 0) = true := by simp [bne]; omega
    have hne2 : ¬ er = 0 := by omega
    clear CR h1 herr
    go_enter Try.func6, Try.ntmps6
    go_wp2_with (first | (go_at_call 9; refine (CA.out).mono ?_; rintro e w1 ⟨rfl, hO⟩; have HO := hidOf hO; clear hO) | (go_at_call 17; refine (CC.out _ HO.out).mono ?_; rintro e w2 ⟨v, rfl, hown, hO⟩; obtain ⟨av, cv, rfl⟩ := own_form hown; have HV := hidOf (own_base hown (Nat.zero_le _)); have HO2 := hidOf (HO.out.trans hO); clear hown hO) | (go_at_call 15; refine (CR2.out _ _ _ HV.out).mono ?_; rintro e w3 ⟨rfl, hO⟩; have HO3 := hidOf (HO2.out.trans hO); clear hO) | (go_at_call 14; refine (num_any _ _).mono ?_; rintro e w4 ⟨rfl, hw⟩; subst hw))
    go_ret
    exact ⟨rfl, HO3.out⟩
  | some S =>
    have CR2 : Hid (∀ wx a c, OwB 0 (.slice a l.length c) l wx → Calls Try.prog 15 #[.slice a l.length c] wx fun e w' => ∃ a2 n2 c2 Ls, e = .returned (.tuple #[.slice a2 n2 c2, .int .i64 0, .int .i64 0]) ∧ Out wx w' ∧ SS wx w' (.slice a2 n2 c2) Ls ∧ writeOk (secs Ls) = true ∧ writeB (secs Ls) = l ∧ sumD (secs Ls) ≤ 100000000000) := fun wx a c h => (CR.out wx a c h).mono fun e w' h2 => by
      rcases h2 with ⟨hn, _⟩ | ⟨S', a2, c2, Ls, h3, he, hS, hs⟩
      · rw [hn] at h1; cases h1
      · obtain ⟨f1, f2, f3⟩ := form_ok hl h3
        rw [← hs] at f1 f2 f3
        exact ⟨a2, _, c2, Ls, he, hS.out, hS, f1, f2, f3⟩
    have CW := hidOf (fun w0 wx a n c Ls h1 h2 h3 h4 => write_again wx w0 a n c Ls l h1 h2 h3 h4)
    have hl0 : ¬ l.length = 0 := by
      intro h
      have : rdEl l = (none, (l.length : Int), 90) := rdEl_short (by omega)
      rw [this] at h1; cases h1
    clear CR h1
    go_enter Try.func6, Try.ntmps6
    go_upto_region 9 with (first | (go_at_call 9; refine (CA.out).mono ?_; rintro e w1 ⟨rfl, hO⟩; have HO := hidOf hO; clear hO) | (go_at_call 17; refine (CC.out _ HO.out).mono ?_; rintro e w2 ⟨v, rfl, hown, hO⟩; obtain ⟨av, cv, rfl⟩ := own_form hown; have HV := hidOf (own_base hown (Nat.zero_le _)); have HO2 := hidOf (HO.out.trans hO); clear hown hO) | (go_at_call 15; refine (CR2.out _ _ _ HV.out).mono ?_; rintro e w3 ⟨a3, n3, c3, Ls, rfl, hO, hS, f1, f2, f3⟩; have HO3 := hidOf (HO2.out.trans hO); have HS := hidOf hS; have F1 := hidOf f1; have F2 := hidOf f2; have F3 := hidOf f3; clear hO hS f1 f2 f3) | (go_at_call 14; refine (num_any _ _).mono ?_; rintro e w4 ⟨rfl, hw⟩; subst hw) | (go_at_call 12; refine (CW.out _ _ _ _ _ _ HS.out F1.out F2.out F3.out).mono ?_; rintro e w5 ⟨a5, c5, rfl, hB, hO⟩; have HB5 := hidOf hB; have HO5 := hidOf (HO3.out.trans hO); clear hB hO))
    have CS := hidOf (fun (h1 : RestAt w5.heap.size w5 a5 l) (h2 : RestAt w5.heap.size w5 a l) => sameBytes_any a5 a c5 cap l w5 h1 h2)
    have HR5 : Hid (RestAt w5.heap.size w5 a l) := by
      rcases HR.out with h | ⟨b, off, hb, ha, hc⟩
      · exact .inl h
      · exact .inr ⟨b, off, Nat.lt_of_lt_of_le hb HO5.out.size, ha, fun k y hy => cell_later HO5.out (hc k y hy)⟩
    have HR6 : Hid (RestAt w5.heap.size w5 a5 l) := by
      obtain ⟨a', cp, hv, _, hr⟩ := HB5.out.rest
      simp only [Value.slice.injEq] at hv
      obtain ⟨rfl, _, _⟩ := hv
      exact hr
    refine (CS.out HR6.out HR5.out).mono ?_
    rintro e w6 ⟨rfl, hw⟩
    subst hw
    go_wp2
    go_ret
    exact ⟨rfl, HO5.out⟩
end Go.Proofs.Ytcalbhcgimipeaa
