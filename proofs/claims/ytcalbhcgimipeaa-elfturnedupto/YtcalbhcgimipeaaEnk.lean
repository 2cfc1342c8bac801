import Derived.Test.YtcalbhcgimipeaaEnj
namespace Go.Proofs.Ytcalbhcgimipeaa
open Go.RowKit
set_option linter.unusedVariables false
set_option linter.unusedSimpArgs false
theorem mem_sumD : ∀ (L : List SV) (x : SV), x ∈ L → x.s.d.length ≤ sumD (secs L)
  | [], _, h => by cases h
  | y :: r, x, h => by
    have h3 : sumD (secs (y :: r)) = y.s.d.length + sumD (secs r) := by simp [secs, sumD]
    rcases List.mem_cons.1 h with rfl | h
    · omega
    · have := mem_sumD r x h; omega
theorem write_size2 (ss : List Sec) (hok : writeOk ss = true) (hs : sumD ss ≤ 10000000) : (writeB ss).length ≤ 20000000 := by
  simp only [writeOk, Bool.and_eq_true, decide_eq_true_eq, Bool.not_eq_true'] at hok
  obtain ⟨⟨h16, _⟩, hn⟩ := hok
  obtain ⟨_, _, _, hd4⟩ := namesF_ok (nmsS ss) ((nms_ok_iff ss).2 hn)
  have hnl : (nmsS ss).length = ss.length + 1 := by simp [nmsS]
  have htl : (tabD ss).length = szF 1 (namesF (nmsS ss)) := byP_len _
  have hal : (allS ss).length = ss.length + 1 := by simp [allS]
  have hpl : (plsS ss).length = ss.length + 1 := by simp [plsS, nmsS]
  have hsum : sumD (allS ss) = sumD ss + (tabD ss).length := by simp [allS, sumD, tabS]
  have hT1 := endF_le (allS ss) 64
  have hl : (writeB ss).length = endF 64 (allS ss) + 64 * (ss.length + 2) := by
    unfold writeB
    rw [List.length_append, bodF_len, layB_len, headF_wid, tblF_len, List.length_cons, rowsF_len _ _ _ (by rw [hal, hpl]), hal]
  omega
/-- sections that were read: all that the law asks of them -/
structure Got (W w : World) (a : Option Addr) (n c : Nat) (Ls : List SV) (b : List UInt8) : Prop where
  out : Out W w
  at_ : ScAt w.heap.size w a Ls
  dr : ∀ x ∈ Ls, DR w x
  cap : Ls.length ≤ c
  len : n = Ls.length
  ok : writeOk (secs Ls) = true
  eq : writeB (secs Ls) = b
  sum : sumD (secs Ls) ≤ 100000000000
theorem Got.on {W w w' : World} {a : Option Addr} {n c : Nat} {Ls : List SV} {b : List UInt8} (h : Got W w a n c Ls b) (o : Out w w') : Got W w' a n c Ls b := ⟨h.out.trans o, h.at_.out o, fun x hx => (h.dr x hx).out o, h.cap, h.len, h.ok, h.eq, h.sum⟩
theorem Got.len16 {W w : World} {a : Option Addr} {n c : Nat} {Ls : List SV} {b : List UInt8} (h : Got W w a n c Ls b) : Ls.length ≤ 16 := by
  have hok := h.ok
  simp only [writeOk, Bool.and_eq_true, decide_eq_true_eq] at hok
  have := hok.1.1
  rwa [secs_len] at this
theorem Got.copy {W w : World} {a : Option Addr} {n c : Nat} {Ls : List SV} {b : List UInt8} (h : Got W w a n c Ls b) : Calls Try.prog 13 #[.slice a n c] w fun e w' => ∃ a' c' Ms, e = .returned (.slice a' n c') ∧ SS w w' (.slice a' n c') Ms ∧ secs Ms = secs Ls := by
  have h16 := h.len16
  have := copySections_any w a c Ls h.at_ h.dr h.cap (by omega) (fun x hx => by have := mem_sumD Ls x hx; have := h.sum; omega)
  rwa [← h.len] at this
theorem read_got (W : World) (b : List UInt8) (hb : b.length ≤ 100000000000) (S : List Sec) (p e : Int) (hr : rdEl b = (some S, p, e)) (w : World) (B : Nat) (a : Option Addr) (c : Nat) (o : Out W w) (ho : OwB B (.slice a b.length c) b w) : Calls Try.prog 15 #[.slice a b.length c] w fun r w' => ∃ a' n c' Ls, r = .returned (.tuple #[.slice a' n c', .int .i64 0, .int .i64 0]) ∧ Got W w' a' n c' Ls b ∧ Out w w' := by
  refine (read_own w B a c b ho (by omega)).mono ?_
  rintro r w' (⟨hn, _⟩ | ⟨S', a', c', Ls, h3, he, hS, hs⟩)
  · rw [hr] at hn; cases hn
  · obtain ⟨f1, f2, f3⟩ := form_ok hb h3
    rw [← hs] at f1 f2 f3
    obtain ⟨h1, h2, h4⟩ := hS.at
    exact ⟨a', _, c', Ls, he, ⟨o.trans hS.out, h1, hS.dr, h2, h4, f1, f2, f3⟩, hS.out⟩
set_option maxRecDepth 8000 in
set_option maxHeartbeats 2000000 in
theorem turn_in (W : World) (a : Option Addr) (cap : Nat) (L : List SV) (h : SIn W a cap L) (at_ : Nat) (x : Int) (hok : writeOk (secs L) = true) (hat : at_ < (writeB (secs L)).length) (hx : ¬ x % 256 = 0) : Calls Try.prog 7 #[.slice a L.length cap, .int .i64 at_, .int .i64 x] W fun e W' => e = .returned (.bool true) ∧ Below W.heap.size W W' := by
  have CA := hidOf (awake9 W)
  have CC := hidOf (fun wx (o : Out W wx) => h.copy o)
  have CW := hidOf (h.ok hok)
  have HI := hidOf h
  have hz := write_size (secs L) hok (by have := h.sum; omega)
  obtain ⟨b, hb⟩ : ∃ b, b = writeB (secs L) := ⟨_, rfl⟩
  rw [← hb] at CW hz hat
  obtain ⟨c0, hc0⟩ : ∃ c0, b[at_]? = some c0 := ⟨_, List.getElem?_eq_getElem hat⟩
  obtain ⟨y, hy, hxor⟩ := turn_byte c0 x hx
  obtain ⟨b2, hb2⟩ : ∃ b2, b2 = b.set at_ y := ⟨_, rfl⟩
  have hl2 : b2.length = b.length := by rw [hb2, List.length_set]
  have hne : ¬ b2 = b := by
    intro e
    have h1 : b2[at_]? = some y := by rw [hb2, List.getElem?_set_self hat]
    rw [e, hc0] at h1
    exact hy (Option.some.inj h1).symm
  have hand : (bits BinOp.and IntKind.i64 x 255 == 0) = false := by rw [and255]; simpa using hx
  have hn0 : ¬ (at_ : Int) < 0 := by omega
  have hatI : (at_ : Int) < b.length := by omega
  have hat0 : (0 : Int) ≤ at_ := by omega
  have HB2 := hidOf hb2
  have Hc0 := hidOf hc0
  have Hb := hidOf hb
  have Hne := hidOf hne
  have Hl2 := hidOf hl2
  have hzl : b2.length ≤ 100000000000 := by
    have h1 := write_size2 (secs L) hok h.sum
    rw [← hb] at h1
    omega
  clear h hok hb hx hy hc0 hb2 hne
  go_enter Try.func7, Try.ntmps7
  go_upto_region 6 with (first | (go_at_call 9; refine (CA.out).mono ?_; rintro e w1 ⟨rfl, hO⟩; have HO := hidOf hO; clear hO) | (go_at_call 13; refine (CC.out _ HO.out).mono ?_; rintro e w2 ⟨a2', c2, Ls, rfl, hS, hs⟩; have HS := hidOf hS; have Hs := hidOf hs; have HO2 := hidOf (HO.out.trans hS.out); clear hS hs) | (go_at_call 12; refine (CW.out _ _ _ _ _ HS.out Hs.out).mono ?_; rintro e w3 ⟨g3, c3, rfl, hB, hO⟩; have HB3 := hidOf hB; have HO3 := hidOf (HO2.out.trans hO); clear hB hO) | (go_at_call 14; refine (num_any _ _).mono ?_; rintro e w4 ⟨rfl, hw⟩; subst hw))
  have HB3' := hidOf (HB3.out.bin0 (by omega) (by omega))
  have d0 : w3.cell? ⟨g3, at_, none⟩ = some (.int .u8 (c0.toNat : Int)) := by have := HB3'.out.at_ at_ c0 Hc0.out; rwa [Nat.zero_add] at this
  obtain ⟨hset, f0, hgB⟩ := HB3.out.setB at_ y
  rw [← HB2.out] at hset
  have hgW : W.heap.size ≤ g3 := Nat.le_trans HO2.out.size hgB
  have HS4 := hidOf hset
  have HO4 := hidOf (HO3.out.setCell (a := ⟨g3, at_, none⟩) hgW (.int .u8 (y.toNat : Int)))
  have hcI : (b.length : Int) ≤ c3 := by have := HB3'.out.cap; omega
  clear hset hgB hgW CA CC CW HS Hs HB3 HB3' Hc0 HB2
  clear hl2
  go_upto_region 7 with fail
  clear d0 f0 hxor hand
  generalize w3.setCell ⟨g3, at_, none⟩ (.int .u8 (y.toNat : Int)) = w4 at *
  have CB : Hid (Calls Try.prog 17 #[.slice (some ⟨g3, 0, none⟩) b.length c3] w4 fun e w' => ∃ a5 c5, e = .returned (.slice a5 b.length c5) ∧ OwB w4.heap.size (.slice a5 b.length c5) b2 w' ∧ Out w4 w') := by
    have := copyBytes_any w4 (some ⟨g3, 0, none⟩) c3 b2 HS4.out.restAt.1 (by omega)
    rw [Hl2.out] at this
    refine this.mono ?_
    rintro e w' ⟨v, he, ho, o⟩
    obtain ⟨a5, c5, hv⟩ := own_form ho
    rw [Hl2.out] at hv
    subst hv
    exact ⟨a5, c5, he, ho, o⟩
  cases hr1 : (rdEl b2).1 with
  | none =>
    have hp := place_P (by omega) hr1
    have herr := rdEl_err (by omega) hr1
    have CR := hidOf (read_not b2 (by omega) _ _ (Prod.ext hr1 rfl))
    rw [Hl2.out] at CR hp
    generalize (rdEl b2).2.1 = pl at *
    generalize (rdEl b2).2.2 = er at *
    have hne1 : (er != 0) = true := by simp [bne]; omega
    have hne2 : ¬ er = 0 := by omega
    obtain ⟨hp0, hp1⟩ := hp
    clear herr hr1 hz hzl hat
    go_wp2_with (first | (go_at_call 17; refine (CB.out).mono ?_; rintro e w5 ⟨a5, c5, rfl, ho, hO⟩; have HV5 := hidOf ho; have HO5 := hidOf (HO4.out.trans hO); clear ho hO) | (go_at_call 15; refine (CR.out _ _ _ _ HV5.out).mono ?_; rintro e w6 ⟨rfl, hO⟩; have HO6 := hidOf (HO5.out.trans hO); clear hO) | (go_at_call 14; refine (num_any _ _).mono ?_; rintro e w7 ⟨rfl, hw⟩; subst hw))
    all_goals
      go_ret
      first | exact ⟨rfl, HO6.out⟩ | exact ⟨rfl, HO6.out.drew⟩ | (refine ⟨?_, HO6.out⟩; simp; omega)
  | some S =>
    have CR := hidOf (read_got W b2 hzl S _ _ (Prod.ext hr1 rfl))
    rw [Hl2.out] at CR
    have CC2 := hidOf (fun w a n c Ls (hg : Got W w a n c Ls b2) => hg.copy)
    have CW2 := hidOf (fun w w0 a n c Ms (hS : SS w0 w (.slice a n c) Ms) (h1 : writeOk (secs Ms) = true) (h2 : writeB (secs Ms) = b2) (h3 : sumD (secs Ms) ≤ 100000000000) => write_again w w0 a n c Ms b2 hS h1 h2 h3)
    rw [Hl2.out] at CW2
    have CSS := hidOf (fun w a' n c Ls (hg : Got W w a' n c Ls b2) => show Calls Try.prog 16 #[.slice a' n c, .slice a L.length cap] w (fun e w' => e = .returned (.bool false) ∧ Out w w') from by
      have h16 := hg.len16
      have hi := HI.out
      have := sameSections_any w a' a c cap Ls L hg.at_ (hi.at_.out hg.out) hg.dr (fun x hx => (hi.dr x hx).out hg.out) hg.cap hi.cap (by omega) (by have := hi.len; omega)
      have hf : sameL (secs Ls) (secs L) = false := by
        cases hq : sameL (secs Ls) (secs L) with
        | false => rfl
        | true =>
          have := (sameL_iff _ _).1 hq
          have h5 := hg.eq
          rw [this, ← Hb.out] at h5
          exact absurd h5.symm Hne.out
      rw [hf, ← hg.len] at this
      exact this)
    have CSB := hidOf (fun w a1 a2 c1 c2 (h1 : RestAt w.heap.size w a1 b2) (h2 : RestAt w.heap.size w a2 b2) => sameBytes_any a1 a2 c1 c2 b2 w h1 h2)
    rw [Hl2.out] at CSB
    have HR4 := hidOf HS4.out.restAt.1
    clear hr1 hz hzl hat HS4
    go_upto_region 10 with (first | (go_at_call 17; refine (CB.out).mono ?_; rintro e w5 ⟨a5, c5, rfl, ho, hO⟩; have HV5 := hidOf ho; have HO5 := hidOf (HO4.out.trans hO); have HO45 := hidOf hO; clear ho hO) | (go_at_call 15; refine (CR.out _ _ _ _ HO5.out HV5.out).mono ?_; rintro e w6 ⟨a6, n6, c6, Ls6, rfl, hg, hO⟩; have HG6 := hidOf hg; have HO46 := hidOf (HO45.out.trans hO); clear hg hO) | (go_at_call 14; refine (num_any _ _).mono ?_; rintro e w7 ⟨rfl, hw⟩; subst hw))
    go_upto_region 11 with (first | (go_at_call 13; refine (CC2.out _ _ _ _ _ HG6.out).mono ?_; rintro e w7 ⟨a7, c7, Ms, rfl, hS, hs⟩; have HS7 := hidOf hS; have HG7 := hidOf (HG6.out.on hS.out); have HO47 := hidOf (HO46.out.trans hS.out); have Hs7 := hidOf hs; clear hS hs) | (go_at_call 12; refine (CW2.out _ _ _ _ _ _ HS7.out (by rw [Hs7.out]; exact HG7.out.ok) (by rw [Hs7.out]; exact HG7.out.eq) (by rw [Hs7.out]; exact HG7.out.sum)).mono ?_; rintro e w8 ⟨a8, c8, rfl, ho, hO⟩; have HR8 := hidOf ho.restAt.1; have HG8 := hidOf (HG7.out.on hO); have HO48 := hidOf (HO47.out.trans hO); clear ho hO))
    go_wp2_with (first | (go_at_call 16; refine (CSS.out _ _ _ _ _ HG8.out).mono ?_; rintro e w9 ⟨rfl, hO⟩; have HR9 := hidOf (HR8.out.out hO); have HR49 := hidOf (HR4.out.out (HO48.out.trans hO)); have HO9 := hidOf (HG8.out.out.trans hO); clear hO) | (go_at_call 14; refine (num_any _ _).mono ?_; rintro e w10 ⟨rfl, hw⟩; subst hw) | (go_at_call 18; refine (CSB.out _ _ _ _ _ HR9.out HR49.out).mono ?_; rintro e w10 ⟨rfl, hw⟩; subst hw))
    all_goals
      go_ret
      first | exact ⟨rfl, HO9.out⟩ | exact ⟨rfl, HO9.out.drew⟩
theorem elfTurned_walk (W : World) (a : Option Addr) (cap : Nat) (L : List SV) (h : SIn W a cap L) (at_ x : Int) : Calls Try.prog 7 #[.slice a L.length cap, .int .i64 at_, .int .i64 x] W fun e W' => e = .returned (.bool true) ∧ Below W.heap.size W W' := by
  cases hok : writeOk (secs L) with
  | false => exact turn_not W a cap L h at_ x hok
  | true =>
    by_cases hc : at_ < 0 ∨ (writeB (secs L)).length ≤ at_ ∨ (0 ≤ at_ ∧ at_ < (writeB (secs L)).length ∧ x % 256 = 0)
    · exact turn_out W a cap L h at_ x hok hc
    · obtain ⟨k, rfl⟩ : ∃ k : Nat, at_ = k := ⟨at_.toNat, by omega⟩
      exact turn_in W a cap L h k x hok (by omega) (by omega)
end Go.Proofs.Ytcalbhcgimipeaa
