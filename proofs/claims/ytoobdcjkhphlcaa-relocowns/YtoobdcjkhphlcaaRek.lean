import Derived.Test.YtoobdcjkhphlcaaRej
namespace Go.Proofs.Ytoobdcjkhphlcaa
open Go.RowKit
set_option linter.unusedVariables false
set_option linter.unusedSimpArgs false
theorem OwR.at {B : Nat} {v : Value} {L : List Rl} {w : World} (h : OwR B v L w) : ∃ a cp, v = .slice a L.length cp ∧ L.length ≤ cp ∧ RlAt w.heap.size w a L := by
  obtain ⟨hx, h⟩ := h
  rcases h with ⟨rfl, h0⟩ | ⟨g, cap, cs, rfl, hB, hg, hl, hm, hs, ht⟩
  · have : L = [] := List.eq_nil_of_length_eq_zero h0
    subst this
    exact ⟨none, 0, rfl, Nat.le_refl _, .inl rfl⟩
  · refine ⟨_, cap, rfl, hl, .inr ⟨g, 0, (Array.getElem?_eq_some_iff.1 hg).1, rfl, fun k u hu => ?_⟩⟩
    rw [Nat.zero_add, box_cell hg, ← Array.getElem?_toList]
    rw [← ht, List.getElem?_take] at hu
    split at hu
    · exact hu
    · cases hu
theorem rest_out {w w' : World} {a : Option Addr} {l : List UInt8} (h : RestAt w.heap.size w a l) (o : Out w w') : RestAt w'.heap.size w' a l := by
  rcases h with h | ⟨b, off, hb, ha, hc⟩
  · exact .inl h
  · exact .inr ⟨b, off, Nat.lt_of_lt_of_le hb o.size, ha, fun k x hx => cell_later o (hc k x hx)⟩
set_option maxRecDepth 8000 in
set_option maxHeartbeats 1000000 in
theorem relocBytes_walk (a : Option Addr) (cap : Nat) (b : List UInt8) (w : World) (h : RestAt w.heap.size w a b) (hc : b.length ≤ cap) (hb : b.length ≤ 140737488355328) : Calls Try.prog 7 #[.slice a b.length cap] w fun e w' => e = .returned (.bool true) ∧ Below w.heap.size w w' := by
  have CR := hidOf (read_any w a cap b h hc hb)
  have CA := hidOf awake11
  have H := hidOf h
  clear h
  cases hT : rdP b with
  | mk o r =>
    obtain ⟨at_, er⟩ := r
    cases o with
    | none =>
      rw [hT] at CR
      obtain ⟨e1, e2, e3, e4⟩ := rd_err b b.length 0 (-1) [] at_ er rfl (by omega) hT
      have d4 : (at_ % 4 == 0) = true := by simp; omega
      clear hT e3
      have C2 : Hid (Calls Try.prog 16 #[.slice a b.length cap] w fun e w' => e = .returned (.tuple #[.slice none 0 0, .int .i64 at_, .int .i64 er]) ∧ Out w w') := CR.out.mono fun e w' ⟨ho, he⟩ => ⟨he, ho⟩
      clear CR
      rcases e4 with rfl | ⟨rfl, e5, e6⟩
      · go_enter Try.func7, Try.ntmps7
        go_wp2_with (first | (go_at_call 16; refine (C2.out).mono ?_; rintro e w1 ⟨rfl, hO⟩; have HO1 := hidOf hO; clear hO) | (go_at_call 9; refine (CA.out _).mono ?_; rintro e w2 ⟨rfl, hO⟩; have HO2 := hidOf (HO1.out.trans hO); clear hO))
        go_ret
        exact ⟨rfl, HO2.out⟩
      · have d16 : (at_ % 16 == 0) = true := by simp; omega
        clear e5
        go_enter Try.func7, Try.ntmps7
        go_wp2_with (first | (go_at_call 16; refine (C2.out).mono ?_; rintro e w1 ⟨rfl, hO⟩; have HO1 := hidOf hO; clear hO) | (go_at_call 9; refine (CA.out _).mono ?_; rintro e w2 ⟨rfl, hO⟩; have HO2 := hidOf (HO1.out.trans hO); clear hO))
        go_ret
        exact ⟨rfl, HO2.out⟩
    | some L =>
      obtain ⟨rfl, rfl, hw, hll⟩ := bytes_P hT
      rw [hT] at CR
      have C2 : Hid (Calls Try.prog 16 #[.slice a b.length cap] w fun e w' => ∃ a' c', e = .returned (.tuple #[.slice a' L.length c', .int .i64 0, .int .i64 0]) ∧ Out w w' ∧ L.length ≤ c' ∧ RlAt w'.heap.size w' a' L) := CR.out.mono fun e w' ⟨ho, a', c', he, hown⟩ => by
        obtain ⟨a2, c2, hv, hl2, ha2⟩ := hown.at
        injection hv with q1 q2 q3
        subst q1 q3
        exact ⟨_, _, he, ho, hl2, ha2⟩
      have CW : Hid (∀ wx a' c', L.length ≤ c' → RlAt wx.heap.size wx a' L → Calls Try.prog 13 #[.slice a' L.length c'] wx fun e w' => ∃ a2 c2, e = .returned (.tuple #[.slice a2 b.length c2, .int .i64 0]) ∧ Out wx w' ∧ RestAt w'.heap.size w' a2 b) := fun wx a' c' h1 h2 => (write_any wx a' c' L h2 h1 (by omega)).mono fun e w' hh => by
        rw [hw] at hh
        obtain ⟨ho, a2, c2, he, hown⟩ := hh
        obtain ⟨a3, c3, hv, _, hr⟩ := hown.rest
        injection hv with q1 q2 q3
        subst q1
        exact ⟨_, _, he, ho, hr⟩
      clear CR hT hw
      go_enter Try.func7, Try.ntmps7
      go_wp2_with (first | (go_at_call 16; refine (C2.out).mono ?_; rintro e w1 ⟨a1, c1, rfl, hO, hl1, hr1⟩; have HO1 := hidOf hO; have HR1 := hidOf hr1; have HL1 := hidOf hl1; clear hO hr1 hl1) | (go_at_call 13; refine (CW.out _ _ _ HL1.out HR1.out).mono ?_; rintro e w2 ⟨a2, c2, rfl, hO, hr2⟩; have HO2 := hidOf (HO1.out.trans hO); have HR2 := hidOf hr2; clear hO hr2) | (go_at_call 17; refine (sameBytes_any _ _ _ _ b _ (rest_out H.out HO2.out) HR2.out).mono ?_; rintro e w3 ⟨rfl, hw⟩; subst hw) | (go_at_call 9; refine (CA.out _).mono ?_; rintro e w4 ⟨rfl, hO⟩; have HO4 := hidOf (HO2.out.trans hO); clear hO))
      go_ret
      exact ⟨rfl, HO4.out⟩
end Go.Proofs.Ytoobdcjkhphlcaa
