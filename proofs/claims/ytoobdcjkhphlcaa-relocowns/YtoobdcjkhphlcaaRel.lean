import Derived.Test.YtoobdcjkhphlcaaRek
namespace Go.Proofs.Ytoobdcjkhphlcaa
open Go.RowKit
set_option linter.unusedVariables false
set_option linter.unusedSimpArgs false
theorem and62 (x : Int) : ∃ r : Nat, bits BinOp.and IntKind.i64 x 4611686018427387903 = r ∧ r ≤ 4611686018427387903 := by
  refine ⟨(BitVec.ofInt 64 x &&& BitVec.ofInt 64 4611686018427387903).toNat, ?_, ?_⟩
  · have h : (BitVec.ofInt 64 x &&& BitVec.ofInt 64 4611686018427387903).toNat ≤ 4611686018427387903 := by
      rw [BitVec.toNat_and]
      exact Nat.le_trans Nat.and_le_right (by decide)
    show IntKind.i64.wrap ((BitVec.ofInt 64 x &&& BitVec.ofInt 64 4611686018427387903).toNat : Int) = _
    rw [IntKind.wrap_i64]
    omega
  · rw [BitVec.toNat_and]
    exact Nat.le_trans Nat.and_le_right (by decide)
theorem cut_of (x : Int) (n : Nat) : ∃ r ct k : Nat, bits BinOp.and IntKind.i64 x 4611686018427387903 = r ∧ r ≤ 4611686018427387903 ∧ (r : Int) % ((n : Int) + 1) = ct ∧ ct ≤ n ∧ (ct : Int) / 16 = k ∧ k = ct / 16 := by
  obtain ⟨r, hr, hr2⟩ := and62 x
  have := Nat.mod_lt r (show 0 < n + 1 by omega)
  refine ⟨r, r % (n + 1), r % (n + 1) / 16, hr, hr2, ?_, by omega, by omega, rfl⟩
  rw [Int.natCast_emod]
  rfl
theorem RlAt.take {B : Nat} {w : World} {a : Option Addr} {L : List Rl} (h : RlAt B w a L) (k : Nat) : RlAt B w a (L.take k) := by
  rcases h with rfl | ⟨g, of, hg, ha, hc⟩
  · exact .inl (by simp)
  · refine .inr ⟨g, of, hg, ha, fun j u hu => hc j u ?_⟩
    have e : rlV L = rlV (L.take k) ++ rlV (L.drop k) := by rw [← rlV_app, List.take_append_drop]
    rw [e, List.getElem?_append_left (List.getElem?_eq_some_iff.1 hu).1]
    exact hu
theorem RestAt.take {B : Nat} {w : World} {a : Option Addr} {l : List UInt8} (h : RestAt B w a l) (k : Nat) : RestAt B w a (l.take k) := by
  rcases h with rfl | ⟨g, of, hg, ha, hc⟩
  · exact .inl (by simp)
  · refine .inr ⟨g, of, hg, ha, fun j u hu => hc j u ?_⟩
    rw [List.getElem?_take] at hu
    split at hu
    · exact hu
    · cases hu
set_option maxRecDepth 8000 in
set_option maxHeartbeats 1000000 in
theorem relocBack_no (a : Option Addr) (cap : Nat) (L : List Rl) (x : Int) (w : World) (h : RlAt w.heap.size w a L) (hc : L.length ≤ cap) (hb : L.length ≤ 140737488355328) (er : Int) (hT : wrP L = (none, er)) : Calls Try.prog 6 #[.slice a L.length cap, .int .i64 x] w fun e w' => e = .returned (.bool true) ∧ Below w.heap.size w w' := by
  have CW := hidOf (write_any w a cap L h hc hb)
  have CA := hidOf awake11
  rw [hT] at CW
  have C2 : Hid (Calls Try.prog 13 #[.slice a L.length cap] w fun e w' => e = .returned (.tuple #[.slice none 0 0, .int .i64 er]) ∧ Out w w') := CW.out.mono fun e w' ⟨ho, he⟩ => ⟨he, ho⟩
  have he := wr_er L (-1) [] er hT
  clear CW hT h
  rcases he with rfl | rfl
  all_goals
    go_enter Try.func6, Try.ntmps6
    go_wp2_with (first | (go_at_call 13; refine (C2.out).mono ?_; rintro e w1 ⟨rfl, hO⟩; have HO1 := hidOf hO; clear hO) | (go_at_call 9; refine (CA.out _).mono ?_; rintro e w2 ⟨rfl, hO⟩; have HO2 := hidOf (HO1.out.trans hO); clear hO))
    go_ret
    exact ⟨rfl, HO2.out⟩
set_option maxRecDepth 8000 in
set_option maxHeartbeats 1000000 in
theorem relocBack_yes (a : Option Addr) (cap : Nat) (L : List Rl) (x : Int) (w : World) (h : RlAt w.heap.size w a L) (hc : L.length ≤ cap) (b : List UInt8) (er : Int) (hT : wrP L = (some b, er)) : Calls Try.prog 6 #[.slice a L.length cap, .int .i64 x] w fun e w' => e = .returned (.bool true) ∧ Below w.heap.size w w' := by
  obtain ⟨rfl, hbl, hll, hcut⟩ := back_P hT
  have CA := hidOf awake11
  have CW : Hid (Calls Try.prog 13 #[.slice a L.length cap] w fun e w' => ∃ a2 c2, e = .returned (.tuple #[.slice a2 b.length c2, .int .i64 0]) ∧ Out w w' ∧ b.length ≤ c2 ∧ RestAt w'.heap.size w' a2 b) := (write_any w a cap L h hc (by omega)).mono fun e w' hh => by
    rw [hT] at hh
    obtain ⟨ho, a2, c2, he, hown⟩ := hh
    obtain ⟨a3, c3, hv, hl, hr⟩ := hown.rest
    injection hv with q1 q2 q3
    subst q1 q3
    exact ⟨_, _, he, ho, hl, hr⟩
  have hfull : rdP b = (some L, 0, 0) := by
    have := hcut b.length (Nat.le_refl _)
    rwa [List.take_length, if_pos (by omega), show b.length / 16 = L.length by omega, List.take_length] at this
  have CR : Hid (∀ wx a' c', b.length ≤ c' → RestAt wx.heap.size wx a' b → Calls Try.prog 16 #[.slice a' b.length c'] wx fun e w' => ∃ a2 c2, e = .returned (.tuple #[.slice a2 L.length c2, .int .i64 0, .int .i64 0]) ∧ Out wx w' ∧ RlAt w'.heap.size w' a2 L) := fun wx a' c' h1 h2 => (read_any wx a' c' b h2 h1 (by omega)).mono fun e w' hh => by
    rw [hfull] at hh
    obtain ⟨ho, a2, c2, he, hown⟩ := hh
    obtain ⟨a3, c3, hv, _, hr⟩ := hown.at
    injection hv with q1 q2 q3
    subst q1
    exact ⟨_, _, he, ho, hr⟩
  have CS : Hid (∀ wx a' a2 c' c2, RlAt wx.heap.size wx a' L → RlAt wx.heap.size wx a2 L → Calls Try.prog 19 #[.slice a' L.length c', .slice a2 L.length c2] wx fun e w' => e = .returned (.bool true) ∧ Out wx w') := fun wx a' a2 c' c2 h1 h2 => (sameRels_any wx a' a2 c' c2 L L h1 h2 (by omega)).mono fun e w' ⟨he, ho⟩ => ⟨by rw [he]; simp, ho⟩
  obtain ⟨r, ct, k, hr, hr2, hm, hctl, hkI, hk⟩ := cut_of x b.length
  have hlb : (16 : Int) * L.length = b.length := by omega
  have Hcc := hidOf (hcut ct hctl)
  rw [← hk] at Hcc
  have hrest := hidOf h
  have htl : (b.take ct).length = ct := by rw [List.length_take]; omega
  have HF := hidOf (show (b.length : Int) ≤ 1048576 ∧ (r : Int) ≤ 4611686018427387903 ∧ (ct : Int) ≤ b.length ∧ ct ≤ b.length ∧ k ≤ L.length ∧ ct = 16 * k + ct % 16 ∧ b.length = 16 * L.length by omega)
  have Hr := hidOf hr
  have Hm := hidOf hm
  have HkI := hidOf hkI
  have Htl := hidOf htl
  have hLI : (L.length : Int) ≤ 65536 := by omega
  have HLl := hidOf hll
  clear hk hcut hT hfull hll hbl hr hr2 hm hctl hkI htl h
  go_enter Try.func6, Try.ntmps6
  go_upto_region 7 with (first | (go_at_call 13; refine (CW.out).mono ?_; rintro e w1 ⟨a1, c1, rfl, hO, hl1, hr1⟩; have HO1 := hidOf hO; have HR1 := hidOf hr1; have HL1 := hidOf hl1; clear hO hr1 hl1) | (go_at_call 16; refine (CR.out _ _ _ HL1.out HR1.out).mono ?_; rintro e w2 ⟨a2, c2, rfl, hO, hr2⟩; have HO2 := hidOf (HO1.out.trans hO); have HR2 := hidOf (rest_out HR1.out hO); have HL2 := hidOf hr2; clear hO hr2) | (go_at_call 19; refine (CS.out _ _ _ _ _ HL2.out (hrest.out.out HO2.out)).mono ?_; rintro e w3 ⟨rfl, hO⟩; have HO3 := hidOf (HO2.out.trans hO); have HR3 := hidOf (rest_out HR2.out hO); clear hO))
  have hr := Hr.out
  have hm := Hm.out
  have hrI := HF.out.2.1
  have hr0 : (0 : Int) ≤ r := by omega
  have hbI := HF.out.1
  have hb0 : (0 : Int) ≤ b.length := by omega
  clear CW CR
  go_upto_region 8 with fail
  rw [Hm.out]
  clear hr hm hrI hr0 hlb
  obtain ⟨_, _, hctI, hctl, hkl, hck, hbl⟩ := HF.out
  have hl1 := HL1.out
  have hct0 : (0 : Int) ≤ ct := by omega
  have hct1 : (ct : Int) ≤ c1 := by omega
  by_cases hd : ct % 16 = 0
  · have CR2 : Hid (∀ wx a' c', ct ≤ c' → RestAt wx.heap.size wx a' b → Calls Try.prog 16 #[.slice a' ct c'] wx fun e w' => ∃ a2 c2, e = .returned (.tuple #[.slice a2 k c2, .int .i64 0, .int .i64 0]) ∧ Out wx w' ∧ RlAt w'.heap.size w' a2 (L.take k)) := fun wx a' c' h1 h2 => by
      have h3 := read_any wx a' c' (b.take ct) (h2.take ct) (by rw [Htl.out]; exact h1) (by rw [Htl.out]; omega)
      rw [Htl.out, Hcc.out, if_pos hd] at h3
      refine h3.mono ?_
      rintro e w' ⟨ho, a2, c2, he, hown⟩
      obtain ⟨a3, c3, hv, _, hr⟩ := OwR.at hown
      injection hv with q1 q2 q3
      subst q1
      rw [List.length_take, Nat.min_eq_left hkl] at he
      exact ⟨_, _, he, ho, hr⟩
    have CS2 : Hid (∀ wx a' a2 c' c2, RlAt wx.heap.size wx a' (L.take k) → RlAt wx.heap.size wx a2 L → Calls Try.prog 19 #[.slice a' k c', .slice a2 k c2] wx fun e w' => e = .returned (.bool true) ∧ Out wx w') := fun wx a' a2 c' c2 h1 h2 => by
      have h3 := sameRels_any wx a' a2 c' c2 (L.take k) (L.take k) h1 (h2.take k) (by rw [List.length_take]; have := HLl.out; omega)
      rw [List.length_take, Nat.min_eq_left hkl] at h3
      exact h3.mono fun e w' ⟨he, ho⟩ => ⟨by rw [he]; simp, ho⟩
    have d16 : ((ct : Int) % 16 != 0) = false := by simp; omega
    have hk0 : (0 : Int) ≤ k := by omega
    have hkc : (k : Int) ≤ cap := by omega
    have hkI := HkI.out
    have hct2 : ct ≤ c1 := by omega
    clear hd hck hbl
    go_wp2_with (first | (go_at_call 16; with_reducible refine (CR2.out _ _ _ hct2 HR3.out).mono ?_; rintro e w4 ⟨a4, c4, rfl, hO, hr4⟩; have HO4 := hidOf (HO3.out.trans hO); have HL4 := hidOf hr4; clear hO hr4) | (go_at_call 19; with_reducible refine (CS2.out _ _ _ _ _ HL4.out (hrest.out.out HO4.out)).mono ?_; rintro e w5 ⟨rfl, hO⟩; have HO5 := hidOf (HO4.out.trans hO); clear hO) | (go_at_call 9; refine (CA.out _).mono ?_; rintro e w6 ⟨rfl, hO⟩; have HO6 := hidOf (HO5.out.trans hO); clear hO))
    go_ret
    exact ⟨rfl, HO6.out⟩
  · have CR2 : Hid (∀ wx a' c', ct ≤ c' → RestAt wx.heap.size wx a' b → Calls Try.prog 16 #[.slice a' ct c'] wx fun e w' => e = .returned (.tuple #[.slice none 0 0, .int .i64 ((k : Int) * 16), .int .i64 110]) ∧ Out wx w') := fun wx a' c' h1 h2 => by
      have h3 := read_any wx a' c' (b.take ct) (h2.take ct) (by rw [Htl.out]; exact h1) (by rw [Htl.out]; omega)
      rw [Htl.out, Hcc.out, if_neg hd] at h3
      refine h3.mono ?_
      rintro e w' ⟨ho, he⟩
      refine ⟨?_, ho⟩
      rw [he]
      simp
    have d16 : ((ct : Int) % 16 != 0) = true := by simp; omega
    have hk0 : (0 : Int) ≤ k := by omega
    have hkc : (k : Int) ≤ 65536 := by have := HLl.out; omega
    have hkI := HkI.out
    have hct2 : ct ≤ c1 := by omega
    clear hd hck hbl
    go_wp2_with (first | (go_at_call 16; with_reducible refine (CR2.out _ _ _ hct2 HR3.out).mono ?_; rintro e w4 ⟨rfl, hO⟩; have HO4 := hidOf (HO3.out.trans hO); clear hO) | (go_at_call 9; refine (CA.out _).mono ?_; rintro e w6 ⟨rfl, hO⟩; have HO6 := hidOf (HO4.out.trans hO); clear hO))
    go_ret
    exact ⟨rfl, HO6.out⟩
theorem relocBack_walk (a : Option Addr) (cap : Nat) (L : List Rl) (x : Int) (w : World) (h : RlAt w.heap.size w a L) (hc : L.length ≤ cap) (hb : L.length ≤ 140737488355328) : Calls Try.prog 6 #[.slice a L.length cap, .int .i64 x] w fun e w' => e = .returned (.bool true) ∧ Below w.heap.size w w' := by
  cases hT : wrP L with
  | mk o er =>
    cases o with
    | none => exact relocBack_no a cap L x w h hc hb er hT
    | some b => exact relocBack_yes a cap L x w h hc b er hT
end Go.Proofs.Ytoobdcjkhphlcaa
