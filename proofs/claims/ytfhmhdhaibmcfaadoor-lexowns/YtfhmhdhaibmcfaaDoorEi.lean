import Derived.Test.YtfhmhdhaibmcfaaDoorEh
namespace Go.Proofs.YtfhmhdhaibmcfaaDoor
open Go.RowKit
set_option linter.unusedVariables false
set_option linter.unusedSimpArgs false
/-- a text's lines: the error, the number of the line that decides (else how many there are), the tokens -/
def textF : Nat → Nat → List UInt8 → Int × Nat × List Tk
  | 0, n, _ => (0, n, [])
  | _ + 1, n, [] => (0, n, [])
  | f + 1, n, c :: r =>
    if (lineP (cutL (c :: r)).1).1 = 0 then ((textF f (n + 1) (cutL (c :: r)).2).1, (textF f (n + 1) (cutL (c :: r)).2).2.1, ((lineP (cutL (c :: r)).1).2 ++ [(5, [], 0)]).map (mkT (n + 1)) ++ (textF f (n + 1) (cutL (c :: r)).2).2.2)
    else ((lineP (cutL (c :: r)).1).1, n + 1, [])
theorem textF_eq : ∀ (f g n : Nat) (l : List UInt8), l.length ≤ f → l.length ≤ g → textF f n l = textF g n l
  | 0, 0, _, _, _, _ => rfl
  | 0, g + 1, n, [], _, _ => rfl
  | 0, g + 1, n, c :: r, h, _ => by simp at h
  | f + 1, 0, n, [], _, _ => rfl
  | f + 1, 0, n, c :: r, _, h => by simp at h
  | f + 1, g + 1, n, [], _, _ => rfl
  | f + 1, g + 1, n, c :: r, hf, hg => by
    have hc := (cutL_len (c :: r) (by simp)).2
    simp only [List.length_cons] at hf hg hc
    unfold textF
    rw [textF_eq f g (n + 1) _ (by omega) (by omega)]
def textD (n : Nat) (l : List UInt8) : Int × Nat × List Tk := textF l.length n l
theorem textD_nil (n : Nat) : textD n [] = (0, n, []) := rfl
theorem textD_ok (n : Nat) (l : List UInt8) (hl : ¬ l = []) (h : (lineP (cutL l).1).1 = 0) : textD n l = ((textD (n + 1) (cutL l).2).1, (textD (n + 1) (cutL l).2).2.1, ((lineP (cutL l).1).2 ++ [(5, [], 0)]).map (mkT (n + 1)) ++ (textD (n + 1) (cutL l).2).2.2) := by
  cases l with
  | nil => exact absurd rfl hl
  | cons c r =>
    have hc := (cutL_len (c :: r) (by simp)).2
    show textF (r.length + 1) n (c :: r) = _
    unfold textF
    simp only [List.length_cons] at hc
    rw [if_pos h, textF_eq r.length _ (n + 1) (cutL (c :: r)).2 (by omega) (Nat.le_refl _)]
    rfl
theorem textD_bad (n : Nat) (l : List UInt8) (hl : ¬ l = []) (h : ¬ (lineP (cutL l).1).1 = 0) : textD n l = ((lineP (cutL l).1).1, n + 1, []) := by
  cases l with
  | nil => exact absurd rfl hl
  | cons c r =>
    show textF (r.length + 1) n (c :: r) = _
    unfold textF
    rw [if_neg h]
/-- the scanner behind some lines: n of them, tokens D -/
structure Run (s0 s : Sn) (D : List Tk) : Prop where
  keeps : s.keeps = s0.keeps
  cnt : s.cnt = s0.cnt + D.length
  T : s.T = if s0.keeps then s0.T ++ D else s0.T
def restOf (p : Nat) (w : World) : Nat := match w.cell? ⟨p, 0, none⟩ with | some (.slice _ n _) => n | _ => 0
/-- the end of all lines -/
def TEnd (N p : Nat) (w : World) (s : Sn) (l : List UInt8) (e : Ending) (w' : World) : Prop :=
  e = .returned (.int .i64 (textD s.num l).1) ∧ Below N w w' ∧
    (¬ (textD s.num l).1 = 0 → w'.cell? ⟨p, 2, none⟩ = some (.int .i64 ((textD s.num l).2.1 : Nat))) ∧
    ((textD s.num l).1 = 0 → ∃ rv tv' s', Sc N p w' rv tv' s' ∧ Run s s' ((textD s.num l).2.2 ++ [⟨0, [], 0, (textD s.num l).2.1⟩]))
theorem Run.putS {s0 s : Sn} {D : List Tk} (h : Run s0 s D) (L : List UInt8) (a : Nat) (X : List (Int × List UInt8 × Int)) : Run s0 (putS s L a X) (D ++ X.map (mkT (s.num + 1))) := by
  refine ⟨h.keeps, ?_, ?_⟩
  · show s.cnt + X.length = _
    rw [h.cnt, List.length_append, List.length_map]; omega
  · show (if s.keeps then s.T ++ X.map (mkT (s.num + 1)) else s.T) = _
    rw [h.keeps, h.T]
    by_cases hk : s0.keeps = true
    · simp [hk]
    · simp [hk]
theorem Run.len {s0 s : Sn} {D : List Tk} (h : Run s0 s D) (h0 : s0.T.length ≤ s0.cnt) : s.T.length ≤ s.cnt := by
  rw [h.T, h.cnt]
  by_cases hk : s0.keeps = true
  · simp [hk]; omega
  · simp [hk]; omega
theorem Run.add {s0 s : Sn} {D : List Tk} (h : Run s0 s D) (k : Int) (t : List UInt8) (n : Int) : Run s0 (s.add k t n) (D ++ [⟨k, t, n, s.num⟩]) := by
  refine ⟨h.keeps, ?_, ?_⟩
  · show s.cnt + 1 = _
    rw [h.cnt, List.length_append]; simp; omega
  · show (if s.keeps then s.T ++ [⟨k, t, n, s.num⟩] else s.T) = _
    rw [h.keeps, h.T]
    by_cases hk : s0.keeps = true
    · simp [hk]
    · simp [hk]
set_option maxHeartbeats 4000000 in
theorem lines_any (CV : ValC) (CC : CutC) (N p : Nat) (w : World) (hE : Env N w) (ra : Option Addr) (rc : Nat) (tv : Value) (s : Sn) (l : List UInt8) (h : Sc N p w (.slice ra l.length rc) tv s) (hr : RestAt N w ra l) (hcap : l.length ≤ rc) (hl : l.length ≤ 16777216) (hc : s.cnt = 0) (hT : s.T.length = 0) (hnum : s.num = 0) :
    Calls Tryd.prog 30 #[.pointer (some ⟨p, 0, none⟩)] w fun e w' => TEnd N p w s l e w' := by
  have H := hidOf h
  have HE := hidOf hE
  have HR := hidOf hr
  unfold TEnd
  rw [hnum]
  obtain ⟨E, n0, D0, HD⟩ : ∃ E n0 D0, Hid (textD 0 l = (E, n0, D0)) := ⟨_, _, _, hidOf rfl⟩
  rw [HD.out]
  simp only
  clear h hr hE
  go_enter Tryd.func30, Tryd.ntmps30
  go_wp2
  go_loopw [3] (fun ev wr => ∃ (m : List UInt8) (D : List Tk) (ra' : Option Addr) (rc' : Nat) (tv' : Value) (s' : Sn), m.length ≤ rc' ∧ m.length ≤ l.length ∧ s'.num + m.length ≤ 16777216 ∧ s'.cnt + 2 * m.length ≤ 33554432 ∧ Hid (E = (textD s'.num m).1 ∧ n0 = (textD s'.num m).2.1 ∧ (E = 0 → D0 = D ++ (textD s'.num m).2.2)) ∧ Hid (Sc N p wr (.slice ra' m.length rc') tv' s') ∧ Hid (Run s s' D) ∧ Hid (RestAt N wr ra' m) ∧ Hid (Below N w wr)) (fun ev wr => restOf p wr)
  case atStart => exact ⟨l, [], ra, rc, tv, s, hcap, by omega, by omega, by omega, hidOf ⟨by rw [hnum, HD.out], by rw [hnum, HD.out], fun _ => by rw [hnum, HD.out]; rfl⟩, H, hidOf ⟨rfl, by simp, by simp⟩, HR, hidOf (Below.refl _ _)⟩
  case round =>
    obtain ⟨m, D, ra', rc', tv', s', hm, hml, hn, hct, HS, HC, HU, HA, HB⟩ := hrel
    have d0 : wr.cell? ⟨p, 0, none⟩ = some (.slice ra' m.length rc') := HC.out.cell 0
    have hro : Hid (restOf p wr = m.length) := hidOf (by unfold restOf; rw [d0])
    by_cases hme : m = []
    · subst hme
      have HX : Hid (E = 0 ∧ n0 = s'.num ∧ D0 = D) := by
        have h1 := HS.out
        rw [textD_nil] at h1
        exact hidOf ⟨h1.1, h1.2.1, by rw [h1.2.2 h1.1]; simp⟩
      have CA : Hid (Calls Tryd.prog 44 #[.pointer (some ⟨p, 0, none⟩), .int .i64 0, .string ⟨#[]⟩, .int .u64 0] wr fun e w' => (∃ v, e = .returned v) ∧ SEnd N p (.slice ra' 0 rc') wr (s'.add 0 [] 0) w') := add_any N p _ _ tv' _ 0 [] 0 HC.out (by omega) (HU.out.len (by omega))
      simp only [List.length_nil] at d0
      go_wp2_with (go_at_call 44; refine CA.out.mono ?_; rintro e w4 ⟨⟨v, rfl⟩, ⟨tv4, q2⟩, q3⟩; have H4 := hidOf q2; have B4 := hidOf q3; clear q2 q3)
      go_ret
      refine ⟨by rw [HX.out.1]; rfl, Below.step HB.out B4.out, fun h0 => absurd HX.out.1 h0, fun _ => ⟨_, _, _, H4.out, ?_⟩⟩
      rw [HX.out.2.1, HX.out.2.2]
      exact HU.out.add 0 [] 0
    · have hpos : 0 < m.length := List.length_pos_iff.2 hme
      have hposI : (0 : Int) < m.length := by omega
      have CN := hidOf (nextLine_any CV CC N p wr (HE.out.below HB.out) ra' rc' tv' s' m HC.out HA.out hme hm (by omega) (by omega) (HU.out.len (by omega)) (by omega))
      have hcl := cutL_len m hme
      have hll := lineP_len (cutL m).1
      have hok := textD_ok s'.num m hme
      have hbad := textD_bad s'.num m hme
      unfold LEnd at CN
      generalize cutL m = q at *
      obtain ⟨L, M⟩ := q
      simp only at CN hcl hll hok hbad
      generalize lineP L = z at *
      obtain ⟨x, X⟩ := z
      simp only at CN hll hok hbad
      by_cases hx : x = 0
      · subst hx
        have h2 := hok rfl
        have HS' : Hid (E = (textD (s'.num + 1) M).1 ∧ n0 = (textD (s'.num + 1) M).2.1 ∧ (E = 0 → D0 = (D ++ (X ++ [(5, [], 0)]).map (mkT (s'.num + 1))) ++ (textD (s'.num + 1) M).2.2)) := by
          have h3 := HS.out
          rw [h2] at h3
          exact hidOf ⟨h3.1, h3.2.1, fun e => by rw [h3.2.2 e, List.append_assoc]⟩
        clear hok hbad h2 HS
        go_wp2_with (go_at_call 43; refine CN.out.mono ?_; rintro e w4 ⟨rfl, q1, q2, q3⟩; obtain ⟨a2, c2, tv4, L4, at4, r4, hc4, h4⟩ := q3 (by first | rfl | trivial); have H4 := hidOf h4; have B4 := hidOf q1; have R4 := hidOf r4; clear q1 q2 q3 h4 r4)
        go_roundw
        case rel =>
          refine ⟨M, _, a2, c2, tv4, _, hc4, by omega, ?_, ?_, HS', H4, hidOf (HU.out.putS L4 at4 _), R4, hidOf (Below.step HB.out B4.out)⟩
          · show s'.num + 1 + M.length ≤ 16777216
            omega
          · show s'.cnt + (X ++ [(5, [], 0)]).length + 2 * M.length ≤ 33554432
            rw [List.length_append]
            simp only [List.length_cons, List.length_nil]
            omega
        case measure =>
          have e0 : w4.cell? ⟨p, 0, none⟩ = some (.slice a2 M.length c2) := H4.out.cell 0
          rw [hro.out]
          unfold restOf
          rw [e0]
          exact hcl.2
      · have hx' : (x == 0) = false := by simpa using hx
        have h2 := hbad hx
        have HX : Hid (E = x ∧ n0 = s'.num + 1) := by
          have h3 := HS.out
          rw [h2] at h3
          exact hidOf ⟨h3.1, h3.2.1⟩
        clear hok hbad h2 HS
        go_wp2_with (go_at_call 43; refine CN.out.mono ?_; rintro e w4 ⟨rfl, q1, q2, q3⟩; have B4 := hidOf q1; have Q2 := hidOf q2; clear q1 q2 q3)
        go_ret
        refine ⟨by rw [HX.out.1]; rfl, Below.step HB.out B4.out, fun _ => by rw [HX.out.2]; exact Q2.out, fun h0 => absurd (by rw [← HX.out.1]; exact h0) hx⟩
end Go.Proofs.YtfhmhdhaibmcfaaDoor
