import Derived.Test.YtfhmhdhaibmcfaaDoorEc
namespace Go.Proofs.YtfhmhdhaibmcfaaDoor
open Go.RowKit
set_option linter.unusedVariables false
set_option linter.unusedSimpArgs false
theorem ext_drop (l : List UInt8) (n : Nat) (h : n ≤ l.length) : (⟨l.toArray⟩ : ByteArray).extract n l.length = ⟨(l.drop n).toArray⟩ := by
  rw [ByteArray.ext_iff, ByteArray.data_extract]
  simp
  exact List.take_of_length_le (by rw [List.length_drop]; exact Nat.le_refl _)
theorem ext_mid (l : List UInt8) (n m : Nat) (h : n + m ≤ l.length) : (⟨l.toArray⟩ : ByteArray).extract n (n + m) = ⟨((l.drop n).take m).toArray⟩ := by
  rw [ByteArray.ext_iff, ByteArray.data_extract]
  simp
set_option maxHeartbeats 1000000 in
theorem run_any (N p : Nat) (w : World) (rv tv : Value) (s : Sn) (R : List UInt8) (n : Nat) (h : Sc N p w rv tv s) (ha : s.at' ≤ s.line.length) (hl : s.line.length ≤ 4611686018427387904) (hR : s.line.drop s.at' = R) (hn : runN R = n) :
    Calls Tryd.prog 87 #[.pointer (some ⟨p, 0, none⟩)] w fun e w' => e = .returned (.string ⟨(R.take n).toArray⟩) ∧ Sc N p w' rv tv { s with at' := s.at' + n } ∧ Below N w w' := by
  obtain ⟨L, num, a, cnt, kp, T⟩ := s
  simp only at ha hl hR ⊢
  have hRl : R.length = L.length - a := by rw [← hR, List.length_drop]
  have hnR : n ≤ R.length := by rw [← hn]; exact runN_le R
  have c1 : w.cell? ⟨p, 1, none⟩ = some (.string ⟨L.toArray⟩) := h.cell 1
  have c3 : w.cell? ⟨p, 3, none⟩ = some (.int .i64 a) := h.cell 3
  have f3 := h.frozen 3
  have H := hidOf h
  have CR : Hid (∀ wx : World, Calls Tryd.prog 60 #[.string ⟨R.toArray⟩] wx fun e w' => e = .returned (.int .i64 (n : Nat)) ∧ w' = wx) := fun wx => by
    have h := runSize_any ⟨R.toArray⟩ wx (by rw [mk_size]; omega)
    rw [mk_list, hn] at h
    exact h.mono fun e w' h => ⟨h.1, h.2.symm⟩
  have e1 := ext_drop L a ha
  have e2 := ext_mid L a n (by omega)
  rw [hR] at e1 e2
  have haI : (a : Int) ≤ L.length := by omega
  have hanI : (a : Int) + n ≤ L.length := by omega
  have hlI : (L.length : Int) ≤ 4611686018427387904 := by omega
  have Hset : Hid (∀ k : Nat, ∀ X : World, Sc N p X rv tv ⟨L, num, a, cnt, kp, T⟩ → Sc N p (X.setCell ⟨p, 3, none⟩ (.int .i64 ((a : Int) + n))) rv tv ⟨L, num, a + n, cnt, kp, T⟩) := fun k X hX => hX.set 3 _ _ rfl (by simp [Sn.cells])
  clear h hR hn
  go_enter Tryd.func87, Tryd.ntmps87
  go_upto_region 1 with fail
  go_quiet ((go_at_call 60; exact Calls.quiet_of_same (CR.out _)))
  have H2 := hidOf (H.out.drewN nq)
  have B2 : Hid (Below N w (w.drewN nq)) := ⟨rfl, rfl, rfl, Nat.le_refl _, fun _ _ => rfl⟩
  clear c1 c3 f3
  generalize w.drewN nq = w2 at *
  have d1 : w2.cell? ⟨p, 1, none⟩ = some (.string ⟨L.toArray⟩) := H2.out.cell 1
  have d3 : w2.cell? ⟨p, 3, none⟩ = some (.int .i64 a) := H2.out.cell 3
  go_upto_region 2 with fail
  go_quiet (fail)
  have H3 := hidOf (H2.out.drewN nq)
  have B3 : Hid (Below N w (w2.drewN nq)) := Below.trans B2.out ⟨rfl, rfl, rfl, Nat.le_refl _, fun _ _ => rfl⟩
  clear d1 d3
  generalize w2.drewN nq = w3 at *
  have d3 : w3.cell? ⟨p, 3, none⟩ = some (.int .i64 a) := H3.out.cell 3
  have f3 := H3.out.frozen 3
  go_wp2
  go_ret
  exact ⟨by rw [← e2]; rfl, Hset.out 0 _ H3.out, Below.set_own B3.out H.out.le _⟩
/-- the run at the place, as a pair: the text and the state behind it -/
def RunEnd (N p : Nat) (rv : Value) (w : World) (s : Sn) (R : List UInt8) (n : Nat) (e : Ending) (w' : World) : Prop := e = .returned (.string ⟨(R.take n).toArray⟩) ∧ (∃ tv', Sc N p w' rv tv' { s with at' := s.at' + n }) ∧ Below N w w'
/-- a method's end that tells an error -/
def EEnd (N p : Nat) (rv : Value) (w : World) (E : Int) (s s' : Sn) (e : Ending) (w' : World) : Prop := e = .returned (.int .i64 E) ∧ (E = 0 → ∃ tv', Sc N p w' rv tv' s') ∧ (∃ tv' s2, s2.num = s.num ∧ Sc N p w' rv tv' s2) ∧ Below N w w'
theorem EEnd.ok {N p : Nat} {rv tv' : Value} {w w' : World} {s s' : Sn} (h : Sc N p w' rv tv' s') (hn : s'.num = s.num) (b : Below N w w') : EEnd N p rv w 0 s s' (.returned (.int .i64 0)) w' := ⟨rfl, fun _ => ⟨_, h⟩, ⟨_, _, hn, h⟩, b⟩
theorem EEnd.bad {N p : Nat} {rv tv' : Value} {w w' : World} {s s' s2 : Sn} {E : Int} (hE : ¬ E = 0) (h : Sc N p w' rv tv' s2) (hn : s2.num = s.num) (b : Below N w w') : EEnd N p rv w E s s' (.returned (.int .i64 E)) w' := ⟨rfl, fun e => absurd e hE, ⟨_, _, hn, h⟩, b⟩
theorem Below.step {N : Nat} {a b c : World} (h : Below N a b) (k : Below N b c) : Below N a c := Below.trans h k
def tokS (s : Sn) (k : Int) (t : List UInt8) (v : Int) (n : Nat) : Sn := { s.add k t v with at' := s.at' + n }
theorem tokS_add (s : Sn) (k : Int) (t : List UInt8) (v : Int) (n : Nat) : Sn.add { s with at' := s.at' + n } k t v = tokS s k t v n := rfl
set_option maxHeartbeats 1000000 in
theorem word_any (N p : Nat) (w : World) (rv tv : Value) (s : Sn) (R : List UInt8) (n : Nat) (h : Sc N p w rv tv s) (ha : s.at' ≤ s.line.length) (hl : s.line.length ≤ 4611686018427387904) (hc : s.cnt ≤ 1000000000) (hT : s.T.length ≤ s.cnt) (hR : s.line.drop s.at' = R) (hn : runN R = n) :
    Calls Tryd.prog 68 #[.pointer (some ⟨p, 0, none⟩)] w fun e w' => EEnd N p rv w (if n ≤ 64 then 0 else 53) s (tokS s 1 (R.take n) 0 n) e w' := by
  have CR := hidOf (run_any N p w rv tv s R n h ha hl hR hn)
  have hnR : n ≤ R.length := by rw [← hn]; exact runN_le R
  have hle : (R.take n).length = n := by rw [List.length_take]; omega
  have CA : Hid (∀ wx tv', Sc N p wx rv tv' { s with at' := s.at' + n } → Calls Tryd.prog 44 #[.pointer (some ⟨p, 0, none⟩), .int .i64 1, .string ⟨(R.take n).toArray⟩, .int .u64 0] wx fun e w' => (∃ v, e = .returned v) ∧ SEnd N p rv wx (tokS s 1 (R.take n) 0 n) w') := fun wx tv' hx => add_any N p wx rv tv' _ 1 (R.take n) 0 hx hc hT
  generalize R.take n = t at *
  clear h hR hn hnR
  by_cases h64 : n ≤ 64
  · rw [if_pos h64]
    have h64' : ¬ (t.length : Int) > 64 := by omega
    have h64'' : (t.length : Int) ≤ 64 := by omega
    go_enter Tryd.func68, Tryd.ntmps68
    go_wp2_with (first | (go_at_call 87; refine CR.out.mono ?_; rintro e w1 ⟨rfl, hs1, hb1⟩; have H1 := hidOf hs1; have B1 := hidOf hb1; clear hs1 hb1) | (go_at_call 44; refine (CA.out w1 tv H1.out).mono ?_; rintro e w2 ⟨⟨v, rfl⟩, ⟨tv2, hs2⟩, hb2⟩; have H2 := hidOf hs2; have B2 := hidOf hb2; clear hs2 hb2))
    go_ret
    exact EEnd.ok H2.out rfl (Below.step B1.out B2.out)
  · rw [if_neg h64]
    have h64' : (64 : Int) < t.length := by omega
    go_enter Tryd.func68, Tryd.ntmps68
    go_wp2_with (go_at_call 87; refine CR.out.mono ?_; rintro e w1 ⟨rfl, hs1, hb1⟩; have H1 := hidOf hs1; have B1 := hidOf hb1; clear hs1 hb1)
    go_ret
    exact EEnd.bad (by decide) (H1.out) rfl (B1.out)
set_option maxHeartbeats 1000000 in
theorem dot_any (N p : Nat) (w : World) (rv tv : Value) (s : Sn) (c : UInt8) (R : List UInt8) (n : Nat) (h : Sc N p w rv tv s) (ha : s.at' < s.line.length) (hl : s.line.length ≤ 4611686018427387904) (hc : s.cnt ≤ 1000000000) (hT : s.T.length ≤ s.cnt) (hR : s.line.drop s.at' = c :: R) (hn : runN (c :: R) = n) :
    Calls Tryd.prog 69 #[.pointer (some ⟨p, 0, none⟩)] w fun e w' => EEnd N p rv w (if startP R = true then (if n ≤ 65 then 0 else 53) else 52) s (tokS s 2 ((c :: R).take n) 0 n) e w' := by
  have c1 : w.cell? ⟨p, 1, none⟩ = some (.string ⟨s.line.toArray⟩) := h.cell 1
  have c3 : w.cell? ⟨p, 3, none⟩ = some (.int .i64 s.at') := h.cell 3
  have H := hidOf h
  have CR : Hid (∀ wx, Sc N p wx rv tv s → Calls Tryd.prog 87 #[.pointer (some ⟨p, 0, none⟩)] wx fun e w' => e = .returned (.string ⟨((c :: R).take n).toArray⟩) ∧ Sc N p w' rv tv { s with at' := s.at' + n } ∧ Below N wx w') := fun wx hx => run_any N p wx rv tv s (c :: R) n hx (by omega) hl hR hn
  have e1 := ext_drop s.line (s.at' + 1) (by omega)
  rw [show s.line.drop (s.at' + 1) = R from by rw [← List.drop_drop, hR]; rfl] at e1
  have CS : Hid (∀ wx, Calls Tryd.prog 59 #[.string ⟨R.toArray⟩] wx fun e w' => e = .returned (.bool (startP R)) ∧ w' = wx) := fun wx => by
    have h := startsWord_any ⟨R.toArray⟩ wx
    rw [mk_list] at h
    exact h.mono fun e w' h => ⟨h.1, h.2.symm⟩
  have hnR : n ≤ (c :: R).length := by rw [← hn]; exact runN_le _
  have hle : ((c :: R).take n).length = n := by rw [List.length_take]; omega
  have CA : Hid (∀ wx tv', Sc N p wx rv tv' { s with at' := s.at' + n } → Calls Tryd.prog 44 #[.pointer (some ⟨p, 0, none⟩), .int .i64 2, .string ⟨((c :: R).take n).toArray⟩, .int .u64 0] wx fun e w' => (∃ v, e = .returned v) ∧ SEnd N p rv wx (tokS s 2 ((c :: R).take n) 0 n) w') := fun wx tv' hx => add_any N p wx rv tv' _ 2 ((c :: R).take n) 0 hx hc hT
  generalize (c :: R).take n = t at *
  have haI : (s.at' : Int) + 1 ≤ s.line.length := by omega
  have hlI : (s.line.length : Int) ≤ 4611686018427387904 := by omega
  clear h hR hn hnR
  cases hst : startP R
  · rw [hst] at CS
    rw [if_neg (by decide)]
    go_enter Tryd.func69, Tryd.ntmps69
    go_upto_region 1 with fail
    go_quiet ((go_at_call 59; exact Calls.quiet_of_same (CS.out _)))
    go_wp2
    go_ret
    exact EEnd.bad (by decide) (H.out.drewN nq) rfl (⟨rfl, rfl, rfl, Nat.le_refl _, fun _ _ => rfl⟩)
  · rw [hst] at CS
    rw [if_pos rfl]
    by_cases h64 : n ≤ 65
    · rw [if_pos h64]
      have h64' : ¬ (t.length : Int) > 65 := by omega
      have h64'' : (t.length : Int) ≤ 65 := by omega
      go_enter Tryd.func69, Tryd.ntmps69
      go_upto_region 1 with fail
      go_quiet ((go_at_call 59; exact Calls.quiet_of_same (CS.out _)))
      have H0 := hidOf (H.out.drewN nq)
      have B0 : Hid (Below N w (w.drewN nq)) := ⟨rfl, rfl, rfl, Nat.le_refl _, fun _ _ => rfl⟩
      clear c1 c3
      generalize w.drewN nq = w0 at *
      go_wp2_with (first | (go_at_call 87; refine (CR.out w0 H0.out).mono ?_; rintro e w1 ⟨rfl, hs1, hb1⟩; have H1 := hidOf hs1; have B1 := hidOf hb1; clear hs1 hb1) | (go_at_call 44; refine (CA.out w1 tv H1.out).mono ?_; rintro e w2 ⟨⟨v, rfl⟩, ⟨tv2, hs2⟩, hb2⟩; have H2 := hidOf hs2; have B2 := hidOf hb2; clear hs2 hb2))
      go_ret
      exact EEnd.ok H2.out rfl (Below.step B0.out (Below.step B1.out B2.out))
    · rw [if_neg h64]
      have h64' : (65 : Int) < t.length := by omega
      go_enter Tryd.func69, Tryd.ntmps69
      go_upto_region 1 with fail
      go_quiet ((go_at_call 59; exact Calls.quiet_of_same (CS.out _)))
      have H0 := hidOf (H.out.drewN nq)
      have B0 : Hid (Below N w (w.drewN nq)) := ⟨rfl, rfl, rfl, Nat.le_refl _, fun _ _ => rfl⟩
      clear c1 c3
      generalize w.drewN nq = w0 at *
      go_wp2_with (go_at_call 87; refine (CR.out w0 H0.out).mono ?_; rintro e w1 ⟨rfl, hs1, hb1⟩; have H1 := hidOf hs1; have B1 := hidOf hb1; clear hs1 hb1)
      go_ret
      exact EEnd.bad (by decide) (H1.out) rfl (Below.step B0.out B1.out)
end Go.Proofs.YtfhmhdhaibmcfaaDoor
