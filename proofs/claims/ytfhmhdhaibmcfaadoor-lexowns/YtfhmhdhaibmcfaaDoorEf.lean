import Derived.Test.YtfhmhdhaibmcfaaDoorEe
namespace Go.Proofs.YtfhmhdhaibmcfaaDoor
open Go.RowKit
set_option linter.unusedVariables false
set_option linter.unusedSimpArgs false
/-- the variables of the library that are read -/
def ErrAt (w : World) (g : Nat) : Prop := ∃ ev, w.cell? ⟨g, 0, none⟩ = some ev ∧ (ev = .nilIface ∨ ∃ te pe, ev = .iface te pe)
structure Env (N : Nat) (w : World) : Prop where
  er : ErrAt w 5
  es : ErrAt w 4
  lr : 5 < N
  ls : 4 < N
theorem ErrAt.below {N g : Nat} {w w' : World} (h : ErrAt w g) (hg : g < N) (b : Below N w w') : ErrAt w' g := by
  obtain ⟨ev, h1, h2⟩ := h
  exact ⟨ev, (Below.cell b hg).trans h1, h2⟩
theorem Env.below {N : Nat} {w w' : World} (h : Env N w) (b : Below N w w') : Env N w' := ⟨h.er.below h.lr b, h.es.below h.ls b, h.lr, h.ls⟩
def hexU (b : UInt8) : Bool := hexP (bI b)
def digU (b : UInt8) : Bool := digP (bI b)
def hexD (c : Int) : Int := if c ≤ 57 then c - 48 else if 97 ≤ c then c - 87 else c - 55
def hexV : Int → List UInt8 → Int
  | a, [] => a
  | a, b :: l => hexV (a * 16 + hexD (bI b)) l
def decV : Nat → List UInt8 → Nat
  | a, [] => a
  | a, b :: l => decV (a * 10 + (b.toNat - 48)) l
/-- a run that begins with a digit, as a number -/
def valP (l : List UInt8) : Int × Bool :=
  if l.take 2 = [48, 120] then (if l.length ≤ 18 ∧ ¬ l.length = 2 ∧ (l.drop 2).all hexU = true then (hexV 0 (l.drop 2), true) else (0, false))
  else if l.head? = some 48 ∧ ¬ l = [48] then (0, false)
  else if l.all digU = true ∧ decV 0 l ≤ 18446744073709551615 then (((decV 0 l : Nat) : Int), true) else (0, false)
def ValC : Prop := ∀ (N : Nat) (t : List UInt8) (w : World), Env N w → ¬ t = [] → t.length ≤ 1048576 → Calls Tryd.prog 88 #[.string ⟨t.toArray⟩] w fun e w' => e = .returned (.tuple #[.int .u64 (valP t).1, .bool (valP t).2]) ∧ Out w w'
theorem Env.le {N M : Nat} {w : World} (h : Env N w) (hM : N ≤ M) : Env M w := ⟨h.er, h.es, Nat.lt_of_lt_of_le h.lr hM, Nat.lt_of_lt_of_le h.ls hM⟩
theorem Below.of_out {N : Nat} {w w' : World} (h : Out w w') (hN : N ≤ w.heap.size) : Below N w w' := Below.mono h hN
set_option maxHeartbeats 1000000 in
theorem numeral_any (CV : ValC) (N p : Nat) (w : World) (hE : Env N w) (rv tv : Value) (s : Sn) (R : List UInt8) (n : Nat) (h : Sc N p w rv tv s) (ha : s.at' ≤ s.line.length) (hl : s.line.length ≤ 1048576) (hc : s.cnt ≤ 1000000000) (hT : s.T.length ≤ s.cnt) (hR : s.line.drop s.at' = R) (hn : runN R = n) (hne : ¬ R.take n = []) :
    Calls Tryd.prog 70 #[.pointer (some ⟨p, 0, none⟩)] w fun e w' => EEnd N p rv w (if (valP (R.take n)).2 = true then 0 else 54) s (tokS s 3 [] (valP (R.take n)).1 n) e w' := by
  have CR := hidOf (run_any N p w rv tv s R n h ha (by omega) hR hn)
  have hRl : R.length ≤ s.line.length := by rw [← hR, List.length_drop]; omega
  have hle : (R.take n).length ≤ 1048576 := by rw [List.length_take]; omega
  have CN : Hid (∀ wx, Below N w wx → Calls Tryd.prog 88 #[.string ⟨(R.take n).toArray⟩] wx fun e w' => e = .returned (.tuple #[.int .u64 (valP (R.take n)).1, .bool (valP (R.take n)).2]) ∧ Out wx w') := fun wx b => CV N _ wx (hE.below b) hne hle
  have hb := hidOf h.base
  generalize hv : valP (R.take n) = v at *
  obtain ⟨v, ok⟩ := v
  have CA : Hid (∀ wx tv', Sc N p wx rv tv' { s with at' := s.at' + n } → Calls Tryd.prog 44 #[.pointer (some ⟨p, 0, none⟩), .int .i64 3, .string ⟨#[]⟩, .int .u64 v] wx fun e w' => (∃ v, e = .returned v) ∧ SEnd N p rv wx (tokS s 3 [] v n) w') := fun wx tv' hx => add_any N p wx rv tv' _ 3 [] v hx hc hT
  generalize R.take n = t at *
  clear h hR hn hE hv
  cases ok
  · rw [if_neg (by simp)]
    go_enter Tryd.func70, Tryd.ntmps70
    go_wp2_with (first | (go_at_call 87; refine CR.out.mono ?_; rintro e w1 ⟨rfl, hs1, hb1⟩; have H1 := hidOf hs1; have B1 := hidOf hb1; clear hs1 hb1) | (go_at_call 88; refine (CN.out w1 B1.out).mono ?_; rintro e w2 ⟨rfl, ho⟩; have H2 := hidOf (H1.out.out ho); have B2 := hidOf (Below.of_out (N := N) ho H1.out.base); clear ho))
    go_ret
    exact EEnd.bad (by decide) H2.out rfl (Below.step B1.out B2.out)
  · rw [if_pos rfl]
    go_enter Tryd.func70, Tryd.ntmps70
    go_wp2_with (first | (go_at_call 87; refine CR.out.mono ?_; rintro e w1 ⟨rfl, hs1, hb1⟩; have H1 := hidOf hs1; have B1 := hidOf hb1; clear hs1 hb1) | (go_at_call 88; refine (CN.out w1 B1.out).mono ?_; rintro e w2 ⟨rfl, ho⟩; have H2 := hidOf (H1.out.out ho); have B2 := hidOf (Below.of_out (N := N) ho H1.out.base); clear ho) | (go_at_call 44; refine (CA.out w2 tv H2.out).mono ?_; rintro e w3 ⟨⟨v, rfl⟩, ⟨tv2, hs2⟩, hb2⟩; have H3 := hidOf hs2; have B3 := hidOf hb2; clear hs2 hb2))
    go_ret
    exact EEnd.ok H3.out rfl (Below.step B1.out (Below.step B2.out B3.out))
/-- what begins at a place of a line: the error, the token that it makes, how many bytes it is -/
def pieceP : List UInt8 → Int × Option (Int × List UInt8 × Int) × Nat
  | [] => (0, none, 0)
  | c :: r =>
    if kindP (bI c) = 1 then (0, none, 1)
    else if kindP (bI c) = 2 then (0, none, r.length + 1)
    else if kindP (bI c) = 3 then (if runN (c :: r) ≤ 64 then 0 else 53, some (1, (c :: r).take (runN (c :: r)), 0), runN (c :: r))
    else if kindP (bI c) = 5 then (if startP r = true then (if runN (c :: r) ≤ 65 then 0 else 53) else 52, some (2, (c :: r).take (runN (c :: r)), 0), runN (c :: r))
    else if kindP (bI c) = 4 then (if (valP ((c :: r).take (runN (c :: r)))).2 = true then 0 else 54, some (3, [], (valP ((c :: r).take (runN (c :: r)))).1), runN (c :: r))
    else if kindP (bI c) = 7 then (0, some (4, [c], 0), 1)
    else (52, none, 0)
def Sn.adv (s : Sn) (t : Option (Int × List UInt8 × Int)) (n : Nat) : Sn :=
  match t with
  | none => { s with at' := s.at' + n }
  | some (k, t, v) => tokS s k t v n
theorem run_pos {c : UInt8} {r : List UInt8} (h : kindP (bI c) = 3 ∨ kindP (bI c) = 4 ∨ kindP (bI c) = 5) : 0 < runN (c :: r) := by
  have : runU c = true := by unfold runU; rw [runP_kind]; rcases h with h | h | h <;> simp [h]
  simp [runN, List.takeWhile, this]
set_option maxHeartbeats 2000000 in
theorem next_any (CV : ValC) (N p : Nat) (w : World) (hE : Env N w) (rv tv : Value) (s : Sn) (c : UInt8) (R : List UInt8) (h : Sc N p w rv tv s) (ha : s.at' < s.line.length) (hl : s.line.length ≤ 1048576) (hc : s.cnt ≤ 1000000000) (hT : s.T.length ≤ s.cnt) (hR : s.line.drop s.at' = c :: R) :
    Calls Tryd.prog 58 #[.pointer (some ⟨p, 0, none⟩)] w fun e w' => EEnd N p rv w (pieceP (c :: R)).1 s (s.adv (pieceP (c :: R)).2.1 (pieceP (c :: R)).2.2) e w' := by
  have c1 : w.cell? ⟨p, 1, none⟩ = some (.string ⟨s.line.toArray⟩) := h.cell 1
  have c3 : w.cell? ⟨p, 3, none⟩ = some (.int .i64 s.at') := h.cell 3
  have H := hidOf h
  have HE := hidOf hE
  have hRl : s.line.length - s.at' = R.length + 1 := by have := congrArg List.length hR; rw [List.length_drop] at this; simpa using this
  have hg : s.line[s.at']? = some c := by
    have := congrArg (·[0]?) hR
    simpa using this
  have ix : ∀ hx, (⟨s.line.toArray⟩ : ByteArray)[s.at']'hx = c := fun hx => by
    have h1 := lget ⟨s.line.toArray⟩ s.at' hx
    rw [mk_list, hg] at h1
    exact (Option.some.inj h1).symm
  have haI : (s.at' : Int) < s.line.length := by omega
  have hlI : (s.line.length : Int) ≤ 1048576 := by omega
  have CW : Hid (∀ wx, Sc N p wx rv tv s → Calls Tryd.prog 68 #[.pointer (some ⟨p, 0, none⟩)] wx fun e w' => EEnd N p rv wx (if runN (c :: R) ≤ 64 then 0 else 53) s (tokS s 1 ((c :: R).take (runN (c :: R))) 0 (runN (c :: R))) e w') := fun wx hx => word_any N p wx rv tv s (c :: R) _ hx (by omega) (by omega) hc hT hR rfl
  have CD : Hid (∀ wx, Sc N p wx rv tv s → Calls Tryd.prog 69 #[.pointer (some ⟨p, 0, none⟩)] wx fun e w' => EEnd N p rv wx (if startP R = true then (if runN (c :: R) ≤ 65 then 0 else 53) else 52) s (tokS s 2 ((c :: R).take (runN (c :: R))) 0 (runN (c :: R))) e w') := fun wx hx => dot_any N p wx rv tv s c R _ hx ha (by omega) hc hT hR rfl
  have CM : Hid (∀ wx, Sc N p wx rv tv s → Calls Tryd.prog 71 #[.pointer (some ⟨p, 0, none⟩)] wx fun e w' => EEnd N p rv wx 0 s (tokS s 4 [c] 0 1) e w') := fun wx hx => mark_any N p wx rv tv s c R hx ha (by omega) hc hT hR
  have CU : Hid (kindP (bI c) = 4 → ∀ wx, Env N wx → Sc N p wx rv tv s → Calls Tryd.prog 70 #[.pointer (some ⟨p, 0, none⟩)] wx fun e w' => EEnd N p rv wx (if (valP ((c :: R).take (runN (c :: R)))).2 = true then 0 else 54) s (tokS s 3 [] (valP ((c :: R).take (runN (c :: R)))).1 (runN (c :: R))) e w') := fun hk wx he hx => numeral_any CV N p wx he rv tv s (c :: R) _ hx (by omega) hl hc hT hR rfl (fun h0 => by
    have h1 := congrArg List.length h0
    have h2 := run_pos (c := c) (r := R) (.inr (.inl hk))
    have h3 := runN_le (c :: R)
    rw [List.length_take] at h1; simp at h1 h3; omega)
  have hw1 : IntKind.i64.wrap ((s.at' : Int) + 1) = (s.at' : Int) + 1 := by rw [IntKind.wrap_i64]; omega
  have CK : Hid (∀ wx, Calls Tryd.prog 62 #[.int .u8 (c.toNat : Int)] wx fun e w' => e = .returned (.int .i64 (kindP (bI c))) ∧ w' = wx) := fun wx => (kindOf_any (bI c) wx).mono fun e w' h => ⟨h.1, h.2.symm⟩
  have HS1 : Hid (∀ X, Sc N p X rv tv s → Sc N p (X.setCell ⟨p, 3, none⟩ (.int .i64 ((s.at' : Int) + 1))) rv tv { s with at' := s.at' + 1 }) := fun X hX => hX.set 3 _ _ rfl (by simp [Sn.cells])
  have HS2 : Hid (∀ X, Sc N p X rv tv s → Sc N p (X.setCell ⟨p, 3, none⟩ (.int .i64 (s.line.length : Int))) rv tv { s with at' := s.at' + (R.length + 1) }) := fun X hX => hX.set 3 _ _ rfl (by simp [Sn.cells]; omega)
  clear h hR hg hE
  have hP : pieceP (c :: R) = (if kindP (bI c) = 1 then (0, none, 1) else if kindP (bI c) = 2 then (0, none, R.length + 1)
    else if kindP (bI c) = 3 then (if runN (c :: R) ≤ 64 then 0 else 53, some (1, (c :: R).take (runN (c :: R)), 0), runN (c :: R))
    else if kindP (bI c) = 5 then (if startP R = true then (if runN (c :: R) ≤ 65 then 0 else 53) else 52, some (2, (c :: R).take (runN (c :: R)), 0), runN (c :: R))
    else if kindP (bI c) = 4 then (if (valP ((c :: R).take (runN (c :: R)))).2 = true then 0 else 54, some (3, [], (valP ((c :: R).take (runN (c :: R)))).1), runN (c :: R))
    else if kindP (bI c) = 7 then (0, some (4, [c], 0), 1) else (52, none, 0)) := rfl
  rw [hP]
  clear hP
  generalize kindP (bI c) = k at *
  by_cases k1 : k = 1
  · subst k1
    rw [if_pos rfl]
    go_enter Tryd.func58, Tryd.ntmps58
    go_upto_region 1 with fail
    go_quiet ((go_at_call 62; exact Calls.quiet_of_same (CK.out _)))
    have H0 := hidOf (H.out.drewN nq)
    have B0 : Hid (Below N w (w.drewN nq)) := ⟨rfl, rfl, rfl, Nat.le_refl _, fun _ _ => rfl⟩
    clear c1 c3
    generalize w.drewN nq = w0 at *
    have d3 : w0.cell? ⟨p, 3, none⟩ = some (.int .i64 s.at') := H0.out.cell 3
    have f3 := H0.out.frozen 3
    go_wp2
    go_ret
    exact EEnd.ok (HS1.out _ H0.out) rfl (Below.set_own B0.out H.out.le _)
  by_cases k2 : k = 2
  · subst k2
    rw [if_neg k1, if_pos rfl]
    go_enter Tryd.func58, Tryd.ntmps58
    go_upto_region 1 with fail
    go_quiet ((go_at_call 62; exact Calls.quiet_of_same (CK.out _)))
    have H0 := hidOf (H.out.drewN nq)
    have B0 : Hid (Below N w (w.drewN nq)) := ⟨rfl, rfl, rfl, Nat.le_refl _, fun _ _ => rfl⟩
    clear c1 c3
    generalize w.drewN nq = w0 at *
    have d1 : w0.cell? ⟨p, 1, none⟩ = some (.string ⟨s.line.toArray⟩) := H0.out.cell 1
    have d3 : w0.cell? ⟨p, 3, none⟩ = some (.int .i64 s.at') := H0.out.cell 3
    have f3 := H0.out.frozen 3
    go_wp2
    go_ret
    exact EEnd.ok (HS2.out _ H0.out) rfl (Below.set_own B0.out H.out.le _)
  rw [if_neg k1, if_neg k2]
  have j1 : (k == 1) = false := by simpa using k1
  have j2 : (k == 2) = false := by simpa using k2
  by_cases k3 : k = 3
  · subst k3
    rw [if_pos rfl]
    generalize (if runN (c :: R) ≤ 64 then (0 : Int) else 53) = E at *
    go_enter Tryd.func58, Tryd.ntmps58
    go_upto_region 1 with fail
    go_quiet ((go_at_call 62; exact Calls.quiet_of_same (CK.out _)))
    have H0 := hidOf (H.out.drewN nq)
    have B0 : Hid (Below N w (w.drewN nq)) := ⟨rfl, rfl, rfl, Nat.le_refl _, fun _ _ => rfl⟩
    clear c1 c3
    generalize w.drewN nq = w0 at *
    go_wp2_with (go_at_call 68; refine (CW.out w0 H0.out).mono ?_; rintro e w1 ⟨rfl, q1, q2, q3⟩; have Q1 := hidOf q1; have Q2 := hidOf q2; have Q3 := hidOf q3; clear q1 q2 q3)
    go_ret
    exact ⟨rfl, Q1.out, Q2.out, Below.step B0.out Q3.out⟩
  rw [if_neg k3]
  have j3 : (k == 3) = false := by simpa using k3
  by_cases k5 : k = 5
  · subst k5
    rw [if_pos rfl]
    generalize (if startP R = true then (if runN (c :: R) ≤ 65 then (0 : Int) else 53) else 52) = E at *
    go_enter Tryd.func58, Tryd.ntmps58
    go_upto_region 1 with fail
    go_quiet ((go_at_call 62; exact Calls.quiet_of_same (CK.out _)))
    have H0 := hidOf (H.out.drewN nq)
    have B0 : Hid (Below N w (w.drewN nq)) := ⟨rfl, rfl, rfl, Nat.le_refl _, fun _ _ => rfl⟩
    clear c1 c3
    generalize w.drewN nq = w0 at *
    go_wp2_with (go_at_call 69; refine (CD.out w0 H0.out).mono ?_; rintro e w1 ⟨rfl, q1, q2, q3⟩; have Q1 := hidOf q1; have Q2 := hidOf q2; have Q3 := hidOf q3; clear q1 q2 q3)
    go_ret
    exact ⟨rfl, Q1.out, Q2.out, Below.step B0.out Q3.out⟩
  rw [if_neg k5]
  have j5 : (k == 5) = false := by simpa using k5
  by_cases k4 : k = 4
  · subst k4
    rw [if_pos rfl]
    generalize (if (valP ((c :: R).take (runN (c :: R)))).2 = true then (0 : Int) else 54) = E at *
    go_enter Tryd.func58, Tryd.ntmps58
    go_upto_region 1 with fail
    go_quiet ((go_at_call 62; exact Calls.quiet_of_same (CK.out _)))
    have H0 := hidOf (H.out.drewN nq)
    have B0 : Hid (Below N w (w.drewN nq)) := ⟨rfl, rfl, rfl, Nat.le_refl _, fun _ _ => rfl⟩
    clear c1 c3
    generalize w.drewN nq = w0 at *
    go_wp2_with (go_at_call 70; refine (CU.out rfl w0 (HE.out.below B0.out) H0.out).mono ?_; rintro e w1 ⟨rfl, q1, q2, q3⟩; have Q1 := hidOf q1; have Q2 := hidOf q2; have Q3 := hidOf q3; clear q1 q2 q3)
    go_ret
    exact ⟨rfl, Q1.out, Q2.out, Below.step B0.out Q3.out⟩
  rw [if_neg k4]
  have j4 : (k == 4) = false := by simpa using k4
  by_cases k7 : k = 7
  · subst k7
    rw [if_pos rfl]
    go_enter Tryd.func58, Tryd.ntmps58
    go_upto_region 1 with fail
    go_quiet ((go_at_call 62; exact Calls.quiet_of_same (CK.out _)))
    have H0 := hidOf (H.out.drewN nq)
    have B0 : Hid (Below N w (w.drewN nq)) := ⟨rfl, rfl, rfl, Nat.le_refl _, fun _ _ => rfl⟩
    clear c1 c3
    generalize w.drewN nq = w0 at *
    go_wp2_with (go_at_call 71; refine (CM.out w0 H0.out).mono ?_; rintro e w1 ⟨rfl, q1, q2, q3⟩; have Q1 := hidOf q1; have Q2 := hidOf q2; have Q3 := hidOf q3; clear q1 q2 q3)
    go_ret
    exact ⟨rfl, fun _ => Q1.out trivial, Q2.out, Below.step B0.out Q3.out⟩
  rw [if_neg k7]
  have j7 : (k == 7) = false := by simpa using k7
  go_enter Tryd.func58, Tryd.ntmps58
  go_upto_region 1 with fail
  go_quiet ((go_at_call 62; exact Calls.quiet_of_same (CK.out _)))
  have H0 := hidOf (H.out.drewN nq)
  have B0 : Hid (Below N w (w.drewN nq)) := ⟨rfl, rfl, rfl, Nat.le_refl _, fun _ _ => rfl⟩
  clear c1 c3
  generalize w.drewN nq = w0 at *
  go_wp2
  go_ret
  exact EEnd.bad (by decide) H0.out rfl B0.out
end Go.Proofs.YtfhmhdhaibmcfaaDoor
