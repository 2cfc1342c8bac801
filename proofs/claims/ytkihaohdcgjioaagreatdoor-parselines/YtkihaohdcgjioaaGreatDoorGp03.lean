import Derived.Test.YtkihaohdcgjioaaGreatDoorGp00
import Derived.Deep.RegionWith
import Derived.Test.YtkihaohdcgjioaaGreatDoorGp02
import Derived.Test.YtkihaohdcgjioaaGreatDoorGp01
import Derived.Shelf.Strings.SlTrimAscii
namespace Go.Proofs.YtkihaohdcgjioaaGreatDoor.Lx
open Go.RowKit
set_option linter.unusedVariables false
set_option linter.unusedSimpArgs false
set_option maxHeartbeats 1000000 in
theorem mark_any (N p : Nat) (w : World) (rv tv : Value) (s : Sn) (c : UInt8) (R : List UInt8) (h : Sc N p w rv tv s) (ha : s.at' < s.line.length) (hl : s.line.length ≤ 4611686018427387904) (hc : s.cnt ≤ 1000000000) (hT : s.T.length ≤ s.cnt) (hR : s.line.drop s.at' = c :: R) :
    Calls Tryz.prog 144 #[.pointer (some ⟨p, 0, none⟩)] w fun e w' => EEnd N p rv w 0 s (tokS s 4 [c] 0 1) e w' := by
  have c1 : w.cell? ⟨p, 1, none⟩ = some (.string ⟨s.line.toArray⟩) := h.cell 1
  have c3 : w.cell? ⟨p, 3, none⟩ = some (.int .i64 s.at') := h.cell 3
  have H := hidOf h
  have e1 : (⟨s.line.toArray⟩ : ByteArray).extract s.at' (s.at' + 1) = ⟨#[c]⟩ := by
    rw [ext_mid s.line s.at' 1 (by omega), hR]; rfl
  have CA : Hid (∀ wx, Sc N p wx rv tv s → Calls Tryz.prog 66 #[.pointer (some ⟨p, 0, none⟩), .int .i64 4, .string ⟨#[c]⟩, .int .u64 0] wx fun e w' => (∃ v, e = .returned v) ∧ SEnd N p rv wx (s.add 4 [c] 0) w') := fun wx hx => add_any N p wx rv tv s 4 [c] 0 hx hc hT
  have haI : (s.at' : Int) + 1 ≤ s.line.length := by omega
  have haJ : (s.at' : Int) ≤ (s.at' : Int) + 1 := by omega
  have hlI : (s.line.length : Int) ≤ 4611686018427387904 := by omega
  have hwr : IntKind.i64.wrap ((s.at' : Int) + 1) = (s.at' : Int) + 1 := by rw [IntKind.wrap_i64]; omega
  clear h hR
  go_enter Tryz.func144, Tryz.ntmps144
  go_upto_region 1 with fail
  go_region_with (go_at_call 66; refine (CA.out _ H.out.drew).mono ?_; rintro e w2 ⟨⟨v, rfl⟩, ⟨tv2, hs2⟩, hb2⟩; have H2 := hidOf hs2; have B2 := hidOf hb2; clear hs2 hb2)
  all_goals
    have d3 : w2.cell? ⟨p, 3, none⟩ = some (.int .i64 s.at') := H2.out.cell 3
    have f3 := H2.out.frozen 3
    go_wp2
    go_ret
    exact EEnd.ok (H2.out.set 3 _ (tokS s 4 [c] 0 1) rfl (by simp [Sn.cells, tokS, Sn.add])) rfl (Below.set_own (Below.step ((Below.refl _ _).drew) B2.out) H.out.le _)
end Go.Proofs.YtkihaohdcgjioaaGreatDoor.Lx
namespace Go.Proofs.YtkihaohdcgjioaaGreatDoor.Lx
open Go.RowKit
set_option linter.unusedVariables false
set_option linter.unusedSimpArgs false
/-- the variables of the library that are read -/
def ErrAt (w : World) (g : Nat) : Prop := ∃ ev, w.cell? ⟨g, 0, none⟩ = some ev ∧ (ev = .nilIface ∨ ∃ te pe, ev = .iface te pe)
structure Env (N : Nat) (w : World) : Prop where
  er : ErrAt w 13
  es : ErrAt w 12
  lr : 13 < N
  ls : 12 < N
theorem ErrAt.below {N g : Nat} {w w' : World} (h : ErrAt w g) (hg : g < N) (b : Below N w w') : ErrAt w' g := by
  obtain ⟨ev, h1, h2⟩ := h
  exact ⟨ev, (Below.cell b hg).trans h1, h2⟩
theorem Env.below {N : Nat} {w w' : World} (h : Env N w) (b : Below N w w') : Env N w' := ⟨h.er.below h.lr b, h.es.below h.ls b, h.lr, h.ls⟩
def hexU (b : UInt8) : Bool := hexP (bI b)
def digU (b : UInt8) : Bool := digP (bI b)
def hexD (c : Int) : Int := if c ≤ 57 then c - 48 else if 97 ≤ c then c - 87 else c - 55
def hexV : Int → List UInt8 → Int
  | a, [] => a
  | a, b :: l => hexV (a * 16 + hexD (bI b)) l
def decV : Nat → List UInt8 → Nat
  | a, [] => a
  | a, b :: l => decV (a * 10 + (b.toNat - 48)) l
/-- a run that begins with a digit, as a number -/
def valP (l : List UInt8) : Int × Bool :=
  if l.take 2 = [48, 120] then (if l.length ≤ 18 ∧ ¬ l.length = 2 ∧ (l.drop 2).all hexU = true then (hexV 0 (l.drop 2), true) else (0, false))
  else if l.head? = some 48 ∧ ¬ l = [48] then (0, false)
  else if l.all digU = true ∧ decV 0 l ≤ 18446744073709551615 then (((decV 0 l : Nat) : Int), true) else (0, false)
def ValC : Prop := ∀ (N : Nat) (t : List UInt8) (w : World), Env N w → ¬ t = [] → t.length ≤ 1048576 → Calls Tryz.prog 188 #[.string ⟨t.toArray⟩] w fun e w' => e = .returned (.tuple #[.int .u64 (valP t).1, .bool (valP t).2]) ∧ Out w w'
theorem Env.le {N M : Nat} {w : World} (h : Env N w) (hM : N ≤ M) : Env M w := ⟨h.er, h.es, Nat.lt_of_lt_of_le h.lr hM, Nat.lt_of_lt_of_le h.ls hM⟩
theorem Below.of_out {N : Nat} {w w' : World} (h : Out w w') (hN : N ≤ w.heap.size) : Below N w w' := Below.mono h hN
set_option maxHeartbeats 1000000 in
theorem numeral_any (CV : ValC) (N p : Nat) (w : World) (hE : Env N w) (rv tv : Value) (s : Sn) (R : List UInt8) (n : Nat) (h : Sc N p w rv tv s) (ha : s.at' ≤ s.line.length) (hl : s.line.length ≤ 1048576) (hc : s.cnt ≤ 1000000000) (hT : s.T.length ≤ s.cnt) (hR : s.line.drop s.at' = R) (hn : runN R = n) (hne : ¬ R.take n = []) :
    Calls Tryz.prog 143 #[.pointer (some ⟨p, 0, none⟩)] w fun e w' => EEnd N p rv w (if (valP (R.take n)).2 = true then 0 else 54) s (tokS s 3 [] (valP (R.take n)).1 n) e w' := by
  have CR := hidOf (run_any N p w rv tv s R n h ha (by omega) hR hn)
  have hRl : R.length ≤ s.line.length := by rw [← hR, List.length_drop]; omega
  have hle : (R.take n).length ≤ 1048576 := by rw [List.length_take]; omega
  have CN : Hid (∀ wx, Below N w wx → Calls Tryz.prog 188 #[.string ⟨(R.take n).toArray⟩] wx fun e w' => e = .returned (.tuple #[.int .u64 (valP (R.take n)).1, .bool (valP (R.take n)).2]) ∧ Out wx w') := fun wx b => CV N _ wx (hE.below b) hne hle
  have hb := hidOf h.base
  generalize hv : valP (R.take n) = v at *
  obtain ⟨v, ok⟩ := v
  have CA : Hid (∀ wx tv', Sc N p wx rv tv' { s with at' := s.at' + n } → Calls Tryz.prog 66 #[.pointer (some ⟨p, 0, none⟩), .int .i64 3, .string ⟨#[]⟩, .int .u64 v] wx fun e w' => (∃ v, e = .returned v) ∧ SEnd N p rv wx (tokS s 3 [] v n) w') := fun wx tv' hx => add_any N p wx rv tv' _ 3 [] v hx hc hT
  generalize R.take n = t at *
  clear h hR hn hE hv
  cases ok
  · rw [if_neg (by simp)]
    go_enter Tryz.func143, Tryz.ntmps143
    go_wp2_with (first | (go_at_call 186; refine CR.out.mono ?_; rintro e w1 ⟨rfl, hs1, hb1⟩; have H1 := hidOf hs1; have B1 := hidOf hb1; clear hs1 hb1) | (go_at_call 188; refine (CN.out w1 B1.out).mono ?_; rintro e w2 ⟨rfl, ho⟩; have H2 := hidOf (H1.out.out ho); have B2 := hidOf (Below.of_out (N := N) ho H1.out.base); clear ho))
    go_ret
    exact EEnd.bad (by decide) H2.out rfl (Below.step B1.out B2.out)
  · rw [if_pos rfl]
    go_enter Tryz.func143, Tryz.ntmps143
    go_wp2_with (first | (go_at_call 186; refine CR.out.mono ?_; rintro e w1 ⟨rfl, hs1, hb1⟩; have H1 := hidOf hs1; have B1 := hidOf hb1; clear hs1 hb1) | (go_at_call 188; refine (CN.out w1 B1.out).mono ?_; rintro e w2 ⟨rfl, ho⟩; have H2 := hidOf (H1.out.out ho); have B2 := hidOf (Below.of_out (N := N) ho H1.out.base); clear ho) | (go_at_call 66; refine (CA.out w2 tv H2.out).mono ?_; rintro e w3 ⟨⟨v, rfl⟩, ⟨tv2, hs2⟩, hb2⟩; have H3 := hidOf hs2; have B3 := hidOf hb2; clear hs2 hb2))
    go_ret
    exact EEnd.ok H3.out rfl (Below.step B1.out (Below.step B2.out B3.out))
/-- what begins at a place of a line: the error, the token that it makes, how many bytes it is -/
def pieceP : List UInt8 → Int × Option (Int × List UInt8 × Int) × Nat
  | [] => (0, none, 0)
  | c :: r =>
    if kindP (bI c) = 1 then (0, none, 1)
    else if kindP (bI c) = 2 then (0, none, r.length + 1)
    else if kindP (bI c) = 3 then (if runN (c :: r) ≤ 64 then 0 else 53, some (1, (c :: r).take (runN (c :: r)), 0), runN (c :: r))
    else if kindP (bI c) = 5 then (if startP r = true then (if runN (c :: r) ≤ 65 then 0 else 53) else 52, some (2, (c :: r).take (runN (c :: r)), 0), runN (c :: r))
    else if kindP (bI c) = 4 then (if (valP ((c :: r).take (runN (c :: r)))).2 = true then 0 else 54, some (3, [], (valP ((c :: r).take (runN (c :: r)))).1), runN (c :: r))
    else if kindP (bI c) = 7 then (0, some (4, [c], 0), 1)
    else (52, none, 0)
def Sn.adv (s : Sn) (t : Option (Int × List UInt8 × Int)) (n : Nat) : Sn :=
  match t with
  | none => { s with at' := s.at' + n }
  | some (k, t, v) => tokS s k t v n
theorem run_pos {c : UInt8} {r : List UInt8} (h : kindP (bI c) = 3 ∨ kindP (bI c) = 4 ∨ kindP (bI c) = 5) : 0 < runN (c :: r) := by
  have : runU c = true := by unfold runU; rw [runP_kind]; rcases h with h | h | h <;> simp [h]
  simp [runN, List.takeWhile, this]
set_option maxHeartbeats 2000000 in
theorem next_any (CV : ValC) (N p : Nat) (w : World) (hE : Env N w) (rv tv : Value) (s : Sn) (c : UInt8) (R : List UInt8) (h : Sc N p w rv tv s) (ha : s.at' < s.line.length) (hl : s.line.length ≤ 1048576) (hc : s.cnt ≤ 1000000000) (hT : s.T.length ≤ s.cnt) (hR : s.line.drop s.at' = c :: R) :
    Calls Tryz.prog 101 #[.pointer (some ⟨p, 0, none⟩)] w fun e w' => EEnd N p rv w (pieceP (c :: R)).1 s (s.adv (pieceP (c :: R)).2.1 (pieceP (c :: R)).2.2) e w' := by
  have c1 : w.cell? ⟨p, 1, none⟩ = some (.string ⟨s.line.toArray⟩) := h.cell 1
  have c3 : w.cell? ⟨p, 3, none⟩ = some (.int .i64 s.at') := h.cell 3
  have H := hidOf h
  have HE := hidOf hE
  have hRl : s.line.length - s.at' = R.length + 1 := by have := congrArg List.length hR; rw [List.length_drop] at this; simpa using this
  have hg : s.line[s.at']? = some c := by
    have := congrArg (·[0]?) hR
    simpa using this
  have ix : ∀ hx, (⟨s.line.toArray⟩ : ByteArray)[s.at']'hx = c := fun hx => by
    have h1 := lget ⟨s.line.toArray⟩ s.at' hx
    rw [mk_list, hg] at h1
    exact (Option.some.inj h1).symm
  have haI : (s.at' : Int) < s.line.length := by omega
  have hlI : (s.line.length : Int) ≤ 1048576 := by omega
  have CW : Hid (∀ wx, Sc N p wx rv tv s → Calls Tryz.prog 141 #[.pointer (some ⟨p, 0, none⟩)] wx fun e w' => EEnd N p rv wx (if runN (c :: R) ≤ 64 then 0 else 53) s (tokS s 1 ((c :: R).take (runN (c :: R))) 0 (runN (c :: R))) e w') := fun wx hx => word_any N p wx rv tv s (c :: R) _ hx (by omega) (by omega) hc hT hR rfl
  have CD : Hid (∀ wx, Sc N p wx rv tv s → Calls Tryz.prog 142 #[.pointer (some ⟨p, 0, none⟩)] wx fun e w' => EEnd N p rv wx (if startP R = true then (if runN (c :: R) ≤ 65 then 0 else 53) else 52) s (tokS s 2 ((c :: R).take (runN (c :: R))) 0 (runN (c :: R))) e w') := fun wx hx => dot_any N p wx rv tv s c R _ hx ha (by omega) hc hT hR rfl
  have CM : Hid (∀ wx, Sc N p wx rv tv s → Calls Tryz.prog 144 #[.pointer (some ⟨p, 0, none⟩)] wx fun e w' => EEnd N p rv wx 0 s (tokS s 4 [c] 0 1) e w') := fun wx hx => mark_any N p wx rv tv s c R hx ha (by omega) hc hT hR
  have CU : Hid (kindP (bI c) = 4 → ∀ wx, Env N wx → Sc N p wx rv tv s → Calls Tryz.prog 143 #[.pointer (some ⟨p, 0, none⟩)] wx fun e w' => EEnd N p rv wx (if (valP ((c :: R).take (runN (c :: R)))).2 = true then 0 else 54) s (tokS s 3 [] (valP ((c :: R).take (runN (c :: R)))).1 (runN (c :: R))) e w') := fun hk wx he hx => numeral_any CV N p wx he rv tv s (c :: R) _ hx (by omega) hl hc hT hR rfl (fun h0 => by
    have h1 := congrArg List.length h0
    have h2 := run_pos (c := c) (r := R) (.inr (.inl hk))
    have h3 := runN_le (c :: R)
    rw [List.length_take] at h1; simp at h1 h3; omega)
  have hw1 : IntKind.i64.wrap ((s.at' : Int) + 1) = (s.at' : Int) + 1 := by rw [IntKind.wrap_i64]; omega
  have CK : Hid (∀ wx, Calls Tryz.prog 140 #[.int .u8 (c.toNat : Int)] wx fun e w' => e = .returned (.int .i64 (kindP (bI c))) ∧ w' = wx) := fun wx => (kindOf_any (bI c) wx).mono fun e w' h => ⟨h.1, h.2.symm⟩
  have HS1 : Hid (∀ X, Sc N p X rv tv s → Sc N p (X.setCell ⟨p, 3, none⟩ (.int .i64 ((s.at' : Int) + 1))) rv tv { s with at' := s.at' + 1 }) := fun X hX => hX.set 3 _ _ rfl (by simp [Sn.cells])
  have HS2 : Hid (∀ X, Sc N p X rv tv s → Sc N p (X.setCell ⟨p, 3, none⟩ (.int .i64 (s.line.length : Int))) rv tv { s with at' := s.at' + (R.length + 1) }) := fun X hX => hX.set 3 _ _ rfl (by simp [Sn.cells]; omega)
  clear h hR hg hE
  have hP : pieceP (c :: R) = (if kindP (bI c) = 1 then (0, none, 1) else if kindP (bI c) = 2 then (0, none, R.length + 1)
    else if kindP (bI c) = 3 then (if runN (c :: R) ≤ 64 then 0 else 53, some (1, (c :: R).take (runN (c :: R)), 0), runN (c :: R))
    else if kindP (bI c) = 5 then (if startP R = true then (if runN (c :: R) ≤ 65 then 0 else 53) else 52, some (2, (c :: R).take (runN (c :: R)), 0), runN (c :: R))
    else if kindP (bI c) = 4 then (if (valP ((c :: R).take (runN (c :: R)))).2 = true then 0 else 54, some (3, [], (valP ((c :: R).take (runN (c :: R)))).1), runN (c :: R))
    else if kindP (bI c) = 7 then (0, some (4, [c], 0), 1) else (52, none, 0)) := rfl
  rw [hP]
  clear hP
  generalize kindP (bI c) = k at *
  by_cases k1 : k = 1
  · subst k1
    rw [if_pos rfl]
    go_enter Tryz.func101, Tryz.ntmps101
    go_upto_region 1 with fail
    go_quiet ((go_at_call 140; exact Calls.quiet_of_same (CK.out _)))
    have H0 := hidOf (H.out.drewN nq)
    have B0 : Hid (Below N w (w.drewN nq)) := ⟨rfl, rfl, rfl, Nat.le_refl _, fun _ _ => rfl⟩
    clear c1 c3
    generalize w.drewN nq = w0 at *
    have d3 : w0.cell? ⟨p, 3, none⟩ = some (.int .i64 s.at') := H0.out.cell 3
    have f3 := H0.out.frozen 3
    go_wp2
    go_ret
    exact EEnd.ok (HS1.out _ H0.out) rfl (Below.set_own B0.out H.out.le _)
  by_cases k2 : k = 2
  · subst k2
    rw [if_neg k1, if_pos rfl]
    go_enter Tryz.func101, Tryz.ntmps101
    go_upto_region 1 with fail
    go_quiet ((go_at_call 140; exact Calls.quiet_of_same (CK.out _)))
    have H0 := hidOf (H.out.drewN nq)
    have B0 : Hid (Below N w (w.drewN nq)) := ⟨rfl, rfl, rfl, Nat.le_refl _, fun _ _ => rfl⟩
    clear c1 c3
    generalize w.drewN nq = w0 at *
    have d1 : w0.cell? ⟨p, 1, none⟩ = some (.string ⟨s.line.toArray⟩) := H0.out.cell 1
    have d3 : w0.cell? ⟨p, 3, none⟩ = some (.int .i64 s.at') := H0.out.cell 3
    have f3 := H0.out.frozen 3
    go_wp2
    go_ret
    exact EEnd.ok (HS2.out _ H0.out) rfl (Below.set_own B0.out H.out.le _)
  rw [if_neg k1, if_neg k2]
  have j1 : (k == 1) = false := by simpa using k1
  have j2 : (k == 2) = false := by simpa using k2
  by_cases k3 : k = 3
  · subst k3
    rw [if_pos rfl]
    generalize (if runN (c :: R) ≤ 64 then (0 : Int) else 53) = E at *
    go_enter Tryz.func101, Tryz.ntmps101
    go_upto_region 1 with fail
    go_quiet ((go_at_call 140; exact Calls.quiet_of_same (CK.out _)))
    have H0 := hidOf (H.out.drewN nq)
    have B0 : Hid (Below N w (w.drewN nq)) := ⟨rfl, rfl, rfl, Nat.le_refl _, fun _ _ => rfl⟩
    clear c1 c3
    generalize w.drewN nq = w0 at *
    go_wp2_with (go_at_call 141; refine (CW.out w0 H0.out).mono ?_; rintro e w1 ⟨rfl, q1, q2, q3⟩; have Q1 := hidOf q1; have Q2 := hidOf q2; have Q3 := hidOf q3; clear q1 q2 q3)
    go_ret
    exact ⟨rfl, Q1.out, Q2.out, Below.step B0.out Q3.out⟩
  rw [if_neg k3]
  have j3 : (k == 3) = false := by simpa using k3
  by_cases k5 : k = 5
  · subst k5
    rw [if_pos rfl]
    generalize (if startP R = true then (if runN (c :: R) ≤ 65 then (0 : Int) else 53) else 52) = E at *
    go_enter Tryz.func101, Tryz.ntmps101
    go_upto_region 1 with fail
    go_quiet ((go_at_call 140; exact Calls.quiet_of_same (CK.out _)))
    have H0 := hidOf (H.out.drewN nq)
    have B0 : Hid (Below N w (w.drewN nq)) := ⟨rfl, rfl, rfl, Nat.le_refl _, fun _ _ => rfl⟩
    clear c1 c3
    generalize w.drewN nq = w0 at *
    go_wp2_with (go_at_call 142; refine (CD.out w0 H0.out).mono ?_; rintro e w1 ⟨rfl, q1, q2, q3⟩; have Q1 := hidOf q1; have Q2 := hidOf q2; have Q3 := hidOf q3; clear q1 q2 q3)
    go_ret
    exact ⟨rfl, Q1.out, Q2.out, Below.step B0.out Q3.out⟩
  rw [if_neg k5]
  have j5 : (k == 5) = false := by simpa using k5
  by_cases k4 : k = 4
  · subst k4
    rw [if_pos rfl]
    generalize (if (valP ((c :: R).take (runN (c :: R)))).2 = true then (0 : Int) else 54) = E at *
    go_enter Tryz.func101, Tryz.ntmps101
    go_upto_region 1 with fail
    go_quiet ((go_at_call 140; exact Calls.quiet_of_same (CK.out _)))
    have H0 := hidOf (H.out.drewN nq)
    have B0 : Hid (Below N w (w.drewN nq)) := ⟨rfl, rfl, rfl, Nat.le_refl _, fun _ _ => rfl⟩
    clear c1 c3
    generalize w.drewN nq = w0 at *
    go_wp2_with (go_at_call 143; refine (CU.out rfl w0 (HE.out.below B0.out) H0.out).mono ?_; rintro e w1 ⟨rfl, q1, q2, q3⟩; have Q1 := hidOf q1; have Q2 := hidOf q2; have Q3 := hidOf q3; clear q1 q2 q3)
    go_ret
    exact ⟨rfl, Q1.out, Q2.out, Below.step B0.out Q3.out⟩
  rw [if_neg k4]
  have j4 : (k == 4) = false := by simpa using k4
  by_cases k7 : k = 7
  · subst k7
    rw [if_pos rfl]
    go_enter Tryz.func101, Tryz.ntmps101
    go_upto_region 1 with fail
    go_quiet ((go_at_call 140; exact Calls.quiet_of_same (CK.out _)))
    have H0 := hidOf (H.out.drewN nq)
    have B0 : Hid (Below N w (w.drewN nq)) := ⟨rfl, rfl, rfl, Nat.le_refl _, fun _ _ => rfl⟩
    clear c1 c3
    generalize w.drewN nq = w0 at *
    go_wp2_with (go_at_call 144; refine (CM.out w0 H0.out).mono ?_; rintro e w1 ⟨rfl, q1, q2, q3⟩; have Q1 := hidOf q1; have Q2 := hidOf q2; have Q3 := hidOf q3; clear q1 q2 q3)
    go_ret
    exact ⟨rfl, fun _ => Q1.out trivial, Q2.out, Below.step B0.out Q3.out⟩
  rw [if_neg k7]
  have j7 : (k == 7) = false := by simpa using k7
  go_enter Tryz.func101, Tryz.ntmps101
  go_upto_region 1 with fail
  go_quiet ((go_at_call 140; exact Calls.quiet_of_same (CK.out _)))
  have H0 := hidOf (H.out.drewN nq)
  have B0 : Hid (Below N w (w.drewN nq)) := ⟨rfl, rfl, rfl, Nat.le_refl _, fun _ _ => rfl⟩
  clear c1 c3
  generalize w.drewN nq = w0 at *
  go_wp2
  go_ret
  exact EEnd.bad (by decide) H0.out rfl B0.out
end Go.Proofs.YtkihaohdcgjioaaGreatDoor.Lx
namespace Go.Proofs.YtkihaohdcgjioaaGreatDoor
open Go.RowKit
set_option linter.unusedVariables false
set_option linter.unusedSimpArgs false
/-- blanks and tabs ahead are cut off -/
def blankP (l : List UInt8) : List UInt8 := Lib.trimLeftS l [32, 9]
theorem trimLeft_any (s : ByteArray) (w : World) : Calls Tryz.prog 222 #[.string s, .string ⟨#[32, 9]⟩] w fun e w' => e = .returned (.string ⟨(blankP s.toList).toArray⟩) ∧ Below w.heap.size w w' := by
  rw [ByteArray.toList_eq]
  exact Go.Proofs.Any.strings_TrimLeft_laid Tryz.lays161 (by kernel_rfl) s ⟨#[32, 9]⟩ w (by decide) (by intro j b hb; have hm := List.mem_of_getElem? hb; simp at hm; rcases hm with rfl | rfl <;> decide)
/-- how long the next token is -/
def tokN (l : List UInt8) : Nat := if runN l = 0 ∧ l ≠ [] then 1 else runN l
theorem runN_le (l : List UInt8) : runN l ≤ l.length := by
  unfold runN
  split
  · exact (List.takeWhile_prefix _).length_le
  · exact Nat.zero_le _
theorem tokN_le (l : List UInt8) : tokN l ≤ l.length := by
  unfold tokN
  split
  · rename_i h
    have : l.length ≠ 0 := fun e => h.2 (List.length_eq_zero_iff.1 e)
    omega
  · exact runN_le l
theorem mk_list (l : List UInt8) : (⟨l.toArray⟩ : ByteArray).toList = l := by rw [ByteArray.toList_eq]
theorem mk_size (l : List UInt8) : (⟨l.toArray⟩ : ByteArray).size = l.length := by rw [← lsize, mk_list]
theorem blank_le (l : List UInt8) : (blankP l).length ≤ l.length := (List.dropWhile_suffix _).length_le
end Go.Proofs.YtkihaohdcgjioaaGreatDoor
namespace Go.Proofs.YtkihaohdcgjioaaGreatDoor
open Go.RowKit
set_option linter.unusedVariables false
set_option linter.unusedSimpArgs false
theorem bldSize : (Tryz.prog.info? 77).map (·.size) = some 2 := Tryz.Builder_Extra_169.sizeBuilder
set_option maxRecDepth 100000 in
set_option maxHeartbeats 1000000 in
/-- a builder that was written into passes its own check -/
theorem chk_used (b : Nat) (w : World) (h0 : w.cell? ⟨b, 0, none⟩ = some (.pointer (some ⟨b, 0, none⟩))) : Calls Tryz.prog 89 #[.pointer (some ⟨b, 0, none⟩)] w fun e w' => e = .returned (.tuple #[]) ∧ w' = w := by
  obtain ⟨j, hj, _⟩ := Option.map_eq_some_iff.1 bldSize
  go_enter Tryz.func89, Tryz.ntmps89
  go_wp2
  rw [Lib.run_neq_ptr_same w _ Tryz.underlying75 hj]
  go_wp2
  go_end0
  exact ⟨rfl, rfl⟩
set_option maxRecDepth 100000 in
set_option maxHeartbeats 1000000 in
/-- a new one takes up its own address -/
theorem chk_new (b : Nat) (w : World) (h0 : w.cell? ⟨b, 0, none⟩ = some (.pointer none)) (hs : w.shape? b = some (77, 2)) (hf : w.frozen? ⟨b, 0, none⟩ = false) : Calls Tryz.prog 89 #[.pointer (some ⟨b, 0, none⟩)] w fun e w' => e = .returned (.tuple #[]) ∧ w' = w.setCell ⟨b, 0, none⟩ (.pointer (some ⟨b, 0, none⟩)) := by
  obtain ⟨j, hj, hj2⟩ := Option.map_eq_some_iff.1 bldSize
  go_enter Tryz.func89, Tryz.ntmps89
  go_wp2
  rw [Lib.run_to_unsafe w ⟨b, 0, none⟩ Tryz.underlying75 Tryz.underlying181 hj (by rw [hj2]; decide) hs (Nat.zero_lt_succ 1)]
  simp only [Result.andThen]
  rw [Oper.upon_value]
  go_wp2
  rw [run_callFunc_extern Tryz.func133 (by kernel_rfl) (by kernel_rfl) (by kernel_rfl) (e := Extern.AbiNoEscape.same) (by kernel_rfl), Lib.run_noEscape]
  simp only [Result.andThen]
  rw [Oper.upon_value]
  go_wp2
  rw [Lib.run_from_unsafe w ⟨b, 0, none⟩ Tryz.underlying181 Tryz.underlying75 hj hs Tryz.Builder_Extra_169.liesBuilder]
  simp only [Result.andThen]
  rw [Oper.upon_value]
  go_wp2
  go_end0
  exact ⟨rfl, rfl⟩
end Go.Proofs.YtkihaohdcgjioaaGreatDoor
namespace Go.Proofs.YtkihaohdcgjioaaGreatDoor
open Go.RowKit
set_option linter.unusedVariables false
set_option linter.unusedSimpArgs false
/-- the check, whatever the builder holds -/
theorem chk_any (B b : Nat) (bs : List Value) (w : World) (h : Lib.IsBuilder 77 5 B b bs w) : Calls Tryz.prog 89 #[.pointer (some ⟨b, 0, none⟩)] w fun e w' => e = .returned (.tuple #[]) ∧ Lib.BuilderAt 77 5 B b (.pointer (some ⟨b, 0, none⟩)) bs w' ∧ Below B w w' := by
  rcases h with h | h
  · exact (chk_new b w h.cell0 h.shape h.frozen0).mono fun e w' ⟨he, hw⟩ => ⟨he, hw ▸ h.used _, hw ▸ (Below.refl B w).setCell (p := ⟨b, 0, none⟩) h.1 _⟩
  · exact (chk_used b w h.cell0).mono fun e w' ⟨he, hw⟩ => ⟨he, hw ▸ h, hw ▸ Below.refl B _⟩
set_option maxRecDepth 100000 in
set_option maxHeartbeats 2000000 in
/-- a text is put behind what was written -/
theorem write_any (B b : Nat) (bs : List Value) (s : ByteArray) (w : World) (h : Lib.IsBuilder 77 5 B b bs w) (hlen : bs.length + s.size ≤ 140737488355328) (hBw : B ≤ w.heap.size) :
    Calls Tryz.prog 58 #[.pointer (some ⟨b, 0, none⟩), .string s] w fun e w' => (∃ v, e = .returned v) ∧ Lib.IsBuilder 77 5 B b (bs ++ Lib.strCells s) w' ∧ Below B w w' := by
  obtain ⟨i0, hi, hz0, hz1, hz2⟩ := info_parts (show (Tryz.prog.info? 5).map (fun i => (i.zero, i.size, i.bytes)) = some (some (.int .u8 0), 1, 1) from Tryz.Builder_Extra_169.infoByte)
  have CK := hidOf (chk_any B b bs w h)
  clear h
  go_enter Tryz.func58, Tryz.ntmps58
  go_wp2_with (go_at_call 89; refine CK.out.mono ?_)
  rintro e w1 ⟨rfl, ⟨hB, v, hbk, hown, hne⟩, hb1⟩
  have hsz := hb1.size
  have c0 : w1.cell? ⟨b, 0, none⟩ = some (.pointer (some ⟨b, 0, none⟩)) := by rw [Lib.cell_of_heap hbk]; rfl
  have c1 : w1.cell? ⟨b, 1, none⟩ = some v := by rw [Lib.cell_of_heap hbk]; rfl
  have hlt : b < w1.heap.size := (Array.getElem?_eq_some_iff.1 hbk).1
  go_wp2_with (at_builtin; refine Lib.wpList_append_own_string _ rfl _ _ 24 9 rfl B 5 i0 Tryz.underlying24 Tryz.underlying9 hi hz0 hz1 hz2 _ _ _ rfl hown s rfl (by unfold maxLen; omega) (by omega) (by omega) ?_)
  intro v' w2 hown' hgrow _
  have hb2 : w2.heap[b]? = some (.cells #[.pointer (some ⟨b, 0, none⟩), v] 77 (0, 0)) := (hgrow.block b hlt (fun e => hne e.symm)).trans hbk
  have d0 : w2.cell? ⟨b, 0, none⟩ = some (.pointer (some ⟨b, 0, none⟩)) := by rw [Lib.cell_of_heap hb2]; rfl
  have d1 : w2.cell? ⟨b, 1, none⟩ = some v := by rw [Lib.cell_of_heap hb2]; rfl
  have f1 : w2.frozen? ⟨b, 1, none⟩ = false := Lib.frozen_of_heap hb2 1
  have HW := hidOf ((hb1.grown hgrow (by omega) (fun k hk => (hown.lt k hk).1)).setCell (p := ⟨b, 1, none⟩) hB v')
  obtain ⟨ao, n', cap, rfl⟩ : ∃ ao n' cap, v' = .slice ao n' cap := by
    rcases hown'.2 with ⟨hv, _⟩ | ⟨g, cap, cur, hv, _⟩
    · exact ⟨_, _, _, hv⟩
    · exact ⟨_, _, _, hv⟩
  have HB : Hid (Lib.IsBuilder 77 5 B b (bs ++ Lib.strCells s) (w2.setCell ⟨b, 1, none⟩ (.slice ao n' cap))) := .inr (Lib.BuilderAt.put (T := 77) (e := 5) hB hb2 (bs' := bs ++ Lib.strCells s) (by rw [List.length_append, Lib.strCells_length]; exact hown') (by decide))
  clear hown' hgrow hb2 hbk hown hne hb1 c0 c1
  go_wp2
  go_ret2
  exact ⟨⟨_, rfl⟩, HB.out, HW.out⟩
end Go.Proofs.YtkihaohdcgjioaaGreatDoor
