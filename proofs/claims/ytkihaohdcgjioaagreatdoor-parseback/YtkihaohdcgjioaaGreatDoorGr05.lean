import Derived.Test.YtkihaohdcgjioaaGreatDoorGr03
import Derived.Test.YtkihaohdcgjioaaGreatDoorGr04
import Derived.Deep.RegionWith
import Derived.Maps.OwnSet
namespace Go.Proofs.YtkihaohdcgjioaaGreatDoor.Lx
open Go.RowKit
set_option linter.unusedVariables false
set_option linter.unusedSimpArgs false
theorem ext_drop (l : List UInt8) (n : Nat) (h : n ≤ l.length) : (⟨l.toArray⟩ : ByteArray).extract n l.length = ⟨(l.drop n).toArray⟩ := by
  rw [ByteArray.ext_iff, ByteArray.data_extract]
  simp
  exact List.take_of_length_le (by rw [List.length_drop]; exact Nat.le_refl _)
theorem ext_mid (l : List UInt8) (n m : Nat) (h : n + m ≤ l.length) : (⟨l.toArray⟩ : ByteArray).extract n (n + m) = ⟨((l.drop n).take m).toArray⟩ := by
  rw [ByteArray.ext_iff, ByteArray.data_extract]
  simp
set_option maxHeartbeats 1000000 in
theorem run_any (N p : Nat) (w : World) (rv tv : Value) (s : Sn) (R : List UInt8) (n : Nat) (h : Sc N p w rv tv s) (ha : s.at' ≤ s.line.length) (hl : s.line.length ≤ 4611686018427387904) (hR : s.line.drop s.at' = R) (hn : runN R = n) :
    Calls Tryz.prog 186 #[.pointer (some ⟨p, 0, none⟩)] w fun e w' => e = .returned (.string ⟨(R.take n).toArray⟩) ∧ Sc N p w' rv tv { s with at' := s.at' + n } ∧ Below N w w' := by
  obtain ⟨L, num, a, cnt, kp, T⟩ := s
  simp only at ha hl hR ⊢
  have hRl : R.length = L.length - a := by rw [← hR, List.length_drop]
  have hnR : n ≤ R.length := by rw [← hn]; exact runN_le R
  have c1 : w.cell? ⟨p, 1, none⟩ = some (.string ⟨L.toArray⟩) := h.cell 1
  have c3 : w.cell? ⟨p, 3, none⟩ = some (.int .i64 a) := h.cell 3
  have f3 := h.frozen 3
  have H := hidOf h
  have CR : Hid (∀ wx : World, Calls Tryz.prog 219 #[.string ⟨R.toArray⟩] wx fun e w' => e = .returned (.int .i64 (n : Nat)) ∧ w' = wx) := fun wx => by
    have h := runSize_any ⟨R.toArray⟩ wx (by rw [mk_size]; omega)
    rw [mk_list, hn] at h
    exact h.mono fun e w' h => ⟨h.1, h.2.symm⟩
  have e1 := ext_drop L a ha
  have e2 := ext_mid L a n (by omega)
  rw [hR] at e1 e2
  have haI : (a : Int) ≤ L.length := by omega
  have hanI : (a : Int) + n ≤ L.length := by omega
  have hlI : (L.length : Int) ≤ 4611686018427387904 := by omega
  have Hset : Hid (∀ k : Nat, ∀ X : World, Sc N p X rv tv ⟨L, num, a, cnt, kp, T⟩ → Sc N p (X.setCell ⟨p, 3, none⟩ (.int .i64 ((a : Int) + n))) rv tv ⟨L, num, a + n, cnt, kp, T⟩) := fun k X hX => hX.set 3 _ _ rfl (by simp [Sn.cells])
  clear h hR hn
  go_enter Tryz.func186, Tryz.ntmps186
  go_upto_region 1 with fail
  go_quiet ((go_at_call 219; exact Calls.quiet_of_same (CR.out _)))
  have H2 := hidOf (H.out.drewN nq)
  have B2 : Hid (Below N w (w.drewN nq)) := ⟨rfl, rfl, rfl, Nat.le_refl _, fun _ _ => rfl⟩
  clear c1 c3 f3
  generalize w.drewN nq = w2 at *
  have d1 : w2.cell? ⟨p, 1, none⟩ = some (.string ⟨L.toArray⟩) := H2.out.cell 1
  have d3 : w2.cell? ⟨p, 3, none⟩ = some (.int .i64 a) := H2.out.cell 3
  go_upto_region 2 with fail
  go_quiet (fail)
  have H3 := hidOf (H2.out.drewN nq)
  have B3 : Hid (Below N w (w2.drewN nq)) := Below.trans B2.out ⟨rfl, rfl, rfl, Nat.le_refl _, fun _ _ => rfl⟩
  clear d1 d3
  generalize w2.drewN nq = w3 at *
  have d3 : w3.cell? ⟨p, 3, none⟩ = some (.int .i64 a) := H3.out.cell 3
  have f3 := H3.out.frozen 3
  go_wp2
  go_ret
  exact ⟨by rw [← e2]; rfl, Hset.out 0 _ H3.out, Below.set_own B3.out H.out.le _⟩
def EEnd (N p : Nat) (rv : Value) (w : World) (E : Int) (s s' : Sn) (e : Ending) (w' : World) : Prop := e = .returned (.int .i64 E) ∧ (E = 0 → ∃ tv', Sc N p w' rv tv' s') ∧ (∃ tv' s2, s2.num = s.num ∧ Sc N p w' rv tv' s2) ∧ Below N w w'
theorem EEnd.ok {N p : Nat} {rv tv' : Value} {w w' : World} {s s' : Sn} (h : Sc N p w' rv tv' s') (hn : s'.num = s.num) (b : Below N w w') : EEnd N p rv w 0 s s' (.returned (.int .i64 0)) w' := ⟨rfl, fun _ => ⟨_, h⟩, ⟨_, _, hn, h⟩, b⟩
theorem EEnd.bad {N p : Nat} {rv tv' : Value} {w w' : World} {s s' s2 : Sn} {E : Int} (hE : ¬ E = 0) (h : Sc N p w' rv tv' s2) (hn : s2.num = s.num) (b : Below N w w') : EEnd N p rv w E s s' (.returned (.int .i64 E)) w' := ⟨rfl, fun e => absurd e hE, ⟨_, _, hn, h⟩, b⟩
theorem Below.step {N : Nat} {a b c : World} (h : Below N a b) (k : Below N b c) : Below N a c := Below.trans h k
def tokS (s : Sn) (k : Int) (t : List UInt8) (v : Int) (n : Nat) : Sn := { s.add k t v with at' := s.at' + n }
set_option maxHeartbeats 1000000 in
theorem word_any (N p : Nat) (w : World) (rv tv : Value) (s : Sn) (R : List UInt8) (n : Nat) (h : Sc N p w rv tv s) (ha : s.at' ≤ s.line.length) (hl : s.line.length ≤ 4611686018427387904) (hc : s.cnt ≤ 1000000000) (hT : s.T.length ≤ s.cnt) (hR : s.line.drop s.at' = R) (hn : runN R = n) :
    Calls Tryz.prog 141 #[.pointer (some ⟨p, 0, none⟩)] w fun e w' => EEnd N p rv w (if n ≤ 64 then 0 else 53) s (tokS s 1 (R.take n) 0 n) e w' := by
  have CR := hidOf (run_any N p w rv tv s R n h ha hl hR hn)
  have hnR : n ≤ R.length := by rw [← hn]; exact runN_le R
  have hle : (R.take n).length = n := by rw [List.length_take]; omega
  have CA : Hid (∀ wx tv', Sc N p wx rv tv' { s with at' := s.at' + n } → Calls Tryz.prog 66 #[.pointer (some ⟨p, 0, none⟩), .int .i64 1, .string ⟨(R.take n).toArray⟩, .int .u64 0] wx fun e w' => (∃ v, e = .returned v) ∧ SEnd N p rv wx (tokS s 1 (R.take n) 0 n) w') := fun wx tv' hx => add_any N p wx rv tv' _ 1 (R.take n) 0 hx hc hT
  generalize R.take n = t at *
  clear h hR hn hnR
  by_cases h64 : n ≤ 64
  · rw [if_pos h64]
    have h64' : ¬ (t.length : Int) > 64 := by omega
    have h64'' : (t.length : Int) ≤ 64 := by omega
    go_enter Tryz.func141, Tryz.ntmps141
    go_wp2_with (first | (go_at_call 186; refine CR.out.mono ?_; rintro e w1 ⟨rfl, hs1, hb1⟩; have H1 := hidOf hs1; have B1 := hidOf hb1; clear hs1 hb1) | (go_at_call 66; refine (CA.out w1 tv H1.out).mono ?_; rintro e w2 ⟨⟨v, rfl⟩, ⟨tv2, hs2⟩, hb2⟩; have H2 := hidOf hs2; have B2 := hidOf hb2; clear hs2 hb2))
    go_ret
    exact EEnd.ok H2.out rfl (Below.step B1.out B2.out)
  · rw [if_neg h64]
    have h64' : (64 : Int) < t.length := by omega
    go_enter Tryz.func141, Tryz.ntmps141
    go_wp2_with (go_at_call 186; refine CR.out.mono ?_; rintro e w1 ⟨rfl, hs1, hb1⟩; have H1 := hidOf hs1; have B1 := hidOf hb1; clear hs1 hb1)
    go_ret
    exact EEnd.bad (by decide) (H1.out) rfl (B1.out)
set_option maxHeartbeats 1000000 in
theorem dot_any (N p : Nat) (w : World) (rv tv : Value) (s : Sn) (c : UInt8) (R : List UInt8) (n : Nat) (h : Sc N p w rv tv s) (ha : s.at' < s.line.length) (hl : s.line.length ≤ 4611686018427387904) (hc : s.cnt ≤ 1000000000) (hT : s.T.length ≤ s.cnt) (hR : s.line.drop s.at' = c :: R) (hn : runN (c :: R) = n) :
    Calls Tryz.prog 142 #[.pointer (some ⟨p, 0, none⟩)] w fun e w' => EEnd N p rv w (if startP R = true then (if n ≤ 65 then 0 else 53) else 52) s (tokS s 2 ((c :: R).take n) 0 n) e w' := by
  have c1 : w.cell? ⟨p, 1, none⟩ = some (.string ⟨s.line.toArray⟩) := h.cell 1
  have c3 : w.cell? ⟨p, 3, none⟩ = some (.int .i64 s.at') := h.cell 3
  have H := hidOf h
  have CR : Hid (∀ wx, Sc N p wx rv tv s → Calls Tryz.prog 186 #[.pointer (some ⟨p, 0, none⟩)] wx fun e w' => e = .returned (.string ⟨((c :: R).take n).toArray⟩) ∧ Sc N p w' rv tv { s with at' := s.at' + n } ∧ Below N wx w') := fun wx hx => run_any N p wx rv tv s (c :: R) n hx (by omega) hl hR hn
  have e1 := ext_drop s.line (s.at' + 1) (by omega)
  rw [show s.line.drop (s.at' + 1) = R from by rw [← List.drop_drop, hR]; rfl] at e1
  have CS : Hid (∀ wx, Calls Tryz.prog 187 #[.string ⟨R.toArray⟩] wx fun e w' => e = .returned (.bool (startP R)) ∧ w' = wx) := fun wx => by
    have h := startsWord_any ⟨R.toArray⟩ wx
    rw [mk_list] at h
    exact h.mono fun e w' h => ⟨h.1, h.2.symm⟩
  have hnR : n ≤ (c :: R).length := by rw [← hn]; exact runN_le _
  have hle : ((c :: R).take n).length = n := by rw [List.length_take]; omega
  have CA : Hid (∀ wx tv', Sc N p wx rv tv' { s with at' := s.at' + n } → Calls Tryz.prog 66 #[.pointer (some ⟨p, 0, none⟩), .int .i64 2, .string ⟨((c :: R).take n).toArray⟩, .int .u64 0] wx fun e w' => (∃ v, e = .returned v) ∧ SEnd N p rv wx (tokS s 2 ((c :: R).take n) 0 n) w') := fun wx tv' hx => add_any N p wx rv tv' _ 2 ((c :: R).take n) 0 hx hc hT
  generalize (c :: R).take n = t at *
  have haI : (s.at' : Int) + 1 ≤ s.line.length := by omega
  have hlI : (s.line.length : Int) ≤ 4611686018427387904 := by omega
  clear h hR hn hnR
  cases hst : startP R
  · rw [hst] at CS
    rw [if_neg (by decide)]
    go_enter Tryz.func142, Tryz.ntmps142
    go_upto_region 1 with fail
    go_quiet ((go_at_call 187; exact Calls.quiet_of_same (CS.out _)))
    go_wp2
    go_ret
    exact EEnd.bad (by decide) (H.out.drewN nq) rfl (⟨rfl, rfl, rfl, Nat.le_refl _, fun _ _ => rfl⟩)
  · rw [hst] at CS
    rw [if_pos rfl]
    by_cases h64 : n ≤ 65
    · rw [if_pos h64]
      have h64' : ¬ (t.length : Int) > 65 := by omega
      have h64'' : (t.length : Int) ≤ 65 := by omega
      go_enter Tryz.func142, Tryz.ntmps142
      go_upto_region 1 with fail
      go_quiet ((go_at_call 187; exact Calls.quiet_of_same (CS.out _)))
      have H0 := hidOf (H.out.drewN nq)
      have B0 : Hid (Below N w (w.drewN nq)) := ⟨rfl, rfl, rfl, Nat.le_refl _, fun _ _ => rfl⟩
      clear c1 c3
      generalize w.drewN nq = w0 at *
      go_wp2_with (first | (go_at_call 186; refine (CR.out w0 H0.out).mono ?_; rintro e w1 ⟨rfl, hs1, hb1⟩; have H1 := hidOf hs1; have B1 := hidOf hb1; clear hs1 hb1) | (go_at_call 66; refine (CA.out w1 tv H1.out).mono ?_; rintro e w2 ⟨⟨v, rfl⟩, ⟨tv2, hs2⟩, hb2⟩; have H2 := hidOf hs2; have B2 := hidOf hb2; clear hs2 hb2))
      go_ret
      exact EEnd.ok H2.out rfl (Below.step B0.out (Below.step B1.out B2.out))
    · rw [if_neg h64]
      have h64' : (65 : Int) < t.length := by omega
      go_enter Tryz.func142, Tryz.ntmps142
      go_upto_region 1 with fail
      go_quiet ((go_at_call 187; exact Calls.quiet_of_same (CS.out _)))
      have H0 := hidOf (H.out.drewN nq)
      have B0 : Hid (Below N w (w.drewN nq)) := ⟨rfl, rfl, rfl, Nat.le_refl _, fun _ _ => rfl⟩
      clear c1 c3
      generalize w.drewN nq = w0 at *
      go_wp2_with (go_at_call 186; refine (CR.out w0 H0.out).mono ?_; rintro e w1 ⟨rfl, hs1, hb1⟩; have H1 := hidOf hs1; have B1 := hidOf hb1; clear hs1 hb1)
      go_ret
      exact EEnd.bad (by decide) (H1.out) rfl (Below.step B0.out B1.out)
set_option maxHeartbeats 1000000 in
theorem mark_any (N p : Nat) (w : World) (rv tv : Value) (s : Sn) (c : UInt8) (R : List UInt8) (h : Sc N p w rv tv s) (ha : s.at' < s.line.length) (hl : s.line.length ≤ 4611686018427387904) (hc : s.cnt ≤ 1000000000) (hT : s.T.length ≤ s.cnt) (hR : s.line.drop s.at' = c :: R) :
    Calls Tryz.prog 144 #[.pointer (some ⟨p, 0, none⟩)] w fun e w' => EEnd N p rv w 0 s (tokS s 4 [c] 0 1) e w' := by
  have c1 : w.cell? ⟨p, 1, none⟩ = some (.string ⟨s.line.toArray⟩) := h.cell 1
  have c3 : w.cell? ⟨p, 3, none⟩ = some (.int .i64 s.at') := h.cell 3
  have H := hidOf h
  have e1 : (⟨s.line.toArray⟩ : ByteArray).extract s.at' (s.at' + 1) = ⟨#[c]⟩ := by
    rw [ext_mid s.line s.at' 1 (by omega), hR]; rfl
  have CA : Hid (∀ wx, Sc N p wx rv tv s → Calls Tryz.prog 66 #[.pointer (some ⟨p, 0, none⟩), .int .i64 4, .string ⟨#[c]⟩, .int .u64 0] wx fun e w' => (∃ v, e = .returned v) ∧ SEnd N p rv wx (s.add 4 [c] 0) w') := fun wx hx => add_any N p wx rv tv s 4 [c] 0 hx hc hT
  have haI : (s.at' : Int) + 1 ≤ s.line.length := by omega
  have haJ : (s.at' : Int) ≤ (s.at' : Int) + 1 := by omega
  have hlI : (s.line.length : Int) ≤ 4611686018427387904 := by omega
  have hwr : IntKind.i64.wrap ((s.at' : Int) + 1) = (s.at' : Int) + 1 := by rw [IntKind.wrap_i64]; omega
  clear h hR
  go_enter Tryz.func144, Tryz.ntmps144
  go_upto_region 1 with fail
  go_region_with (go_at_call 66; refine (CA.out _ H.out.drew).mono ?_; rintro e w2 ⟨⟨v, rfl⟩, ⟨tv2, hs2⟩, hb2⟩; have H2 := hidOf hs2; have B2 := hidOf hb2; clear hs2 hb2)
  all_goals
    have d3 : w2.cell? ⟨p, 3, none⟩ = some (.int .i64 s.at') := H2.out.cell 3
    have f3 := H2.out.frozen 3
    go_wp2
    go_ret
    exact EEnd.ok (H2.out.set 3 _ (tokS s 4 [c] 0 1) rfl (by simp [Sn.cells, tokS, Sn.add])) rfl (Below.set_own (Below.step ((Below.refl _ _).drew) B2.out) H.out.le _)
def ErrAt (w : World) (g : Nat) : Prop := ∃ ev, w.cell? ⟨g, 0, none⟩ = some ev ∧ (ev = .nilIface ∨ ∃ te pe, ev = .iface te pe)
structure Env (N : Nat) (w : World) : Prop where
  er : ErrAt w 13
  es : ErrAt w 12
  lr : 13 < N
  ls : 12 < N
theorem ErrAt.below {N g : Nat} {w w' : World} (h : ErrAt w g) (hg : g < N) (b : Below N w w') : ErrAt w' g := by
  obtain ⟨ev, h1, h2⟩ := h
  exact ⟨ev, (Below.cell b hg).trans h1, h2⟩
theorem Env.below {N : Nat} {w w' : World} (h : Env N w) (b : Below N w w') : Env N w' := ⟨h.er.below h.lr b, h.es.below h.ls b, h.lr, h.ls⟩
def hexU (b : UInt8) : Bool := hexP (bI b)
def digU (b : UInt8) : Bool := digP (bI b)
def hexD (c : Int) : Int := if c ≤ 57 then c - 48 else if 97 ≤ c then c - 87 else c - 55
def hexV : Int → List UInt8 → Int
  | a, [] => a
  | a, b :: l => hexV (a * 16 + hexD (bI b)) l
def decV : Nat → List UInt8 → Nat
  | a, [] => a
  | a, b :: l => decV (a * 10 + (b.toNat - 48)) l
def valP (l : List UInt8) : Int × Bool :=
  if l.take 2 = [48, 120] then (if l.length ≤ 18 ∧ ¬ l.length = 2 ∧ (l.drop 2).all hexU = true then (hexV 0 (l.drop 2), true) else (0, false))
  else if l.head? = some 48 ∧ ¬ l = [48] then (0, false)
  else if l.all digU = true ∧ decV 0 l ≤ 18446744073709551615 then (((decV 0 l : Nat) : Int), true) else (0, false)
def ValC : Prop := ∀ (N : Nat) (t : List UInt8) (w : World), Env N w → ¬ t = [] → t.length ≤ 1048576 → Calls Tryz.prog 188 #[.string ⟨t.toArray⟩] w fun e w' => e = .returned (.tuple #[.int .u64 (valP t).1, .bool (valP t).2]) ∧ Out w w'
theorem Env.le {N M : Nat} {w : World} (h : Env N w) (hM : N ≤ M) : Env M w := ⟨h.er, h.es, Nat.lt_of_lt_of_le h.lr hM, Nat.lt_of_lt_of_le h.ls hM⟩
theorem Below.of_out {N : Nat} {w w' : World} (h : Out w w') (hN : N ≤ w.heap.size) : Below N w w' := Below.mono h hN
set_option maxHeartbeats 1000000 in
theorem numeral_any (CV : ValC) (N p : Nat) (w : World) (hE : Env N w) (rv tv : Value) (s : Sn) (R : List UInt8) (n : Nat) (h : Sc N p w rv tv s) (ha : s.at' ≤ s.line.length) (hl : s.line.length ≤ 1048576) (hc : s.cnt ≤ 1000000000) (hT : s.T.length ≤ s.cnt) (hR : s.line.drop s.at' = R) (hn : runN R = n) (hne : ¬ R.take n = []) :
    Calls Tryz.prog 143 #[.pointer (some ⟨p, 0, none⟩)] w fun e w' => EEnd N p rv w (if (valP (R.take n)).2 = true then 0 else 54) s (tokS s 3 [] (valP (R.take n)).1 n) e w' := by
  have CR := hidOf (run_any N p w rv tv s R n h ha (by omega) hR hn)
  have hRl : R.length ≤ s.line.length := by rw [← hR, List.length_drop]; omega
  have hle : (R.take n).length ≤ 1048576 := by rw [List.length_take]; omega
  have CN : Hid (∀ wx, Below N w wx → Calls Tryz.prog 188 #[.string ⟨(R.take n).toArray⟩] wx fun e w' => e = .returned (.tuple #[.int .u64 (valP (R.take n)).1, .bool (valP (R.take n)).2]) ∧ Out wx w') := fun wx b => CV N _ wx (hE.below b) hne hle
  have hb := hidOf h.base
  generalize hv : valP (R.take n) = v at *
  obtain ⟨v, ok⟩ := v
  have CA : Hid (∀ wx tv', Sc N p wx rv tv' { s with at' := s.at' + n } → Calls Tryz.prog 66 #[.pointer (some ⟨p, 0, none⟩), .int .i64 3, .string ⟨#[]⟩, .int .u64 v] wx fun e w' => (∃ v, e = .returned v) ∧ SEnd N p rv wx (tokS s 3 [] v n) w') := fun wx tv' hx => add_any N p wx rv tv' _ 3 [] v hx hc hT
  generalize R.take n = t at *
  clear h hR hn hE hv
  cases ok
  · rw [if_neg (by simp)]
    go_enter Tryz.func143, Tryz.ntmps143
    go_wp2_with (first | (go_at_call 186; refine CR.out.mono ?_; rintro e w1 ⟨rfl, hs1, hb1⟩; have H1 := hidOf hs1; have B1 := hidOf hb1; clear hs1 hb1) | (go_at_call 188; refine (CN.out w1 B1.out).mono ?_; rintro e w2 ⟨rfl, ho⟩; have H2 := hidOf (H1.out.out ho); have B2 := hidOf (Below.of_out (N := N) ho H1.out.base); clear ho))
    go_ret
    exact EEnd.bad (by decide) H2.out rfl (Below.step B1.out B2.out)
  · rw [if_pos rfl]
    go_enter Tryz.func143, Tryz.ntmps143
    go_wp2_with (first | (go_at_call 186; refine CR.out.mono ?_; rintro e w1 ⟨rfl, hs1, hb1⟩; have H1 := hidOf hs1; have B1 := hidOf hb1; clear hs1 hb1) | (go_at_call 188; refine (CN.out w1 B1.out).mono ?_; rintro e w2 ⟨rfl, ho⟩; have H2 := hidOf (H1.out.out ho); have B2 := hidOf (Below.of_out (N := N) ho H1.out.base); clear ho) | (go_at_call 66; refine (CA.out w2 tv H2.out).mono ?_; rintro e w3 ⟨⟨v, rfl⟩, ⟨tv2, hs2⟩, hb2⟩; have H3 := hidOf hs2; have B3 := hidOf hb2; clear hs2 hb2))
    go_ret
    exact EEnd.ok H3.out rfl (Below.step B1.out (Below.step B2.out B3.out))
def pieceP : List UInt8 → Int × Option (Int × List UInt8 × Int) × Nat
  | [] => (0, none, 0)
  | c :: r =>
    if kindP (bI c) = 1 then (0, none, 1)
    else if kindP (bI c) = 2 then (0, none, r.length + 1)
    else if kindP (bI c) = 3 then (if runN (c :: r) ≤ 64 then 0 else 53, some (1, (c :: r).take (runN (c :: r)), 0), runN (c :: r))
    else if kindP (bI c) = 5 then (if startP r = true then (if runN (c :: r) ≤ 65 then 0 else 53) else 52, some (2, (c :: r).take (runN (c :: r)), 0), runN (c :: r))
    else if kindP (bI c) = 4 then (if (valP ((c :: r).take (runN (c :: r)))).2 = true then 0 else 54, some (3, [], (valP ((c :: r).take (runN (c :: r)))).1), runN (c :: r))
    else if kindP (bI c) = 7 then (0, some (4, [c], 0), 1)
    else (52, none, 0)
def Sn.adv (s : Sn) (t : Option (Int × List UInt8 × Int)) (n : Nat) : Sn :=
  match t with
  | none => { s with at' := s.at' + n }
  | some (k, t, v) => tokS s k t v n
theorem run_pos {c : UInt8} {r : List UInt8} (h : kindP (bI c) = 3 ∨ kindP (bI c) = 4 ∨ kindP (bI c) = 5) : 0 < runN (c :: r) := by
  have : runU c = true := by unfold runU; rw [runP_kind]; rcases h with h | h | h <;> simp [h]
  simp [runN, List.takeWhile, this]
set_option maxHeartbeats 2000000 in
theorem next_any (CV : ValC) (N p : Nat) (w : World) (hE : Env N w) (rv tv : Value) (s : Sn) (c : UInt8) (R : List UInt8) (h : Sc N p w rv tv s) (ha : s.at' < s.line.length) (hl : s.line.length ≤ 1048576) (hc : s.cnt ≤ 1000000000) (hT : s.T.length ≤ s.cnt) (hR : s.line.drop s.at' = c :: R) :
    Calls Tryz.prog 101 #[.pointer (some ⟨p, 0, none⟩)] w fun e w' => EEnd N p rv w (pieceP (c :: R)).1 s (s.adv (pieceP (c :: R)).2.1 (pieceP (c :: R)).2.2) e w' := by
  have c1 : w.cell? ⟨p, 1, none⟩ = some (.string ⟨s.line.toArray⟩) := h.cell 1
  have c3 : w.cell? ⟨p, 3, none⟩ = some (.int .i64 s.at') := h.cell 3
  have H := hidOf h
  have HE := hidOf hE
  have hRl : s.line.length - s.at' = R.length + 1 := by have := congrArg List.length hR; rw [List.length_drop] at this; simpa using this
  have hg : s.line[s.at']? = some c := by
    have := congrArg (·[0]?) hR
    simpa using this
  have ix : ∀ hx, (⟨s.line.toArray⟩ : ByteArray)[s.at']'hx = c := fun hx => by
    have h1 := lget ⟨s.line.toArray⟩ s.at' hx
    rw [mk_list, hg] at h1
    exact (Option.some.inj h1).symm
  have haI : (s.at' : Int) < s.line.length := by omega
  have hlI : (s.line.length : Int) ≤ 1048576 := by omega
  have CW : Hid (∀ wx, Sc N p wx rv tv s → Calls Tryz.prog 141 #[.pointer (some ⟨p, 0, none⟩)] wx fun e w' => EEnd N p rv wx (if runN (c :: R) ≤ 64 then 0 else 53) s (tokS s 1 ((c :: R).take (runN (c :: R))) 0 (runN (c :: R))) e w') := fun wx hx => word_any N p wx rv tv s (c :: R) _ hx (by omega) (by omega) hc hT hR rfl
  have CD : Hid (∀ wx, Sc N p wx rv tv s → Calls Tryz.prog 142 #[.pointer (some ⟨p, 0, none⟩)] wx fun e w' => EEnd N p rv wx (if startP R = true then (if runN (c :: R) ≤ 65 then 0 else 53) else 52) s (tokS s 2 ((c :: R).take (runN (c :: R))) 0 (runN (c :: R))) e w') := fun wx hx => dot_any N p wx rv tv s c R _ hx ha (by omega) hc hT hR rfl
  have CM : Hid (∀ wx, Sc N p wx rv tv s → Calls Tryz.prog 144 #[.pointer (some ⟨p, 0, none⟩)] wx fun e w' => EEnd N p rv wx 0 s (tokS s 4 [c] 0 1) e w') := fun wx hx => mark_any N p wx rv tv s c R hx ha (by omega) hc hT hR
  have CU : Hid (kindP (bI c) = 4 → ∀ wx, Env N wx → Sc N p wx rv tv s → Calls Tryz.prog 143 #[.pointer (some ⟨p, 0, none⟩)] wx fun e w' => EEnd N p rv wx (if (valP ((c :: R).take (runN (c :: R)))).2 = true then 0 else 54) s (tokS s 3 [] (valP ((c :: R).take (runN (c :: R)))).1 (runN (c :: R))) e w') := fun hk wx he hx => numeral_any CV N p wx he rv tv s (c :: R) _ hx (by omega) hl hc hT hR rfl (fun h0 => by
    have h1 := congrArg List.length h0
    have h2 := run_pos (c := c) (r := R) (.inr (.inl hk))
    have h3 := runN_le (c :: R)
    rw [List.length_take] at h1; simp at h1 h3; omega)
  have hw1 : IntKind.i64.wrap ((s.at' : Int) + 1) = (s.at' : Int) + 1 := by rw [IntKind.wrap_i64]; omega
  have CK : Hid (∀ wx, Calls Tryz.prog 140 #[.int .u8 (c.toNat : Int)] wx fun e w' => e = .returned (.int .i64 (kindP (bI c))) ∧ w' = wx) := fun wx => (kindOf_any (bI c) wx).mono fun e w' h => ⟨h.1, h.2.symm⟩
  have HS1 : Hid (∀ X, Sc N p X rv tv s → Sc N p (X.setCell ⟨p, 3, none⟩ (.int .i64 ((s.at' : Int) + 1))) rv tv { s with at' := s.at' + 1 }) := fun X hX => hX.set 3 _ _ rfl (by simp [Sn.cells])
  have HS2 : Hid (∀ X, Sc N p X rv tv s → Sc N p (X.setCell ⟨p, 3, none⟩ (.int .i64 (s.line.length : Int))) rv tv { s with at' := s.at' + (R.length + 1) }) := fun X hX => hX.set 3 _ _ rfl (by simp [Sn.cells]; omega)
  clear h hR hg hE
  have hP : pieceP (c :: R) = (if kindP (bI c) = 1 then (0, none, 1) else if kindP (bI c) = 2 then (0, none, R.length + 1)
    else if kindP (bI c) = 3 then (if runN (c :: R) ≤ 64 then 0 else 53, some (1, (c :: R).take (runN (c :: R)), 0), runN (c :: R))
    else if kindP (bI c) = 5 then (if startP R = true then (if runN (c :: R) ≤ 65 then 0 else 53) else 52, some (2, (c :: R).take (runN (c :: R)), 0), runN (c :: R))
    else if kindP (bI c) = 4 then (if (valP ((c :: R).take (runN (c :: R)))).2 = true then 0 else 54, some (3, [], (valP ((c :: R).take (runN (c :: R)))).1), runN (c :: R))
    else if kindP (bI c) = 7 then (0, some (4, [c], 0), 1) else (52, none, 0)) := rfl
  rw [hP]
  clear hP
  generalize kindP (bI c) = k at *
  by_cases k1 : k = 1
  · subst k1
    rw [if_pos rfl]
    go_enter Tryz.func101, Tryz.ntmps101
    go_upto_region 1 with fail
    go_quiet ((go_at_call 140; exact Calls.quiet_of_same (CK.out _)))
    have H0 := hidOf (H.out.drewN nq)
    have B0 : Hid (Below N w (w.drewN nq)) := ⟨rfl, rfl, rfl, Nat.le_refl _, fun _ _ => rfl⟩
    clear c1 c3
    generalize w.drewN nq = w0 at *
    have d3 : w0.cell? ⟨p, 3, none⟩ = some (.int .i64 s.at') := H0.out.cell 3
    have f3 := H0.out.frozen 3
    go_wp2
    go_ret
    exact EEnd.ok (HS1.out _ H0.out) rfl (Below.set_own B0.out H.out.le _)
  by_cases k2 : k = 2
  · subst k2
    rw [if_neg k1, if_pos rfl]
    go_enter Tryz.func101, Tryz.ntmps101
    go_upto_region 1 with fail
    go_quiet ((go_at_call 140; exact Calls.quiet_of_same (CK.out _)))
    have H0 := hidOf (H.out.drewN nq)
    have B0 : Hid (Below N w (w.drewN nq)) := ⟨rfl, rfl, rfl, Nat.le_refl _, fun _ _ => rfl⟩
    clear c1 c3
    generalize w.drewN nq = w0 at *
    have d1 : w0.cell? ⟨p, 1, none⟩ = some (.string ⟨s.line.toArray⟩) := H0.out.cell 1
    have d3 : w0.cell? ⟨p, 3, none⟩ = some (.int .i64 s.at') := H0.out.cell 3
    have f3 := H0.out.frozen 3
    go_wp2
    go_ret
    exact EEnd.ok (HS2.out _ H0.out) rfl (Below.set_own B0.out H.out.le _)
  rw [if_neg k1, if_neg k2]
  have j1 : (k == 1) = false := by simpa using k1
  have j2 : (k == 2) = false := by simpa using k2
  by_cases k3 : k = 3
  · subst k3
    rw [if_pos rfl]
    generalize (if runN (c :: R) ≤ 64 then (0 : Int) else 53) = E at *
    go_enter Tryz.func101, Tryz.ntmps101
    go_upto_region 1 with fail
    go_quiet ((go_at_call 140; exact Calls.quiet_of_same (CK.out _)))
    have H0 := hidOf (H.out.drewN nq)
    have B0 : Hid (Below N w (w.drewN nq)) := ⟨rfl, rfl, rfl, Nat.le_refl _, fun _ _ => rfl⟩
    clear c1 c3
    generalize w.drewN nq = w0 at *
    go_wp2_with (go_at_call 141; refine (CW.out w0 H0.out).mono ?_; rintro e w1 ⟨rfl, q1, q2, q3⟩; have Q1 := hidOf q1; have Q2 := hidOf q2; have Q3 := hidOf q3; clear q1 q2 q3)
    go_ret
    exact ⟨rfl, Q1.out, Q2.out, Below.step B0.out Q3.out⟩
  rw [if_neg k3]
  have j3 : (k == 3) = false := by simpa using k3
  by_cases k5 : k = 5
  · subst k5
    rw [if_pos rfl]
    generalize (if startP R = true then (if runN (c :: R) ≤ 65 then (0 : Int) else 53) else 52) = E at *
    go_enter Tryz.func101, Tryz.ntmps101
    go_upto_region 1 with fail
    go_quiet ((go_at_call 140; exact Calls.quiet_of_same (CK.out _)))
    have H0 := hidOf (H.out.drewN nq)
    have B0 : Hid (Below N w (w.drewN nq)) := ⟨rfl, rfl, rfl, Nat.le_refl _, fun _ _ => rfl⟩
    clear c1 c3
    generalize w.drewN nq = w0 at *
    go_wp2_with (go_at_call 142; refine (CD.out w0 H0.out).mono ?_; rintro e w1 ⟨rfl, q1, q2, q3⟩; have Q1 := hidOf q1; have Q2 := hidOf q2; have Q3 := hidOf q3; clear q1 q2 q3)
    go_ret
    exact ⟨rfl, Q1.out, Q2.out, Below.step B0.out Q3.out⟩
  rw [if_neg k5]
  have j5 : (k == 5) = false := by simpa using k5
  by_cases k4 : k = 4
  · subst k4
    rw [if_pos rfl]
    generalize (if (valP ((c :: R).take (runN (c :: R)))).2 = true then (0 : Int) else 54) = E at *
    go_enter Tryz.func101, Tryz.ntmps101
    go_upto_region 1 with fail
    go_quiet ((go_at_call 140; exact Calls.quiet_of_same (CK.out _)))
    have H0 := hidOf (H.out.drewN nq)
    have B0 : Hid (Below N w (w.drewN nq)) := ⟨rfl, rfl, rfl, Nat.le_refl _, fun _ _ => rfl⟩
    clear c1 c3
    generalize w.drewN nq = w0 at *
    go_wp2_with (go_at_call 143; refine (CU.out rfl w0 (HE.out.below B0.out) H0.out).mono ?_; rintro e w1 ⟨rfl, q1, q2, q3⟩; have Q1 := hidOf q1; have Q2 := hidOf q2; have Q3 := hidOf q3; clear q1 q2 q3)
    go_ret
    exact ⟨rfl, Q1.out, Q2.out, Below.step B0.out Q3.out⟩
  rw [if_neg k4]
  have j4 : (k == 4) = false := by simpa using k4
  by_cases k7 : k = 7
  · subst k7
    rw [if_pos rfl]
    go_enter Tryz.func101, Tryz.ntmps101
    go_upto_region 1 with fail
    go_quiet ((go_at_call 140; exact Calls.quiet_of_same (CK.out _)))
    have H0 := hidOf (H.out.drewN nq)
    have B0 : Hid (Below N w (w.drewN nq)) := ⟨rfl, rfl, rfl, Nat.le_refl _, fun _ _ => rfl⟩
    clear c1 c3
    generalize w.drewN nq = w0 at *
    go_wp2_with (go_at_call 144; refine (CM.out w0 H0.out).mono ?_; rintro e w1 ⟨rfl, q1, q2, q3⟩; have Q1 := hidOf q1; have Q2 := hidOf q2; have Q3 := hidOf q3; clear q1 q2 q3)
    go_ret
    exact ⟨rfl, fun _ => Q1.out trivial, Q2.out, Below.step B0.out Q3.out⟩
  rw [if_neg k7]
  have j7 : (k == 7) = false := by simpa using k7
  go_enter Tryz.func101, Tryz.ntmps101
  go_upto_region 1 with fail
  go_quiet ((go_at_call 140; exact Calls.quiet_of_same (CK.out _)))
  have H0 := hidOf (H.out.drewN nq)
  have B0 : Hid (Below N w (w.drewN nq)) := ⟨rfl, rfl, rfl, Nat.le_refl _, fun _ _ => rfl⟩
  clear c1 c3
  generalize w.drewN nq = w0 at *
  go_wp2
  go_ret
  exact EEnd.bad (by decide) H0.out rfl B0.out
end Go.Proofs.YtkihaohdcgjioaaGreatDoor.Lx
namespace Go.Proofs.YtkihaohdcgjioaaGreatDoor
open Go.RowKit
set_option linter.unusedVariables false
set_option linter.unusedSimpArgs false
def newR (l : List UInt8) : RS := RS.next ⟨l, [], 0, 0, 0, 0, 0, [], false, false⟩
theorem newR_sm {l : List UInt8} (h : l.length ≤ 140737488355328) : Sm (newR l) := Sm.next (r := ⟨l, [], 0, 0, 0, 0, 0, [], false, false⟩) ⟨h, Nat.zero_le _⟩
theorem newReader_any (w : World) (l : List UInt8) (h : l.length ≤ 140737488355328) : Calls Tryz.prog 175 #[.string ⟨l.toArray⟩] w fun e w' => ∃ p, e = .returned (.pointer (some ⟨p, 0, none⟩)) ∧ w.heap.size ≤ p ∧ RdAt w' p (newR l).cells ∧ Out w w' := by
  have CN : Hid (∀ wx p, RdAt wx p (RS.cells ⟨l, [], 0, 0, 0, 0, 0, [], false, false⟩) → Calls Tryz.prog 178 #[.pointer (some ⟨p, 0, none⟩)] wx fun e w' => (∃ v, e = .returned v) ∧ MEnd p (newR l) wx w') := fun wx p hx => nextR wx p _ hx ⟨h, Nat.zero_le _⟩
  have H0 : Hid (RdAt (w.alloc (.cells #[.string ⟨l.toArray⟩, .string ⟨#[]⟩, .int .i64 0, .int .i64 0, .int .i64 0, .int .i64 0, .int .i64 0, .string ⟨#[]⟩, .bool false, .bool false] 220)) w.heap.size (RS.cells ⟨l, [], 0, 0, 0, 0, 0, [], false, false⟩)) := heap_alloc_new w _
  go_enter Tryz.func175, Tryz.ntmps175
  go_wp2_with (go_at_call 178; go_loud (refine (CN.out _ _ H0.out).mono ?_); rintro e w1 ⟨⟨v, rfl⟩, hend⟩; have He := hidOf hend; clear hend)
  go_ret
  exact ⟨w.heap.size, rfl, Nat.le_refl _, He.out.1, Chg.out He.out.2 ((Out.refl w).alloc _) (fun k hk => by omega)⟩
end Go.Proofs.YtkihaohdcgjioaaGreatDoor
namespace Go.Proofs.YtkihaohdcgjioaaGreatDoor
open Go.RowKit
open Go.Maps (Keyed)
set_option linter.unusedVariables false
set_option linter.unusedSimpArgs false
abbrev Mn := Int × Int × Int × Int
def mnV (m : Mn) : Value := .agg #[.int .u8 m.1, .int .u8 m.2.1, .int .u8 m.2.2.1, .int .u8 m.2.2.2]
def mnD (m : Mn) : DataW Unit := .agg [.lit (.int .u8 m.1), .lit (.int .u8 m.2.1), .lit (.int .u8 m.2.2.1), .lit (.int .u8 m.2.2.2)]
def R4 (v : Value) : Option (DataW Unit × List MemPlace) :=
  match v with
  | .agg ⟨[.int .u8 o, .int .u8 s, .int .u8 f, .int .u8 i]⟩ => some (mnD (o, s, f, i), [])
  | _ => none
def lastAt (L : List (List UInt8 × Mn)) (k : List UInt8) : Option Mn := (L.reverse.find? (fun x => x.1 == k)).map (·.2)
def reckT : List (List UInt8 × List UInt8) := [([97, 100, 100], [97, 100, 100, 51, 50]), ([115, 117, 98], [115, 117, 98, 51, 50]), ([109, 117, 108], [109, 117, 108, 51, 50]), ([100, 105, 118], [100, 105, 118, 51, 50]), ([111, 114], [111, 114, 51, 50]), ([97, 110, 100], [97, 110, 100, 51, 50]), ([108, 115, 104], [108, 115, 104, 51, 50]), ([114, 115, 104], [114, 115, 104, 51, 50]), ([110, 101, 103], [110, 101, 103, 51, 50]), ([109, 111, 100], [109, 111, 100, 51, 50]), ([120, 111, 114], [120, 111, 114, 51, 50]), ([109, 111, 118], [109, 111, 118, 51, 50]), ([97, 114, 115, 104], [97, 114, 115, 104, 51, 50])]
def jumpT : List (List UInt8 × List UInt8) := [([106, 97], [106, 97, 51, 50]), ([106, 101, 113], [106, 101, 113, 51, 50]), ([106, 103, 116], [106, 103, 116, 51, 50]), ([106, 103, 101], [106, 103, 101, 51, 50]), ([106, 115, 101, 116], [106, 115, 101, 116, 51, 50]), ([106, 110, 101], [106, 110, 101, 51, 50]), ([106, 115, 103, 116], [106, 115, 103, 116, 51, 50]), ([106, 115, 103, 101], [106, 115, 103, 101, 51, 50]), ([99, 97, 108, 108], []), ([101, 120, 105, 116], []), ([106, 108, 116], [106, 108, 116, 51, 50]), ([106, 108, 101], [106, 108, 101, 51, 50]), ([106, 115, 108, 116], [106, 115, 108, 116, 51, 50]), ([106, 115, 108, 101], [106, 115, 108, 101, 51, 50])]
def memT : List (Int × List (List UInt8)) := [(97, [[108, 100, 120, 119], [108, 100, 120, 104], [108, 100, 120, 98], [108, 100, 120, 100, 119]]), (129, [[108, 100, 120, 115, 119], [108, 100, 120, 115, 104], [108, 100, 120, 115, 98], []]), (98, [[115, 116, 119], [115, 116, 104], [115, 116, 98], [115, 116, 100, 119]]), (99, [[115, 116, 120, 119], [115, 116, 120, 104], [115, 116, 120, 98], [115, 116, 120, 100, 119]])]
def offT : List (Int × Int × List UInt8) := [(55, 1, [115, 100, 105, 118]), (151, 1, [115, 109, 111, 100]), (52, 1, [115, 100, 105, 118, 51, 50]), (148, 1, [115, 109, 111, 100, 51, 50]), (191, 8, [109, 111, 118, 115, 56]), (191, 16, [109, 111, 118, 115, 49, 54]), (191, 32, [109, 111, 118, 115, 51, 50]), (188, 8, [109, 111, 118, 115, 56, 119]), (188, 16, [109, 111, 118, 115, 49, 54, 119])]
def immT : List (Int × Int × List UInt8) := [(212, 16, [108, 101, 49, 54]), (212, 32, [108, 101, 51, 50]), (212, 64, [108, 101, 54, 52]), (220, 16, [98, 101, 49, 54]), (220, 32, [98, 101, 51, 50]), (220, 64, [98, 101, 54, 52]), (215, 16, [115, 119, 97, 112, 49, 54]), (215, 32, [115, 119, 97, 112, 51, 50]), (215, 64, [115, 119, 97, 112, 54, 52]), (219, 0, [97, 97, 100, 100]), (219, 64, [97, 111, 114]), (219, 80, [97, 97, 110, 100]), (219, 160, [97, 120, 111, 114]), (219, 1, [97, 102, 97, 100, 100]), (219, 65, [97, 102, 111, 114]), (219, 81, [97, 102, 97, 110, 100]), (219, 161, [97, 102, 120, 111, 114]), (219, 225, [97, 120, 99, 104, 103]), (219, 241, [97, 99, 109, 112, 120, 99, 104, 103]), (195, 0, [97, 97, 100, 100, 51, 50]), (195, 64, [97, 111, 114, 51, 50]), (195, 80, [97, 97, 110, 100, 51, 50]), (195, 160, [97, 120, 111, 114, 51, 50]), (195, 1, [97, 102, 97, 100, 100, 51, 50]), (195, 65, [97, 102, 111, 114, 51, 50]), (195, 81, [97, 102, 97, 110, 100, 51, 50]), (195, 161, [97, 102, 120, 111, 114, 51, 50]), (195, 225, [97, 120, 99, 104, 103, 51, 50]), (195, 241, [97, 99, 109, 112, 120, 99, 104, 103, 51, 50])]
def entA (T : List (List UInt8 × List UInt8)) (x y : Int) (k : Nat) : List (List UInt8 × Mn) :=
  match T[k]? with
  | some r => [(r.1, (k * 16 + x, 0, 0, 0)), (r.2, (k * 16 + y, 0, 0, 0))]
  | none => []
def mnR (k : Nat) : List (List UInt8 × Mn) := (List.range k).flatMap (entA reckT 7 4)
def mnJ (k : Nat) : List (List UInt8 × Mn) := mnR 13 ++ (List.range k).flatMap (entA jumpT 5 6)
def entM (k j : Nat) : List (List UInt8 × Mn) :=
  match memT[k]? with
  | some r => (match r.2[j]? with | some s => [(s, (r.1 + j * 8, 0, 0, 0))] | none => [])
  | none => []
def mnM (k j : Nat) : List (List UInt8 × Mn) := mnJ 14 ++ (List.range k).flatMap (fun k => (List.range 4).flatMap (entM k)) ++ (List.range j).flatMap (entM k)
def entO (k : Nat) : List (List UInt8 × Mn) :=
  match offT[k]? with
  | some r => [(r.2.2, (r.1, 0, r.2.1, 0))]
  | none => []
def mnO (k : Nat) : List (List UInt8 × Mn) := mnM 4 0 ++ (List.range k).flatMap entO
def entI (k : Nat) : List (List UInt8 × Mn) :=
  match immT[k]? with
  | some r => [(r.2.2, (r.1, 0, 0, r.2.1))]
  | none => []
def mnI (k : Nat) : List (List UInt8 × Mn) := mnO 9 ++ (List.range k).flatMap entI
def mnAll : List (List UInt8 × Mn) := mnI 29 ++ [([108, 100, 100, 119], (24, 0, 0, 0)), ([108, 100, 109, 97, 112], (24, 1, 0, 0))]
def meanOf (k : List UInt8) : Option Mn := if k = [] then none else lastAt mnAll k
theorem mnR_step (k : Nat) : mnR (k + 1) = mnR k ++ entA reckT 7 4 k := by simp [mnR, List.range_succ]
theorem mnJ_step (k : Nat) : mnJ (k + 1) = mnJ k ++ entA jumpT 5 6 k := by simp [mnJ, List.range_succ, List.append_assoc]
theorem mnM_step (k j : Nat) : mnM k (j + 1) = mnM k j ++ entM k j := by simp [mnM, List.range_succ (n := j), List.append_assoc]
theorem mnM_next (k : Nat) : mnM (k + 1) 0 = mnM k 4 := by simp [mnM, List.range_succ (n := k)]
theorem mnO_step (k : Nat) : mnO (k + 1) = mnO k ++ entO k := by simp [mnO, List.range_succ, List.append_assoc]
theorem mnI_step (k : Nat) : mnI (k + 1) = mnI k ++ entI k := by simp [mnI, List.range_succ, List.append_assoc]
theorem mnJ_0 : mnJ 0 = mnR 13 := by simp [mnJ]
theorem mnM_0 : mnM 0 0 = mnJ 14 := by simp [mnM]
theorem mnO_0 : mnO 0 = mnM 4 0 := by simp [mnO]
theorem mnI_0 : mnI 0 = mnO 9 := by simp [mnI]
end Go.Proofs.YtkihaohdcgjioaaGreatDoor
