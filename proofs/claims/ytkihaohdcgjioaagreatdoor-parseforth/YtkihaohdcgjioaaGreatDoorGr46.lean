import Derived.Test.YtkihaohdcgjioaaGreatDoorGr45
import Derived.Test.YtkihaohdcgjioaaGreatDoorGr41
namespace Go.Proofs.YtkihaohdcgjioaaGreatDoor
open Go.RowKit
set_option linter.unusedVariables false
set_option linter.unusedSimpArgs false
def tbLn (x : Stm) : List UInt8 × Int :=
  match x.ws, x.ns with
  | [y], [a, b, c] => if tknQ y = true ∧ (0 ≤ a ∧ a ≤ 2147483647) ∧ (0 ≤ b ∧ b ≤ 2147483647) ∧ (0 ≤ c ∧ c ≤ 2147483647) then (mapB ++ [32] ++ x.nm ++ [32] ++ y ++ [32] ++ Lib.decDigits a.toNat ++ [32] ++ Lib.decDigits b.toNat ++ [32] ++ Lib.decDigits c.toNat, 0) else ([], 60)
  | _, _ => ([], 60)
def lnA (x : Stm) : List UInt8 × Int :=
  if x.k = 6 ∧ x.nm = [] ∧ x.ws = [] ∧ x.ns = [] then printP x.o x.d x.s x.f x.i x.tg
  else if (!insZ x || !x.tg.isEmpty) = true then ([], 60) else if isNmP x.nm = false then ([], 60)
  else if x.k = 5 then tbLn x else if (decide (0 < x.ws.length) || decide (0 < x.ns.length)) = true then ([], 60) else nmLn x
structure BackL (t : List UInt8) (x : Stm) : Prop where
  ok : (Lx.lineP t).1 = 0
  lf : ∀ b ∈ t, ¬ b = 10
  rd : ∀ n : Nat, lnQ [] (lnT n t) = .ok [{ x with l := (n : Int) }] []
theorem back_it {X : List UInt8} {x : Stm} (L : List (Bool × It)) (hok : itOk L) (htx : itT L = X) (hlen : X.length ≤ 1024) (hq : ∀ n : Nat, lnQ [] ((L.map (fun y : Bool × It => y.2.tk) ++ [(5, [], 0)]).map (Lx.mkT n)) = .ok [{ x with l := (n : Int) }] []) : BackL X x := by
  have hs : Lx.lineP X = (0, L.map (fun y => y.2.tk)) := by
    unfold Lx.lineP
    rw [if_pos hlen, ← htx]
    exact it_scan L hok
  refine ⟨by rw [hs], by rw [← htx]; exact it_lf L hok, fun n => ?_⟩
  unfold lnT
  rw [hs]
  exact hq n
theorem nm_word {x : List UInt8} (h : isNmP x = true) : Lx.wordP x = true := by
  cases hw : Lx.wordP x with
  | true => rfl
  | false =>
    exfalso
    have hm : Lx.mayP ⟨1, x, 0, 0⟩ = 53 := by
      unfold Lx.mayP
      rw [if_pos rfl]
      simp only
      rw [hw]
      rfl
    have hu : (Lx.unF true ⟨[], 0, 0⟩ (nmT x)).1 = 53 := by
      unfold nmT Lx.unF
      rw [hm]
      rfl
    unfold isNmP Lx.untokP at h
    rw [hu, if_neg (by decide)] at h
    exact absurd h (by decide)
theorem ins_zero {x : Stm} (h : (!insZ x || !x.tg.isEmpty) = false) : x.o = 0 ∧ x.d = 0 ∧ x.s = 0 ∧ x.f = 0 ∧ x.i = 0 ∧ x.tg = [] := by
  rw [Bool.or_eq_false_iff] at h
  obtain ⟨h1, h2⟩ := h
  simp only [insZ, Bool.not_eq_false', Bool.and_eq_true, beq_iff_eq] at h1
  have h3 : x.tg = [] := by simpa using h2
  exact ⟨h1.1, h1.2.1, h1.2.2.1, h1.2.2.2.1, h1.2.2.2.2, h3⟩
theorem back_insn {x : Stm} {L : List (Bool × It)} (hg : GdL (lineP x.o x.d x.s x.f x.i x.tg) L) (hp : parseP (lineP x.o x.d x.s x.f x.i x.tg) = ⟨x.o, x.d, x.s, x.f, x.i, x.tg, 0⟩) (hk : x.k = 6) (hn : x.nm = []) (hw : x.ws = []) (hs : x.ns = []) : BackL (lineP x.o x.d x.s x.f x.i x.tg) x := by
  refine back_it L hg.ok hg.tx (Nat.le_trans hg.len (by decide)) (fun n => ?_)
  have hts : (L.map (fun y : Bool × It => y.2.tk) ++ [(5, [], 0)]).map (Lx.mkT n) = ((L.map (fun y => y.2)).map It.tk).map (Lx.mkT n) ++ [⟨5, [], 0, (n : Int)⟩] := by
    rw [List.map_append, List.map_map, List.map_map, List.map_map]
    rfl
  obtain ⟨W, r, hL, hr⟩ := hg.hd
  have hix : ixQ [] (((L.map (fun y => y.2)).map It.tk).map (Lx.mkT n) ++ [⟨5, [], 0, (n : Int)⟩]) = (jn [] (L.map (fun y => y.2)), [⟨5, [], 0, (n : Int)⟩]) := ix_it n ⟨5, [], 0, (n : Int)⟩ rfl _ []
  have hpj : parseP (jn [] (L.map (fun y => y.2))) = ⟨x.o, x.d, x.s, x.f, x.i, x.tg, 0⟩ := by rw [jn_parse L hg.ok hg.pl, hg.tx, hp]
  have hin : inQ (((L.map (fun y => y.2)).map It.tk).map (Lx.mkT n) ++ [⟨5, [], 0, (n : Int)⟩]) = .ok ⟨6, [], [], [], x.o, x.d, x.s, x.f, x.i, x.tg, 0⟩ [⟨5, [], 0, (n : Int)⟩] := by
    unfold inQ
    rw [hix]
    simp only
    rw [hpj]
    rfl
  rw [hts]
  have hlb : lbQ [] (((L.map (fun y => y.2)).map It.tk).map (Lx.mkT n) ++ [⟨5, [], 0, (n : Int)⟩]) = ([], ((L.map (fun y => y.2)).map It.tk).map (Lx.mkT n) ++ [⟨5, [], 0, (n : Int)⟩]) := by
    rw [hL]
    rcases hr with rfl | ⟨b, y, q, rfl, hy⟩
    · show lbQ [] (⟨1, W, 0, (n : Int)⟩ :: ⟨5, [], 0, (n : Int)⟩ :: []) = _
      have hc5 : colQ ⟨5, [], 0, (n : Int)⟩ = false := rfl
      rw [lbQ, if_neg (by intro h; rw [hc5] at h; exact absurd h.2 (by decide))]
      rfl
    · show lbQ [] (⟨1, W, 0, (n : Int)⟩ :: Lx.mkT n y.tk :: (((q.map (fun y => y.2)).map It.tk).map (Lx.mkT n) ++ [⟨5, [], 0, (n : Int)⟩])) = _
      have hc : colQ (Lx.mkT n y.tk) = false := by
        cases y with
        | wd t => rfl
        | dt t => rfl
        | nu u => rfl
        | mk c =>
          show ((4 : Int) == 4 && [c] == [58]) = false
          have : ¬ c = 58 := fun e => hy (by rw [e])
          simp [this]
      rw [lbQ, if_neg (by intro h; rw [hc] at h; exact absurd h.2 (by decide))]
      rfl
  have hkd : kindQ (((L.map (fun y => y.2)).map It.tk).map (Lx.mkT n) ++ [⟨5, [], 0, (n : Int)⟩]) = 1 := by rw [hL]; rfl
  unfold lnQ
  rw [hlb]
  simp only
  unfold stQ
  rw [hkd, if_neg (by decide), if_pos rfl, hin]
  show RE.ok ([] ++ [(⟨6, [], [], [], x.o, x.d, x.s, x.f, x.i, x.tg, (n : Int)⟩ : Stm)]) [] = _
  rw [← hk, List.nil_append]
  conv => rhs; rw [hn, hw, hs]
theorem dot_f : Lx.dotP funcB = true ∧ Lx.dotP globB = true ∧ Lx.dotP extB = true ∧ Lx.dotP mapB = true := by decide
theorem back_label {x : Stm} (hw : Lx.wordP x.nm = true) (hx : x = nmS x.k x.nm ∨ x = { nmS x.k x.nm with l := x.l }) (hk : x.k = 1) : BackL (x.nm ++ [58]) x := by
  have hl := Lx.word_len hw
  refine back_it [(false, .wd x.nm), (false, .mk 58)] ⟨hw, fun _ => .inr rfl, ⟨mk_ok (by decide), fun e => (by cases e), trivial⟩⟩ (by simp [itT, It.tx]) (by simp only [List.length_append, List.length_cons, List.length_nil]; omega) (fun n => ?_)
  have he : ({ x with l := (n : Int) } : Stm) = { nmS 1 x.nm with l := (n : Int) } := by
    rcases hx with hx | hx
    · rw [hx, hk]; rfl
    · rw [hx, hk]; rfl
  rw [he]
  show lnQ [] [⟨1, x.nm, 0, (n : Int)⟩, ⟨4, [58], 0, (n : Int)⟩, ⟨5, [], 0, (n : Int)⟩] = _
  rfl
theorem back_dir {x : Stm} {D : List UInt8} (hw : Lx.wordP x.nm = true) (hx : x = { nmS x.k x.nm with l := x.l }) (hD : (x.k = 2 ∧ D = funcB) ∨ (x.k = 3 ∧ D = globB) ∨ (x.k = 4 ∧ D = extB)) : BackL (D ++ [32] ++ x.nm) x := by
  have hl := Lx.word_len hw
  have hd : Lx.dotP D = true ∧ D.length ≤ 10 := by rcases hD with ⟨_, rfl⟩ | ⟨_, rfl⟩ | ⟨_, rfl⟩ <;> decide
  refine back_it [(false, .dt D), (true, .wd x.nm)] ⟨hd.1, fun _ => .inl rfl, ⟨hw, fun _ => trivial, trivial⟩⟩ (by simp [itT, It.tx]) (by simp only [List.length_append, List.length_cons, List.length_nil]; omega) (fun n => ?_)
  have he : ({ x with l := (n : Int) } : Stm) = { nmS x.k x.nm with l := (n : Int) } := by rw [hx]; rfl
  rw [he]
  show lnQ [] [⟨2, D, 0, (n : Int)⟩, ⟨1, x.nm, 0, (n : Int)⟩, ⟨5, [], 0, (n : Int)⟩] = _
  rcases hD with ⟨hk, rfl⟩ | ⟨hk, rfl⟩ | ⟨hk, rfl⟩
  · rw [hk]; rfl
  · rw [hk]; rfl
  · rw [hk]; rfl
theorem tkn_word {y : List UInt8} (h : tknQ y = true) : Lx.wordP y = true ∧ y.length ≤ 5 := by
  unfold tknQ at h
  simp only [Bool.or_eq_true, beq_iff_eq] at h
  rcases h with rfl | rfl <;> decide
theorem back_table {x : Stm} {y : List UInt8} {a b c : Int} (hw : Lx.wordP x.nm = true) (hx : x = { tbS x.nm y [a, b, c] with l := x.l }) (hy : tknQ y = true) (ha : 0 ≤ a ∧ a ≤ 2147483647) (hb : 0 ≤ b ∧ b ≤ 2147483647) (hc : 0 ≤ c ∧ c ≤ 2147483647) : BackL (mapB ++ [32] ++ x.nm ++ [32] ++ y ++ [32] ++ Lib.decDigits a.toNat ++ [32] ++ Lib.decDigits b.toNat ++ [32] ++ Lib.decDigits c.toNat) x := by
  have hl := Lx.word_len hw
  obtain ⟨hyw, hyl⟩ := tkn_word hy
  have la := Lx.dd_len 19 a.toNat (by omega)
  have lb := Lx.dd_len 19 b.toNat (by omega)
  have lc := Lx.dd_len 19 c.toNat (by omega)
  refine back_it [(false, .dt mapB), (true, .wd x.nm), (true, .wd y), (true, .nu a.toNat), (true, .nu b.toNat), (true, .nu c.toNat)] ⟨dot_f.2.2.2, fun _ => .inl rfl, ⟨hw, fun _ => .inl rfl, ⟨hyw, fun _ => .inl rfl, ⟨by show a.toNat ≤ 18446744073709551615; omega, fun _ => .inl rfl, ⟨by show b.toNat ≤ 18446744073709551615; omega, fun _ => .inl rfl, ⟨by show c.toNat ≤ 18446744073709551615; omega, fun _ => trivial, trivial⟩⟩⟩⟩⟩⟩ (by simp [itT, It.tx]) (by simp only [List.length_append, List.length_cons, List.length_nil, mapB]; omega) (fun n => ?_)
  have he : ({ x with l := (n : Int) } : Stm) = { tbS x.nm y [a, b, c] with l := (n : Int) } := by rw [hx]; rfl
  rw [he]
  show lnQ [] [⟨2, mapB, 0, (n : Int)⟩, ⟨1, x.nm, 0, (n : Int)⟩, ⟨1, y, 0, (n : Int)⟩, ⟨3, [], ((a.toNat : Nat) : Int), (n : Int)⟩, ⟨3, [], ((b.toNat : Nat) : Int), (n : Int)⟩, ⟨3, [], ((c.toNat : Nat) : Int), (n : Int)⟩, ⟨5, [], 0, (n : Int)⟩] = _
  rw [Int.toNat_of_nonneg ha.1, Int.toNat_of_nonneg hb.1, Int.toNat_of_nonneg hc.1]
  have hnu : ∀ (v : Int) (r : List Lx.Tk), v ≤ 2147483647 → nuQ (⟨3, [], v, (n : Int)⟩ :: r) = .ok v r := fun v r hv => by
    show (if v ≤ 2147483647 then RE.ok v r else RE.no 60 r) = _
    rw [if_pos hv]
  have hnr : ∀ r : List Lx.Tk, nuR 3 [] (⟨3, [], a, (n : Int)⟩ :: ⟨3, [], b, (n : Int)⟩ :: ⟨3, [], c, (n : Int)⟩ :: r) = .ok [a, b, c] r := fun r => by
    show (nuQ _).bind (fun a r => (nuQ r).bind (fun b r => (nuQ r).bind (fun c r => RE.ok ([] ++ [a] ++ [b] ++ [c]) r))) = _
    rw [hnu a _ ha.2]
    show (nuQ _).bind (fun b r => (nuQ r).bind (fun c r => RE.ok ([] ++ [a] ++ [b] ++ [c]) r)) = _
    rw [hnu b _ hb.2]
    show (nuQ _).bind (fun c r => RE.ok ([] ++ [a] ++ [b] ++ [c]) r) = _
    rw [hnu c _ hc.2]
    rfl
  have htd : ∀ r : List Lx.Tk, tdQ (⟨1, y, 0, (n : Int)⟩ :: r) = .ok y r := fun r => by
    show (if tknQ y then RE.ok y r else RE.no 60 r) = _
    rw [hy]
    rfl
  have htb : ∀ r : List Lx.Tk, tbQ (⟨1, x.nm, 0, (n : Int)⟩ :: ⟨1, y, 0, (n : Int)⟩ :: ⟨3, [], a, (n : Int)⟩ :: ⟨3, [], b, (n : Int)⟩ :: ⟨3, [], c, (n : Int)⟩ :: r) = .ok (tbS x.nm y [a, b, c]) r := fun r => by
    show (tdQ _).bind (fun y r => (nuR 3 [] r).bind fun l r => RE.ok (tbS x.nm y l) r) = _
    rw [htd]
    show (nuR 3 [] _).bind (fun l r => RE.ok (tbS x.nm y l) r) = _
    rw [hnr]
    rfl
  have hdr : dirQ (⟨2, mapB, 0, (n : Int)⟩ :: ⟨1, x.nm, 0, (n : Int)⟩ :: ⟨1, y, 0, (n : Int)⟩ :: ⟨3, [], a, (n : Int)⟩ :: ⟨3, [], b, (n : Int)⟩ :: ⟨3, [], c, (n : Int)⟩ :: [⟨5, [], 0, (n : Int)⟩]) = .ok (tbS x.nm y [a, b, c]) [⟨5, [], 0, (n : Int)⟩] := by
    show (restQ mapB _).bind _ = _
    rw [show restQ mapB = tbQ from rfl, htb]
    rfl
  show (stQ [] (⟨2, mapB, 0, (n : Int)⟩ :: _)).bind _ = _
  have hst : stQ [] (⟨2, mapB, 0, (n : Int)⟩ :: ⟨1, x.nm, 0, (n : Int)⟩ :: ⟨1, y, 0, (n : Int)⟩ :: ⟨3, [], a, (n : Int)⟩ :: ⟨3, [], b, (n : Int)⟩ :: ⟨3, [], c, (n : Int)⟩ :: [⟨5, [], 0, (n : Int)⟩]) = .ok [{ tbS x.nm y [a, b, c] with l := (n : Int) }] [⟨5, [], 0, (n : Int)⟩] := by
    unfold stQ
    rw [show kindQ (⟨2, mapB, 0, (n : Int)⟩ :: ⟨1, x.nm, 0, (n : Int)⟩ :: ⟨1, y, 0, (n : Int)⟩ :: ⟨3, [], a, (n : Int)⟩ :: ⟨3, [], b, (n : Int)⟩ :: ⟨3, [], c, (n : Int)⟩ :: [⟨5, [], 0, (n : Int)⟩]) = 2 from rfl, if_neg (by decide), if_neg (by decide), hdr]
    rfl
  rw [hst]
  rfl
theorem back_ln {x : Stm} (hi : -9223372036854775808 ≤ x.i ∧ x.i < 9223372036854775808) (h : (lnA x).2 = 0) : BackL (lnA x).1 x := by
  unfold lnA at h ⊢
  by_cases h6 : x.k = 6 ∧ x.nm = [] ∧ x.ws = [] ∧ x.ns = []
  · rw [if_pos h6] at h ⊢
    unfold printP at h ⊢
    by_cases hm : mayP x.o x.d x.s x.f x.i = 0
    · rw [if_pos hm] at h ⊢
      by_cases ht : tfitP x.o x.s x.f x.i x.tg = true
      · rw [if_pos ht]
        obtain ⟨L, hL⟩ := good_line x.o x.d x.s x.f x.i x.tg hm ht hi
        exact back_insn hL (parse_line x.o x.d x.s x.f x.i x.tg hm ht hi) h6.1 h6.2.1 h6.2.2.1 h6.2.2.2
      · rw [if_neg ht] at h
        simp at h
    · rw [if_neg hm] at h
      exact absurd h hm
  rw [if_neg h6] at h ⊢
  cases hz : (!insZ x || !x.tg.isEmpty) with
  | true => rw [hz, if_pos rfl] at h; simp at h
  | false =>
    rw [hz, if_neg (by decide)] at h
    rw [if_neg (by decide)]
    obtain ⟨z1, z2, z3, z4, z5, z6⟩ := ins_zero hz
    cases hn : isNmP x.nm with
    | false => rw [hn, if_pos rfl] at h; simp at h
    | true =>
      rw [hn, if_neg (by decide)] at h
      rw [if_neg (by decide)]
      have hw := nm_word hn
      by_cases h5 : x.k = 5
      · rw [if_pos h5] at h ⊢
        obtain ⟨k, nm, ws, ns, o, d, s, f, i, tg, l⟩ := x
        simp only at z1 z2 z3 z4 z5 z6 h5 hw
        subst z1 z2 z3 z4 z5 z6 h5
        unfold tbLn at h ⊢
        simp only at h ⊢
        split at h
        · rename_i y a b c
          split at h
          · rename_i hc
            rw [if_pos hc]
            exact back_table (x := ⟨5, nm, [y], [a, b, c], 0, 0, 0, 0, 0, [], l⟩) hw rfl hc.1 hc.2.1 hc.2.2.1 hc.2.2.2
          · simp at h
        · simp at h
      · rw [if_neg h5] at h ⊢
        cases hl : (decide (0 < x.ws.length) || decide (0 < x.ns.length)) with
        | true => rw [hl, if_pos rfl] at h; simp at h
        | false =>
          rw [hl, if_neg (by decide)] at h
          rw [if_neg (by decide)]
          have hl2 : x.ws = [] ∧ x.ns = [] := by
            rw [Bool.or_eq_false_iff] at hl
            simp only [decide_eq_false_iff_not, Nat.not_lt, Nat.le_zero, List.length_eq_zero_iff] at hl
            exact hl
          obtain ⟨k, nm, ws, ns, o, d, s, f, i, tg, l⟩ := x
          simp only at z1 z2 z3 z4 z5 z6 h5 hw hl2
          obtain ⟨rfl, rfl⟩ := hl2
          subst z1 z2 z3 z4 z5 z6
          unfold nmLn at h ⊢
          simp only at h ⊢
          by_cases k1 : k = 1
          · subst k1
            exact back_label (x := ⟨1, nm, [], [], 0, 0, 0, 0, 0, [], l⟩) hw (.inr rfl) rfl
          rw [if_neg k1] at h ⊢
          by_cases k2 : k = 2
          · subst k2
            exact back_dir (x := ⟨2, nm, [], [], 0, 0, 0, 0, 0, [], l⟩) hw rfl (.inl ⟨rfl, rfl⟩)
          rw [if_neg k2] at h ⊢
          by_cases k3 : k = 3
          · subst k3
            exact back_dir (x := ⟨3, nm, [], [], 0, 0, 0, 0, 0, [], l⟩) hw rfl (.inr (.inl ⟨rfl, rfl⟩))
          rw [if_neg k3] at h ⊢
          by_cases k4 : k = 4
          · subst k4
            exact back_dir (x := ⟨4, nm, [], [], 0, 0, 0, 0, 0, [], l⟩) hw rfl (.inr (.inr ⟨rfl, rfl⟩))
          rw [if_neg k4] at h
          simp at h
def numL : Nat → List Stm → List Stm
  | _, [] => []
  | n, x :: r => { x with l := ((n + 1 : Nat) : Int) } :: numL (n + 1) r
def catL : List (List UInt8) → List UInt8
  | [] => []
  | t :: r => t ++ 10 :: catL r
theorem st_cat : ∀ (n : Nat) (xs : List Stm), (∀ x ∈ xs, -9223372036854775808 ≤ x.i ∧ x.i < 9223372036854775808) → (∀ x ∈ xs, (lnA x).2 = 0) → stD n (catL (xs.map (fun x => (lnA x).1))) = (numL n xs, 0, 0)
  | n, [], _, _ => rfl
  | n, x :: r, hi, h => by
    have hb := back_ln (hi x (by simp)) (h x (by simp))
    have ih := st_cat (n + 1) r (fun y hy => hi y (List.mem_cons_of_mem _ hy)) (fun y hy => h y (List.mem_cons_of_mem _ hy))
    show stD n ((lnA x).1 ++ 10 :: catL (r.map (fun x => (lnA x).1))) = _
    rw [stD_step n _ (by simp), cut_app hb.lf]
    simp only
    rw [ih, stB_ok hb.ok (hb.rd (n + 1)), if_pos rfl]
    rfl
theorem pr_cat : ∀ (xs : List Stm) (l : List UInt8) (a : Nat), (prF l a (xs.map lnA)).2 = 0 → l.length = a → (∀ x ∈ xs, (lnA x).2 = 0) ∧ (prF l a (xs.map lnA)).1 = l ++ catL (xs.map (fun x => (lnA x).1)) ∧ (prF l a (xs.map lnA)).1.length ≤ 16777216
  | [], l, a, h, hl => by
    unfold prF at h ⊢
    simp only [List.map_nil] at h ⊢
    by_cases ha : 16777216 < a
    · rw [if_pos ha] at h; simp at h
    · rw [if_neg ha]
      exact ⟨fun x hx => (by cases hx), (by simp [catL]), (by simp only; omega)⟩
  | x :: r, l, a, h, hl => by
    have hlow : ∀ (r : List (List UInt8 × Int)) (l : List UInt8) (a : Nat), 16777216 < a → (prF l a r).2 = 0 → False := by
      intro r
      induction r with
      | nil => intro l a ha h; unfold prF at h; rw [if_pos ha] at h; simp at h
      | cons y q ih =>
        intro l a ha h
        obtain ⟨t, e⟩ := y
        unfold prF at h
        by_cases he : e = 0
        · rw [if_pos he] at h; exact ih _ _ (by omega) h
        · rw [if_neg he] at h; exact he h
    rw [List.map_cons] at h ⊢
    obtain ⟨t, e, ht⟩ : ∃ t e, lnA x = (t, e) := ⟨_, _, rfl⟩
    rw [ht] at h ⊢
    unfold prF at h ⊢
    by_cases he : e = 0
    · rw [if_pos he] at h ⊢
      by_cases ha : a + (t.length + 1) ≤ 16777216
      · have hwl : wlP l a t = l ++ t ++ [10] := by unfold wlP; rw [if_pos ha]
        rw [hwl] at h ⊢
        obtain ⟨h1, h2, h3⟩ := pr_cat r (l ++ t ++ [10]) (a + (t.length + 1)) h (by simp only [List.length_append, List.length_cons, List.length_nil]; omega)
        refine ⟨fun y hy => ?_, ?_, h3⟩
        · rcases List.mem_cons.1 hy with rfl | hy
          · rw [ht]; exact he
          · exact h1 y hy
        · rw [h2]
          show _ = l ++ ((lnA x).1 ++ 10 :: catL (r.map (fun x => (lnA x).1)))
          rw [ht]
          simp only [List.append_assoc, List.singleton_append]
      · exact (hlow _ _ _ (by omega) h).elim
    · rw [if_neg he] at h
      exact absurd h he
theorem back_P (xs : List Stm) (hi : ∀ x ∈ xs, -9223372036854775808 ≤ x.i ∧ x.i < 9223372036854775808) : (¬ (prF [] 0 (xs.map lnA)).2 = 0 → (prF [] 0 (xs.map lnA)).1 = []) ∧ ((prF [] 0 (xs.map lnA)).2 = 0 → statsP (prF [] 0 (xs.map lnA)).1 = (numL 0 xs, 0, 0) ∧ (prF [] 0 (xs.map lnA)).1.length ≤ 16777216) := by
  constructor
  · intro h
    have key : ∀ (r : List (List UInt8 × Int)) (l : List UInt8) (a : Nat), ¬ (prF l a r).2 = 0 → (prF l a r).1 = [] := by
      intro r
      induction r with
      | nil =>
        intro l a h
        unfold prF at h ⊢
        by_cases ha : 16777216 < a
        · rw [if_pos ha]
        · rw [if_neg ha] at h; exact absurd rfl h
      | cons y q ih =>
        intro l a h
        obtain ⟨t, e⟩ := y
        unfold prF at h ⊢
        by_cases he : e = 0
        · rw [if_pos he] at h ⊢; exact ih _ _ h
        · rw [if_neg he]
    exact key _ _ _ h
  · intro h
    obtain ⟨h1, h2, h3⟩ := pr_cat xs [] 0 h rfl
    refine ⟨?_, h3⟩
    rw [stats_D _ h3, h2, List.nil_append, st_cat 0 xs hi h1]
end Go.Proofs.YtkihaohdcgjioaaGreatDoor
