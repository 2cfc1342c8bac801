import Derived.Test.YtkihaohdcgjioaaGreatDoorGq00
import Derived.Test.YtkihaohdcgjioaaGreatDoorGp44
namespace Go.Proofs.YtkihaohdcgjioaaGreatDoor
open Go.RowKit
set_option linter.unusedVariables false
set_option linter.unusedSimpArgs false
/-- what is wrong has a number -/
def RE.nz {α : Type} : RE α → Prop
  | .ok _ _ => True
  | .no c _ => ¬ c = 0
theorem nz_bind {α β : Type} {x : RE α} {f : α → List Lx.Tk → RE β} (h : x.nz) (hf : ∀ a r, (f a r).nz) : (x.bind f).nz := by
  cases x with
  | ok a r => exact hf a r
  | no c r => exact h
theorem tkQ_nz (k : Int) (ts : List Lx.Tk) : (tkQ k ts).nz := by
  cases ts with
  | nil => show ¬ (60 : Int) = 0; decide
  | cons t r =>
    show (if t.k = k then RE.ok t r else RE.no 60 (t :: r)).nz
    by_cases e : t.k = k
    · rw [if_pos e]; trivial
    · rw [if_neg e]; show ¬ (60 : Int) = 0; decide
theorem wdQ_nz (ts : List Lx.Tk) : (wdQ ts).nz := nz_bind (tkQ_nz 1 ts) (fun _ _ => trivial)
theorem tdQ_nz (ts : List Lx.Tk) : (tdQ ts).nz := nz_bind (wdQ_nz ts) (fun x r => by
  cases hx : tknQ x
  · show ¬ (60 : Int) = 0; decide
  · trivial)
theorem nuQ_nz (ts : List Lx.Tk) : (nuQ ts).nz := nz_bind (tkQ_nz 3 ts) (fun t r => by
  by_cases hx : t.n ≤ 2147483647
  · rw [if_pos hx]; trivial
  · rw [if_neg hx]; show ¬ (60 : Int) = 0; decide)
theorem nmQ_nz (k : Int) (ts : List Lx.Tk) : (nmQ k ts).nz := nz_bind (wdQ_nz ts) (fun _ _ => trivial)
theorem nuR_nz : ∀ (n : Nat) (l : List Int) (ts : List Lx.Tk), (nuR n l ts).nz
  | 0, l, ts => trivial
  | n + 1, l, ts => nz_bind (nuQ_nz ts) (fun a r => nuR_nz n _ r)
theorem tbQ_nz (ts : List Lx.Tk) : (tbQ ts).nz := nz_bind (wdQ_nz ts) (fun _ r => nz_bind (tdQ_nz r) (fun _ r => nz_bind (nuR_nz 3 [] r) (fun _ _ => trivial)))
theorem restQ_nz (x : List UInt8) (ts : List Lx.Tk) : (restQ x ts).nz := by
  unfold restQ
  by_cases h1 : x = funcB
  · rw [if_pos h1]; exact nmQ_nz _ _
  rw [if_neg h1]
  by_cases h2 : x = globB
  · rw [if_pos h2]; exact nmQ_nz _ _
  rw [if_neg h2]
  by_cases h3 : x = extB
  · rw [if_pos h3]; exact nmQ_nz _ _
  rw [if_neg h3]
  by_cases h4 : x = mapB
  · rw [if_pos h4]; exact tbQ_nz _
  rw [if_neg h4]
  show ¬ (60 : Int) = 0
  decide
theorem dirQ_nz (ts : List Lx.Tk) : (dirQ ts).nz := nz_bind (tkQ_nz 2 ts) (fun t r => nz_bind (restQ_nz t.t r) (fun s r => by
  by_cases e : kindQ r = 5
  · rw [if_pos e]; trivial
  · rw [if_neg e]; show ¬ (61 : Int) = 0; decide))
theorem inQ_nz (ts : List Lx.Tk) : (inQ ts).nz := by
  unfold inQ
  by_cases e : (parseP (ixQ [] ts).1).e = 0
  · rw [if_pos e]; trivial
  · rw [if_neg e]
    show ¬ (if (parseP (ixQ [] ts).1).e = 40 then (60 : Int) else (parseP (ixQ [] ts).1).e) = 0
    by_cases e2 : (parseP (ixQ [] ts).1).e = 40
    · rw [if_pos e2]; decide
    · rw [if_neg e2]; exact e
theorem stQ_nz (L : List Stm) (ts : List Lx.Tk) : (stQ L ts).nz := by
  unfold stQ
  by_cases e : kindQ ts = 5
  · rw [if_pos e]; trivial
  rw [if_neg e]
  refine nz_bind ?_ (fun _ _ => trivial)
  by_cases e1 : kindQ ts = 1
  · rw [if_pos e1]; exact inQ_nz _
  · rw [if_neg e1]; exact dirQ_nz _
theorem lnQ_nz (L : List Stm) (ts : List Lx.Tk) : (lnQ L ts).nz := nz_bind (stQ_nz _ _) (fun _ r => nz_bind (tkQ_nz 5 r) (fun _ _ => trivial))
/-- the tokens of a line -/
def lnT (n : Nat) (x : List UInt8) : List Lx.Tk := ((Lx.lineP x).2 ++ [(5, [], 0)]).map (Lx.mkT n)
theorem en_app (n : Nat) : ∀ (X : List (Int × List UInt8 × Int)), (∀ q ∈ X, ¬ q.1 = 5) → En ((X ++ [(5, [], 0)]).map (Lx.mkT n))
  | [], _ => by
    show if (5 : Int) = 5 then ([] : List Lx.Tk) = [] else _
    rw [if_pos rfl]
  | q :: r, h => by
    show if q.1 = 5 then (r ++ [(5, [], 0)]).map (Lx.mkT n) = [] else En ((r ++ [(5, [], 0)]).map (Lx.mkT n))
    rw [if_neg (h q (by simp))]
    exact en_app n r (fun q' hq => h q' (List.mem_cons_of_mem _ hq))
theorem lnT_en (n : Nat) (x : List UInt8) : En (lnT n x) := en_app n _ (fun q hq => by have := Lx.line_kind _ q hq; omega)
theorem lnT_kind (n : Nat) (x : List UInt8) (R : List Lx.Tk) : ¬ kindQ (lnT n x ++ R) = 0 := by
  unfold lnT
  cases hX : (Lx.lineP x).2 with
  | nil => show ¬ (5 : Int) = 0; decide
  | cons q r =>
    have := Lx.line_kind x q (by rw [hX]; simp)
    show ¬ q.1 = 0
    omega
theorem lnT_sh (n N : Nat) (x : List UInt8) : lnT (n + N) x = (lnT n x).map (shT N) := by
  unfold lnT
  rw [List.map_map]
  refine List.map_congr_left (fun q _ => ?_)
  show (⟨q.1, q.2.1, q.2.2, ((n + N : Nat) : Int)⟩ : Lx.Tk) = ⟨q.1, q.2.1, q.2.2, (n : Int) + (N : Int)⟩
  rw [Int.natCast_add]
theorem lnT_pos (n : Nat) (x : List UInt8) : 1 ≤ (lnT n x).length := by simp [lnT]
def LnAll (n : Int) (ts : List Lx.Tk) : Prop := ∀ x ∈ ts, x.l = n
theorem lnAll_clo (n : Int) : Clo (LnAll n) := fun t r h x hx => h x (List.mem_cons_of_mem _ hx)
theorem lnT_all (n : Nat) (x : List UInt8) : LnAll n (lnT n x) := fun y hy => by
  unfold lnT at hy
  obtain ⟨q, _, rfl⟩ := List.mem_map.1 hy
  rfl
theorem ln_no {n : Nat} {x : List UInt8} {c : Int} {r : List Lx.Tk} (h : lnQ [] (lnT n x) = .no c r) : ¬ c = 0 ∧ (En r → lineQ r = n) := by
  have h1 := lnQ_nz [] (lnT n x)
  have h2 : LnAll n (lnQ [] (lnT n x)).rest := lnQ_cl (lnAll_clo n) (lnT_all n x)
  rw [h] at h1 h2
  refine ⟨h1, fun he => ?_⟩
  obtain ⟨t, r', rfl⟩ := he.ne
  exact h2 t List.mem_cons_self
/-- a line, and what is behind it -/
def stB (n : Nat) (x : List UInt8) (Z : List Stm × Int × Int) : List Stm × Int × Int :=
  if (Lx.lineP x).1 = 0 then
    match lnQ [] (lnT (n + 1) x) with
    | .no c _ => ([], ((n + 1 : Nat) : Int), c)
    | .ok o _ => if Z.2.2 = 0 then (o ++ Z.1, 0, 0) else ([], Z.2.1, Z.2.2)
  else ([], ((n + 1 : Nat) : Int), (Lx.lineP x).1)
theorem stB_bad {n : Nat} {x : List UInt8} (h : ¬ (Lx.lineP x).1 = 0) (Z : List Stm × Int × Int) : stB n x Z = ([], ((n + 1 : Nat) : Int), (Lx.lineP x).1) := by unfold stB; rw [if_neg h]
theorem stB_no {n : Nat} {x : List UInt8} {c : Int} {r : List Lx.Tk} (h : (Lx.lineP x).1 = 0) (hq : lnQ [] (lnT (n + 1) x) = .no c r) (Z : List Stm × Int × Int) : stB n x Z = ([], ((n + 1 : Nat) : Int), c) := by unfold stB; rw [if_pos h, hq]
theorem stB_ok {n : Nat} {x : List UInt8} {o : List Stm} {r : List Lx.Tk} (h : (Lx.lineP x).1 = 0) (hq : lnQ [] (lnT (n + 1) x) = .ok o r) (Z : List Stm × Int × Int) : stB n x Z = if Z.2.2 = 0 then (o ++ Z.1, 0, 0) else ([], Z.2.1, Z.2.2) := by unfold stB; rw [if_pos h, hq]
def stF : Nat → Nat → List UInt8 → List Stm × Int × Int
  | 0, _, _ => ([], 0, 0)
  | _ + 1, _, [] => ([], 0, 0)
  | f + 1, n, c :: r => stB n (Lx.cutL (c :: r)).1 (stF f (n + 1) (Lx.cutL (c :: r)).2)
theorem stF_eq : ∀ (f g n : Nat) (l : List UInt8), l.length ≤ f → l.length ≤ g → stF f n l = stF g n l
  | 0, 0, _, _, _, _ => rfl
  | 0, g + 1, n, [], _, _ => rfl
  | 0, g + 1, n, c :: r, h, _ => by simp at h
  | f + 1, 0, n, [], _, _ => rfl
  | f + 1, 0, n, c :: r, _, h => by simp at h
  | f + 1, g + 1, n, [], _, _ => rfl
  | f + 1, g + 1, n, c :: r, hf, hg => by
    have hc := (Lx.cutL_len (c :: r) (by simp)).2
    simp only [List.length_cons] at hf hg hc
    unfold stF
    rw [stF_eq f g (n + 1) _ (by omega) (by omega)]
/-- the statements, line by line -/
def stD (n : Nat) (l : List UInt8) : List Stm × Int × Int := stF l.length n l
theorem stD_nil (n : Nat) : stD n [] = ([], 0, 0) := rfl
theorem stD_step (n : Nat) (l : List UInt8) (hl : ¬ l = []) : stD n l = stB n (Lx.cutL l).1 (stD (n + 1) (Lx.cutL l).2) := by
  cases l with
  | nil => exact absurd rfl hl
  | cons c r =>
    have hc := (Lx.cutL_len (c :: r) (by simp)).2
    simp only [List.length_cons] at hc
    show stF (r.length + 1) n (c :: r) = _
    unfold stF
    rw [stF_eq r.length _ (n + 1) (Lx.cutL (c :: r)).2 (by omega) (Nat.le_refl _)]
    rfl
theorem stD_er (n : Nat) (l : List UInt8) (h : ¬ (stD n l).2.2 = 0) : (stD n l).1 = [] := by
  by_cases hl : l = []
  · rw [hl] at h; exact absurd rfl h
  rw [stD_step n l hl] at h ⊢
  by_cases hz : (Lx.lineP (Lx.cutL l).1).1 = 0
  · cases hq : lnQ [] (lnT (n + 1) (Lx.cutL l).1) with
    | no c r => rw [stB_no hz hq]
    | ok o r =>
      rw [stB_ok hz hq] at h ⊢
      by_cases hZ : (stD (n + 1) (Lx.cutL l).2).2.2 = 0
      · rw [if_pos hZ] at h; exact absurd rfl h
      · rw [if_neg hZ]
  · rw [stB_bad hz]
theorem stD_ok0 (n : Nat) (l : List UInt8) (h : (stD n l).2.2 = 0) : (stD n l).2.1 = 0 := by
  by_cases hl : l = []
  · rw [hl]; rfl
  rw [stD_step n l hl] at h ⊢
  by_cases hz : (Lx.lineP (Lx.cutL l).1).1 = 0
  · cases hq : lnQ [] (lnT (n + 1) (Lx.cutL l).1) with
    | no c r => rw [stB_no hz hq] at h; exact absurd h (ln_no hq).1
    | ok o r =>
      rw [stB_ok hz hq] at h ⊢
      by_cases hZ : (stD (n + 1) (Lx.cutL l).2).2.2 = 0
      · rw [if_pos hZ]
      · rw [if_neg hZ] at h; exact absurd h hZ
  · rw [stB_bad hz] at h; exact absurd h hz
/-- the reader over a text's tokens goes line by line -/
theorem rd_st : ∀ (f n : Nat) (l : List UInt8) (m : Nat) (T : List Lx.Tk), l.length ≤ f → Lx.textF f n l = (0, m, T) → ∀ (out : List Stm) (e : Lx.Tk) (k : Nat), e.k = 0 → T.length + 1 ≤ k →
    ((stF f n l).2.2 = 0 → rdF k out (T ++ [e]) = .ok (out ++ (stF f n l).1) [e]) ∧ (¬ (stF f n l).2.2 = 0 → ∃ r, rdF k out (T ++ [e]) = .no (stF f n l).2.2 r ∧ lineQ r = (stF f n l).2.1)
  | 0, n, l, m, T, hl, h, out, e, k, he, hk => by
    simp [Lx.textF] at h
    obtain ⟨rfl, rfl⟩ := h
    refine ⟨fun _ => ?_, fun h => absurd rfl h⟩
    rw [List.nil_append, rd_stop (show kindQ [e] = 0 from he)]
    show RE.ok out [e] = RE.ok (out ++ []) [e]
    rw [List.append_nil]
  | f + 1, n, [], m, T, hl, h, out, e, k, he, hk => by
    simp [Lx.textF] at h
    obtain ⟨rfl, rfl⟩ := h
    refine ⟨fun _ => ?_, fun h => absurd rfl h⟩
    rw [List.nil_append, rd_stop (show kindQ [e] = 0 from he)]
    show RE.ok out [e] = RE.ok (out ++ []) [e]
    rw [List.append_nil]
  | f + 1, n, c :: r, m, T, hl, h, out, e, k, he, hk => by
    unfold Lx.textF at h
    by_cases hz : (Lx.lineP (Lx.cutL (c :: r)).1).1 = 0
    · rw [if_pos hz] at h
      simp only [Prod.mk.injEq] at h
      obtain ⟨h1, h2, h3⟩ := h
      have hc := (Lx.cutL_len (c :: r) (by simp)).2
      simp only [List.length_cons] at hl hc
      have ih := rd_st f (n + 1) (Lx.cutL (c :: r)).2 m (Lx.textF f (n + 1) (Lx.cutL (c :: r)).2).2.2 (by omega) (by rw [← h1, ← h2])
      show ((stB n (Lx.cutL (c :: r)).1 (stF f (n + 1) (Lx.cutL (c :: r)).2)).2.2 = 0 → _ = RE.ok (out ++ (stB n (Lx.cutL (c :: r)).1 (stF f (n + 1) (Lx.cutL (c :: r)).2)).1) [e]) ∧ (¬ (stB n (Lx.cutL (c :: r)).1 (stF f (n + 1) (Lx.cutL (c :: r)).2)).2.2 = 0 → ∃ r', _ = RE.no (stB n (Lx.cutL (c :: r)).1 (stF f (n + 1) (Lx.cutL (c :: r)).2)).2.2 r' ∧ lineQ r' = (stB n (Lx.cutL (c :: r)).1 (stF f (n + 1) (Lx.cutL (c :: r)).2)).2.1)
      generalize stF f (n + 1) (Lx.cutL (c :: r)).2 = Z at ih ⊢
      generalize (Lx.textF f (n + 1) (Lx.cutL (c :: r)).2).2.2 = T' at ih h3
      generalize (Lx.cutL (c :: r)).1 = x at hz h3 ⊢
      have h3 : T = lnT (n + 1) x ++ T' := h3.symm
      subst h3
      have hp := lnT_pos (n + 1) x
      rw [List.length_append] at hk
      cases k with
      | zero => omega
      | succ k =>
        rw [List.append_assoc, rd_step (lnT_kind _ _ _)]
        rcases ln_out (R := T' ++ [e]) (out := out) (lnT_en (n + 1) x) with ⟨o, hq, hw⟩ | ⟨c', r', hq, hr, hw⟩
        · rw [stB_ok hz hq, hw]
          obtain ⟨i1, i2⟩ := ih (out ++ o) e k he (by omega)
          show (_ → rdF k (out ++ o) (T' ++ [e]) = _) ∧ (_ → ∃ r', rdF k (out ++ o) (T' ++ [e]) = _ ∧ _)
          by_cases hZ : Z.2.2 = 0
          · rw [if_pos hZ]
            refine ⟨fun _ => ?_, fun h => absurd rfl h⟩
            rw [i1 hZ, List.append_assoc]
          · rw [if_neg hZ]
            exact ⟨fun h => absurd h hZ, fun _ => i2 hZ⟩
        · rw [stB_no hz hq, hw]
          obtain ⟨n1, n2⟩ := ln_no hq
          refine ⟨fun h => absurd h n1, fun _ => ⟨r' ++ (T' ++ [e]), rfl, ?_⟩⟩
          obtain ⟨t, r2, rfl⟩ := hr.ne
          exact n2 hr
    · rw [if_neg hz] at h
      simp only [Prod.mk.injEq] at h
      exact absurd h.1 hz
theorem stats_okD (l : List UInt8) (h : (Lx.tokensP l).2.2 = 0) : readQ (Lx.tokensP l).1 = stD 0 l := by
  unfold Lx.tokensP at h ⊢
  by_cases hl : l.length ≤ 16777216
  · rw [if_pos hl] at h ⊢
    by_cases he : (Lx.textD 0 l).1 = 0
    · rw [if_pos he]
      simp only
      have key := rd_st l.length 0 l (Lx.textD 0 l).2.1 (Lx.textD 0 l).2.2 (Nat.le_refl _) (by show Lx.textD 0 l = _; rw [← he]) [] ⟨0, [], 0, (Lx.textD 0 l).2.1⟩ ((Lx.textD 0 l).2.2 ++ [(⟨0, [], 0, (Lx.textD 0 l).2.1⟩ : Lx.Tk)]).length rfl (by simp)
      have k0 := stD_ok0 0 l
      have k1 := stD_er 0 l
      rw [show stF l.length 0 l = stD 0 l from rfl] at key
      obtain ⟨i1, i2⟩ := key
      generalize stD 0 l = Z at i1 i2 k0 k1 ⊢
      obtain ⟨Z1, Z2, Z3⟩ := Z
      simp only at i1 i2 k0 k1
      unfold readQ
      by_cases hZ : Z3 = 0
      · rw [i1 hZ, hZ, k0 hZ]
        rfl
      · obtain ⟨r, e1, e2⟩ := i2 hZ
        rw [e1, k1 hZ, ← e2]
    · rw [if_neg he] at h
      exact absurd h he
  · rw [if_neg hl] at h
    simp at h
theorem st_bad : ∀ (k n : Nat) (l : List UInt8), BadA n k l → stD n l = if (stD n (l.take (ahN k l))).2.2 = 0 then ([], ((n + k + 1 : Nat) : Int), (Lx.textD n l).1) else stD n (l.take (ahN k l))
  | 0, n, l, h => by
    obtain ⟨h1, h2⟩ := h
    have hne : ¬ l = [] := fun e => by rw [e] at h1; exact h1 rfl
    show _ = if (stD n (l.take 0)).2.2 = 0 then _ else _
    rw [List.take_zero, stD_nil, if_pos rfl, stD_step n l hne]
    by_cases hz : (Lx.lineP (Lx.cutL l).1).1 = 0
    · exfalso
      rw [Lx.textD_ok n l hne hz] at h1 h2
      simp only at h1 h2
      have := text_pos (n + 1) _ h1
      omega
    · rw [stB_bad hz, Lx.textD_bad n l hne hz]
  | k + 1, n, l, h => by
    have hne : ¬ l = [] := fun e => by have := h.1; rw [e] at this; exact this rfl
    obtain ⟨hb, hne2, hz⟩ := h.step
    obtain ⟨he, hx⟩ := cut_split hne2
    have ih := st_bad k (n + 1) _ hb
    have ht : (Lx.textD n l).1 = (Lx.textD (n + 1) (Lx.cutL l).2).1 := by rw [Lx.textD_ok n l hne hz]
    have hb1 := hb.1
    rw [ht, stD_step n l hne]
    have ha : ahN (k + 1) l = (Lx.cutL l).1.length + 1 + ahN k (Lx.cutL l).2 := rfl
    rw [ha]
    generalize (Lx.cutL l).1 = x at *
    generalize (Lx.cutL l).2 = y at *
    have htk : l.take (x.length + 1 + ahN k y) = x ++ 10 :: y.take (ahN k y) := by
      rw [he, List.take_append, List.take_of_length_le (by omega), show x.length + 1 + ahN k y - x.length = ahN k y + 1 by omega]
      rfl
    have hc := cut_app (y := y.take (ahN k y)) hx
    rw [htk, stD_step n (x ++ 10 :: y.take (ahN k y)) (by simp), hc]
    simp only
    rw [ih]
    generalize stD (n + 1) (y.take (ahN k y)) = S
    generalize (Lx.textD (n + 1) y).1 = C at hb1 ⊢
    cases hq : lnQ [] (lnT (n + 1) x) with
    | no c r => rw [stB_no hz hq, stB_no hz hq, if_neg (ln_no hq).1]
    | ok o r =>
      rw [stB_ok hz hq, stB_ok hz hq]
      by_cases hS : S.2.2 = 0
      · rw [if_pos hS, if_pos hS, if_neg hb1, if_pos rfl]
        show ([], ((n + 1 + k + 1 : Nat) : Int), C) = ([], ((n + (k + 1) + 1 : Nat) : Int), C)
        rw [show n + 1 + k + 1 = n + (k + 1) + 1 by omega]
      · rw [if_neg hS, if_neg hS, if_neg hS]
/-- what Statements gives, line by line -/
theorem stats_D (l : List UInt8) (hl : l.length ≤ 16777216) : statsP l = stD 0 l := by
  unfold statsP
  by_cases h : (Lx.tokensP l).2.2 = 0
  · rw [if_pos h]; exact stats_okD l h
  · rw [if_neg h]
    have h1 := ahead_tok l h
    rw [stats_okD _ h1]
    rcases bad_at l h with ⟨e1, e2⟩ | ⟨k, e1, hb, e2, _⟩
    · exfalso
      unfold Lx.tokensP at e1 h
      rw [if_pos hl] at e1 h
      by_cases he : (Lx.textD 0 l).1 = 0
      · rw [if_pos he] at h; exact h rfl
      · rw [if_neg he] at e1
        have := text_pos 0 l he
        simp only at e1
        omega
    · have hc : (Lx.tokensP l).2.2 = (Lx.textD 0 l).1 := by
        unfold Lx.tokensP
        rw [if_pos hl, if_neg hb.1]
      rw [e2, e1, hc, st_bad k 0 l hb]
      rw [show ((0 + k + 1 : Nat) : Int) = (k : Int) + 1 by omega]
/-- one text behind another -/
def stJ (Z U : List Stm × Int × Int) : List Stm × Int × Int := if Z.2.2 = 0 then (if U.2.2 = 0 then (Z.1 ++ U.1, 0, 0) else ([], U.2.1, U.2.2)) else Z
/-- how many lines end -/
def lfs (l : List UInt8) : Nat := l.countP (fun b => b == 10)
theorem lfs_no {l : List UInt8} (h : ∀ b ∈ l, ¬ b = 10) : lfs l = 0 := by
  unfold lfs
  rw [List.countP_eq_zero]
  intro b hb e
  exact h b hb (by simpa using e)
theorem st_join (b : List UInt8) : ∀ (f : Nat) (a : List UInt8) (n : Nat), a.length ≤ f → stD n (a ++ 10 :: b) = stJ (stD n (a ++ [10])) (stD (n + (lfs a + 1)) b) := by
  have base : ∀ (a : List UInt8) (n : Nat), (∀ c ∈ a, ¬ c = 10) → stD n (a ++ 10 :: b) = stJ (stD n (a ++ [10])) (stD (n + (lfs a + 1)) b) := fun a n hx => by
    rw [lfs_no hx, stD_step n (a ++ 10 :: b) (by simp), stD_step n (a ++ [10]) (by simp), cut_app hx, cut_app (y := []) hx]
    simp only
    rw [stD_nil, Nat.zero_add]
    generalize stD (n + 1) b = U
    by_cases hz : (Lx.lineP a).1 = 0
    · cases hq : lnQ [] (lnT (n + 1) a) with
      | no c r =>
        rw [stB_no hz hq, stB_no hz hq]
        unfold stJ
        rw [if_neg (ln_no hq).1]
      | ok o r =>
        rw [stB_ok hz hq, stB_ok hz hq, if_pos rfl]
        unfold stJ
        rw [if_pos rfl, List.append_nil]
    · rw [stB_bad hz, stB_bad hz]
      unfold stJ
      rw [if_neg hz]
  intro f
  induction f with
  | zero =>
    intro a n h
    exact base a n (fun c hc => by rw [List.length_eq_zero_iff.1 (Nat.le_zero.1 h)] at hc; cases hc)
  | succ f ih =>
    intro a n h
    by_cases hx : ∀ c ∈ a, ¬ c = 10
    · exact base a n hx
    · obtain ⟨x, y, rfl, hx'⟩ : ∃ x y, a = x ++ 10 :: y ∧ ∀ c ∈ x, ¬ c = 10 := by
        have e := List.takeWhile_append_dropWhile (p := fun b : UInt8 => !(b == 10)) (l := a)
        cases hd : a.dropWhile (fun b => !(b == 10)) with
        | nil =>
          exfalso
          apply hx
          intro c hc ec
          rw [hd, List.append_nil] at e
          rw [← e] at hc
          have := tw_mem hc
          rw [ec] at this
          simp at this
        | cons c r =>
          have hc : c = 10 := by
            have := List.head?_dropWhile_not (fun b : UInt8 => !(b == 10)) a
            rw [hd] at this
            simpa using this
          refine ⟨a.takeWhile (fun b => !(b == 10)), r, ?_, fun b hb e2 => ?_⟩
          · rw [hd, hc] at e; exact e.symm
          · have := tw_mem hb
            rw [e2] at this
            simp at this
      have hlf : lfs (x ++ 10 :: y) = lfs y + 1 := by
        have := lfs_no hx'
        unfold lfs at this ⊢
        rw [List.countP_append, this, List.countP_cons, if_pos (by decide)]
        omega
      rw [hlf, List.append_assoc, List.append_assoc]
      rw [show (10 :: y ++ 10 :: b) = 10 :: (y ++ 10 :: b) from rfl, show (10 :: y ++ [10]) = 10 :: (y ++ [10]) from rfl]
      rw [stD_step n (x ++ 10 :: (y ++ 10 :: b)) (by simp), stD_step n (x ++ 10 :: (y ++ [10])) (by simp), cut_app hx', cut_app hx']
      simp only
      rw [ih y (n + 1) (by simp at h; omega), show n + 1 + (lfs y + 1) = n + (lfs y + 1 + 1) by omega]
      generalize stD (n + (lfs y + 1 + 1)) b = U
      generalize stD (n + 1) (y ++ [10]) = Z
      by_cases hz : (Lx.lineP x).1 = 0
      · cases hq : lnQ [] (lnT (n + 1) x) with
        | no c r =>
          rw [stB_no hz hq, stB_no hz hq]
          unfold stJ
          rw [if_neg (ln_no hq).1]
        | ok o r =>
          rw [stB_ok hz hq, stB_ok hz hq]
          unfold stJ
          by_cases hZ : Z.2.2 = 0
          · rw [if_pos hZ, if_pos hZ, if_pos rfl]
            by_cases hU : U.2.2 = 0
            · rw [if_pos hU, if_pos hU, if_pos rfl, List.append_assoc]
            · rw [if_neg hU, if_neg hU, if_neg hU]
          · rw [if_neg hZ, if_neg hZ, if_neg hZ]
      · rw [stB_bad hz, stB_bad hz]
        unfold stJ
        rw [if_neg hz]
/-- a text further on -/
def shZ (N : Int) (Z : List Stm × Int × Int) : List Stm × Int × Int := if Z.2.2 = 0 then (Z.1.map (shS N), 0, 0) else ([], Z.2.1 + N, Z.2.2)
theorem st_sh (N : Nat) : ∀ (f n : Nat) (l : List UInt8), stF f (n + N) l = shZ N (stF f n l)
  | 0, n, l => by unfold stF shZ; simp
  | f + 1, n, [] => by unfold stF shZ; simp
  | f + 1, n, c :: r => by
    show stB (n + N) _ (stF f (n + N + 1) _) = shZ N (stB n _ (stF f (n + 1) _))
    rw [show n + N + 1 = n + 1 + N by omega, st_sh N f (n + 1)]
    generalize stF f (n + 1) (Lx.cutL (c :: r)).2 = Z
    generalize (Lx.cutL (c :: r)).1 = x
    by_cases hz : (Lx.lineP x).1 = 0
    · rcases ln_sh (N := N) (lnT_en (n + 1) x) with ⟨o, hq, hw⟩ | ⟨c', r', hq, hr, hw⟩
      · rw [← lnT_sh, show n + 1 + N = n + N + 1 by omega] at hw
        rw [stB_ok hz hq, stB_ok hz hw]
        unfold shZ
        by_cases hZ : Z.2.2 = 0
        · rw [if_pos hZ, if_pos hZ, if_pos rfl, if_pos rfl, List.map_append]
        · rw [if_neg hZ, if_neg hZ, if_neg hZ, if_neg hZ]
      · rw [← lnT_sh, show n + 1 + N = n + N + 1 by omega] at hw
        rw [stB_no hz hq, stB_no hz hw]
        unfold shZ
        rw [if_neg (ln_no hq).1]
        show ([], ((n + N + 1 : Nat) : Int), c') = ([], ((n + 1 : Nat) : Int) + (N : Int), c')
        rw [show ((n + N + 1 : Nat) : Int) = ((n + 1 : Nat) : Int) + (N : Int) by omega]
    · rw [stB_bad hz, stB_bad hz]
      unfold shZ
      rw [if_neg hz]
      show ([], ((n + N + 1 : Nat) : Int), (Lx.lineP x).1) = ([], ((n + 1 : Nat) : Int) + (N : Int), (Lx.lineP x).1)
      rw [show ((n + N + 1 : Nat) : Int) = ((n + 1 : Nat) : Int) + (N : Int) by omega]
/-- what ParseLines asks -/
theorem lines_P (a b : List UInt8) (h : a.length + 1 + b.length ≤ 16777216) :
    (¬ (statsP (a ++ [10])).2.2 = 0 → statsP (a ++ [10] ++ b) = statsP (a ++ [10]) ∧ (statsP (a ++ [10])).1 = []) ∧
    ((statsP (a ++ [10])).2.2 = 0 → ¬ (statsP b).2.2 = 0 → statsP (a ++ [10] ++ b) = ([], (statsP b).2.1 + ((lfs (a ++ [10]) : Nat) : Int), (statsP b).2.2)) ∧
    ((statsP (a ++ [10])).2.2 = 0 → (statsP b).2.2 = 0 → statsP (a ++ [10] ++ b) = ((statsP (a ++ [10])).1 ++ (statsP b).1.map (shS ((lfs (a ++ [10]) : Nat) : Int)), 0, 0)) := by
  have hN : lfs (a ++ [10]) = lfs a + 1 := by unfold lfs; rw [List.countP_append]; rfl
  have hj := st_join b a.length a 0 (Nat.le_refl _)
  have hs : stD (0 + (lfs a + 1)) b = shZ ((lfs a + 1 : Nat) : Int) (stD 0 b) := st_sh (lfs a + 1) b.length 0 b
  have he := stD_er 0 (a ++ [10])
  rw [hN, stats_D (a ++ [10]) (by simp; omega), stats_D b (by omega), stats_D (a ++ [10] ++ b) (by simp; omega), List.append_assoc, List.singleton_append, hj, hs]
  generalize stD 0 (a ++ [10]) = Z at he ⊢
  generalize stD 0 b = U
  generalize ((lfs a + 1 : Nat) : Int) = N
  unfold stJ shZ
  refine ⟨fun hZ => ?_, fun hZ hU => ?_, fun hZ hU => ?_⟩
  · rw [if_neg hZ]; exact ⟨rfl, he hZ⟩
  · rw [if_pos hZ, if_neg hU, if_neg hU]
  · rw [if_pos hZ, if_pos hU, if_pos rfl]
end Go.Proofs.YtkihaohdcgjioaaGreatDoor
