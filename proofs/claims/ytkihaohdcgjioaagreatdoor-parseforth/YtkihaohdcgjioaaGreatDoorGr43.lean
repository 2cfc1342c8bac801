import Derived.Test.YtkihaohdcgjioaaGreatDoorGr39
import Derived.ChangeOld
import Derived.Deep.Slices
import Derived.ChangeSlices
namespace Go.Proofs.YtkihaohdcgjioaaGreatDoor
open Go.RowKit
set_option linter.unusedVariables false
set_option linter.unusedSimpArgs false
def RE.nz {α : Type} : RE α → Prop
  | .ok _ _ => True
  | .no c _ => ¬ c = 0
theorem nz_bind {α β : Type} {x : RE α} {f : α → List Lx.Tk → RE β} (h : x.nz) (hf : ∀ a r, (f a r).nz) : (x.bind f).nz := by
  cases x with
  | ok a r => exact hf a r
  | no c r => exact h
theorem tkQ_nz (k : Int) (ts : List Lx.Tk) : (tkQ k ts).nz := by
  cases ts with
  | nil => show ¬ (60 : Int) = 0; decide
  | cons t r =>
    show (if t.k = k then RE.ok t r else RE.no 60 (t :: r)).nz
    by_cases e : t.k = k
    · rw [if_pos e]; trivial
    · rw [if_neg e]; show ¬ (60 : Int) = 0; decide
theorem wdQ_nz (ts : List Lx.Tk) : (wdQ ts).nz := nz_bind (tkQ_nz 1 ts) (fun _ _ => trivial)
theorem tdQ_nz (ts : List Lx.Tk) : (tdQ ts).nz := nz_bind (wdQ_nz ts) (fun x r => by
  cases hx : tknQ x
  · show ¬ (60 : Int) = 0; decide
  · trivial)
theorem nuQ_nz (ts : List Lx.Tk) : (nuQ ts).nz := nz_bind (tkQ_nz 3 ts) (fun t r => by
  by_cases hx : t.n ≤ 2147483647
  · rw [if_pos hx]; trivial
  · rw [if_neg hx]; show ¬ (60 : Int) = 0; decide)
theorem nmQ_nz (k : Int) (ts : List Lx.Tk) : (nmQ k ts).nz := nz_bind (wdQ_nz ts) (fun _ _ => trivial)
theorem nuR_nz : ∀ (n : Nat) (l : List Int) (ts : List Lx.Tk), (nuR n l ts).nz
  | 0, l, ts => trivial
  | n + 1, l, ts => nz_bind (nuQ_nz ts) (fun a r => nuR_nz n _ r)
theorem tbQ_nz (ts : List Lx.Tk) : (tbQ ts).nz := nz_bind (wdQ_nz ts) (fun _ r => nz_bind (tdQ_nz r) (fun _ r => nz_bind (nuR_nz 3 [] r) (fun _ _ => trivial)))
theorem restQ_nz (x : List UInt8) (ts : List Lx.Tk) : (restQ x ts).nz := by
  unfold restQ
  by_cases h1 : x = funcB
  · rw [if_pos h1]; exact nmQ_nz _ _
  rw [if_neg h1]
  by_cases h2 : x = globB
  · rw [if_pos h2]; exact nmQ_nz _ _
  rw [if_neg h2]
  by_cases h3 : x = extB
  · rw [if_pos h3]; exact nmQ_nz _ _
  rw [if_neg h3]
  by_cases h4 : x = mapB
  · rw [if_pos h4]; exact tbQ_nz _
  rw [if_neg h4]
  show ¬ (60 : Int) = 0
  decide
theorem dirQ_nz (ts : List Lx.Tk) : (dirQ ts).nz := nz_bind (tkQ_nz 2 ts) (fun t r => nz_bind (restQ_nz t.t r) (fun s r => by
  by_cases e : kindQ r = 5
  · rw [if_pos e]; trivial
  · rw [if_neg e]; show ¬ (61 : Int) = 0; decide))
theorem inQ_nz (ts : List Lx.Tk) : (inQ ts).nz := by
  unfold inQ
  by_cases e : (parseP (ixQ [] ts).1).e = 0
  · rw [if_pos e]; trivial
  · rw [if_neg e]
    show ¬ (if (parseP (ixQ [] ts).1).e = 40 then (60 : Int) else (parseP (ixQ [] ts).1).e) = 0
    by_cases e2 : (parseP (ixQ [] ts).1).e = 40
    · rw [if_pos e2]; decide
    · rw [if_neg e2]; exact e
theorem stQ_nz (L : List Stm) (ts : List Lx.Tk) : (stQ L ts).nz := by
  unfold stQ
  by_cases e : kindQ ts = 5
  · rw [if_pos e]; trivial
  rw [if_neg e]
  refine nz_bind ?_ (fun _ _ => trivial)
  by_cases e1 : kindQ ts = 1
  · rw [if_pos e1]; exact inQ_nz _
  · rw [if_neg e1]; exact dirQ_nz _
theorem lnQ_nz (L : List Stm) (ts : List Lx.Tk) : (lnQ L ts).nz := nz_bind (stQ_nz _ _) (fun _ r => nz_bind (tkQ_nz 5 r) (fun _ _ => trivial))
def lnT (n : Nat) (x : List UInt8) : List Lx.Tk := ((Lx.lineP x).2 ++ [(5, [], 0)]).map (Lx.mkT n)
theorem en_app (n : Nat) : ∀ (X : List (Int × List UInt8 × Int)), (∀ q ∈ X, ¬ q.1 = 5) → En ((X ++ [(5, [], 0)]).map (Lx.mkT n))
  | [], _ => by
    show if (5 : Int) = 5 then ([] : List Lx.Tk) = [] else _
    rw [if_pos rfl]
  | q :: r, h => by
    show if q.1 = 5 then (r ++ [(5, [], 0)]).map (Lx.mkT n) = [] else En ((r ++ [(5, [], 0)]).map (Lx.mkT n))
    rw [if_neg (h q (by simp))]
    exact en_app n r (fun q' hq => h q' (List.mem_cons_of_mem _ hq))
theorem lnT_en (n : Nat) (x : List UInt8) : En (lnT n x) := en_app n _ (fun q hq => by have := Lx.line_kind _ q hq; omega)
theorem lnT_kind (n : Nat) (x : List UInt8) (R : List Lx.Tk) : ¬ kindQ (lnT n x ++ R) = 0 := by
  unfold lnT
  cases hX : (Lx.lineP x).2 with
  | nil => show ¬ (5 : Int) = 0; decide
  | cons q r =>
    have := Lx.line_kind x q (by rw [hX]; simp)
    show ¬ q.1 = 0
    omega
theorem lnT_pos (n : Nat) (x : List UInt8) : 1 ≤ (lnT n x).length := by simp [lnT]
def LnAll (n : Int) (ts : List Lx.Tk) : Prop := ∀ x ∈ ts, x.l = n
theorem lnAll_clo (n : Int) : Clo (LnAll n) := fun t r h x hx => h x (List.mem_cons_of_mem _ hx)
theorem lnT_all (n : Nat) (x : List UInt8) : LnAll n (lnT n x) := fun y hy => by
  unfold lnT at hy
  obtain ⟨q, _, rfl⟩ := List.mem_map.1 hy
  rfl
theorem ln_no {n : Nat} {x : List UInt8} {c : Int} {r : List Lx.Tk} (h : lnQ [] (lnT n x) = .no c r) : ¬ c = 0 ∧ (En r → lineQ r = n) := by
  have h1 := lnQ_nz [] (lnT n x)
  have h2 : LnAll n (lnQ [] (lnT n x)).rest := lnQ_cl (lnAll_clo n) (lnT_all n x)
  rw [h] at h1 h2
  refine ⟨h1, fun he => ?_⟩
  obtain ⟨t, r', rfl⟩ := he.ne
  exact h2 t List.mem_cons_self
def stB (n : Nat) (x : List UInt8) (Z : List Stm × Int × Int) : List Stm × Int × Int :=
  if (Lx.lineP x).1 = 0 then
    match lnQ [] (lnT (n + 1) x) with
    | .no c _ => ([], ((n + 1 : Nat) : Int), c)
    | .ok o _ => if Z.2.2 = 0 then (o ++ Z.1, 0, 0) else ([], Z.2.1, Z.2.2)
  else ([], ((n + 1 : Nat) : Int), (Lx.lineP x).1)
theorem stB_bad {n : Nat} {x : List UInt8} (h : ¬ (Lx.lineP x).1 = 0) (Z : List Stm × Int × Int) : stB n x Z = ([], ((n + 1 : Nat) : Int), (Lx.lineP x).1) := by unfold stB; rw [if_neg h]
theorem stB_no {n : Nat} {x : List UInt8} {c : Int} {r : List Lx.Tk} (h : (Lx.lineP x).1 = 0) (hq : lnQ [] (lnT (n + 1) x) = .no c r) (Z : List Stm × Int × Int) : stB n x Z = ([], ((n + 1 : Nat) : Int), c) := by unfold stB; rw [if_pos h, hq]
theorem stB_ok {n : Nat} {x : List UInt8} {o : List Stm} {r : List Lx.Tk} (h : (Lx.lineP x).1 = 0) (hq : lnQ [] (lnT (n + 1) x) = .ok o r) (Z : List Stm × Int × Int) : stB n x Z = if Z.2.2 = 0 then (o ++ Z.1, 0, 0) else ([], Z.2.1, Z.2.2) := by unfold stB; rw [if_pos h, hq]
def stF : Nat → Nat → List UInt8 → List Stm × Int × Int
  | 0, _, _ => ([], 0, 0)
  | _ + 1, _, [] => ([], 0, 0)
  | f + 1, n, c :: r => stB n (Lx.cutL (c :: r)).1 (stF f (n + 1) (Lx.cutL (c :: r)).2)
theorem stF_eq : ∀ (f g n : Nat) (l : List UInt8), l.length ≤ f → l.length ≤ g → stF f n l = stF g n l
  | 0, 0, _, _, _, _ => rfl
  | 0, g + 1, n, [], _, _ => rfl
  | 0, g + 1, n, c :: r, h, _ => by simp at h
  | f + 1, 0, n, [], _, _ => rfl
  | f + 1, 0, n, c :: r, _, h => by simp at h
  | f + 1, g + 1, n, [], _, _ => rfl
  | f + 1, g + 1, n, c :: r, hf, hg => by
    have hc := (Lx.cutL_len (c :: r) (by simp)).2
    simp only [List.length_cons] at hf hg hc
    unfold stF
    rw [stF_eq f g (n + 1) _ (by omega) (by omega)]
def stD (n : Nat) (l : List UInt8) : List Stm × Int × Int := stF l.length n l
theorem stD_nil (n : Nat) : stD n [] = ([], 0, 0) := rfl
theorem stD_step (n : Nat) (l : List UInt8) (hl : ¬ l = []) : stD n l = stB n (Lx.cutL l).1 (stD (n + 1) (Lx.cutL l).2) := by
  cases l with
  | nil => exact absurd rfl hl
  | cons c r =>
    have hc := (Lx.cutL_len (c :: r) (by simp)).2
    simp only [List.length_cons] at hc
    show stF (r.length + 1) n (c :: r) = _
    unfold stF
    rw [stF_eq r.length _ (n + 1) (Lx.cutL (c :: r)).2 (by omega) (Nat.le_refl _)]
    rfl
theorem stD_er (n : Nat) (l : List UInt8) (h : ¬ (stD n l).2.2 = 0) : (stD n l).1 = [] := by
  by_cases hl : l = []
  · rw [hl] at h; exact absurd rfl h
  rw [stD_step n l hl] at h ⊢
  by_cases hz : (Lx.lineP (Lx.cutL l).1).1 = 0
  · cases hq : lnQ [] (lnT (n + 1) (Lx.cutL l).1) with
    | no c r => rw [stB_no hz hq]
    | ok o r =>
      rw [stB_ok hz hq] at h ⊢
      by_cases hZ : (stD (n + 1) (Lx.cutL l).2).2.2 = 0
      · rw [if_pos hZ] at h; exact absurd rfl h
      · rw [if_neg hZ]
  · rw [stB_bad hz]
theorem stD_ok0 (n : Nat) (l : List UInt8) (h : (stD n l).2.2 = 0) : (stD n l).2.1 = 0 := by
  by_cases hl : l = []
  · rw [hl]; rfl
  rw [stD_step n l hl] at h ⊢
  by_cases hz : (Lx.lineP (Lx.cutL l).1).1 = 0
  · cases hq : lnQ [] (lnT (n + 1) (Lx.cutL l).1) with
    | no c r => rw [stB_no hz hq] at h; exact absurd h (ln_no hq).1
    | ok o r =>
      rw [stB_ok hz hq] at h ⊢
      by_cases hZ : (stD (n + 1) (Lx.cutL l).2).2.2 = 0
      · rw [if_pos hZ]
      · rw [if_neg hZ] at h; exact absurd h hZ
  · rw [stB_bad hz] at h; exact absurd h hz
theorem rd_st : ∀ (f n : Nat) (l : List UInt8) (m : Nat) (T : List Lx.Tk), l.length ≤ f → Lx.textF f n l = (0, m, T) → ∀ (out : List Stm) (e : Lx.Tk) (k : Nat), e.k = 0 → T.length + 1 ≤ k →
    ((stF f n l).2.2 = 0 → rdF k out (T ++ [e]) = .ok (out ++ (stF f n l).1) [e]) ∧ (¬ (stF f n l).2.2 = 0 → ∃ r, rdF k out (T ++ [e]) = .no (stF f n l).2.2 r ∧ lineQ r = (stF f n l).2.1)
  | 0, n, l, m, T, hl, h, out, e, k, he, hk => by
    simp [Lx.textF] at h
    obtain ⟨rfl, rfl⟩ := h
    refine ⟨fun _ => ?_, fun h => absurd rfl h⟩
    rw [List.nil_append, rd_stop (show kindQ [e] = 0 from he)]
    show RE.ok out [e] = RE.ok (out ++ []) [e]
    rw [List.append_nil]
  | f + 1, n, [], m, T, hl, h, out, e, k, he, hk => by
    simp [Lx.textF] at h
    obtain ⟨rfl, rfl⟩ := h
    refine ⟨fun _ => ?_, fun h => absurd rfl h⟩
    rw [List.nil_append, rd_stop (show kindQ [e] = 0 from he)]
    show RE.ok out [e] = RE.ok (out ++ []) [e]
    rw [List.append_nil]
  | f + 1, n, c :: r, m, T, hl, h, out, e, k, he, hk => by
    unfold Lx.textF at h
    by_cases hz : (Lx.lineP (Lx.cutL (c :: r)).1).1 = 0
    · rw [if_pos hz] at h
      simp only [Prod.mk.injEq] at h
      obtain ⟨h1, h2, h3⟩ := h
      have hc := (Lx.cutL_len (c :: r) (by simp)).2
      simp only [List.length_cons] at hl hc
      have ih := rd_st f (n + 1) (Lx.cutL (c :: r)).2 m (Lx.textF f (n + 1) (Lx.cutL (c :: r)).2).2.2 (by omega) (by rw [← h1, ← h2])
      show ((stB n (Lx.cutL (c :: r)).1 (stF f (n + 1) (Lx.cutL (c :: r)).2)).2.2 = 0 → _ = RE.ok (out ++ (stB n (Lx.cutL (c :: r)).1 (stF f (n + 1) (Lx.cutL (c :: r)).2)).1) [e]) ∧ (¬ (stB n (Lx.cutL (c :: r)).1 (stF f (n + 1) (Lx.cutL (c :: r)).2)).2.2 = 0 → ∃ r', _ = RE.no (stB n (Lx.cutL (c :: r)).1 (stF f (n + 1) (Lx.cutL (c :: r)).2)).2.2 r' ∧ lineQ r' = (stB n (Lx.cutL (c :: r)).1 (stF f (n + 1) (Lx.cutL (c :: r)).2)).2.1)
      generalize stF f (n + 1) (Lx.cutL (c :: r)).2 = Z at ih ⊢
      generalize (Lx.textF f (n + 1) (Lx.cutL (c :: r)).2).2.2 = T' at ih h3
      generalize (Lx.cutL (c :: r)).1 = x at hz h3 ⊢
      have h3 : T = lnT (n + 1) x ++ T' := h3.symm
      subst h3
      have hp := lnT_pos (n + 1) x
      rw [List.length_append] at hk
      cases k with
      | zero => omega
      | succ k =>
        rw [List.append_assoc, rd_step (lnT_kind _ _ _)]
        rcases ln_out (R := T' ++ [e]) (out := out) (lnT_en (n + 1) x) with ⟨o, hq, hw⟩ | ⟨c', r', hq, hr, hw⟩
        · rw [stB_ok hz hq, hw]
          obtain ⟨i1, i2⟩ := ih (out ++ o) e k he (by omega)
          show (_ → rdF k (out ++ o) (T' ++ [e]) = _) ∧ (_ → ∃ r', rdF k (out ++ o) (T' ++ [e]) = _ ∧ _)
          by_cases hZ : Z.2.2 = 0
          · rw [if_pos hZ]
            refine ⟨fun _ => ?_, fun h => absurd rfl h⟩
            rw [i1 hZ, List.append_assoc]
          · rw [if_neg hZ]
            exact ⟨fun h => absurd h hZ, fun _ => i2 hZ⟩
        · rw [stB_no hz hq, hw]
          obtain ⟨n1, n2⟩ := ln_no hq
          refine ⟨fun h => absurd h n1, fun _ => ⟨r' ++ (T' ++ [e]), rfl, ?_⟩⟩
          obtain ⟨t, r2, rfl⟩ := hr.ne
          exact n2 hr
    · rw [if_neg hz] at h
      simp only [Prod.mk.injEq] at h
      exact absurd h.1 hz
theorem stats_okD (l : List UInt8) (h : (Lx.tokensP l).2.2 = 0) : readQ (Lx.tokensP l).1 = stD 0 l := by
  unfold Lx.tokensP at h ⊢
  by_cases hl : l.length ≤ 16777216
  · rw [if_pos hl] at h ⊢
    by_cases he : (Lx.textD 0 l).1 = 0
    · rw [if_pos he]
      simp only
      have key := rd_st l.length 0 l (Lx.textD 0 l).2.1 (Lx.textD 0 l).2.2 (Nat.le_refl _) (by show Lx.textD 0 l = _; rw [← he]) [] ⟨0, [], 0, (Lx.textD 0 l).2.1⟩ ((Lx.textD 0 l).2.2 ++ [(⟨0, [], 0, (Lx.textD 0 l).2.1⟩ : Lx.Tk)]).length rfl (by simp)
      have k0 := stD_ok0 0 l
      have k1 := stD_er 0 l
      rw [show stF l.length 0 l = stD 0 l from rfl] at key
      obtain ⟨i1, i2⟩ := key
      generalize stD 0 l = Z at i1 i2 k0 k1 ⊢
      obtain ⟨Z1, Z2, Z3⟩ := Z
      simp only at i1 i2 k0 k1
      unfold readQ
      by_cases hZ : Z3 = 0
      · rw [i1 hZ, hZ, k0 hZ]
        rfl
      · obtain ⟨r, e1, e2⟩ := i2 hZ
        rw [e1, k1 hZ, ← e2]
    · rw [if_neg he] at h
      exact absurd h he
  · rw [if_neg hl] at h
    simp at h
theorem st_bad : ∀ (k n : Nat) (l : List UInt8), BadA n k l → stD n l = if (stD n (l.take (ahN k l))).2.2 = 0 then ([], ((n + k + 1 : Nat) : Int), (Lx.textD n l).1) else stD n (l.take (ahN k l))
  | 0, n, l, h => by
    obtain ⟨h1, h2⟩ := h
    have hne : ¬ l = [] := fun e => by rw [e] at h1; exact h1 rfl
    show _ = if (stD n (l.take 0)).2.2 = 0 then _ else _
    rw [List.take_zero, stD_nil, if_pos rfl, stD_step n l hne]
    by_cases hz : (Lx.lineP (Lx.cutL l).1).1 = 0
    · exfalso
      rw [Lx.textD_ok n l hne hz] at h1 h2
      simp only at h1 h2
      have := text_pos (n + 1) _ h1
      omega
    · rw [stB_bad hz, Lx.textD_bad n l hne hz]
  | k + 1, n, l, h => by
    have hne : ¬ l = [] := fun e => by have := h.1; rw [e] at this; exact this rfl
    obtain ⟨hb, hne2, hz⟩ := h.step
    obtain ⟨he, hx⟩ := cut_split hne2
    have ih := st_bad k (n + 1) _ hb
    have ht : (Lx.textD n l).1 = (Lx.textD (n + 1) (Lx.cutL l).2).1 := by rw [Lx.textD_ok n l hne hz]
    have hb1 := hb.1
    rw [ht, stD_step n l hne]
    have ha : ahN (k + 1) l = (Lx.cutL l).1.length + 1 + ahN k (Lx.cutL l).2 := rfl
    rw [ha]
    generalize (Lx.cutL l).1 = x at *
    generalize (Lx.cutL l).2 = y at *
    have htk : l.take (x.length + 1 + ahN k y) = x ++ 10 :: y.take (ahN k y) := by
      rw [he, List.take_append, List.take_of_length_le (by omega), show x.length + 1 + ahN k y - x.length = ahN k y + 1 by omega]
      rfl
    have hc := cut_app (y := y.take (ahN k y)) hx
    rw [htk, stD_step n (x ++ 10 :: y.take (ahN k y)) (by simp), hc]
    simp only
    rw [ih]
    generalize stD (n + 1) (y.take (ahN k y)) = S
    generalize (Lx.textD (n + 1) y).1 = C at hb1 ⊢
    cases hq : lnQ [] (lnT (n + 1) x) with
    | no c r => rw [stB_no hz hq, stB_no hz hq, if_neg (ln_no hq).1]
    | ok o r =>
      rw [stB_ok hz hq, stB_ok hz hq]
      by_cases hS : S.2.2 = 0
      · rw [if_pos hS, if_pos hS, if_neg hb1, if_pos rfl]
        show ([], ((n + 1 + k + 1 : Nat) : Int), C) = ([], ((n + (k + 1) + 1 : Nat) : Int), C)
        rw [show n + 1 + k + 1 = n + (k + 1) + 1 by omega]
      · rw [if_neg hS, if_neg hS, if_neg hS]
theorem stats_D (l : List UInt8) (hl : l.length ≤ 16777216) : statsP l = stD 0 l := by
  unfold statsP
  by_cases h : (Lx.tokensP l).2.2 = 0
  · rw [if_pos h]; exact stats_okD l h
  · rw [if_neg h]
    have h1 := ahead_tok l h
    rw [stats_okD _ h1]
    rcases bad_at l h with ⟨e1, e2⟩ | ⟨k, e1, hb, e2, _⟩
    · exfalso
      unfold Lx.tokensP at e1 h
      rw [if_pos hl] at e1 h
      by_cases he : (Lx.textD 0 l).1 = 0
      · rw [if_pos he] at h; exact h rfl
      · rw [if_neg he] at e1
        have := text_pos 0 l he
        simp only at e1
        omega
    · have hc : (Lx.tokensP l).2.2 = (Lx.textD 0 l).1 := by
        unfold Lx.tokensP
        rw [if_pos hl, if_neg hb.1]
      rw [e2, e1, hc, st_bad k 0 l hb]
      rw [show ((0 + k + 1 : Nat) : Int) = (k : Int) + 1 by omega]
inductive It where
  | wd (t : List UInt8)
  | dt (t : List UInt8)
  | nu (u : Nat)
  | mk (c : UInt8)
def It.tx : It → List UInt8
  | .wd t => t
  | .dt t => t
  | .nu u => Lib.decDigits u
  | .mk c => [c]
def It.tk : It → Int × List UInt8 × Int
  | .wd t => (1, t, 0)
  | .dt t => (2, t, 0)
  | .nu u => (3, [], (u : Int))
  | .mk c => (4, [c], 0)
def It.ok : It → Prop
  | .wd t => Lx.wordP t = true
  | .dt t => Lx.dotP t = true
  | .nu u => u ≤ 18446744073709551615
  | .mk c => Lx.markB [c] = true
def It.run : It → Bool
  | .mk _ => false
  | _ => true
def It.pl : It → Bool
  | .dt _ => false
  | _ => true
def itT : List (Bool × It) → List UInt8
  | [] => []
  | (b, x) :: r => (if b then [32] else []) ++ (x.tx ++ itT r)
def aptI : List (Bool × It) → Prop
  | [] => True
  | (b, y) :: _ => b = true ∨ y.run = false
def itOk : List (Bool × It) → Prop
  | [] => True
  | (_, x) :: r => x.ok ∧ (x.run = true → aptI r) ∧ itOk r
theorem mark_n : ∀ n : Fin 256, Lx.kindP (n.val : Int) = 7 → Lx.runP (n.val : Int) = false ∧ runP (n.val : Int) = false ∧ letP (n.val : Int) = false ∧ digP (n.val : Int) = false ∧ ¬ n.val = 32 ∧ ¬ n.val = 9 ∧ ¬ n.val = 10 := by decide +kernel
theorem mark_f {c : UInt8} (h : Lx.markB [c] = true) : Lx.runU c = false ∧ runU c = false ∧ headOk [c] = false ∧ ¬ c = 32 ∧ ¬ c = 9 ∧ ¬ c = 10 := by
  have hk : Lx.kindP ((c.toNat : Nat) : Int) = 7 := by
    have h1 : Lx.kindP (Lx.bI c) = 7 := by simpa [Lx.markB] using h
    exact h1
  obtain ⟨h1, h2, h3, h4, h5, h6, h7⟩ := mark_n ⟨c.toNat, c.toNat_lt⟩ hk
  simp only at h1 h2 h3 h4 h5 h6 h7
  refine ⟨h1, h2, ?_, fun e => h5 (by rw [e]; rfl), fun e => h6 (by rw [e]; rfl), fun e => h7 (by rw [e]; rfl)⟩
  show (letP ((c.toNat : Nat) : Int) || digP ((c.toNat : Nat) : Int)) = false
  rw [h3, h4]
  rfl
theorem it_stop : ∀ (L : List (Bool × It)), itOk L → aptI L → Lx.Stop (itT L) ∧ stopP (itT L) = true
  | [], _, _ => ⟨.inl rfl, rfl⟩
  | (true, y) :: r, _, _ => ⟨.inr ⟨32, _, rfl, by decide⟩, by show (!runU 32) = true; decide⟩
  | (false, .wd t) :: r, _, h => by rcases h with h | h <;> cases h
  | (false, .dt t) :: r, _, h => by rcases h with h | h <;> cases h
  | (false, .nu t) :: r, _, h => by rcases h with h | h <;> cases h
  | (false, .mk c) :: r, h, _ => by
    obtain ⟨h1, h2, _⟩ := mark_f h.1
    refine ⟨.inr ⟨c, itT r, rfl, h1⟩, ?_⟩
    show (!runU c) = true
    rw [h2]
    rfl
theorem it_ne (x : It) (hx : x.ok) : ∃ c q, x.tx = c :: q := by
  cases x with
  | wd t =>
    obtain ⟨c, r, h, _⟩ := Lx.word_start hx
    exact ⟨c, r, h⟩
  | dt t =>
    cases t with
    | nil => exact absurd (show Lx.dotP [] = true from hx) (by decide)
    | cons c r => exact ⟨c, r, rfl⟩
  | nu u =>
    obtain ⟨_, _, c, l, h, _⟩ := Lx.dd_all u
    exact ⟨c, l, h⟩
  | mk c => exact ⟨c, [], rfl⟩
theorem it_piece (x : It) (e : List UInt8) (hx : x.ok) (he : x.run = true → Lx.Stop e) : Lx.pieceP (x.tx ++ e) = (0, some x.tk, x.tx.length) := by
  cases x with
  | wd t => exact Lx.piece_word hx (he rfl)
  | dt t => exact Lx.piece_dot hx (he rfl)
  | nu u => exact Lx.piece_num hx (he rfl)
  | mk c => exact Lx.piece_mark (t := [c]) hx
theorem it_scan : ∀ (L : List (Bool × It)), itOk L → Lx.scanD (itT L) = (0, L.map (fun y => y.2.tk))
  | [], _ => rfl
  | (b, x) :: r, h => by
    have h1 := it_scan r h.2.2
    have hs : Lx.scanD (x.tx ++ itT r) = (0, x.tk :: r.map (fun y => y.2.tk)) := by
      have hp := it_piece x (itT r) h.1 (fun hr => (it_stop r h.2.2 (h.2.1 hr)).1)
      obtain ⟨c, q, hc⟩ := it_ne x h.1
      have hd : (x.tx ++ itT r).drop x.tx.length = itT r := List.drop_left
      have e : x.tx ++ itT r = c :: (q ++ itT r) := by rw [hc]; rfl
      rw [e] at hp hd ⊢
      rw [Lx.scanD_ok c (q ++ itT r) (by rw [hp]), hp]
      simp only
      rw [hd, h1]
      rfl
    cases b with
    | false => exact hs
    | true =>
      show Lx.scanD (32 :: (x.tx ++ itT r)) = _
      rw [Lx.scan_bl 32 _ (by decide), hs]
      rfl
def jn : List UInt8 → List It → List UInt8
  | acc, [] => acc
  | acc, x :: r => jn ((if acc.isEmpty then acc else acc ++ [32]) ++ x.tx) r
theorem it_kind (x : It) (n : Nat) : ¬ (Lx.mkT n x.tk).k = 5 ∧ ttQ (Lx.mkT n x.tk) = x.tx := by
  cases x with
  | wd t => exact ⟨by show ¬ (1 : Int) = 5; decide, by show (if (1 : Int) = 3 then _ else t) = t; rw [if_neg (by decide)]⟩
  | dt t => exact ⟨by show ¬ (2 : Int) = 5; decide, by show (if (2 : Int) = 3 then _ else t) = t; rw [if_neg (by decide)]⟩
  | nu u => exact ⟨by show ¬ (3 : Int) = 5; decide, by show (if (3 : Int) = 3 then Lib.decDigits ((u : Int)).toNat else _) = _; rw [if_pos rfl]; rfl⟩
  | mk c => exact ⟨by show ¬ (4 : Int) = 5; decide, by show (if (4 : Int) = 3 then _ else [c]) = [c]; rw [if_neg (by decide)]⟩
theorem ix_it (n : Nat) (e : Lx.Tk) (he : e.k = 5) : ∀ (L : List It) (acc : List UInt8), ixQ acc ((L.map It.tk).map (Lx.mkT n) ++ [e]) = (jn acc L, [e])
  | [], acc => by
    show ixQ acc [e] = (acc, [e])
    unfold ixQ
    rw [if_pos he]
  | x :: r, acc => by
    obtain ⟨h1, h2⟩ := it_kind x n
    show ixQ acc (Lx.mkT n x.tk :: ((r.map It.tk).map (Lx.mkT n) ++ [e])) = _
    rw [ixQ, if_neg h1, h2, ix_it n e he r]
    rfl
theorem jn_eq : ∀ (L : List It) (acc : List UInt8), ¬ acc = [] → jn acc L = acc ++ itT (L.map (fun x => (true, x)))
  | [], acc, _ => by simp [jn, itT]
  | x :: r, acc, h => by
    have he : acc.isEmpty = false := by cases acc with | nil => exact absurd rfl h | cons c q => rfl
    unfold jn
    rw [he]
    rw [if_neg (by simp), jn_eq r _ (by simp)]
    show _ = acc ++ ([32] ++ (x.tx ++ itT (r.map (fun x => (true, x)))))
    simp only [List.append_assoc]
theorem jn_nil (x : It) (r : List It) (hx : x.ok) : jn [] (x :: r) = itT ((false, x) :: r.map (fun x => (true, x))) := by
  obtain ⟨c, q, hc⟩ := it_ne x hx
  show jn ([] ++ x.tx) r = [] ++ (x.tx ++ itT (r.map (fun x => (true, x))))
  rw [List.nil_append, List.nil_append, jn_eq r _ (by rw [hc]; simp)]
theorem it_spaced : ∀ (L : List It), (∀ x ∈ L, x.ok) → itOk (L.map (fun x => (true, x)))
  | [], _ => trivial
  | x :: r, h => ⟨h x (by simp), fun _ => by cases r with | nil => trivial | cons y q => exact .inl rfl, it_spaced r (fun y hy => h y (List.mem_cons_of_mem _ hy))⟩
theorem it_all : ∀ (L : List (Bool × It)), itOk L → ∀ y ∈ L, y.2.ok
  | [], _, y, hy => by cases hy
  | (b, x) :: r, h, y, hy => by
    rcases List.mem_cons.1 hy with rfl | hy
    · exact h.1
    · exact it_all r h.2.2 y hy
theorem letter_nn : ∀ n : Fin 256, Lx.kindP (n.val : Int) = 3 → letP (n.val : Int) = true := by decide +kernel
theorem letter_n (c : UInt8) (h : Lx.kindP (Lx.bI c) = 3) : letP (bI c) = true := letter_nn ⟨c.toNat, c.toNat_lt⟩ h
theorem it_tok (b : Bool) (x : It) (r : List (Bool × It)) (h : itOk ((b, x) :: r)) (hp : x.pl = true) : tokP (itT ((b, x) :: r)) = x.tx ∧ restP (itT ((b, x) :: r)) = itT r := by
  have key : tokP (x.tx ++ itT r) = x.tx ∧ restP (x.tx ++ itT r) = itT r := by
    cases x with
    | wd t =>
      obtain ⟨c, q, rfl, hk, ha, hl⟩ := Lx.word_start h.1
      have hw : Lx.wordP (c :: q) = true := h.1
      refine tok_run (c :: q) (itT r) ?_ ?_ (it_stop r h.2.2 (h.2.1 rfl)).2
      · have : Lx.startP (c :: q) = true := by
          simp only [Lx.wordP, Bool.and_eq_true] at hw
          exact hw.1.2
        show (letP (bI c) || digP (bI c)) = true
        have h2 : letP (bI c) = true := letter_n c (by rw [hk])
        rw [h2]
        rfl
      · exact ha
    | dt t => cases hp
    | nu u => exact dd_tok u (itT r) (it_stop r h.2.2 (h.2.1 rfl)).2
    | mk c =>
      obtain ⟨_, _, h3, h4, h5, _⟩ := mark_f h.1
      exact tok_mark c (itT r) h3 h4 h5
  cases b with
  | false => exact key
  | true =>
    obtain ⟨t1, t2⟩ := tok_blank 32 (x.tx ++ itT r) (.inl rfl)
    show tokP (32 :: (x.tx ++ itT r)) = _ ∧ restP (32 :: (x.tx ++ itT r)) = _
    rw [t1, t2]
    exact key
theorem te_it : ∀ (n : Nat) (L M : List (Bool × It)), L.map (fun y => y.2) = M.map (fun y => y.2) → itOk L → itOk M → (∀ y ∈ L, y.2.pl = true) → tokP (restN n (itT L)) = tokP (restN n (itT M)) := by
  intro n
  induction n with
  | zero =>
    intro L M e hL hM hp
    cases L with
    | nil =>
      cases M with
      | nil => rfl
      | cons y q => cases e
    | cons x r =>
      cases M with
      | nil => cases e
      | cons y q =>
        obtain ⟨b, x⟩ := x
        obtain ⟨b2, y⟩ := y
        simp only [List.map_cons, List.cons.injEq] at e
        obtain ⟨rfl, e2⟩ := e
        show tokP (itT _) = tokP (itT _)
        rw [(it_tok b x r hL (hp (b, x) (by simp))).1, (it_tok b2 x q hM (hp (b, x) (by simp))).1]
  | succ n ih =>
    intro L M e hL hM hp
    cases L with
    | nil =>
      cases M with
      | nil => rfl
      | cons y q => cases e
    | cons x r =>
      cases M with
      | nil => cases e
      | cons y q =>
        obtain ⟨b, x⟩ := x
        obtain ⟨b2, y⟩ := y
        simp only [List.map_cons, List.cons.injEq] at e
        obtain ⟨rfl, e2⟩ := e
        show tokP (restN n (restP (itT _))) = tokP (restN n (restP (itT _)))
        rw [(it_tok b x r hL (hp (b, x) (by simp))).2, (it_tok b2 x q hM (hp (b, x) (by simp))).2]
        exact ih r q e2 hL.2.2 hM.2.2 (fun y hy => hp y (List.mem_cons_of_mem _ hy))
theorem jn_parse (L : List (Bool × It)) (h : itOk L) (hp : ∀ y ∈ L, y.2.pl = true) : parseP (jn [] (L.map (fun y => y.2))) = parseP (itT L) := by
  cases L with
  | nil => rfl
  | cons x r =>
    obtain ⟨b, x⟩ := x
    have hx : x.ok := h.1
    have hr : ∀ y ∈ r.map (fun y => y.2), y.ok := fun y hy => by
      obtain ⟨z, hz, rfl⟩ := List.mem_map.1 hy
      exact it_all r h.2.2 z hz
    rw [List.map_cons, jn_nil x _ hx]
    refine (parse_TE (fun n => te_it n ((b, x) :: r) ((false, x) :: (r.map (fun y => y.2)).map (fun x => (true, x))) ?_ h ⟨hx, fun _ => ?_, it_spaced _ hr⟩ hp)).symm
    · simp only [List.map_cons, List.map_map]
      congr 1
    · cases r with
      | nil => trivial
      | cons y q => exact .inl rfl
theorem run_lf {b : UInt8} (h : Lx.runU b = true) : ¬ b = 10 := fun e => by rw [e] at h; revert h; decide
theorem it_lf : ∀ (L : List (Bool × It)), itOk L → ∀ b ∈ itT L, ¬ b = 10
  | [], _, b, hb => by cases hb
  | (f, x) :: r, h, b, hb => by
    have hx : ∀ b ∈ x.tx, ¬ b = 10 := fun b hb => by
      cases x with
      | wd t =>
        obtain ⟨c, q, e, _, ha, _⟩ := Lx.word_start h.1
        exact run_lf (List.all_eq_true.1 ha b hb)
      | dt t =>
        have hd : Lx.dotP t = true := h.1
        simp only [Lx.dotP, Bool.and_eq_true] at hd
        obtain ⟨hq, hw⟩ := hd
        obtain ⟨q, rfl⟩ : ∃ q, t = 46 :: q := by
          unfold Lib.hasPrefix at hq
          cases t with
          | nil => simp [List.isPrefixOf] at hq
          | cons c q => simp [List.isPrefixOf] at hq; exact ⟨q, by rw [hq]⟩
        have hr : Lib.trimPrefix (46 :: q) [46] = q := by unfold Lib.trimPrefix; rw [if_pos hq]; rfl
        rw [hr] at hw
        obtain ⟨c, q', e, _, ha, _⟩ := Lx.word_start hw
        rcases List.mem_cons.1 hb with rfl | hb
        · decide
        · exact run_lf (List.all_eq_true.1 ha b hb)
      | nu u =>
        obtain ⟨ha, _⟩ := Lx.dd_all u
        exact run_lf (Lx.dig_run (List.all_eq_true.1 ha b hb))
      | mk c =>
        rw [List.mem_singleton.1 hb]
        exact (mark_f h.1).2.2.2.2.2
    rcases List.mem_append.1 hb with hb | hb
    · cases f with
      | false => cases hb
      | true => rw [List.mem_singleton.1 hb]; decide
    · rcases List.mem_append.1 hb with hb | hb
      · exact hx b hb
      · exact it_lf r h.2.2 b hb
end Go.Proofs.YtkihaohdcgjioaaGreatDoor
namespace Go.Proofs.YtkihaohdcgjioaaGreatDoor.Lx
open Go.ChangeShapes Go.WideShapes Go.ChangeAt Go.RowKit Go.Deep
set_option linter.unusedVariables false
set_option linter.unusedSimpArgs false
theorem laid_at {P : Program} {W : World} {n : String} {D : DataW Unit} : ∀ {laid : List (String × DataW Unit)} {ps : List MemPlace}, DataW.LaidVars P W laid ps → (n, D) ∈ laid →
    ∃ g t cs fuel p, P.globalNamed n = some g ∧ (P.globals[g]?).map (·.type) = some t ∧ W.var? P n = some cs ∧ DataW.trod (fun _ => ()) P W 0 (fun _ => true) false fuel t cs.toList = some (D, p)
  | [], _, h, hm => by cases hm
  | (m, E) :: L, ps, h, hm => by
    obtain ⟨g, t, cs, f, p, q, hg, ht, hv, hd, hr, _⟩ := h
    rcases List.mem_cons.1 hm with e | hm'
    · cases e
      exact ⟨g, t, cs, f, p, hg, ht, hv, hd⟩
    · exact laid_at hr hm'
theorem arr_flat {H : Type} {enc : TypeId × Value → H} {P : Program} {W : World} {base : Nat} {sp : Nat → Bool} {held : Bool} {fuel : Nat} {t e : TypeId} {n c : Nat} {cs : List Value} {ds : List (DataW H)} {p : List MemPlace}
    (ht : P.underlying t = some (.array n e)) (hc : P.cellsOf e = c) (hcl : P.cellsOf t = n * c) (F : DataW H → List Value)
    (hF : ∀ m cs d p, DataW.trod enc P W base sp held m e cs = some (d, p) → cs = F d)
    (h : DataW.trod enc P W base sp held fuel t cs = some (.agg ds, p)) : cs = ds.flatMap F := by
  obtain ⟨xs, m, rfl, hx, hlen, hxl, hel⟩ := DataW.trod_array ht h
  simp only [Prod.mk.injEq, DataW.agg.injEq] at hx
  obtain ⟨hds, _⟩ := hx
  rw [hc] at hel
  rw [hcl] at hlen
  have key : ∀ (n : Nat) (cs : List Value) (xs : List (DataW H × List MemPlace)), cs.length = n * c → xs.length = n → (∀ i, i < n → DataW.trod enc P W base sp held m e ((cs.drop (i * c)).take c) = xs[i]?) → cs = (xs.map (·.1)).flatMap F := by
    intro n
    induction n with
    | zero =>
      intro cs xs h1 h2 _
      rw [Nat.zero_mul] at h1
      rw [List.length_eq_zero_iff.1 h1, List.length_eq_zero_iff.1 h2]
      rfl
    | succ n ih =>
      intro cs xs h1 h2 h3
      cases xs with
      | nil => simp at h2
      | cons x xs =>
        have e0 := h3 0 (by omega)
        simp only [Nat.zero_mul, List.drop_zero, List.getElem?_cons_zero] at e0
        have e1 := hF m _ x.1 x.2 e0
        have e2 := ih (cs.drop c) xs (by rw [List.length_drop, h1, Nat.succ_mul]; omega) (by simpa using h2) (fun i hi => by
          have := h3 (i + 1) (by omega)
          rw [List.getElem?_cons_succ] at this
          rw [List.drop_drop, show c + i * c = (i + 1) * c from by rw [Nat.succ_mul]; omega]
          exact this)
        simp only [List.map_cons, List.flatMap_cons]
        rw [← e1, ← e2, List.take_append_drop]
  rw [hds]
  exact key n cs xs hlen hxl hel
def fI {H : Type} : DataW H → List Value
  | .lit (.int k n) => [.int k n]
  | _ => []
theorem int_flat {H : Type} {enc : TypeId × Value → H} {P : Program} {W : World} {base : Nat} {sp : Nat → Bool} {held : Bool} {t : TypeId} {k : IntKind} (ht : P.underlying t = some (.int k)) (m : Nat) (cs : List Value) (d : DataW H) (p : List MemPlace) (h : DataW.trod enc P W base sp held m t cs = some (d, p)) : cs = fI d := by
  obtain ⟨n, hs, hx, _⟩ := DataW.trod_int ht h
  simp only [Prod.mk.injEq] at hx
  rw [hs, hx.1]
  rfl
theorem range_of {W : World} {P : Program} {n : String} {g : Nat} {cs : Array Value} {vs : List Value} (hg : P.globalNamed n = some g) (hv : W.var? P n = some cs) (h : cs.toList = vs) : W.rangeAt g 0 vs := fun j v hj => by
  have := World.var?_cell hg hv j
  rw [Nat.zero_add]
  rw [this, ← hj, ← h]
  simp
theorem iface_flat {H : Type} {enc : TypeId × Value → H} {P : Program} {W : World} {base : Nat} {sp : Nat → Bool} {held : Bool} {fuel : Nat} {t : TypeId} {cs : List Value} {x : DataW H × List MemPlace} (ht : ∃ z, P.underlying t = some (.interface z)) (h : DataW.trod enc P W base sp held fuel t cs = some x) : cs = [.nilIface] ∨ ∃ u v, cs = [.iface u v] := by
  obtain ⟨z, ht⟩ := ht
  cases fuel with
  | zero => simp [DataW.trod] at h
  | succ n =>
    unfold DataW.trod at h
    rw [ht] at h
    split at h <;> simp_all
theorem pow_of {W : World} {fuel : Nat} {enc : TypeId × Value → Unit} {sp : Nat → Bool} {held : Bool} {cs : List Value} {p : List MemPlace} (h : DataW.trod enc Tryz.prog W 0 sp held fuel 259 cs = some (Rows.laid_internal_strconv_uint64pow10, p)) : cs = Lib.pow10Tab.map (fun z => Value.int .u64 z) :=
  (arr_flat (c := 1) Tryz.underlying259 (by kernel_rfl) (by kernel_rfl) fI (int_flat Tryz.underlying115) h).trans (by rfl)
theorem err_of {W : World} {g : Nat} {cs : Array Value} {n : String} (hg : Tryz.prog.globalNamed n = some g) (hv : W.var? Tryz.prog n = some cs) (hc : cs.toList = [.nilIface] ∨ ∃ u v, cs.toList = [.iface u v]) : ErrAt W g ∧ g < W.heap.size := by
  rcases hc with hc | ⟨u, v, hc⟩
  · have h1 : W.cell? ⟨g, 0, none⟩ = some .nilIface := by have := range_of hg hv hc 0 .nilIface rfl; rwa [Nat.zero_add] at this
    exact ⟨⟨_, h1, .inl rfl⟩, World.block_lt_of_cell? W _ h1⟩
  · have h1 : W.cell? ⟨g, 0, none⟩ = some (.iface u v) := by have := range_of hg hv hc 0 (.iface u v) rfl; rwa [Nat.zero_add] at this
    exact ⟨⟨_, h1, .inr ⟨u, v, rfl⟩⟩, World.block_lt_of_cell? W _ h1⟩
theorem env_of {W : World} (laid : List (String × DataW Unit)) (hp : (laid.all fun x => x.2.handleName?.isNone) = true) (h : laidMetH Tryz.prog laid W)
    (m9 : ("internal/strconv.uint64pow10", Rows.laid_internal_strconv_uint64pow10) ∈ laid) (m10 : ("strconv.ErrRange", Rows.laid_strconv_ErrRange) ∈ laid) (m11 : ("strconv.ErrSyntax", Rows.laid_strconv_ErrSyntax) ∈ laid) : LEnv W := by
  rw [MakeChecks.laidMetH_plain _ _ _ hp] at h
  obtain ⟨ps, h, _, _⟩ := h
  have e9 : Pow W := by
    obtain ⟨g, t, cs, f, p, hg, ht, hv, hd⟩ := laid_at h m9
    obtain rfl := Option.some.inj ((show Tryz.prog.globalNamed "internal/strconv.uint64pow10" = some 8 by kernel_rfl).symm.trans hg)
    obtain rfl := Option.some.inj ((show (Tryz.prog.globals[8]?).map (·.type) = some 259 by kernel_rfl).symm.trans ht)
    unfold Pow Lib.TabIs
    rw [hv, ← pow_of hd]
  have e10 : ErrAt W 13 ∧ 13 < W.heap.size := by
    obtain ⟨g, t, cs, f, p, hg, ht, hv, hd⟩ := laid_at h m10
    obtain rfl := Option.some.inj ((show Tryz.prog.globalNamed "strconv.ErrRange" = some 13 by kernel_rfl).symm.trans hg)
    obtain rfl := Option.some.inj ((show (Tryz.prog.globals[13]?).map (·.type) = some 104 by kernel_rfl).symm.trans ht)
    exact err_of hg hv (iface_flat ⟨_, Tryz.underlying104⟩ hd)
  have e11 : ErrAt W 12 ∧ 12 < W.heap.size := by
    obtain ⟨g, t, cs, f, p, hg, ht, hv, hd⟩ := laid_at h m11
    obtain rfl := Option.some.inj ((show Tryz.prog.globalNamed "strconv.ErrSyntax" = some 12 by kernel_rfl).symm.trans hg)
    obtain rfl := Option.some.inj ((show (Tryz.prog.globals[12]?).map (·.type) = some 104 by kernel_rfl).symm.trans ht)
    exact err_of hg hv (iface_flat ⟨_, Tryz.underlying104⟩ hd)
  exact ⟨⟨e10.1, e11.1, e10.2, e11.2⟩, e9⟩
theorem byte_cells : Tryz.prog.cellsOf 5 = 1 := by kernel_rfl
theorem byte_bytes : Tryz.prog.bytesOf 5 = 1 := by kernel_rfl
theorem byte_wf {n : Int} (h : (Lit.int .u8 n).wf = true) : 0 ≤ n ∧ n < 256 := by
  simp [Lit.wf, IntKind.min, IntKind.max, IntKind.bits, IntKind.signed] at h; omega
theorem byte_of {n : Int} (h : 0 ≤ n ∧ n < 256) : ∃ c : UInt8, (c.toNat : Int) = n := by
  refine ⟨UInt8.ofNat n.toNat, ?_⟩
  have : n.toNat < 256 := by omega
  rw [UInt8.toNat_ofNat_of_lt' (by simpa [UInt8.size] using this)]
  omega
theorem open_gaps {H : Type} {enc : TypeId × Value → H} {w : World} {base : Nat} {spare : Nat → Bool} {held : Bool} {fuel : Nat} {a : Option Addr} {len cap : Nat} {x : DataW H × List MemPlace}
    (h : DataW.trod enc Tryz.prog w base spare held fuel 24 [.slice a len cap] = some x) :
    (∃ G : Nat → Int, ∀ k, k < len → ∃ b off, a = some ⟨b, off, none⟩ ∧ w.cell? ⟨b, off + k, none⟩ = some (.int .u8 (G k)) ∧ 0 ≤ G k ∧ G k < 256) ∧ ((x.1.weights Tryz.prog 24).all (· ≤ reachBytes) = true → len ≤ 140737488351232) := by
  rcases open_ints Tryz.underlying24 Tryz.underlying5 byte_cells h with ⟨hcs, rfl⟩ | ⟨ad, len', cap', zs, hcs, _, hl, hm, hz, rfl, hcell, hwz⟩
  · simp at hcs
    obtain ⟨rfl, rfl, rfl⟩ := hcs
    exact ⟨⟨fun _ => 0, fun k hk => absurd hk (by omega)⟩, fun _ => Nat.zero_le _⟩
  · simp at hcs
    obtain ⟨rfl, rfl, rfl⟩ := hcs
    have hlz : len ≤ zs.length := by rw [hz]; split <;> omega
    refine ⟨⟨fun k => zs.getD k 0, fun k hk => ?_⟩, ?_⟩
    · obtain ⟨b, off, spot⟩ := ad
      have hs : spot = none := by simpa [Addr.add] using World.cell?_spot (hcell 0 (by omega))
      subst hs
      have hk' : k < zs.length := by omega
      have e1 := hcell k hk'
      rw [add_plain] at e1
      have e2 : zs.getD k 0 = zs[k] := by simp [List.getD, List.getElem?_eq_getElem hk']
      have := byte_wf (hwz _ (List.getElem_mem hk'))
      rw [← e2] at this
      exact ⟨b, off, rfl, e1, this.1, this.2⟩
    · intro hw
      have e : (lits (H := H) .u8 (zs.take len)).length = len := by simp [lits]; omega
      simp only [DataW.weights, Tryz.underlying24, byte_bytes, List.all_cons, Bool.and_eq_true, e] at hw
      have h2 : (len + (lits (H := H) .u8 (zs.drop len)).length) * 1 ≤ 140737488351232 := of_decide_eq_true hw.1
      omega
theorem list_of {α : Type} (P : Nat → α → Prop) : ∀ n, (∀ i, i < n → ∃ x, P i x) → ∃ l : List α, l.length = n ∧ ∀ i x, l[i]? = some x → P i x
  | 0, _ => ⟨[], rfl, fun i x h => by simp at h⟩
  | n + 1, h => by
    obtain ⟨l, hl, hp⟩ := list_of P n (fun i hi => h i (by omega))
    obtain ⟨x, hx⟩ := h n (by omega)
    refine ⟨l ++ [x], by simp [hl], fun i y hy => ?_⟩
    by_cases hi : i < n
    · rw [List.getElem?_append_left (by omega)] at hy; exact hp i y hy
    · have : i < n + 1 := by have := (List.getElem?_eq_some_iff.1 hy).1; simp [hl] at this; exact this
      obtain rfl : i = n := by omega
      rw [List.getElem?_append_right (by omega)] at hy
      simp [hl] at hy
      subst hy; exact hx
theorem open_bytes {H : Type} {enc : TypeId × Value → H} {w : World} {base : Nat} {spare : Nat → Bool} {held : Bool} {fuel : Nat} {a : Option Addr} {len cap : Nat} {x : DataW H × List MemPlace}
    (h : DataW.trod enc Tryz.prog w base spare held fuel 24 [.slice a len cap] = some x) (hw : (x.1.weights Tryz.prog 24).all (· ≤ reachBytes) = true) :
    ∃ l : List UInt8, l.length = len ∧ RestAt w.heap.size w a l ∧ len ≤ cap ∧ len ≤ 140737488351232 := by
  have hcap : len ≤ cap := by
    rcases open_ints Tryz.underlying24 Tryz.underlying5 byte_cells h with ⟨hcs, rfl⟩ | ⟨ad, len', cap', zs, hcs, _, hl, hm, hz, rfl, hcell, hwz⟩
    · simp at hcs
      obtain ⟨rfl, rfl, rfl⟩ := hcs
      exact Nat.le_refl _
    · simp at hcs
      obtain ⟨rfl, rfl, rfl⟩ := hcs
      exact hl
  obtain ⟨⟨G, hG⟩, hb⟩ := open_gaps h
  by_cases z : len = 0
  · exact ⟨[], z.symm, .inl rfl, hcap, hb hw⟩
  obtain ⟨b, off, ha, _⟩ := hG 0 (by omega)
  obtain ⟨l, hl, hp⟩ := list_of (fun i (x : UInt8) => w.cell? ⟨b, off + i, none⟩ = some (.int .u8 (x.toNat : Int))) len (fun i hi => by
    obtain ⟨b', off', ha', hc, h0, h1⟩ := hG i hi
    rw [ha] at ha'
    simp only [Option.some.injEq, Addr.mk.injEq] at ha'
    obtain ⟨rfl, rfl, _⟩ := ha'
    obtain ⟨c, hc2⟩ := byte_of ⟨h0, h1⟩
    exact ⟨c, by rw [hc, hc2]⟩)
  obtain ⟨x0, hx0⟩ : ∃ x0, l[0]? = some x0 := ⟨_, List.getElem?_eq_getElem (by omega)⟩
  have hblk : b < w.heap.size := World.block_lt_of_cell? w _ (hp 0 x0 hx0)
  exact ⟨l, hl, .inr ⟨b, off, hblk, ha, hp⟩, hcap, hb hw⟩
theorem weights_mem {H : Type} {P : Program} {e : TypeId} {p : Nat → Bool} : ∀ {l : List (DataW H)}, (DataW.weightsAll P e l).all p = true → ∀ d ∈ l, (d.weights P e).all p = true
  | [], _, d, hd => by cases hd
  | x :: r, h, d, hd => by
    have h' : (x.weights P e ++ DataW.weightsAll P e r).all p = true := h
    rw [List.all_append, Bool.and_eq_true] at h'
    rcases List.mem_cons.1 hd with rfl | hd
    · exact h'.1
    · exact weights_mem h'.2 d hd
end Go.Proofs.YtkihaohdcgjioaaGreatDoor.Lx
