import Derived.Test.YtfhmhdhaibmcfaaDoorFd
namespace Go.Proofs.YtfhmhdhaibmcfaaDoor
open Go.RowKit
set_option linter.unusedVariables false
set_option linter.unusedSimpArgs false
/-- a line without its LFs -/
def strip (l : List UInt8) : List UInt8 := l.filter (fun b => !(b == 10))
theorem strip_lf (l : List UInt8) : (strip l).all (fun b => !(b == 10)) = true := by
  rw [List.all_eq_true]
  intro b hb
  exact (List.mem_filter.1 hb).2
/-- lines, each with its LF -/
def cat (cs : List (List UInt8)) : List UInt8 := cs.flatMap (fun c => c ++ [10])
theorem cat_snoc (cs : List (List UInt8)) (c : List UInt8) : cat (cs ++ [c]) = cat cs ++ (c ++ [10]) := by simp [cat]
/-- the first line that is wrong, from 1 on, and what is wrong there; 0: none -/
def badOf : Nat → List (List UInt8) → Nat × Int
  | _, [] => (0, 0)
  | n, c :: r => if (lineP c).1 = 0 then badOf (n + 1) r else (n + 1, (lineP c).1)
theorem badOf_snoc : ∀ (cs : List (List UInt8)) (n : Nat) (c : List UInt8), badOf n (cs ++ [c]) = if (badOf n cs).1 = 0 then (if (lineP c).1 = 0 then (0, 0) else (n + cs.length + 1, (lineP c).1)) else badOf n cs
  | [], n, c => by simp [badOf]
  | d :: r, n, c => by
    by_cases h : (lineP d).1 = 0
    · have e1 : ∀ y, badOf n (d :: y) = badOf (n + 1) y := fun y => by rw [badOf, if_pos h]
      rw [List.cons_append, e1, e1, badOf_snoc r (n + 1) c]
      simp only [List.length_cons]
      rw [show n + 1 + r.length + 1 = n + (r.length + 1) + 1 by omega]
    · have e1 : ∀ y, badOf n (d :: y) = (n + 1, (lineP d).1) := fun y => by rw [badOf, if_neg h]
      rw [List.cons_append, e1, e1, if_neg (by simp)]
theorem badOf_zero : ∀ (cs : List (List UInt8)) (n : Nat), (badOf n cs).1 = 0 → (badOf n cs).2 = 0
  | [], n, _ => rfl
  | c :: r, n, h => by
    unfold badOf at h ⊢
    by_cases e : (lineP c).1 = 0
    · rw [if_pos e] at h ⊢; exact badOf_zero r (n + 1) h
    · rw [if_neg e] at h; simp at h
theorem badOf_pos : ∀ (cs : List (List UInt8)) (n : Nat), ¬ (badOf n cs).1 = 0 → ¬ (badOf n cs).2 = 0 ∧ (badOf n cs).1 ≤ n + cs.length
  | [], n, h => by simp [badOf] at h
  | c :: r, n, h => by
    unfold badOf at h ⊢
    by_cases e : (lineP c).1 = 0
    · rw [if_pos e] at h ⊢
      have := badOf_pos r (n + 1) h
      exact ⟨this.1, by simp only [List.length_cons]; omega⟩
    · rw [if_neg e]
      exact ⟨e, by simp⟩
/-- what the lines that are right make -/
def wantR : List (List UInt8) → List (Int × List UInt8 × Int)
  | [] => []
  | c :: r => (if (lineP c).1 = 0 then (lineP c).2 ++ [(5, [], 0)] else []) ++ wantR r
theorem wantR_snoc : ∀ (cs : List (List UInt8)) (c : List UInt8), wantR (cs ++ [c]) = wantR cs ++ (if (lineP c).1 = 0 then (lineP c).2 ++ [(5, [], 0)] else [])
  | [], c => by simp [wantR]
  | d :: r, c => by simp only [List.cons_append, wantR, wantR_snoc r c, List.append_assoc]
theorem cat_text : ∀ (cs : List (List UInt8)) (n : Nat), (∀ c ∈ cs, c.all (fun b => !(b == 10)) = true) →
    if (badOf n cs).1 = 0 then ∃ T : List Tk, textD n (cat cs) = (0, n + cs.length, T) ∧ T.map Tk.raw = wantR cs else (textD n (cat cs)).1 = (badOf n cs).2 ∧ (textD n (cat cs)).2.1 = (badOf n cs).1
  | [], n, _ => by simp [badOf, cat, wantR, textD_nil]
  | c :: r, n, h => by
    have hc := h c (by simp)
    have ih := cat_text r (n + 1) (fun d hd => h d (by simp [hd]))
    have e : cat (c :: r) = c ++ 10 :: cat r := by simp [cat]
    have hcut := cut_at (y := cat r) hc
    have hne : ¬ c ++ 10 :: cat r = [] := by simp
    rw [e]
    by_cases h0 : (lineP c).1 = 0
    · have e1 : badOf n (c :: r) = badOf (n + 1) r := by rw [badOf, if_pos h0]
      have e3 : wantR (c :: r) = ((lineP c).2 ++ [(5, [], 0)]) ++ wantR r := by rw [wantR, if_pos h0]
      have ht := textD_ok n (c ++ 10 :: cat r) hne (by rw [hcut]; exact h0)
      rw [hcut] at ht
      simp only at ht
      rw [e1, e3]
      by_cases hb : (badOf (n + 1) r).1 = 0
      · rw [if_pos hb] at ih ⊢
        obtain ⟨T, e1, e2⟩ := ih
        rw [e1] at ht
        refine ⟨_, by rw [ht, show n + 1 + r.length = n + (c :: r).length by simp; omega], ?_⟩
        rw [List.map_append, e2, List.map_map]
        congr 1
        conv => rhs; rw [← List.map_id ((lineP c).2 ++ [(5, [], 0)])]
        exact List.map_congr_left fun a _ => rfl
      · rw [if_neg hb] at ih ⊢
        rw [ht]
        exact ih
    · have e1 : badOf n (c :: r) = (n + 1, (lineP c).1) := by rw [badOf, if_neg h0]
      have ht := textD_bad n (c ++ 10 :: cat r) hne (by rw [hcut]; exact h0)
      rw [hcut] at ht
      simp only at ht
      rw [e1, if_neg (by simp), ht]
      exact ⟨rfl, rfl⟩
/-- Tokens of lines put together -/
theorem cat_tok (cs : List (List UInt8)) (h : ∀ c ∈ cs, c.all (fun b => !(b == 10)) = true) (hl : (cat cs).length ≤ 16777216) :
    if (badOf 0 cs).1 = 0 then ∃ T : List Tk, tokensP (cat cs) = (T ++ [⟨0, [], 0, (cs.length : Int)⟩], 0, 0) ∧ T.map Tk.raw = wantR cs else tokensP (cat cs) = ([], (((badOf 0 cs).1 : Nat) : Int), (badOf 0 cs).2) := by
  have ht := cat_text cs 0 h
  unfold tokensP
  rw [if_pos hl]
  by_cases hb : (badOf 0 cs).1 = 0
  · rw [if_pos hb] at ht ⊢
    obtain ⟨T, e1, e2⟩ := ht
    exact ⟨T, by rw [e1, if_pos rfl]; simp, e2⟩
  · rw [if_neg hb] at ht ⊢
    rw [if_neg (by rw [ht.1]; exact (badOf_pos cs 0 hb).1), ht.1, ht.2]
/-- Tokens of one line -/
theorem one_tok (c : List UInt8) (h : c.all (fun b => !(b == 10)) = true) (hl : (c ++ [10]).length ≤ 16777216) :
    if (lineP c).1 = 0 then ∃ T : List Tk, tokensP (c ++ [10]) = (T ++ [⟨0, [], 0, 1⟩], 0, 0) ∧ T.map Tk.raw = (lineP c).2 ++ [(5, [], 0)] else tokensP (c ++ [10]) = ([], 1, (lineP c).1) := by
  have := cat_tok [c] (by simpa using h) (by simpa [cat] using hl)
  have e : cat [c] = c ++ [10] := by simp [cat]
  rw [e] at this
  by_cases h0 : (lineP c).1 = 0
  · have e1 : badOf 0 [c] = (0, 0) := by rw [badOf, if_pos h0]; rfl
    have e2 : wantR [c] = (lineP c).2 ++ [(5, [], 0)] := by rw [wantR, if_pos h0]; simp [wantR]
    rw [e1, e2] at this
    rw [if_pos h0]
    simpa using this
  · have e1 : badOf 0 [c] = (1, (lineP c).1) := by rw [badOf, if_neg h0]
    rw [e1, if_neg (by simp)] at this
    rw [if_neg h0, this]
    rfl
end Go.Proofs.YtfhmhdhaibmcfaaDoor
