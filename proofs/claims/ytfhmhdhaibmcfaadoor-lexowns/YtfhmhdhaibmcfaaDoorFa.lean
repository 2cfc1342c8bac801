import Derived.Test.YtfhmhdhaibmcfaaDoorEx
import Derived.Test.YtfhmhdhaibmcfaaDoorEz
namespace Go.Proofs.YtfhmhdhaibmcfaaDoor
open Go.RowKit
set_option linter.unusedVariables false
set_option linter.unusedSimpArgs false
theorem piece_kind (c : UInt8) (r : List UInt8) (q : Int × List UInt8 × Int) (h : (pieceP (c :: r)).2.1 = some q) : q.1 = 1 ∨ q.1 = 2 ∨ q.1 = 3 ∨ q.1 = 4 := by
  rw [piece_cons] at h
  by_cases k1 : kindP (bI c) = 1
  · rw [if_pos k1] at h; simp at h
  rw [if_neg k1] at h
  by_cases k2 : kindP (bI c) = 2
  · rw [if_pos k2] at h; simp at h
  rw [if_neg k2] at h
  by_cases k3 : kindP (bI c) = 3
  · rw [if_pos k3] at h; simp at h; rw [← h]; exact .inl rfl
  rw [if_neg k3] at h
  by_cases k5 : kindP (bI c) = 5
  · rw [if_pos k5] at h; simp at h; rw [← h]; exact .inr (.inl rfl)
  rw [if_neg k5] at h
  by_cases k4 : kindP (bI c) = 4
  · rw [if_pos k4] at h; simp at h; rw [← h]; exact .inr (.inr (.inl rfl))
  rw [if_neg k4] at h
  by_cases k7 : kindP (bI c) = 7
  · rw [if_pos k7] at h; simp at h; rw [← h]; exact .inr (.inr (.inr rfl))
  rw [if_neg k7] at h; simp at h
theorem scan_kind : ∀ (f : Nat) (l : List UInt8) (q : Int × List UInt8 × Int), q ∈ (scanF f l).2 → q.1 = 1 ∨ q.1 = 2 ∨ q.1 = 3 ∨ q.1 = 4
  | 0, _, q, h => by simp [scanF] at h
  | _ + 1, [], q, h => by simp [scanF] at h
  | f + 1, c :: r, q, h => by
    unfold scanF at h
    split at h
    · simp only [List.mem_append, Option.mem_toList] at h
      rcases h with h | h
      · exact piece_kind c r q h
      · exact scan_kind f _ q h
    · simp at h
theorem line_kind (l : List UInt8) (q : Int × List UInt8 × Int) (h : q ∈ (lineP l).2) : q.1 = 1 ∨ q.1 = 2 ∨ q.1 = 3 ∨ q.1 = 4 := by
  unfold lineP at h
  split at h
  · exact scan_kind _ _ _ h
  · simp at h
theorem num_cons (ln : Nat) (x : Tk) (r : List Tk) : numP ln (x :: r) = (if x.k = 0 then decide (r = []) && decide (x.l = (ln : Int) - 1) else if x.l = ln then numP (if x.k = 5 then ln + 1 else ln) r else false) := rfl
theorem num_raws (ln : Nat) (R : List Tk) : ∀ X : List (Int × List UInt8 × Int), (∀ q ∈ X, q.1 = 1 ∨ q.1 = 2 ∨ q.1 = 3 ∨ q.1 = 4) → numP ln (X.map (mkT ln) ++ R) = numP ln R
  | [], _ => rfl
  | q :: X, h => by
    have hq := h q (by simp)
    show numP ln (mkT ln q :: (X.map (mkT ln) ++ R)) = _
    rw [num_cons]
    have e0 : ¬ (mkT ln q).k = 0 := by show ¬ q.1 = 0; omega
    have e5 : ¬ (mkT ln q).k = 5 := by show ¬ q.1 = 5; omega
    rw [if_neg e0, if_pos (show (mkT ln q).l = (ln : Int) from rfl), if_neg e5]
    exact num_raws ln R X (fun q hq => h q (by simp [hq]))
theorem num_text : ∀ (f n : Nat) (l : List UInt8) (m : Nat) (T : List Tk), l.length ≤ f → textF f n l = (0, m, T) → numP (n + 1) (T ++ [⟨0, [], 0, (m : Int)⟩]) = true
  | 0, n, l, m, T, hl, h => by
    simp [textF] at h
    obtain ⟨rfl, rfl⟩ := h
    simp [numP]
  | f + 1, n, [], m, T, hl, h => by
    simp [textF] at h
    obtain ⟨rfl, rfl⟩ := h
    simp [numP]
  | f + 1, n, c :: r, m, T, hl, h => by
    unfold textF at h
    by_cases hz : (lineP (cutL (c :: r)).1).1 = 0
    · rw [if_pos hz] at h
      simp only [Prod.mk.injEq] at h
      obtain ⟨h1, h2, h3⟩ := h
      have hc := (cutL_len (c :: r) (by simp)).2
      simp only [List.length_cons] at hl hc
      have ih := num_text f (n + 1) (cutL (c :: r)).2 m (textF f (n + 1) (cutL (c :: r)).2).2.2 (by omega) (by rw [← h1, ← h2])
      rw [← h3, List.map_append, List.append_assoc, List.append_assoc, num_raws _ _ _ (line_kind _)]
      show numP (n + 1) (⟨5, [], 0, ((n + 1 : Nat) : Int)⟩ :: ((textF f (n + 1) (cutL (c :: r)).2).2.2 ++ [⟨0, [], 0, (m : Int)⟩])) = true
      rw [num_cons, if_neg (by simp), if_pos rfl, if_pos rfl]
      exact ih
    · rw [if_neg hz] at h
      simp only [Prod.mk.injEq] at h
      exact absurd h.1 hz
theorem num_P (l : List UInt8) (h : (tokensP l).2.2 = 0) : numP 1 (tokensP l).1 = true := by
  unfold tokensP at h ⊢
  by_cases hl : l.length ≤ 16777216
  · rw [if_pos hl] at h ⊢
    by_cases h0 : (textD 0 l).1 = 0
    · rw [if_pos h0] at h ⊢
      exact num_text l.length 0 l _ _ (Nat.le_refl _) (by show textD 0 l = _; rw [← h0])
    · rw [if_neg h0] at h; exact absurd h h0
  · rw [if_neg hl] at h; simp at h
theorem un_bad (ts : List Tk) (h : ¬ (untokP ts).2 = 0) : (untokP ts).1 = [] := by
  unfold untokP at h ⊢
  split
  · split
    · split
      · rename_i h1 h2 h3
        rw [if_pos h1, if_pos h2, if_pos h3] at h
        exact absurd rfl h
      · rfl
    · rfl
  · rfl
theorem tokens_len (l : List UInt8) : (tokensP l).1.length ≤ 33554433 := by
  unfold tokensP
  split
  · split
    · have := textF_len l.length 0 l
      show ((textF l.length 0 l).2.2 ++ _).length ≤ _
      rw [List.length_append]; simp; omega
    · simp
  · simp
end Go.Proofs.YtfhmhdhaibmcfaaDoor
