import Derived.Test.YtfhmhdhaibmcfaaDoorFv
namespace Go.Proofs.YtfhmhdhaibmcfaaDoor
open Go.RowKit
set_option linter.unusedVariables false
set_option linter.unusedSimpArgs false
/-- a text's lines -/
def linesF : Nat → List UInt8 → List (List UInt8)
  | 0, _ => []
  | _ + 1, [] => []
  | f + 1, c :: r => (cutL (c :: r)).1 :: linesF f (cutL (c :: r)).2
theorem linesF_eq : ∀ (f g : Nat) (l : List UInt8), l.length ≤ f → l.length ≤ g → linesF f l = linesF g l
  | 0, 0, _, _, _ => rfl
  | 0, g + 1, [], _, _ => rfl
  | 0, g + 1, c :: r, h, _ => by simp at h
  | f + 1, 0, [], _, _ => rfl
  | f + 1, 0, c :: r, _, h => by simp at h
  | f + 1, g + 1, [], _, _ => rfl
  | f + 1, g + 1, c :: r, hf, hg => by
    have hc := (cutL_len (c :: r) (by simp)).2
    simp only [List.length_cons] at hf hg hc
    unfold linesF
    rw [linesF_eq f g _ (by omega) (by omega)]
def linesD (l : List UInt8) : List (List UInt8) := linesF l.length l
theorem linesD_nil : linesD [] = [] := rfl
theorem linesD_cons (l : List UInt8) (hl : ¬ l = []) : linesD l = (cutL l).1 :: linesD (cutL l).2 := by
  cases l with
  | nil => exact absurd rfl hl
  | cons c r =>
    have hc := (cutL_len (c :: r) (by simp)).2
    show linesF (r.length + 1) (c :: r) = _
    unfold linesF
    simp only [List.length_cons] at hc
    rw [linesF_eq r.length _ (cutL (c :: r)).2 (by omega) (Nat.le_refl _)]
    rfl
theorem linesF_len : ∀ (f : Nat) (l : List UInt8), (linesF f l).length ≤ l.length
  | 0, _ => by simp [linesF]
  | _ + 1, [] => by simp [linesF]
  | f + 1, c :: r => by
    have hc := (cutL_len (c :: r) (by simp)).2
    have ih := linesF_len f (cutL (c :: r)).2
    unfold linesF
    simp only [List.length_cons] at hc ⊢
    omega
/-- the lines' tokens -/
def textL : Nat → List (List UInt8) → Int × Nat × List Tk
  | n, [] => (0, n, [])
  | n, x :: r => if (lineP x).1 = 0 then ((textL (n + 1) r).1, (textL (n + 1) r).2.1, ((lineP x).2 ++ [(5, [], 0)]).map (mkT (n + 1)) ++ (textL (n + 1) r).2.2) else ((lineP x).1, n + 1, [])
theorem textF_lines : ∀ (f n : Nat) (l : List UInt8), textF f n l = textL n (linesF f l)
  | 0, _, _ => rfl
  | _ + 1, _, [] => rfl
  | f + 1, n, c :: r => by
    unfold textF linesF textL
    rw [textF_lines f (n + 1)]
theorem textD_lines (n : Nat) (l : List UInt8) : textD n l = textL n (linesD l) := textF_lines _ _ _
theorem lcut_at (p r : List UInt8) (h : ∀ x ∈ p, ¬ x = 10) : cutL (p ++ 10 :: r) = (p, r) := by
  have h1 : ∀ x ∈ p, (!(x == (10 : UInt8))) = true := fun x hx => by simpa using h x hx
  unfold cutL
  rw [List.takeWhile_append_of_pos h1, List.dropWhile_append_of_pos h1]
  simp
theorem lcut_none (p : List UInt8) (h : ∀ x ∈ p, ¬ x = 10) : cutL p = (p, []) := by
  have h1 : ∀ x ∈ p, (!(x == (10 : UInt8))) = true := fun x hx => by simpa using h x hx
  have h2 : p.takeWhile (fun b => !(b == 10)) = p := by
    have := List.takeWhile_append_of_pos (l₂ := []) h1
    simpa using this
  have h3 : p.dropWhile (fun b => !(b == 10)) = [] := by
    have := List.dropWhile_append_of_pos (l₂ := []) h1
    simpa using this
  unfold cutL
  rw [h2, h3]
  rfl
/-- the piece of a list from f to j -/
def lcutP (l : List UInt8) (f j : Nat) : List UInt8 := (l.drop f).take (j - f)
theorem lcutP_len (l : List UInt8) (f j : Nat) (h : j ≤ l.length) : (lcutP l f j).length = j - f := by simp [lcutP]; omega
theorem lcutP_mem {l : List UInt8} {f j : Nat} (h : ∀ k, f ≤ k → k < j → ¬ l[k]? = some 10) : ∀ x ∈ lcutP l f j, ¬ x = 10 := fun x hx e => by
  obtain ⟨k, hk, he⟩ := List.getElem_of_mem hx
  have hk2 : k < j - f := by have := hk; simp [lcutP] at this; omega
  have e2 : (lcutP l f j)[k]? = some x := by rw [List.getElem?_eq_getElem hk, he]
  unfold lcutP at e2
  rw [List.getElem?_take, if_pos hk2, List.getElem?_drop] at e2
  exact h (f + k) (by omega) (by omega) (by rw [e2, e])
theorem ldrop_cut (l : List UInt8) (f j : Nat) (x : UInt8) (hf : f ≤ j) (hx : l[j]? = some x) : l.drop f = lcutP l f j ++ x :: l.drop (j + 1) := by
  have h1 : l.drop f = (l.drop f).take (j - f) ++ (l.drop f).drop (j - f) := (List.take_append_drop _ _).symm
  rw [List.drop_drop, show f + (j - f) = j by omega] at h1
  obtain ⟨hj, he⟩ := List.getElem?_eq_some_iff.1 hx
  rw [h1, List.drop_eq_getElem_cons hj, he]
  rfl
/-- strings of the call's own -/
def sV (D : List (List UInt8)) : List Value := D.map (fun x => .string ⟨x.toArray⟩)
theorem sV_len (D : List (List UInt8)) : (sV D).length = D.length := by simp [sV]
theorem sV_one (D : List (List UInt8)) : ∀ u ∈ sV D, u.oneCell' = true := fun u hu => by
  simp only [sV, List.mem_map] at hu
  obtain ⟨b, _, rfl⟩ := hu
  rfl
def OwS (B : Nat) (v : Value) (D : List (List UInt8)) (w : World) : Prop := w.ownsRow B 9 1 v D.length (sV D)
theorem infoS : (Tryd.prog.info? 9).map (fun i => (i.zero, i.size, i.bytes)) = some (some (.string ⟨#[]⟩), 1, 16) := by kernel_rfl
theorem RestAt.piece {N : Nat} {w : World} {b off : Nat} {l : List UInt8} (hb : b < N) (h : ∀ k x, l[k]? = some x → w.cell? ⟨b, off + k, none⟩ = some (.int .u8 (x.toNat : Int))) (f j : Nat) : RestAt N w (some ⟨b, off + f, none⟩) (lcutP l f j) := by
  refine .inr ⟨b, off + f, hb, rfl, fun k x hx => ?_⟩
  unfold lcutP at hx
  rw [List.getElem?_take] at hx
  split at hx
  · rw [List.getElem?_drop] at hx
    rw [Nat.add_assoc]
    exact h _ _ hx
  · cases hx
end Go.Proofs.YtfhmhdhaibmcfaaDoor
