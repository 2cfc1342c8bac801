import Derived.Test.YtcjhgihpahnnoaaGreatDoorGm
import Derived.Sort.KeysCollected
namespace Go.Proofs.YtcjhgihpahnnoaaGreatDoor
open Go.RowKit
set_option linter.unusedVariables false
set_option linter.unusedSimpArgs false
def wordsS : List (List UInt8) := [[97, 97, 100, 100], [97, 97, 100, 100, 51, 50], [97, 97, 110, 100], [97, 97, 110, 100, 51, 50], [97, 99, 109, 112, 120, 99, 104, 103], [97, 99, 109, 112, 120, 99, 104, 103, 51, 50], [97, 100, 100], [97, 100, 100, 51, 50], [97, 102, 97, 100, 100], [97, 102, 97, 100, 100, 51, 50], [97, 102, 97, 110, 100], [97, 102, 97, 110, 100, 51, 50], [97, 102, 111, 114], [97, 102, 111, 114, 51, 50], [97, 102, 120, 111, 114], [97, 102, 120, 111, 114, 51, 50], [97, 110, 100], [97, 110, 100, 51, 50], [97, 111, 114], [97, 111, 114, 51, 50], [97, 114, 115, 104], [97, 114, 115, 104, 51, 50], [97, 120, 99, 104, 103], [97, 120, 99, 104, 103, 51, 50], [97, 120, 111, 114], [97, 120, 111, 114, 51, 50], [98, 101, 49, 54], [98, 101, 51, 50], [98, 101, 54, 52], [99, 97, 108, 108], [100, 105, 118], [100, 105, 118, 51, 50], [101, 120, 105, 116], [106, 97], [106, 97, 51, 50], [106, 101, 113], [106, 101, 113, 51, 50], [106, 103, 101], [106, 103, 101, 51, 50], [106, 103, 116], [106, 103, 116, 51, 50], [106, 108, 101], [106, 108, 101, 51, 50], [106, 108, 116], [106, 108, 116, 51, 50], [106, 110, 101], [106, 110, 101, 51, 50], [106, 115, 101, 116], [106, 115, 101, 116, 51, 50], [106, 115, 103, 101], [106, 115, 103, 101, 51, 50], [106, 115, 103, 116], [106, 115, 103, 116, 51, 50], [106, 115, 108, 101], [106, 115, 108, 101, 51, 50], [106, 115, 108, 116], [106, 115, 108, 116, 51, 50], [108, 100, 100, 119], [108, 100, 109, 97, 112], [108, 100, 120, 98], [108, 100, 120, 100, 119], [108, 100, 120, 104], [108, 100, 120, 115, 98], [108, 100, 120, 115, 104], [108, 100, 120, 115, 119], [108, 100, 120, 119], [108, 101, 49, 54], [108, 101, 51, 50], [108, 101, 54, 52], [108, 115, 104], [108, 115, 104, 51, 50], [109, 111, 100], [109, 111, 100, 51, 50], [109, 111, 118], [109, 111, 118, 51, 50], [109, 111, 118, 115, 49, 54], [109, 111, 118, 115, 49, 54, 119], [109, 111, 118, 115, 51, 50], [109, 111, 118, 115, 56], [109, 111, 118, 115, 56, 119], [109, 117, 108], [109, 117, 108, 51, 50], [110, 101, 103], [110, 101, 103, 51, 50], [111, 114], [111, 114, 51, 50], [114, 115, 104], [114, 115, 104, 51, 50], [115, 100, 105, 118], [115, 100, 105, 118, 51, 50], [115, 109, 111, 100], [115, 109, 111, 100, 51, 50], [115, 116, 98], [115, 116, 100, 119], [115, 116, 104], [115, 116, 119], [115, 116, 120, 98], [115, 116, 120, 100, 119], [115, 116, 120, 104], [115, 116, 120, 119], [115, 117, 98], [115, 117, 98, 51, 50], [115, 119, 97, 112, 49, 54], [115, 119, 97, 112, 51, 50], [115, 119, 97, 112, 54, 52], [120, 111, 114], [120, 111, 114, 51, 50]]
theorem words_len : wordsS.length = 107 := rfl
theorem words_perm : (strKeys mnDat).isPerm wordsS = true := by decide +kernel
theorem words_sorted : wordsS.Pairwise (fun x y => leB x y = true) := by decide +kernel
theorem words_strict : ∀ k : Fin 106, (wordsS.getD (k.val + 1) []) ≠ (wordsS.getD k.val []) ∧ leB (wordsS.getD (k.val + 1) []) (wordsS.getD k.val []) = false := by decide +kernel
theorem words_of {ss : List (List UInt8)} (h : ss.Perm (strKeys mnDat)) : ss.mergeSort (fun x y => decide (x ≤ y)) = wordsS ∧ ss.length = 107 := by
  have hp : ss.Perm wordsS := h.trans (List.isPerm_iff.1 words_perm)
  refine ⟨(mergeSort_of_perm hp).trans (List.mergeSort_of_pairwise words_sorted), by rw [hp.length_eq]; rfl⟩
theorem mn_words : ∀ x ∈ mnAll, x.1 = [] ∨ x.1 ∈ wordsS := by decide +kernel
theorem words_mn : ∀ x ∈ wordsS, (meanOf x).isSome = true ∧ headOk x = true ∧ x.all runU = true ∧ x.length ≤ 20 := by decide +kernel
theorem mean_words (k : List UInt8) (h : (meanOf k).isSome = true) : k ∈ wordsS := by
  cases hm : meanOf k with
  | none => rw [hm] at h; cases h
  | some m =>
    unfold meanOf at hm
    split at hm
    · cases hm
    · rename_i hk
      unfold lastAt at hm
      cases hf : mnAll.reverse.find? (fun x => x.1 == k) with
      | none => rw [hf] at hm; cases hm
      | some x =>
        have h1 := List.mem_of_find?_eq_some hf
        have h2 := List.find?_some hf
        simp only [beq_iff_eq] at h2
        rcases mn_words x (List.mem_reverse.1 h1) with h3 | h3
        · rw [h2] at h3; exact absurd h3 hk
        · rwa [h2] at h3
/-- what Parse says of a word alone -/
theorem tok_of_run {l : List UInt8} (h : headOk l = true) (ha : l.all runU = true) : (newR l).tok = l := by
  have e := at_run ⟨[], [], 0, 0, 0, 0, 0, [], false, false⟩ l [] h ha rfl
  rw [List.append_nil] at e
  exact congrArg RS.tok e
theorem err_form (l : List UInt8) : (parseP l).e = 40 ↔ meanOf (newR l).tok = none := by
  constructor
  · intro h
    unfold parseP at h
    cases hm : meanOf (newR l).tok with
    | none => rfl
    | some m =>
      rw [hm] at h
      simp only at h
      split at h
      · cases h
      split at h
      · cases h
      · cases h
  · intro h
    unfold parseP
    rw [h]
theorem word_fine (x : List UInt8) (h : x ∈ wordsS) : ¬ (parseP x).e = 40 := by
  obtain ⟨h1, h2, h3, _⟩ := words_mn x h
  rw [err_form, tok_of_run h2 h3]
  intro e
  rw [e] at h1
  cases h1
/-- a word of inner bytes is a mnemonic just if it is in the list -/
theorem word_iff (x : List UInt8) (ha : x.all runU = true) : (x ∈ wordsS) ↔ ¬ (parseP x).e = 40 := by
  refine ⟨word_fine x, fun h => ?_⟩
  rw [err_form] at h
  by_cases hh : headOk x = true
  · rw [tok_of_run hh ha] at h
    refine mean_words x ?_
    cases hm : meanOf x with
    | none => exact absurd hm h
    | some m => rfl
  · exfalso
    apply h
    cases x with
    | nil => rfl
    | cons c l =>
      have hr : runU c = true := (by simpa using ha : runU c = true ∧ _).1
      have hnb : ¬ c = 32 ∧ ¬ c = 9 := ⟨fun e => (by rw [e] at hr; revert hr; decide), fun e => (by rw [e] at hr; revert hr; decide)⟩
      have hho : headOk [c] = false := by
        cases hb : headOk [c]
        · rfl
        · exact absurd (show headOk (c :: l) = true from hb) hh
      have ht : (newR (c :: l)).tok = [c] := (tok_mark c l hho hnb.1 hnb.2).1
      rw [ht]
      have hc : c = 46 ∨ c = 36 := by
        have : ∀ b : Fin 256, runU (UInt8.ofNat b.val) = true → headOk [UInt8.ofNat b.val] = false → UInt8.ofNat b.val = 46 ∨ UInt8.ofNat b.val = 36 := by decide +kernel
        have hlt : c.toNat < 256 := c.toNat_lt
        have h2 := this ⟨c.toNat, hlt⟩
        simp only [UInt8.ofNat_toNat] at h2
        exact h2 hr hho
      rcases hc with rfl | rfl <;> decide +kernel
end Go.Proofs.YtcjhgihpahnnoaaGreatDoor
