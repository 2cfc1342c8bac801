import Derived.Test.YtgephenkbbelcaaDoorPc
namespace Go.Proofs.YtgephenkbbelcaaDoor
open Go.RowKit
set_option linter.unusedVariables false
set_option linter.unusedSimpArgs false
theorem form_in (op : Int) (h : formP op ≠ 0) : ∃ l ∈ opsT, op ∈ l := by
  apply Classical.byContradiction
  intro hn
  have := formIn_none op opsT 0 (fun x hx hop => hn ⟨x, hx, hop⟩)
  exact h this
theorem ops_all : ∀ l ∈ opsT, ∀ op ∈ l, (decide (0 ≤ op) && decide (op < 256) && (!(formP op == 10) || isW op)) = true := by decide +kernel
theorem variant_bd {o f : Int} (h : variantP o f = true) : 0 ≤ f ∧ f ≤ 32 := by
  unfold variantP at h
  repeat' split at h
  all_goals simp at h
  all_goals omega
theorem atom_bd {i : Int} (h : atomP i = true) : 0 ≤ i ∧ i ≤ 255 := by
  simp only [atomP, List.contains_eq_mem, decide_eq_true_eq] at h
  have : ∀ x ∈ immsT, 0 ≤ x ∧ x ≤ 255 := by decide
  exact this i h
theorem may_fit (x : Ins) (h : may x = 0) (i2 : -9223372036854775808 ≤ x.i) (i3 : x.i ≤ 9223372036854775807) : Fit x := by
  obtain ⟨o, d, s, f, i⟩ := x
  simp only [may] at h i2 i3
  unfold mayP at h
  by_cases hf : formP o = 0
  · rw [if_pos (by simpa using hf)] at h; simp at h
  rw [if_neg (by simpa using hf)] at h
  cases hO : fitO o d s f i
  · rw [hO] at h; simp at h
  obtain ⟨l, hl, ho⟩ := form_in o hf
  have hk := ops_all l hl o ho
  simp only [Bool.and_eq_true, decide_eq_true_eq, Bool.or_eq_true, Bool.not_eq_true', beq_eq_false_iff_ne] at hk
  obtain ⟨⟨o0, o1⟩, hk⟩ := hk
  simp only [fitO, fitP, Bool.and_eq_true] at hO
  obtain ⟨hd, hs, hof, him⟩ := hO
  have hd' : 0 ≤ d ∧ d < 16 := by
    unfold dstP isReg at hd
    split at hd <;> simp at hd <;> omega
  have hs' : 0 ≤ s ∧ s < 16 := by
    unfold srcP isReg at hs
    repeat' split at hs
    all_goals simp at hs
    all_goals omega
  have hf' : -32768 ≤ f ∧ f ≤ 32767 := by
    unfold offP at hof
    split at hof
    · simp at hof; omega
    · split at hof
      · have : f = 0 := by simpa using ‹(f == 0) = true›
        omega
      · split at hof
        · have := variant_bd hof; omega
        · simp at hof
  have hi' : isW o = false → -2147483648 ≤ i ∧ i ≤ 2147483647 := by
    intro hw
    have h10 : formP o ≠ 10 := by
      rcases hk with hk | hk
      · exact hk
      · rw [hw] at hk; simp at hk
    unfold immP at him
    rw [if_neg (by simp [h10])] at him
    split at him
    · simp at him; omega
    · split at him
      · have := atom_bd him; omega
      · split at him
        · simp at him; omega
        · simp at him; omega
  exact ⟨o0, o1, hd'.1, hd'.2, hs'.1, hs'.2, hf'.1, hf'.2, fun h => (hi' h).1, fun h => (hi' h).2, i2, i3⟩
end Go.Proofs.YtgephenkbbelcaaDoor
