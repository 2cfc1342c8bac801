import Derived.Test.YtjlgkcnfdpnlkaaDoorNb
import Derived.Deep.QuietTactic
import Derived.BigQuiet
namespace Go.Proofs.YtjlgkcnfdpnlkaaDoor
open Go.RowKit Go.Sort
set_option linter.unusedVariables false
set_option linter.unusedSimpArgs false

theorem out_drewN (w : World) (n : Nat) : Out w (w.drewN n) := ⟨rfl, rfl, rfl, Nat.le_refl _, fun _ _ => rfl⟩
def Within (l : List Int) : Prop := ∀ j, j < l.length → 0 ≤ l.getD j 0 ∧ l.getD j 0 ≤ 10 ∧ (0 < j → l.getD (j - 1) 0 < l.getD j 0)
def withinB (l : List Int) : Bool := decide (l.length ≤ 20) && (List.range l.length).all fun j => decide (0 ≤ l.getD j 0) && decide (l.getD j 0 ≤ 10) && (j == 0 || decide (l.getD (j - 1) 0 < l.getD j 0))
theorem within_of {l : List Int} (h : withinB l = true) : Within l ∧ l.length ≤ 1000 := by
  simp only [withinB, Bool.and_eq_true, decide_eq_true_eq, List.all_eq_true, List.mem_range, Bool.or_eq_true, beq_iff_eq] at h
  refine ⟨fun j hj => ?_, by omega⟩
  obtain ⟨⟨h1, h2⟩, h3⟩ := h.2 j hj
  exact ⟨h1, h2, fun h0 => h3.resolve_left (by omega)⟩
theorem rise2_eq (d s : Int) : rise2 d s = Lib.compact (if d ≤ s then [d, s] else [s, d]) := by
  unfold rise2
  congr 1
  split
  · exact sortZ_eq (List.Perm.refl _) (by simp; assumption)
  · exact sortZ_eq (List.Perm.swap _ _ _) (by simp; omega)
theorem rise3_eq (d s : Int) (hd : 0 ≤ d) (hs : 0 ≤ s) : rise3 d s = Lib.compact (0 :: (if d ≤ s then [d, s] else [s, d])) := by
  unfold rise3
  congr 1
  split
  · exact sortZ_eq (List.Perm.refl _) (by simp; omega)
  · exact sortZ_eq (List.Perm.cons _ (List.Perm.swap _ _ _)) (by simp; omega)
theorem reg_nat {n : Int} (h : isReg n = true) : ∃ k : Nat, k < 11 ∧ n = k := by
  simp [isReg] at h
  exact ⟨n.toNat, by omega, by omega⟩
theorem w_one : ∀ k : Nat, k < 11 → withinB [(k : Int)] = true := by decide +kernel
theorem w_two : ∀ k : Nat, k < 11 → ∀ j : Nat, j < 11 → withinB (Lib.compact (if (k : Int) ≤ (j : Int) then [(k : Int), (j : Int)] else [(j : Int), (k : Int)])) = true := by decide +kernel
theorem w_three : ∀ k : Nat, k < 11 → ∀ j : Nat, j < 11 → withinB (Lib.compact (0 :: (if (k : Int) ≤ (j : Int) then [(k : Int), (j : Int)] else [(j : Int), (k : Int)]))) = true := by decide +kernel
theorem wb_one {d : Int} (h : isReg d = true) : withinB [d] = true := by
  obtain ⟨k, hk, rfl⟩ := reg_nat h
  exact w_one k hk
theorem wb_two {d s : Int} (h : isReg d = true) (g : isReg s = true) : withinB (rise2 d s) = true := by
  obtain ⟨k, hk, rfl⟩ := reg_nat h
  obtain ⟨j, hj, rfl⟩ := reg_nat g
  rw [rise2_eq]; exact w_two k hk j hj
theorem wb_three {d s : Int} (h : isReg d = true) (g : isReg s = true) : withinB (rise3 d s) = true := by
  obtain ⟨k, hk, rfl⟩ := reg_nat h
  obtain ⟨j, hj, rfl⟩ := reg_nat g
  rw [rise3_eq _ _ (by omega) (by omega)]; exact w_three k hk j hj
def regB (op : Int) : Bool :=
  (!(formP op == 3) || (useD op 3 && useS op 3 == hasSrc op)) && (!(formP op == 2) || useD op 2) && (!(formP op == 4) || (useD op 4 && useS op 4)) && (!(formP op == 5) || (useD op 5 && (!(bits .and .i64 op 7 == 3) || useS op 5))) &&
  (!(formP op == 6) || (useD op 6 && useS op 6)) && (!(formP op == 8) || (useD op 8 && useS op 8 == hasSrc op)) && (!(formP op == 10) || useD op 10)
theorem reg_kinds : ∀ l ∈ opsT, ∀ op ∈ l, regB op = true := by decide +kernel
theorem may_ok {o d s f i : Int} (h : mayP o d s f i = 0) : (formP o == 0) = false ∧ fitO o d s f i = true ∧ wholeP o d s f i = formP o := by
  unfold mayP at h
  cases h1 : (formP o == 0)
  · cases h2 : fitO o d s f i
    · simp [h1, h2] at h
    · simp [wholeP, h1, h2]
  · simp [h1] at h
theorem within_lists {o d s f i : Int} (h : mayP o d s f i = 0) : withinB (writesP o d s f i) = true ∧ withinB (readsP o d s f i) = true := by
  obtain ⟨h0, hfit, hwh⟩ := may_ok h
  obtain ⟨l, hl, ho⟩ := form_mem o h0
  have hk := reg_kinds l hl o ho
  simp only [fitO, fitP, Bool.and_eq_true] at hfit
  obtain ⟨hd, hs, _, _⟩ := hfit
  unfold writesP readsP
  rw [hwh]
  unfold regB at hk
  generalize formP o = c at *
  clear h h0 hwh hl ho
  by_cases c3 : c = 3
  · subst c3
    simp at hk
    simp [dstP, hk.1] at hd
    refine ⟨wb_one hd, ?_⟩
    show withinB (binL o d s) = true
    unfold binL
    cases h1 : hasSrc o
    · cases h2 : movesP o
      · simpa using wb_one hd
      · rfl
    · rw [h1] at hk
      simp [srcP, hk.2] at hs
      cases h2 : movesP o
      · simpa using wb_two hd hs
      · simpa using wb_one hs
  by_cases c2 : c = 2
  · subst c2
    simp at hk
    simp [dstP, hk] at hd
    exact ⟨wb_one hd, wb_one hd⟩
  by_cases c4 : c = 4
  · subst c4
    simp at hk
    simp [dstP, hk.1] at hd
    simp [srcP, hk.2] at hs
    exact ⟨wb_one hd, wb_one hs⟩
  by_cases c10 : c = 10
  · subst c10
    simp at hk
    simp [dstP, hk] at hd
    exact ⟨wb_one hd, rfl⟩
  by_cases c6 : c = 6
  · subst c6
    simp at hk
    simp [dstP, hk.1] at hd
    simp [srcP, hk.2] at hs
    refine ⟨?_, ?_⟩
    · show withinB (atomW s i) = true
      unfold atomW
      split
      · rfl
      · split
        · exact wb_one hs
        · rfl
    · show withinB (atomL d s i) = true
      unfold atomL
      split
      · exact wb_three hd hs
      · exact wb_two hd hs
  by_cases c9 : c = 9
  · subst c9
    refine ⟨rfl, ?_⟩
    show withinB (callL s i) = true
    unfold callL
    repeat' split
    all_goals decide
  by_cases c5 : c = 5
  · subst c5
    simp at hk
    simp [dstP, hk.1] at hd
    refine ⟨rfl, ?_⟩
    show withinB (storeL o d s) = true
    unfold storeL
    split
    · rename_i h1
      have := hk.2.resolve_left (by simpa using h1)
      simp [srcP, this] at hs
      exact wb_two hd hs
    · exact wb_one hd
  by_cases c8 : c = 8
  · subst c8
    simp at hk
    simp [dstP, hk.1] at hd
    refine ⟨rfl, ?_⟩
    show withinB (branchL o d s) = true
    unfold branchL
    cases h1 : hasSrc o
    · simpa using wb_one hd
    · rw [h1] at hk
      simp [srcP, hk.2] at hs
      simpa using wb_two hd hs
  by_cases c1 : c = 1
  · subst c1
    exact ⟨rfl, rfl⟩
  · simp [writesC, readsC, c3, c2, c4, c10, c6, c9, c5, c8, c1]
    decide
end Go.Proofs.YtjlgkcnfdpnlkaaDoor
