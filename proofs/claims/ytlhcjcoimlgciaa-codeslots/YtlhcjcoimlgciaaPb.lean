import Derived.Test.YtlhcjcoimlgciaaMe
import Derived.Deep.RegionHeld3
import Derived.Deep.QuietTactic
import Derived.BigQuiet
import Derived.Lib.EndianBits
namespace Go.Proofs.Ytlhcjcoimlgciaa
open Go.RowKit
set_option linter.unusedVariables false
set_option linter.unusedSimpArgs false

/-- the first instruction that may not be, and why -/
def RefIs (l : List Ins) (k e : Int) : Prop := ((∀ x ∈ l, may x = 0) ∧ k = 0 ∧ e = 0) ∨ ∃ q : Nat, ∃ x, k = q ∧ l[q]? = some x ∧ may x = e ∧ e ≠ 0 ∧ ∀ j y, j < q → l[j]? = some y → may y = 0
theorem RefIs.one {l : List Ins} {k e k' e' : Int} (h : RefIs l k e) (g : RefIs l k' e') : k = k' ∧ e = e' := by
  rcases h with ⟨h1, rfl, rfl⟩ | ⟨q, x, rfl, h1, rfl, h2, h3⟩ <;> rcases g with ⟨g1, rfl, rfl⟩ | ⟨q', x', rfl, g1, rfl, g2, g3⟩
  · exact ⟨rfl, rfl⟩
  · exact absurd (h1 x' (List.mem_of_getElem? g1)) g2
  · exact absurd (g1 x (List.mem_of_getElem? h1)) h2
  · have : q = q' := by
      rcases Nat.lt_trichotomy q q' with l | l | l
      · exact absurd (g3 q x l h1) h2
      · exact l
      · exact absurd (h3 q' x' l g1) g2
    subst this
    rw [h1] at g1
    cases g1
    exact ⟨rfl, rfl⟩
/-- a row in which the bytes B lie from o on -/
def lay (f : Nat → Value) (o : Nat) (B : List Int) : Nat → Value := fun j => if o ≤ j ∧ j < o + B.length then .int .u8 (gB B (j - o)) else f j
theorem lay_lay (f : Nat → Value) (o : Nat) (A B : List Int) (j : Nat) : lay (lay f o A) (o + A.length) B j = lay f o (A ++ B) j := by
  unfold lay
  simp only [List.length_append]
  by_cases h1 : o ≤ j ∧ j < o + A.length
  · rw [if_neg (by omega), if_pos h1, if_pos (by omega), gB_app _ _ _ (by omega)]
  · by_cases h2 : o + A.length ≤ j ∧ j < o + A.length + B.length
    · rw [if_pos h2, if_pos (by omega)]
      have : gB (A ++ B) (j - o) = gB B (j - (o + A.length)) := by
        simp only [gB, List.getD]
        rw [List.getElem?_append_right (by omega)]
        congr 2; omega
      rw [this]
    · rw [if_neg h2, if_neg h1, if_neg (by omega)]
theorem lay_one (f : Nat → Value) (o : Nat) (z : Int) (j : Nat) : (if j = o then Value.int .u8 z else f j) = lay f o [z] j := by
  unfold lay
  by_cases h : j = o
  · subst h; rw [if_pos rfl, if_pos (by simp)]; simp [gB]
  · rw [if_neg h, if_neg (by simp; omega)]
/-- what a call that lays bytes leaves -/
def Lays (g n o : Nat) (f : Nat → Value) (B : List Int) (w w' : World) : Prop := w'.rowIs g 5 n (lay f o B) ∧ Chg (fun k => k = g) w w'
theorem lay_two (f : Nat → Value) (o : Nat) (x y : Int) (j : Nat) : (if j = o then Value.int .u8 x else if j = o + 1 then .int .u8 y else f j) = lay f o [x, y] j := by
  unfold lay
  by_cases h : j = o
  · subst h; rw [if_pos rfl, if_pos (by simp)]; simp [gB]
  by_cases h1 : j = o + 1
  · subst h1; rw [if_neg h, if_pos rfl, if_pos (by simp)]; simp [gB]
  · rw [if_neg h, if_neg h1, if_neg (by simp; omega)]
theorem lay_four (f : Nat → Value) (o : Nat) (x y z u : Int) (j : Nat) : (if j = o then Value.int .u8 x else if j = o + 1 then .int .u8 y else if j = o + 2 then .int .u8 z else if j = o + 3 then .int .u8 u else f j) = lay f o [x, y, z, u] j := by
  unfold lay
  by_cases h : j = o
  · subst h; rw [if_pos rfl, if_pos (by simp)]; simp [gB]
  by_cases h1 : j = o + 1
  · subst h1; rw [if_neg h, if_pos rfl, if_pos (by simp)]; simp [gB]
  by_cases h2 : j = o + 2
  · subst h2; rw [if_neg h, if_neg h1, if_pos rfl, if_pos (by simp)]; simp [gB]
  by_cases h3 : j = o + 3
  · subst h3; rw [if_neg h, if_neg h1, if_neg h2, if_pos rfl, if_pos (by simp)]; simp [gB]
  · rw [if_neg h, if_neg h1, if_neg h2, if_neg h3, if_neg (by simp; omega)]
end Go.Proofs.Ytlhcjcoimlgciaa
