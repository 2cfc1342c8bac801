import Derived.Test.YtekjfbmebekmeaaGreatMad
namespace Go.Proofs.YtekjfbmebekmeaaGreat
open Go.RowKit
set_option linter.unusedVariables false
set_option linter.unusedSimpArgs false
/-- a region as it lies: its first address, its bytes' block and room, its bytes -/
structure Rg where
  f : Nat
  a : Option Nat
  c : Nat
  d : List UInt8
/-- a row of regions: its block and room, its regions -/
structure Rw where
  g : Nat
  c : Nat
  L : List Rg
def flat (X : List Rw) : List Rg := X.flatMap Rw.L
theorem flat_app (X Y : List Rw) : flat (X ++ Y) = flat X ++ flat Y := by simp [flat]
theorem flat_cons (x : Rw) (X : List Rw) : flat (x :: X) = x.L ++ flat X := by simp [flat]
/-- by rising first addresses -/
def Srt (F : List Rg) : Prop := F.Pairwise (fun x y => x.f < y.f)
/-- the last one that begins at or ahead of an address -/
def upF (F : List Rg) (at_ : Nat) : Option Rg := (F.filter (fun x => decide (x.f ≤ at_))).getLast?
theorem upF_none {F : List Rg} {at_ : Nat} (h : ∀ x ∈ F, at_ < x.f) : upF F at_ = none := by
  unfold upF
  rw [List.filter_eq_nil_iff.2 (fun x hx => by have := h x hx; simp; omega)]
  rfl
theorem upF_some {P Q : List Rg} {y : Rg} {at_ : Nat} (hy : y.f ≤ at_) (h : ∀ x ∈ Q, at_ < x.f) : upF (P ++ y :: Q) at_ = some y := by
  unfold upF
  have hq : Q.filter (fun x => decide (x.f ≤ at_)) = [] := List.filter_eq_nil_iff.2 (fun x hx => by have := h x hx; simp; omega)
  rw [List.filter_append, List.filter_cons_of_pos (by simpa using hy), hq]
  simp
/-- where an address stands among rows: the row and the place in it of the last region that begins at or ahead of it -/
inductive PlIs (X : List Rw) (at_ : Nat) : Int → Int → Prop
  | no : (∀ x ∈ flat X, at_ < x.f) → PlIs X at_ (-1) (-1)
  | yes (A B : List Rw) (x : Rw) (P Q : List Rg) (y : Rg) : X = A ++ x :: B → x.L = P ++ y :: Q → y.f ≤ at_ → (∀ z ∈ Q, at_ < z.f) → (∀ z ∈ flat B, at_ < z.f) → PlIs X at_ A.length P.length
theorem PlIs.up {X : List Rw} {at_ : Nat} {r k : Int} (h : PlIs X at_ r k) : (r = -1 ∧ k = -1 ∧ upF (flat X) at_ = none) ∨ ∃ (i j : Nat) (x : Rw) (y : Rg), r = i ∧ k = j ∧ X[i]? = some x ∧ x.L[j]? = some y ∧ upF (flat X) at_ = some y := by
  cases h with
  | no h => exact .inl ⟨rfl, rfl, upF_none h⟩
  | yes A B x P Q y hX hL hy hQ hB =>
    refine .inr ⟨A.length, P.length, x, y, rfl, rfl, by simp [hX], by simp [hL], ?_⟩
    rw [hX, flat_app, flat_cons, hL]
    rw [show flat A ++ (P ++ y :: Q ++ flat B) = (flat A ++ P) ++ y :: (Q ++ flat B) by simp]
    exact upF_some hy (fun z hz => by
      rcases List.mem_append.1 hz with hz | hz
      · exact hQ z hz
      · exact hB z hz)
/-- the last of what begins at or ahead of an address is one that begins there, or none does -/
theorem upF_hit {F : List Rg} (hs : Srt F) (at_ : Nat) : (∃ y, upF F at_ = some y ∧ y ∈ F ∧ y.f ≤ at_ ∧ (y.f = at_ ↔ ∃ x ∈ F, x.f = at_) ∧ (∀ x ∈ F, x.f ≤ at_ → x.f ≤ y.f)) ∨ (upF F at_ = none ∧ ∀ x ∈ F, at_ < x.f) := by
  cases hu : upF F at_ with
  | none =>
    right
    refine ⟨rfl, fun x hx => ?_⟩
    have := List.getLast?_eq_none_iff.1 hu
    rw [List.filter_eq_nil_iff] at this
    have := this x hx
    simp at this; omega
  | some y =>
    left
    have hm := List.mem_of_getLast? hu
    have hm2 := List.mem_filter.1 hm
    have hle : y.f ≤ at_ := by simpa using hm2.2
    have hall : ∀ x ∈ F, x.f ≤ at_ → x.f ≤ y.f := fun x hx hxa => by
      have hxm : x ∈ F.filter (fun x => decide (x.f ≤ at_)) := List.mem_filter.2 ⟨hx, by simpa using hxa⟩
      have hps : (F.filter (fun x => decide (x.f ≤ at_))).Pairwise (fun x y => x.f < y.f) := List.Pairwise.filter _ hs
      obtain ⟨P, hP⟩ : ∃ P, F.filter (fun x => decide (x.f ≤ at_)) = P ++ [y] := by
        obtain ⟨h0, h1⟩ := List.getLast?_eq_some_iff.1 hu
        exact ⟨_, h1⟩
      rw [hP] at hxm hps
      rcases List.mem_append.1 hxm with h | h
      · have := (List.pairwise_append.1 hps).2.2 x h y (by simp)
        omega
      · simp at h; subst h; omega
    refine ⟨y, rfl, hm2.1, hle, ⟨fun h => ⟨y, hm2.1, h⟩, fun ⟨x, hx, hxa⟩ => ?_⟩, hall⟩
    have := hall x hx (by omega)
    omega
/-- a region put in: what begins ahead of it stands ahead -/
def InsP (F : List Rg) (r : Rg) (F' : List Rg) : Prop := ∃ P Q, F = P ++ Q ∧ F' = P ++ r :: Q ∧ (∀ z ∈ P, z.f ≤ r.f) ∧ ∀ z ∈ Q, r.f < z.f
theorem InsP.srt {F F' : List Rg} {r : Rg} (h : InsP F r F') (hs : Srt F) (hn : ∀ z ∈ F, z.f ≠ r.f) : Srt F' := by
  obtain ⟨P, Q, rfl, rfl, hP, hQ⟩ := h
  obtain ⟨h1, h2, h3⟩ := List.pairwise_append.1 hs
  refine List.pairwise_append.2 ⟨h1, List.pairwise_cons.2 ⟨hQ, h2⟩, fun x hx y hy => ?_⟩
  rcases List.mem_cons.1 hy with rfl | hy
  · have := hP x hx; have := hn x (by simp [hx]); omega
  · exact h3 x hx y hy
theorem InsP.perm {F F' : List Rg} {r : Rg} (h : InsP F r F') : F'.Perm (r :: F) := by
  obtain ⟨P, Q, rfl, rfl, _, _⟩ := h
  exact List.perm_middle
theorem InsP.mem {F F' : List Rg} {r : Rg} (h : InsP F r F') (x : Rg) : x ∈ F' ↔ x = r ∨ x ∈ F := by
  rw [h.perm.mem_iff, List.mem_cons]
end Go.Proofs.YtekjfbmebekmeaaGreat
