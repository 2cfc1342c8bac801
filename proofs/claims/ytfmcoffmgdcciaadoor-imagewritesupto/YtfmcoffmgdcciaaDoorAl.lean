import Derived.Test.YtfmcoffmgdcciaaDoorAk
namespace Go.Proofs.YtfmcoffmgdcciaaDoor
open Go.RowKit
open Go.Maps (Keyed)
set_option linter.unusedVariables false
set_option linter.unusedSimpArgs false
/-- texts at an address -/
def StrAt (B : Nat) (w : World) (a : Option Addr) (N : List (List UInt8)) : Prop := N = [] ∨ ∃ b off, b < B ∧ a = some ⟨b, off, none⟩ ∧ ∀ k x, N[k]? = some x → w.cell? ⟨b, off + k, none⟩ = some (.string ⟨x.toArray⟩)
theorem StrAt.below {B : Nat} {w w' : World} {a : Option Addr} {N : List (List UInt8)} (h : StrAt B w a N) (b : Below B w w') : StrAt B w' a N := by
  rcases h with h | ⟨g, o, hg, ha, hc⟩
  · exact .inl h
  · exact .inr ⟨g, o, hg, ha, fun k x hx => (Below.cell b hg).trans (hc k x hx)⟩
theorem StrAt.get {B : Nat} {w : World} {a : Option Addr} {N : List (List UInt8)} (h : StrAt B w a N) {k : Nat} {x : List UInt8} (hx : N[k]? = some x) : ∃ b off, a = some ⟨b, off, none⟩ ∧ b < B ∧ w.cell? ⟨b, off + k, none⟩ = some (.string ⟨x.toArray⟩) := by
  rcases h with rfl | ⟨g, o, hg, ha, hc⟩
  · simp at hx
  · exact ⟨g, o, ha, hg, hc k x hx⟩
def suP : List (List UInt8) → Nat
  | [] => 0
  | x :: r => x.length + 2 + suP r
theorem suP_snoc (N : List (List UInt8)) (x : List UInt8) : suP (N ++ [x]) = suP N + x.length + 2 := by
  induction N with
  | nil => simp [suP]
  | cons y r ih => simp only [List.cons_append, suP, ih]; omega
theorem suP_take (N : List (List UInt8)) (k : Nat) : suP (N.take k) ≤ suP N := by
  induction N generalizing k with
  | nil => simp
  | cons y r ih => cases k with
    | zero => simp [suP]
    | succ k => simp only [List.take_succ_cons, suP]; have := ih k; omega
theorem suP_len (N : List (List UInt8)) : 2 * N.length ≤ suP N := by
  induction N with
  | nil => simp [suP]
  | cons y r ih => simp only [List.length_cons, suP]; omega
end Go.Proofs.YtfmcoffmgdcciaaDoor
