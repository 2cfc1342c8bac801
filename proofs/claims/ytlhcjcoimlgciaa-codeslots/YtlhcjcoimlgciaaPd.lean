import Derived.Test.YtlhcjcoimlgciaaPf
namespace Go.Proofs.Ytlhcjcoimlgciaa
open Go.RowKit
set_option linter.unusedVariables false
set_option linter.unusedSimpArgs false

theorem info8 : (Try.prog.info? 5).map (fun i => (i.zero, i.size, i.bytes)) = some (some (.int .u8 0), 1, 1) := by kernel_rfl
def bV (B : List Int) : List Value := B.map (Value.int .u8)
theorem owns_row {w : World} {B g n : Nat} {e : TypeId} {f : Nat → Value} {xs : List Value} (h : w.rowIs g e n f) (hB : B ≤ g) (hn : n ≤ maxLen) (hx : xs.length = n) (hf : ∀ j, j < n → xs[j]? = some (f j)) : w.ownsRow B e 1 (.slice (some ⟨g, 0, none⟩) n n) n xs := by
  obtain ⟨c, hb, hs, hc⟩ := h
  refine ⟨by omega, .inr ⟨g, n, c, rfl, hB, hb, Nat.le_refl _, hn, by omega, ?_⟩⟩
  apply List.ext_getElem?
  intro j
  rw [Nat.mul_one, List.getElem?_take]
  by_cases hj : j < n
  · rw [if_pos hj, hf j hj, ← hc j hj]; simp
  · rw [if_neg hj, List.getElem?_eq_none (by omega)]
/-- bytes in memory of the call's own -/
def OwnB (w w' : World) (v : Value) (B : List Int) : Prop := w'.ownsRow w.heap.size 5 1 v B.length (bV B)
/-- Encode's answer -/
def EncIs (w w' : World) (l : List Ins) (v : Value) (k f : Int) : Prop :=
  (v = .slice none 0 0 ∧ RefIs l k f ∧ f ≠ 0) ∨ (k = 0 ∧ f = 0 ∧ (∀ x ∈ l, may x = 0) ∧ OwnB w w' v (encL l) ∧ ∃ g, w.heap.size ≤ g ∧ v = .slice (some ⟨g, 0, none⟩) (encL l).length (encL l).length)
def zrow : Nat → Value := fun _ => .int .u8 0
theorem enc_take (l : List Ins) (k : Nat) (x : Ins) (h : l[k]? = some x) : encL (l.take (k + 1)) = encL (l.take k) ++ enc1 x := by
  rw [List.take_add_one, h, encL_append]; simp [encL]
theorem slots_take (l : List Ins) (k : Nat) : slotsP (l.take k) ≤ slotsP l := by
  have : slotsP l = slotsP (l.take k) + slotsP (l.drop k) := by rw [← slotsP_append, List.take_append_drop]
  omega
theorem slots_le (l : List Ins) : slotsP l ≤ 2 * l.length := by
  have := List.length_filter_le (fun x : Ins => isW x.o) l
  simp only [slotsP]; omega
end Go.Proofs.Ytlhcjcoimlgciaa
