import Derived.Test.YtbdmbicnlfcclaaSfa
namespace Go.Proofs.Ytbdmbicnlfcclaa
open Go.RowKit
set_option linter.unusedVariables false
set_option linter.unusedSimpArgs false
theorem Chg.then_out {S : Nat → Prop} {a b c : World} (h : Chg S a b) (o : Out b c) : Chg S a c := h.trans (T := fun _ => False) (Chg.of_out o) (fun _ hx _ => hx.elim)
/-- a row does not lie in a block of another kind -/
theorem own_kind {B s n : Nat} {w : World} {e t : TypeId} {v : Value} {xs : List Value} {b : Nat} {cs : Array Value} {fr : Nat × Nat} (h : w.ownsRow B e s v n xs) (hb : w.heap[b]? = some (.cells cs t fr)) (hne : ¬ e = t) : ¬ v.ownBlock = some b := fun hv => by
  rcases h.2 with ⟨hx, _⟩ | ⟨g, cap, cur, hx, _, hg, _⟩
  · rw [hx] at hv; cases hv
  · rw [hx] at hv
    simp [Value.ownBlock] at hv
    subst hv
    rw [hb] at hg; simp at hg; exact hne hg.2.1.symm
theorem own_cells {B s n : Nat} {w : World} {e : TypeId} {v : Value} {xs : List Value} {b : Nat} (h : w.ownsRow B e s v n xs) (hb : v.ownBlock = some b) : B ≤ b ∧ ∃ cs fr, w.heap[b]? = some (.cells cs e fr) := by
  rcases h.2 with ⟨hx, _⟩ | ⟨g, cap, cur, hx, hB, hg, _⟩
  · rw [hx] at hb; cases hb
  · rw [hx] at hb
    simp [Value.ownBlock] at hb
    subst hb
    exact ⟨hB, cur, _, hg⟩
end Go.Proofs.Ytbdmbicnlfcclaa
