import Derived.Test.YtjlgkcnfdpnlkaaDoorOe
namespace Go.Proofs.YtjlgkcnfdpnlkaaDoor
open Go.RowKit
set_option linter.unusedVariables false
set_option linter.unusedSimpArgs false
/-- a store of what is there already changes nothing -/
theorem setCell_self {w : World} {b j : Nat} {cs : Array Value} {t : TypeId} {fr : Nat × Nat} {u : Value} (h : w.heap[b]? = some (.cells cs t fr)) (hj : cs[j]? = some u) : w.setCell ⟨b, j, none⟩ u = w := by
  have hh : (w.setCell ⟨b, j, none⟩ u).heap = w.heap := by
    apply Array.ext_getElem?
    intro k
    by_cases hk : k = b
    · subst hk
      have hset : cs.setIfInBounds j u = cs := by
        apply Array.ext_getElem?
        intro x
        rw [Array.getElem?_setIfInBounds]
        by_cases hx : j = x
        · subst hx; simp [hj]; exact (Array.getElem?_eq_some_iff.1 hj).1
        · rw [if_neg hx]
      simp [World.setCell, Array.getElem?_modify, h, hset]
    · exact Below.heap_setCell w ⟨b, j, none⟩ u k hk
  cases w
  simp only [World.setCell] at hh ⊢
  simp only [hh]
theorem StAt.self {w : World} {p j : Nat} {cs : Array Value} {u : Value} (h : StAt w p cs) (hj : cs[j]? = some u) : w.setCell ⟨p, j, none⟩ u = w := setCell_self h hj
end Go.Proofs.YtjlgkcnfdpnlkaaDoor
