import Derived.Test.YtcpfnhhjmmngdaaDoorFg
import Derived.Test.YtcpfnhhjmmngdaaDoorFc
namespace Go.Proofs.YtcpfnhhjmmngdaaDoor
open Go.ChangeShapes Go.WideShapes Go.ChangeAt Go.RowKit Go.Deep
set_option linter.unusedVariables false
set_option linter.unusedSimpArgs false
theorem row_cells : Tryd.prog.cellsOf 22 = 1 := by kernel_rfl
theorem row_bytes : Tryd.prog.bytesOf 22 = 24 := by kernel_rfl
set_option maxRecDepth 20000 in
/-- lists of bytes that came in -/
theorem open_lines {H : Type} {enc : TypeId × Value → H} {w : World} {base : Nat} {spare : Nat → Bool} {held : Bool} {fuel : Nat} {a : Option Addr} {len cap : Nat} {x : DataW H × List MemPlace}
    (h : DataW.trod enc Tryd.prog w base spare held fuel 55 [.slice a len cap] = some x) (hw : (x.1.weights Tryd.prog 55).all (· ≤ reachBytes) = true) : ∃ Ls : List (List UInt8), Ls.length = len ∧ LinesAt w a Ls ∧ (∀ l ∈ Ls, l.length ≤ 140737488351232) ∧ len ≤ 140737488351232 := by
  rcases open_slice Tryd.underlying55 h with ⟨hcs, rfl⟩ | ⟨ad, l, c, m, n, D, Pl, hcs, hb, hl, hm, hmm, rfl, hx⟩
  · simp at hcs
    obtain ⟨rfl, rfl, rfl⟩ := hcs
    exact ⟨[], rfl, .inl rfl, fun x hx => (by cases hx), Nat.zero_le _⟩
  · simp at hcs
    obtain ⟨rfl, rfl, rfl⟩ := hcs
    simp only [DataW.weights, Tryd.underlying55, row_bytes, List.all_cons, List.all_append, Bool.and_eq_true, List.length_map, List.length_range] at hw
    have hwl : (len + (m - len)) * 24 ≤ 140737488351232 := of_decide_eq_true hw.1
    have hwe := hw.2.1
    by_cases z : len = 0
    · subst z; exact ⟨[], rfl, .inl rfl, fun x hx => (by cases hx), by omega⟩
    have hlm : len ≤ m := by rw [hmm]; split <;> omega
    obtain ⟨b, off, spot⟩ := ad
    have hs : spot = none := by
      obtain ⟨cs', h1, h2⟩ := hx 0 (by omega)
      simp only [row_cells] at h1
      obtain ⟨_, hlen, hcell⟩ := World.cells?_some h1
      match cs', hlen with
      | [v0], _ =>
        have e0 : w.cell? (((⟨b, off, spot⟩ : Addr).add (0 * 1)).add 0) = some v0 := hcell 0 (by simp)
        simpa [Addr.add] using World.cell?_spot e0
    subst hs
    have key : ∀ i, i < len → ∃ l : List UInt8, (∃ la lc, w.cell? ⟨b, off + i, none⟩ = some (.slice la l.length lc) ∧ RestAt w.heap.size w la l ∧ l.length ≤ lc) ∧ l.length ≤ 140737488351232 := by
      intro i hi
      obtain ⟨cs', h1, h2⟩ := hx i (by omega)
      simp only [row_cells] at h1
      obtain ⟨_, hlen, hcell⟩ := World.cells?_some h1
      have hwi := weights_mem hwe (D i) (List.mem_map.2 ⟨i, List.mem_range.2 hi, rfl⟩)
      match cs', hlen with
      | [v0], _ =>
        have e0 := hcell 0 (by simp)
        simp only [add_plain] at e0
        simp at e0
        obtain ⟨la, ll, lc, rfl⟩ : ∃ la ll lc, v0 = .slice la ll lc := by
          rcases open_ints Tryd.underlying22 Tryd.underlying5 byte_cells h2 with ⟨hcs, _⟩ | ⟨ad, len', cap', zs, hcs, _⟩
          · simp at hcs; exact ⟨_, _, _, hcs⟩
          · simp at hcs; exact ⟨_, _, _, hcs⟩
        obtain ⟨l, hl1, hr, hc, hb2⟩ := open_bytes h2 hwi
        subst hl1
        exact ⟨l, ⟨la, lc, e0, hr, hc⟩, hb2⟩
    obtain ⟨l, hl1, hp⟩ := list_of _ len key
    refine ⟨l, hl1, .inr ⟨b, off, rfl, fun k x hx => (hp k x hx).1⟩, fun x hx => ?_, by omega⟩
    obtain ⟨k, hk, e⟩ := List.getElem_of_mem hx
    exact (hp k x (by rw [List.getElem?_eq_getElem hk, e])).2
end Go.Proofs.YtcpfnhhjmmngdaaDoor
