import Derived.Test.YtbdmbicnlfcclaaSqm
import Derived.Test.YtbdmbicnlfcclaaSyv
namespace Go.Proofs.Ytbdmbicnlfcclaa
open Go.ChangeShapes Go.WideShapes Go.ChangeAt Go.RowKit Go.Deep
set_option linter.unusedVariables false
set_option linter.unusedSimpArgs false
theorem rowB_cells : Try.prog.cellsOf 37 = 1 := by kernel_rfl
theorem bulk_mem {H : Type} {l : List (DataW H)} {d : DataW H} (h : d ∈ l) : Rows.uptoBulk d ≤ Rows.uptoBulkAll l := by
  induction l with
  | nil => cases h
  | cons x r ih =>
    simp only [Rows.uptoBulkAll]
    rcases List.mem_cons.1 h with rfl | h
    · omega
    · have := ih h; omega
set_option maxRecDepth 20000 in
/-- texts that came in -/
theorem open_bytessU {H : Type} {enc : TypeId × Value → H} {w : World} {base : Nat} {spare : Nat → Bool} {held : Bool} {fuel : Nat} {a : Option Addr} {len cap : Nat} {x : DataW H × List MemPlace}
    (h : DataW.trod enc Try.prog w base spare held fuel 29 [.slice a len cap] = some x) : ∃ LL : List (List UInt8), LL.length = len ∧ LbAt w a LL ∧ len ≤ cap ∧ len ≤ Rows.uptoBulk x.1 ∧ (∀ l ∈ LL, l.length ≤ Rows.uptoBulk x.1) := by
  rcases open_slice Try.underlying29 h with ⟨hcs, rfl⟩ | ⟨ad, l, c, m, n, D, Pl, hcs, hb, hl, hm, hmm, rfl, hx⟩
  · simp at hcs
    obtain ⟨rfl, rfl, rfl⟩ := hcs
    exact ⟨[], rfl, .inl rfl, Nat.le_refl _, Nat.zero_le _, by simp⟩
  · simp at hcs
    obtain ⟨rfl, rfl, rfl⟩ := hcs
    obtain ⟨bk, hbk⟩ : ∃ bk, bk = Rows.uptoBulk (DataW.slice ((List.range len).map D) ((List.range (m - len)).map fun i => D (len + i))) := ⟨_, rfl⟩
    have hb2 := hbk
    simp only [Rows.uptoBulk] at hb2
    have hwl : len ≤ bk := by
      have := bulk_len (H := H) ((List.range len).map D)
      simp only [List.length_map, List.length_range] at this
      omega
    have hwd : ∀ i, i < len → Rows.uptoBulk (D i) ≤ bk := fun i hi => by
      have := bulk_mem (l := (List.range len).map D) (List.mem_map.2 ⟨i, List.mem_range.2 hi, rfl⟩)
      omega
    simp only
    rw [← hbk]
    by_cases z : len = 0
    · subst z; exact ⟨[], rfl, .inl rfl, hl, by omega, by simp⟩
    have hlm : len ≤ m := by rw [hmm]; split <;> omega
    obtain ⟨b, off, spot⟩ := ad
    have hs : spot = none := by
      obtain ⟨cs', h1, h2⟩ := hx 0 (by omega)
      simp only [rowB_cells] at h1
      obtain ⟨_, hlen, hcell⟩ := World.cells?_some h1
      match cs', hlen with
      | [v0], _ =>
        have e0 : w.cell? (((⟨b, off, spot⟩ : Addr).add (0 * 1)).add 0) = some v0 := hcell 0 (by simp)
        simpa [Addr.add] using World.cell?_spot e0
    subst hs
    have key : ∀ i, i < len → ∃ l : List UInt8, (∃ la lc, w.cell? ⟨b, off + i, none⟩ = some (.slice la l.length lc) ∧ RestAt w.heap.size w la l ∧ l.length ≤ lc) ∧ l.length ≤ bk := by
      intro i hi
      obtain ⟨cs', h1, h2⟩ := hx i (by omega)
      simp only [rowB_cells] at h1
      obtain ⟨_, hlen, hcell⟩ := World.cells?_some h1
      match cs', hlen with
      | [v0], _ =>
        have e0 := hcell 0 (by simp)
        simp only [add_plain] at e0
        simp at e0
        obtain ⟨la, ll, lc, rfl⟩ : ∃ la ll lc, v0 = .slice la ll lc := by
          rcases open_slice Try.underlying37 h2 with ⟨hcs, _⟩ | ⟨ad, l, c, m, n, D, Pl, hcs, _⟩
          · simp at hcs; exact ⟨_, _, _, hcs⟩
          · simp at hcs; exact ⟨_, _, _, hcs⟩
        obtain ⟨l, hl1, hr, hc, hb2⟩ := open_bytesU h2
        subst hl1
        have := hwd i hi
        exact ⟨l, ⟨la, lc, e0, hr, hc⟩, Nat.le_trans hb2 this⟩
    obtain ⟨l, hl1, hp⟩ := list_of _ len key
    refine ⟨l, hl1, .inr ⟨b, off, rfl, fun k x hx => (hp k x hx).1⟩, hl, hwl, fun x hx => ?_⟩
    obtain ⟨k, hk, e⟩ := List.getElem_of_mem hx
    exact (hp k x (by rw [List.getElem?_eq_getElem hk, e])).2
end Go.Proofs.Ytbdmbicnlfcclaa
