import Derived.Test.YtgakmbeooobhjaaAl
import Derived.Test.YtgakmbeooobhjaaRows
import Derived.WalkKit
import Derived.ProofKit
import Derived.OpenShut
import Derived.ChangeOld
import Derived.LaidMore
import Derived.Deep.Slices
import Derived.ChangeSlices
import Derived.SliceStrings
namespace Go.Proofs.Ytgakmbeooobhjaa
open Go.ChangeShapes Go.WideShapes Go.ChangeAt Go.RowKit Go.Deep
set_option linter.unusedVariables false
set_option linter.unusedSimpArgs false
theorem str_cells : Try.prog.cellsOf 9 = 1 := by kernel_rfl
theorem str_bytes : Try.prog.bytesOf 9 = 16 := by kernel_rfl
theorem weights_mem {H : Type} {P : Program} {e : TypeId} {p : Nat → Bool} : ∀ {l : List (DataW H)}, (DataW.weightsAll P e l).all p = true → ∀ d ∈ l, (d.weights P e).all p = true
  | [], _, d, hd => by cases hd
  | x :: r, h, d, hd => by
    have h' : (x.weights P e ++ DataW.weightsAll P e r).all p = true := h
    rw [List.all_append, Bool.and_eq_true] at h'
    rcases List.mem_cons.1 hd with rfl | hd
    · exact h'.1
    · exact weights_mem h'.2 d hd
theorem str_weight {H : Type} {P : Program} {t : TypeId} {l : List UInt8} (h : ((DataW.lit (.string l) : DataW H).weights P t).all (fun x => decide (x ≤ reachBytes)) = true) : l.length ≤ 140737488351232 := by
  have h' : (decide (l.length ≤ reachBytes) && true) = true := h
  rw [Bool.and_true] at h'
  exact of_decide_eq_true h'
def baL (s : ByteArray) : List UInt8 := s.data.toList
theorem baL_mk (s : ByteArray) : (⟨(baL s).toArray⟩ : ByteArray) = s := by cases s; simp [baL]
set_option maxRecDepth 20000 in
/-- texts that came in -/
theorem open_strs {H : Type} {enc : TypeId × Value → H} {w : World} {base : Nat} {spare : Nat → Bool} {held : Bool} {fuel : Nat} {a : Option Addr} {len cap : Nat} {x : DataW H × List MemPlace}
    (h : DataW.trod enc Try.prog w base spare held fuel 30 [.slice a len cap] = some x) (hw : (x.1.weights Try.prog 30).all (· ≤ reachBytes) = true) :
    ∃ l : List (List UInt8), l.length = len ∧ StrAt w.heap.size w a l ∧ len ≤ cap ∧ len ≤ 140737488355328 ∧ ∀ y ∈ l, y.length ≤ 140737488355328 := by
  rcases open_strings Try.underlying30 Try.underlying9 str_cells h with ⟨hcs, rfl⟩ | ⟨ad, len', cap', ss, hcs, _, hl, hm, hz, rfl, hcell, hwz⟩
  · simp at hcs
    obtain ⟨rfl, rfl, rfl⟩ := hcs
    exact ⟨[], rfl, .inl rfl, Nat.le_refl _, Nat.zero_le _, fun y hy => (by cases hy)⟩
  · simp at hcs
    obtain ⟨rfl, rfl, rfl⟩ := hcs
    have hlz : len ≤ ss.length := by rw [hz]; split <;> omega
    have e : (strs (H := H) (ss.take len)).length = len := by simp [strs]; omega
    simp only [DataW.weights, Try.underlying30, str_bytes, List.all_cons, List.all_append, Bool.and_eq_true, e] at hw
    have h2 : (len + (strs (H := H) (ss.drop len)).length) * 16 ≤ 140737488351232 := of_decide_eq_true hw.1
    have hwe := hw.2.1
    refine ⟨(ss.take len).map baL, by simp; omega, ?_, hl, by omega, fun y hy => ?_⟩
    · by_cases z : len = 0
      · left; rw [z]; simp
      right
      obtain ⟨b, off, spot⟩ := ad
      have hs : spot = none := by simpa [Addr.add] using World.cell?_spot (hcell 0 (by omega))
      subst hs
      have c0 := hcell 0 (by omega)
      refine ⟨b, off, World.block_lt_of_cell? w _ c0, rfl, fun k y hy => ?_⟩
      simp only [List.getElem?_map, List.getElem?_take] at hy
      have hkl : k < len := by
        by_cases hk : k < len
        · exact hk
        · simp [hk] at hy
      rw [if_pos hkl] at hy
      have hks : ss[k]? = some (ss[k]'(by omega)) := List.getElem?_eq_getElem _
      rw [hks] at hy
      simp at hy
      have e1 := hcell k (by omega)
      rw [add_plain] at e1
      rw [e1, ← hy, baL_mk]
      simp [List.getD, hks]
    · obtain ⟨s, hs, rfl⟩ := List.mem_map.1 hy
      have := weights_mem hwe (.lit (.string s.data.toList)) (List.mem_map.2 ⟨s, hs, rfl⟩)
      have := str_weight this
      show s.data.toList.length ≤ _
      omega
end Go.Proofs.Ytgakmbeooobhjaa
