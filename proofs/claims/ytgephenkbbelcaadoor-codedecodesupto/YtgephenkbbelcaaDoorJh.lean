import Derived.Test.YtgephenkbbelcaaDoorMe
import Derived.ProofKit
import Derived.OpenShut
import Derived.Lib.LaidTab
import Derived.Test.YtgephenkbbelcaaDoorTie
namespace Go.Proofs.YtgephenkbbelcaaDoor
open Go.RowKit Go.ChangeShapes Go.WideShapes Go.ChangeAt
set_option linter.unusedVariables false
set_option linter.unusedSimpArgs false

theorem gOps : Tryd.prog.globalNamed "spindle/isa.opcodes" = some 0 := by kernel_rfl
theorem gImms : Tryd.prog.globalNamed "spindle/isa.atomicImms" = some 1 := by kernel_rfl
theorem tOps : (Tryd.prog.globals[0]?).map (·.type) = some 86 := by kernel_rfl
theorem tImms : (Tryd.prog.globals[1]?).map (·.type) = some 89 := by kernel_rfl
theorem cellsArr : Tryd.prog.cellsOf 86 = 11 := by kernel_rfl
theorem cellsSl : Tryd.prog.cellsOf 22 = 1 := by kernel_rfl
theorem cellsU8 : Tryd.prog.cellsOf 5 = 1 := by kernel_rfl
theorem cellsArr10 : Tryd.prog.cellsOf 89 = 10 := by kernel_rfl

def listD (l : List Int) : DataW Unit := if l = [] then .nil else .slice (l.map fun z => .lit (.int .u8 z)) []
theorem laidO_eq : (Rows.laid_spindle_isa_opcodes : DataW Unit) = .agg (opsT.map listD) := by
  simp [Rows.laid_spindle_isa_opcodes, opsT, listD]
theorem laidA_eq : (Rows.laid_spindle_isa_atomicImms : DataW Unit) = Lib.tabData .u8 immsT := by
  simp [Rows.laid_spindle_isa_atomicImms, immsT, Lib.tabData]

/-- what the reading of the table of opcodes gives -/
theorem tabO_of {W : World} {base : Nat} {sp : Nat → Bool} {held : Bool} {fuel : Nat} {enc : TypeId × Value → Unit} {cs : Array Value} {p : List MemPlace}
    (hv : W.var? Tryd.prog "spindle/isa.opcodes" = some cs) (h : DataW.trod enc Tryd.prog W base sp held fuel 86 cs.toList = some (Rows.laid_spindle_isa_opcodes, p)) : TabO W := by
  rw [laidO_eq] at h
  obtain ⟨xs, m, rfl, hx, hlen, hxl, hel⟩ := DataW.trod_array Tryd.underlying86 h
  rw [cellsArr] at hlen
  simp only [cellsSl, Nat.mul_one] at hel
  simp only [Prod.mk.injEq, DataW.agg.injEq] at hx
  have hcell := World.var?_cell gOps hv
  refine ⟨fun k => cs[k]?.getD (.slice none 0 0), fun k hk => ?_, fun k hk => ?_⟩
  · have hk' : k < cs.size := by simpa using (show k < cs.toList.length by omega)
    simp only [hcell k, Array.getElem?_eq_getElem hk', Option.getD_some]
  · have hk' : k < cs.size := by simpa using (show k < cs.toList.length by omega)
    have hxk : k < xs.length := by omega
    have hl : k < opsT.length := by simpa [opsT] using hk
    have e1 : xs[k].1 = listD (opsL k) := by
      have := congrArg (fun l => l[k]?) hx.1
      simp only [List.getElem?_map, List.getElem?_eq_getElem hxk, List.getElem?_eq_getElem hl, Option.map_some, Option.some.injEq] at this
      rw [← this, opsL, getD_lt opsT [] k hl]
    have e2 : (cs.toList.drop k).take 1 = [cs[k]] := by
      rw [List.drop_eq_getElem_cons (by simpa using hk'), List.take_succ_cons]; simp
    have h2 := hel k hk
    rw [e2, List.getElem?_eq_getElem hxk, show xs[k] = (listD (opsL k), xs[k].2) from by rw [← e1]] at h2
    simp only [Array.getElem?_eq_getElem hk', Option.getD_some]
    by_cases z : opsL k = []
    · left
      rw [z] at h2 ⊢
      simp only [listD, ↓reduceIte] at h2
      rcases DataW.trod_slice Tryd.underlying22 h2 with ⟨hcs, _⟩ | ⟨a, len, cap, elems, rest, n, _, hcs, hx, _⟩
      · simp at hcs
        exact ⟨hcs, rfl⟩
      · simp at hx
    · right
      simp only [listD, if_neg z] at h2
      obtain ⟨a, cap, hcs, hle, hc⟩ := open_row Tryd.underlying22 cellsU8 h2
      simp only [List.cons.injEq, and_true, List.length_map] at hcs
      have hcell2 : ∀ j, j < (opsL k).length → W.cell? (a.add j) = some (.int .u8 ((opsL k).getD j 0)) := by
        intro j hj
        obtain ⟨v, n, q, hv1, hv2⟩ := hc j _ (by rw [List.getElem?_map, List.getElem?_eq_getElem hj]; rfl)
        obtain ⟨z, r1, r2, _⟩ := DataW.trod_int Tryd.underlying5 hv2
        simp at r1 r2
        rw [hv1, r1, getD_lt _ _ j hj, r2.1]
      obtain ⟨b, off, spot⟩ := a
      have hs : spot = none := by
        have hpos : 0 < (opsL k).length := List.length_pos_iff.2 z
        simpa [Addr.add] using World.cell?_spot (hcell2 0 hpos)
      subst hs
      refine ⟨b, off, cap, hcs, fun j hj => ?_⟩
      have := hcell2 j hj
      rwa [show (⟨b, off, none⟩ : Addr).add j = ⟨b, off + j, none⟩ from by simp only [Addr.add]; split <;> simp_all] at this
theorem tabs_of {W : World} (h : laidMetH Tryd.prog [("spindle/isa.atomicImms", Rows.laid_spindle_isa_atomicImms), ("spindle/isa.opcodes", Rows.laid_spindle_isa_opcodes)] W) : Tabs W := by
  rw [MakeChecks.laidMetH_plain _ _ _ (by kernel_rfl)] at h
  obtain ⟨ps, ⟨g0, t0, cs0, f0, p0, q0, hg0, ht0, hv0, hd0, ⟨g1, t1, cs1, f1, p1, q1, hg1, ht1, hv1, hd1, _, _⟩, _⟩, _, _⟩ := h
  obtain rfl := Option.some.inj (gImms.symm.trans hg0)
  obtain rfl := Option.some.inj (gOps.symm.trans hg1)
  obtain rfl := Option.some.inj (tImms.symm.trans ht0)
  obtain rfl := Option.some.inj (tOps.symm.trans ht1)
  refine ⟨?_, tabO_of hv1 hd1⟩
  rw [laidA_eq] at hd0
  have hT : Lib.TabIs Tryd.prog W "spindle/isa.atomicImms" .u8 immsT := by
    unfold Lib.TabIs
    rw [hv0, ← Lib.cells_of_tab Tryd.underlying89 Tryd.underlying5 cellsU8 cellsArr10 hd0]
  exact fun k hk => hT.cell gImms k (by simpa [immsT] using hk)
end Go.Proofs.YtgephenkbbelcaaDoor
