import Derived.Test.YtfmcoffmgdcciaaDoorAi
namespace Go.Proofs.YtfmcoffmgdcciaaDoor
open Go.RowKit
open Go.Maps (Keyed)
set_option linter.unusedVariables false
set_option linter.unusedSimpArgs false
theorem cnt_tab {p : Nat} {w : World} {A B C : List (List UInt8)} {nv sv mv : Value} (t : T3 p w A B C nv sv mv) : cntOf p w = A.length := by
  obtain ⟨a, c, rfl⟩ := own_form t.nm
  have : w.cell? ⟨p, 0, none⟩ = some (.slice a A.length c) := t.cell 0
  simp [cntOf, this]
theorem Tab.cnt {p : Nat} {w : World} {N : List (List UInt8)} {F : Nat → Prop} (h : Tab p w N F) : cntOf p w = N.length := by
  obtain ⟨_, _, _, t, _⟩ := h
  exact cnt_tab t
theorem look_all {w : World} {mv : Value} {N : List (List UInt8)} (h : MapOk w mv N) (x : List UInt8) (hl : x.length ≤ 1000000000000) : ∃ (r : Option Nat), mv = .map r ∧ ∀ k, (Instr.lookup 121 (.map r) (.string ⟨x.toArray⟩) true).run Tryd.prog (w.drewN k) = .ok (.tuple #[.int .i64 (plF 1 N x : Nat), .bool (decide (x ∈ N))]) (w.drewN k) := by
  have hk := keyOf_tx x hl
  rcases h with ⟨rfl, rfl⟩ | ⟨b, D, rfl, ho, hm⟩
  · refine ⟨none, rfl, fun k => ?_⟩
    have := Maps.look_nil (w := w.drewN k) true strLaw Tryd.underlying121 (zeroI _) hk
    simpa [plF] using this
  · refine ⟨some b, rfl, fun k => ?_⟩
    have hw0 : (Lit.int .i64 0).wf = true := by decide
    have ho' : (w.drewN k).ownsMap Tryd.prog 9 PE b N.length D := ho
    obtain ⟨v, ps, hr, hv⟩ := ho'.look_ok strLaw Tryd.underlying121 (zeroI _) (zd := .lit (.int .i64 0)) (zp := []) (plainElem_int Tryd.underlying3 hw0) hk
    obtain ⟨c, rfl, hc, hwc⟩ := plainElem_int_inv Tryd.underlying3 hv
    have h1 := congrArg Prod.fst hc
    simp only at h1
    have hcc : c = (plF 1 N x : Nat) := by
      by_cases hx : x ∈ N
      · rw [(hm.2 x).2 hx] at h1
        cases h1; rfl
      · rw [Maps.atKey_of_not_has (by rw [(hm.2 x).1]; simp [hx])] at h1
        have : plF 1 N x = 0 := by
          have := plF_zero N 1 x (Nat.le_refl _)
          have : ¬ 0 < plF 1 N x := fun h => hx (this.2 h)
          omega
        rw [this]
        cases h1; rfl
    rw [hr, (hm.2 x).1, hcc]
end Go.Proofs.YtfmcoffmgdcciaaDoor
