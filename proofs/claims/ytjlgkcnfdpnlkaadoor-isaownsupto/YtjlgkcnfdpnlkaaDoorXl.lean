import Derived.Test.YtjlgkcnfdpnlkaaDoorXk
namespace Go.Proofs.YtjlgkcnfdpnlkaaDoor
open Go.RowKit
set_option linter.unusedVariables false
set_option linter.unusedSimpArgs false
section
variable {B : Nat} {U : Nat → Prop} {w0 w w' : World} {p : Nat} {c0 c1 : Int} {fa ha ma ka wa : Value} {fs hs : List Value} {M : List Int} {K W : List Value} {ga : Value} {G : List Value} {v : Value} {n : Nat} {F' : List (Value × List Int)} {L L' : List Int} {K0 W0 G0 : List Value} {x y : Value}
/-- what was kept is at rest -/
theorem It.base (h : It B U w0 w p c0 c1 fa ha ma ka wa fs hs M (K0 ++ [x]) (W0 ++ [y]) ga G v n F' L K0 W0 G0) {l : List Int} (hx : Rd B (fun k => v.ownBlock = some k ∨ Frs F' k) w x l) (hy : Rd B (fun k => v.ownBlock = some k ∨ Frs F' k) w y l) : It B U w0 w p c0 c1 fa ha ma ka wa fs hs M (K0 ++ [x]) (W0 ++ [y]) ga G v n F' L (K0 ++ [x]) (W0 ++ [y]) G0 :=
  ⟨h.arr, h.ga_, h.gf, h.gh, h.gk, h.gw, h.kn, h.fr, h.dv, h.kep.snoc hx hy, h.grd, h.chg, h.mv⟩
/-- a pair is kept, and is at rest -/
theorem It.keepRest (h : It B U w0 w p c0 c1 fa ha ma ka wa fs hs M K W ga G v n F' L K W G0) {ka' wa' : Value} (e : KeepEnd B p w w' (.int .i64 c0) (.int .i64 c1) (.bool false) fa ha ma ka wa x y ka' wa' K.length K W) (hWK : W.length = K.length) (hU : ∀ k, k = p ∨ ka.ownBlock = some k ∨ wa.ownBlock = some k → k < w0.heap.size → U k)
    {l : List Int} (hx : Rd B (fun k => v.ownBlock = some k ∨ Frs F' k) w x l) (hy : Rd B (fun k => v.ownBlock = some k ∨ Frs F' k) w y l) : It B U w0 w' p c0 c1 fa ha ma ka' wa' fs hs M (K ++ [x]) (W ++ [y]) ga G v n F' L (K ++ [x]) (W ++ [y]) G0 :=
  (h.keep e hWK hU).base (hx.chg e.chg (fun k cur _ hc hk => h.k8 k ⟨cur, hc⟩ hk) (fun _ _ h => h)) (hy.chg e.chg (fun k cur _ hc hk => h.k8 k ⟨cur, hc⟩ hk) (fun _ _ h => h))
end
def NoS (k : Nat) : Prop := (Value.slice none 0 0).ownBlock = some k ∨ Frs [] k
theorem noS (k : Nat) : ¬ NoS k := by
  rintro (h | ⟨x, hx, _⟩)
  · simp [Value.ownBlock] at h
  · cases hx
/-- the lengths of the lists of a row -/
def Lens (G : List Value) (q : Nat) : Prop := ∀ g ∈ G, ∃ a n c, g = .slice a n c ∧ n ≤ q
theorem rd_len {B : Nat} {S : Nat → Prop} {w : World} {a : Option Addr} {n c : Nat} {l : List Int} (h : Rd B S w (.slice a n c) l) : l.length = n ∧ BytA w a l := by
  obtain ⟨a', c', e, hb⟩ := h.bytA
  injection e with e1 e2 e3
  subst e1
  exact ⟨e2.symm, hb⟩
end Go.Proofs.YtjlgkcnfdpnlkaaDoor
