import Derived.Test.YtikmaoigepoeoaaSvk
namespace Go.Proofs.Ytikmaoigepoeoaa
open Go.RowKit
set_option linter.unusedVariables false
set_option linter.unusedSimpArgs false
/-- CopyBytes of a long list -/
theorem copyW (w : World) (a : Option Addr) (n cap : Nat) (B : List Int) (hn : B.length = n) (hi : BytA w a B) (hm : n ≤ 60000000010000) : Calls Try.prog 12 #[.slice a n cap] w fun e w' => ∃ a1 c1, e = .returned (.slice a1 n c1) ∧ w'.ownsRow w.heap.size 5 1 (.slice a1 n c1) n (bV B) ∧ Out w w' := by
  by_cases hs : n ≤ 3518437208883
  · refine (copyB w a n cap B hn hi hs).mono ?_
    rintro e w' ⟨v, rfl, hown, ho⟩
    obtain ⟨a1, c1, rfl, hA, hc⟩ := owns_bytA hown
    subst hn
    exact ⟨a1, c1, rfl, hown, ho⟩
  · obtain ⟨i0, hi0, hz0, hz1, hz2⟩ := info_parts info8
    cases a with
    | none =>
      obtain rfl : B = [] := by
        rcases hi with h | ⟨b, off, h, _⟩
        · exact h
        · cases h
      exact absurd (by simpa using hn.symm : n = 0) (by omega)
    | some ad =>
      have hcells : ∀ j u, (bV B)[j]? = some u → (w.alloc (.cells #[] 5)).cell? (ad.add j) = some u := by
        intro j u hu
        obtain ⟨hj, rfl⟩ := bV_get hu
        rcases hi with rfl | ⟨b, off, h, hc⟩
        · simp at hj
        · cases h
          rw [WideShapes.add_plain]
          exact cell_later ((Out.refl w).alloc _) (hc j hj)
      go_enter Try.func12, Try.ntmps12
      go_wp2_with (first | (at_builtin; go_loud (refine wpList_append_two rfl (.tmp 3) (.tmp 4) 37 rfl w.heap.size 5 i0 _ 1 Try.underlying37 hi0 hz0 hz1 hz2 rfl _ 0 [] rfl (owns_voidBk w _ _ _ (Nat.le_refl _)) ad n cap (bV B) (by omega) rfl (by rw [bV_len, hn]) hcells (bV_one B) (by omega) (by omega) (by rw [size_alloc]; omega) ?_); intro v1 w1 hown1 hgrow1 hat1; obtain ⟨a1, c1, rfl⟩ := hat1.form))
      go_ret
      refine ⟨a1, c1, by simp, by simpa using hown1, ?_⟩
      exact Chg.out (S := fun k => k = w.heap.size) (Chg.of_grown hgrow1 (fun k h => (Option.some.inj h).symm)) ((Out.refl w).alloc _) (fun k hk => by omega)
section
variable {B : Nat} {U : Nat → Prop} {w0 w w' : World} {p : Nat} {c0 c1 : Int} {fa ha ma ka wa : Value} {fs hs : List Value} {M : List Int} {K W : List Value} {ga : Value} {G : List Value} {v : Value} {n : Nat} {F' : List (Value × List Int)} {L L' : List Int} {K0 W0 G0 : List Value} {x y : Value}
/-- what was kept is at rest -/
theorem It.base (h : It B U w0 w p c0 c1 fa ha ma ka wa fs hs M (K0 ++ [x]) (W0 ++ [y]) ga G v n F' L K0 W0 G0) {l : List Int} (hx : Rd B (fun k => v.ownBlock = some k ∨ Frs F' k) w x l) (hy : Rd B (fun k => v.ownBlock = some k ∨ Frs F' k) w y l) : It B U w0 w p c0 c1 fa ha ma ka wa fs hs M (K0 ++ [x]) (W0 ++ [y]) ga G v n F' L (K0 ++ [x]) (W0 ++ [y]) G0 :=
  ⟨h.arr, h.ga_, h.gf, h.gh, h.gk, h.gw, h.kn, h.fr, h.dv, h.kep.snoc hx hy, h.grd, h.chg⟩
/-- a pair is kept, and is at rest -/
theorem It.keepRest (h : It B U w0 w p c0 c1 fa ha ma ka wa fs hs M K W ga G v n F' L K W G0) {ka' wa' : Value} (e : KeepEnd B p w w' (.int .i64 c0) (.int .i64 c1) (.bool false) fa ha ma ka wa x y ka' wa' K.length K W) (hWK : W.length = K.length) (hU : ∀ k, k = p ∨ ka.ownBlock = some k ∨ wa.ownBlock = some k → k < w0.heap.size → U k)
    {l : List Int} (hx : Rd B (fun k => v.ownBlock = some k ∨ Frs F' k) w x l) (hy : Rd B (fun k => v.ownBlock = some k ∨ Frs F' k) w y l) : It B U w0 w' p c0 c1 fa ha ma ka' wa' fs hs M (K ++ [x]) (W ++ [y]) ga G v n F' L (K ++ [x]) (W ++ [y]) G0 :=
  (h.keep e hWK hU).base (hx.chg e.chg (fun k cur _ hc hk => h.k8 k ⟨cur, hc⟩ hk) (fun _ _ h => h)) (hy.chg e.chg (fun k cur _ hc hk => h.k8 k ⟨cur, hc⟩ hk) (fun _ _ h => h))
end
def NoS (k : Nat) : Prop := (Value.slice none 0 0).ownBlock = some k ∨ Frs [] k
theorem noS (k : Nat) : ¬ NoS k := by
  rintro (h | ⟨x, hx, _⟩)
  · simp [Value.ownBlock] at h
  · cases hx
/-- the lengths of the lists of a row -/
def Lens (G : List Value) (q : Nat) : Prop := ∀ g ∈ G, ∃ a n c, g = .slice a n c ∧ n ≤ q
theorem rd_len {B : Nat} {S : Nat → Prop} {w : World} {a : Option Addr} {n c : Nat} {l : List Int} (h : Rd B S w (.slice a n c) l) : l.length = n ∧ BytA w a l := by
  obtain ⟨a', c', e, hb⟩ := h.bytA
  injection e with e1 e2 e3
  subst e1
  exact ⟨e2.symm, hb⟩
end Go.Proofs.Ytikmaoigepoeoaa
