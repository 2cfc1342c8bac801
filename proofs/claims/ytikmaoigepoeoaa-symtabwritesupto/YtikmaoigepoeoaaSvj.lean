import Derived.Test.YtikmaoigepoeoaaSvi
import Derived.Test.YtikmaoigepoeoaaSvg
namespace Go.Proofs.Ytikmaoigepoeoaa
open Go.RowKit
set_option linter.unusedVariables false
set_option linter.unusedSimpArgs false
/-- within a round of the second loop: the list v is grown, those behind it lie untouched -/
structure It (B : Nat) (U : Nat → Prop) (w0 w : World) (p : Nat) (c0 c1 : Int) (fa ha ma ka wa : Value) (fs hs : List Value) (M : List Int) (K W : List Value) (ga : Value) (G : List Value) (v : Value) (n : Nat) (F' : List (Value × List Int)) (L : List Int) (K0 W0 G0 : List Value) : Prop where
  arr : Arr B w p c0 c1 fa ha ma ka wa fs hs M K W
  ga_ : w.ownsRow B 37 1 ga G.length G
  gf : Dis ga fa
  gh : Dis ga ha
  gk : Dis ga ka
  gw : Dis ga wa
  kn : Kn B w v n L
  fr : Fresh B w F'
  dv : ∀ x ∈ F', Dis v x.1
  kep : Kep B (fun k => v.ownBlock = some k ∨ Frs F' k) w K0 W0
  grd : ∀ g ∈ G0, ∃ l, Rd B (fun k => v.ownBlock = some k ∨ Frs F' k) w g l
  chg : Chg U w0 w
theorem len_le (a b : List Int) : a.length ≤ (a ++ b).length := by simp
theorem AppAt.form {w w' : World} {e : TypeId} {v v' : Value} {n m : Nat} {news : List Value} (h : AppAt w w' e v v' n m news) : ∃ a c, v' = .slice a (n + m) c := by
  rcases h with ⟨g, cap, cur, rfl, rfl, -⟩ | ⟨⟨cap, rfl⟩, -⟩
  · exact ⟨_, _, rfl⟩
  · exact ⟨_, _, rfl⟩
section
variable {B : Nat} {U : Nat → Prop} {w0 w w' : World} {p : Nat} {c0 c1 : Int} {fa ha ma ka wa : Value} {fs hs : List Value} {M : List Int} {K W : List Value} {ga : Value} {G : List Value} {v : Value} {n : Nat} {F' : List (Value × List Int)} {L L' : List Int} {K0 W0 G0 : List Value}
theorem It.sub (h : It B U w0 w p c0 c1 fa ha ma ka wa fs hs M K W ga G v n F' L K0 W0 G0) {k : Nat} (hk : v.ownBlock = some k ∨ Frs F' k) : IsT8 w k := by
  rcases hk with hk | hk
  · exact h.kn.isT8 hk
  · exact h.fr.isT8 hk
/-- v's own block turns, and new ones -/
theorem It.chgv (h : It B U w0 w p c0 c1 fa ha ma ka wa fs hs M K W ga G v n F' L K0 W0 G0) (c : Chg (fun k => v.ownBlock = some k) w w') (hU : ∀ k, v.ownBlock = some k → k < w0.heap.size → U k) (hk : Kn B w' v n L') : It B U w0 w' p c0 c1 fa ha ma ka wa fs hs M K W ga G v n F' L' K0 W0 G0 :=
  ⟨h.arr.chg8 c (fun k _ hk => h.kn.isT8 hk), owns_chg h.ga_ (fun k hk hv => notT8 h.ga_ (by decide) hk (h.kn.isT8 hv)) c, h.gf, h.gh, h.gk, h.gw, hk,
    h.fr.chg c (fun k ⟨x, hx, hk⟩ hv => h.dv x hx k hv hk), h.dv,
    h.kep.chg c (fun k hs _ hv => hs (.inl hv)) (fun _ _ h => h),
    fun g hg => by
      obtain ⟨l, hr⟩ := h.grd g hg
      exact ⟨l, hr.chg c (fun k cur hs _ hv => hs (.inl hv)) (fun _ _ h => h)⟩,
    h.chg.trans c hU⟩
theorem It.out (h : It B U w0 w p c0 c1 fa ha ma ka wa fs hs M K W ga G v n F' L K0 W0 G0) (o : Out w w') : It B U w0 w' p c0 c1 fa ha ma ka wa fs hs M K W ga G v n F' L K0 W0 G0 :=
  ⟨h.arr.out o, owns_out h.ga_ o, h.gf, h.gh, h.gk, h.gw, h.kn.out o, h.fr.out o, h.dv, h.kep.out o,
    fun g hg => by
      obtain ⟨l, hr⟩ := h.grd g hg
      exact ⟨l, hr.chg (Chg.of_out (S := fun _ => False) o) (fun _ _ _ _ h => h) (fun _ _ h => h)⟩,
    h.chg.trans (Chg.of_out (S := fun _ => False) o) (fun _ h _ => h.elim)⟩
/-- an append to v -/
theorem It.append (h : It B U w0 w p c0 c1 fa ha ma ka wa fs hs M K W ga G v n F' L K0 W0 G0) (hU : ∀ k, v.ownBlock = some k → k < w0.heap.size → U k) {wA : World} (o : Out w wA) {v' : Value} {m : Nat} {zs : List Int} (hm : zs.length = m) (hnL : n ≤ L.length)
    (hat : AppAt wA w' 5 v v' n m (bV zs)) (hg : wA.grownBy w' v.ownBlock) (hown : w'.ownsRow B 5 1 v' (n + m) (bV (L.take n) ++ bV zs)) :
    ∃ L', It B U w0 w' p c0 c1 fa ha ma ka wa fs hs M K W ga G v n F' L' K0 W0 G0 ∧ L'.take n = L.take n ∧ L.length ≤ L'.length ∧ Chg (fun k => v.ownBlock = some k) w w' ∧ Gr B (fun k => v.ownBlock = some k ∨ Frs F' k) w' v L' v' (L.take n ++ zs) ∧ (L' = L ∨ L' = L.take n ++ zs ++ L.drop (n + m)) := by
  have hA := h.out o
  have hc : Chg (fun k => v.ownBlock = some k) wA w' := Chg.of_grown hg (fun k hk => hk)
  have hcw : Chg (fun k => v.ownBlock = some k) w w' := (Chg.of_out (S := fun k => v.ownBlock = some k) o).trans hc (fun _ h _ => h)
  have hln : (L.take n ++ zs).length = n + m := by rw [List.length_append, List.length_take, hm]; omega
  rcases kn_step hA.kn hm hat hg with ⟨L', k1, k2, k3, rfl⟩ | ⟨k1, k2, k3⟩
  · refine ⟨_, hA.chgv hc hU k1, ?_, ?_, hcw, ?_, .inr rfl⟩
    · rw [List.append_assoc, List.take_left' (by rw [List.length_take]; omega)]
    · simp; omega
    · rcases k2 with ⟨e, _⟩ | ⟨b, cap, cur, e, _⟩
      · subst e
        simp only [Value.ownBlock] at k3
        rcases hat with ⟨g, cap, cur, rfl, e2, _⟩ | ⟨⟨cap, e2⟩, _⟩
        · cases e2
        · cases e2
      · subst e
        refine .inl ⟨b, cap, k3.symm.trans rfl, by rw [hln], ?_, ?_⟩
        · exact len_le _ _
        · rw [hln, List.take_left' hln]
  · refine ⟨L, hA.chgv hc hU k1, rfl, Nat.le_refl _, hcw, .inr ⟨?_, ?_⟩, .inl rfl⟩
    · rw [hln, bV_app]; exact hown
    · intro k hk hS
      rw [k2] at hk
      obtain rfl := Option.some.inj hk
      exact Nat.lt_irrefl _ (hA.sub hS).lt
/-- a pair is kept -/
theorem It.keep (h : It B U w0 w p c0 c1 fa ha ma ka wa fs hs M K W ga G v n F' L K0 W0 G0) {x y ka' wa' : Value} (e : KeepEnd B p w w' (.int .i64 c0) (.int .i64 c1) (.bool false) fa ha ma ka wa x y ka' wa' K.length K W) (hWK : W.length = K.length) (hU : ∀ k, k = p ∨ ka.ownBlock = some k ∨ wa.ownBlock = some k → k < w0.heap.size → U k) :
    It B U w0 w' p c0 c1 fa ha ma ka' wa' fs hs M (K ++ [x]) (W ++ [y]) ga G v n F' L K0 W0 G0 := by
  have hne : ∀ k, (k = p ∨ ka.ownBlock = some k ∨ wa.ownBlock = some k) → ¬ IsT8 w k := by
    rintro k (rfl | hk | hk)
    · exact st_notT8 h.arr.st
    · exact notT8 h.arr.ka_ (by decide) hk
    · exact notT8 h.arr.wa_ (by decide) hk
  have hrow : ∀ {et : TypeId} {u : Value} {m : Nat} {xs : List Value}, w.ownsRow B et 1 u m xs → et ≠ 32 → Dis u ka → Dis u wa → w'.ownsRow B et 1 u m xs := fun ho het d1 d2 =>
    owns_chg ho (fun k hk hc => by
      rcases hc with rfl | hc | hc
      · exact st_apart h.arr.st het ho hk
      · exact d1 k hk hc
      · exact d2 k hk hc) e.chg
  have hnew : ∀ {et : TypeId} {u : Value} {m : Nat} {xs : List Value}, w.ownsRow B et 1 u m xs → (∀ k, ka'.ownBlock = some k → ka.ownBlock = some k ∨ w.heap.size ≤ k) → Dis u ka → Dis u ka' := fun ho hb d k hk hk' => by
    rcases hb k hk' with h1 | h1
    · exact d k hk h1
    · exact absurd (ownsRow_block_lt ho hk).1 (by omega)
  have hnewW : ∀ {et : TypeId} {u : Value} {m : Nat} {xs : List Value}, w.ownsRow B et 1 u m xs → Dis u wa → Dis u wa' := fun ho d k hk hk' => by
    rcases e.wb k hk' with h1 | h1
    · exact d k hk h1
    · exact absurd (ownsRow_block_lt ho hk).1 (by omega)
  have hmd : Dis ma ka := fun k hk hk' => by
    have h1 := ownsRow_block_lt h.arr.ma_ hk
    exact apart_types h.arr.ma_ h.arr.ka_ (by decide) hk hk'
  have hmd2 : Dis ma wa := fun k hk hk' => apart_types h.arr.ma_ h.arr.wa_ (by decide) hk hk'
  have hks := e.ks
  have hws := e.ws
  refine ⟨⟨e.st, hrow h.arr.fa_ (by decide) h.arr.fk h.arr.fw, hrow h.arr.ha_ (by decide) h.arr.hk h.arr.hw, hrow h.arr.ma_ (by decide) hmd hmd2, by rw [List.length_append]; exact hks, by rw [List.length_append, hWK]; exact hws, h.arr.fh, hnew h.arr.fa_ e.kb h.arr.fk, hnewW h.arr.fa_ h.arr.fw, hnew h.arr.ha_ e.kb h.arr.hk, hnewW h.arr.ha_ h.arr.hw, e.ap, h.arr.bp, Nat.le_trans h.arr.bw e.chg.size⟩,
    hrow h.ga_ (by decide) h.gk h.gw, h.gf, h.gh, hnew h.ga_ e.kb h.gk, hnewW h.ga_ h.gw, h.kn.chg e.chg (fun k hk hc => hne k hc (h.kn.isT8 hk)), h.fr.chg e.chg (fun k hk hc => hne k hc (h.fr.isT8 hk)), h.dv,
    h.kep.chg e.chg (fun k _ h8 hc => hne k hc h8) (fun _ _ h => h), fun g hg => ?_, h.chg.trans e.chg hU⟩
  obtain ⟨l, hr⟩ := h.grd g hg
  exact ⟨l, hr.chg e.chg (fun k cur _ hc hk => hne k hk ⟨cur, hc⟩) (fun _ _ h => h)⟩
/-- the row of grown lists grows -/
theorem It.grow (h : It B U w0 w p c0 c1 fa ha ma ka wa fs hs M K W ga G v n F' L K0 W0 G0) {wA : World} (o : Out w wA) {ga' : Value} {news : List Value} {m : Nat} (hm : news.length = m) (hat : AppAt wA w' 37 ga ga' G.length m news) (hg : wA.grownBy w' ga.ownBlock) (hown : w'.ownsRow B 37 1 ga' (G.length + m) (G ++ news)) (hU : ∀ k, ga.ownBlock = some k → k < w0.heap.size → U k) :
    It B U w0 w' p c0 c1 fa ha ma ka wa fs hs M K W ga' (G ++ news) v n F' L K0 W0 G0 := by
  have hA := h.out o
  have c : Chg (fun k => ga.ownBlock = some k) wA w' := Chg.of_grown hg (fun _ h => h)
  have hne : ∀ k, ga.ownBlock = some k → ¬ IsT8 wA k := fun k hk => notT8 hA.ga_ (by decide) hk
  have hrow : ∀ {et : TypeId} {u : Value} {q : Nat} {xs : List Value}, wA.ownsRow B et 1 u q xs → Dis ga u → w'.ownsRow B et 1 u q xs := fun ho d => owns_chg ho (fun k hk hc => d k hc hk) c
  have hd : ∀ {et : TypeId} {u : Value} {q : Nat} {xs : List Value}, wA.ownsRow B et 1 u q xs → Dis ga u → Dis ga' u := fun ho d k hk hk' => by
    rcases hat.block k hk with h1 | h1
    · exact d k h1 hk'
    · exact absurd (ownsRow_block_lt ho hk').1 (by omega)
  have hgm : Dis ga ma := fun k hk hk' => apart_types hA.ga_ hA.arr.ma_ (by decide) hk hk'
  refine ⟨⟨hA.arr.st.same (c.block p hA.arr.st.lt (fun hk => st_apart hA.arr.st (by decide) hA.ga_ hk)), hrow hA.arr.fa_ hA.gf, hrow hA.arr.ha_ hA.gh, hrow hA.arr.ma_ hgm, hrow hA.arr.ka_ hA.gk, hrow hA.arr.wa_ hA.gw, hA.arr.fh, hA.arr.fk, hA.arr.fw, hA.arr.hk, hA.arr.hw, hA.arr.kw, hA.arr.bp, Nat.le_trans hA.arr.bw c.size⟩,
    by rw [List.length_append, hm]; exact hown, hd hA.arr.fa_ hA.gf, hd hA.arr.ha_ hA.gh, hd hA.arr.ka_ hA.gk, hd hA.arr.wa_ hA.gw, hA.kn.chg c (fun k hk hc => hne k hc (hA.kn.isT8 hk)), hA.fr.chg c (fun k hk hc => hne k hc (hA.fr.isT8 hk)), hA.dv,
    hA.kep.chg c (fun k _ h8 hc => hne k hc h8) (fun _ _ h => h), fun g hg => ?_, hA.chg.trans c hU⟩
  obtain ⟨l, hr⟩ := hA.grd g hg
  exact ⟨l, hr.chg c (fun k cur _ hc hk => hne k hk ⟨cur, hc⟩) (fun _ _ h => h)⟩
end
end Go.Proofs.Ytikmaoigepoeoaa
