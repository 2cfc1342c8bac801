import Derived.Test.YtekjfbmebekmeaaGreatGa12
namespace Go.Proofs.YtekjfbmebekmeaaGreat.Bo
open Go.RowKit
set_option linter.unusedVariables false
set_option linter.unusedSimpArgs false
structure It (B : Nat) (U : Nat → Prop) (w0 w : World) (p : Nat) (c0 c1 : Int) (fa ha ma ka wa : Value) (fs hs : List Value) (M : List Int) (K W : List Value) (ga : Value) (G : List Value) (v : Value) (n : Nat) (F' : List (Value × List Int)) (L : List Int) (K0 W0 G0 : List Value) : Prop where
  arr : Arr B w p c0 c1 fa ha ma ka wa fs hs M K W
  ga_ : w.ownsRow B 29 1 ga G.length G
  gf : Dis ga fa
  gh : Dis ga ha
  gk : Dis ga ka
  gw : Dis ga wa
  kn : Kn B w v n L
  fr : Fresh B w F'
  dv : ∀ x ∈ F', Dis v x.1
  kep : Kep B (fun k => v.ownBlock = some k ∨ Frs F' k) w K0 W0
  grd : ∀ g ∈ G0, ∃ l, Rd B (fun k => v.ownBlock = some k ∨ Frs F' k) w g l
  chg : Chg U w0 w
theorem len_le (a b : List Int) : a.length ≤ (a ++ b).length := by simp
theorem AppAt.form {w w' : World} {e : TypeId} {v v' : Value} {n m : Nat} {news : List Value} (h : AppAt w w' e v v' n m news) : ∃ a c, v' = .slice a (n + m) c := by
  rcases h with ⟨g, cap, cur, rfl, rfl, -⟩ | ⟨⟨cap, rfl⟩, -⟩
  · exact ⟨_, _, rfl⟩
  · exact ⟨_, _, rfl⟩
section
variable {B : Nat} {U : Nat → Prop} {w0 w w' : World} {p : Nat} {c0 c1 : Int} {fa ha ma ka wa : Value} {fs hs : List Value} {M : List Int} {K W : List Value} {ga : Value} {G : List Value} {v : Value} {n : Nat} {F' : List (Value × List Int)} {L L' : List Int} {K0 W0 G0 : List Value}
theorem It.sub (h : It B U w0 w p c0 c1 fa ha ma ka wa fs hs M K W ga G v n F' L K0 W0 G0) {k : Nat} (hk : v.ownBlock = some k ∨ Frs F' k) : IsT8 w k := by
  rcases hk with hk | hk
  · exact h.kn.isT8 hk
  · exact h.fr.isT8 hk
theorem It.chgv (h : It B U w0 w p c0 c1 fa ha ma ka wa fs hs M K W ga G v n F' L K0 W0 G0) (c : Chg (fun k => v.ownBlock = some k) w w') (hU : ∀ k, v.ownBlock = some k → k < w0.heap.size → U k) (hk : Kn B w' v n L') : It B U w0 w' p c0 c1 fa ha ma ka wa fs hs M K W ga G v n F' L' K0 W0 G0 :=
  ⟨h.arr.chg8 c (fun k _ hk => h.kn.isT8 hk), owns_chg h.ga_ (fun k hk hv => notT8 h.ga_ (by decide) hk (h.kn.isT8 hv)) c, h.gf, h.gh, h.gk, h.gw, hk,
    h.fr.chg c (fun k ⟨x, hx, hk⟩ hv => h.dv x hx k hv hk), h.dv,
    h.kep.chg c (fun k hs _ hv => hs (.inl hv)) (fun _ _ h => h),
    fun g hg => by
      obtain ⟨l, hr⟩ := h.grd g hg
      exact ⟨l, hr.chg c (fun k cur hs _ hv => hs (.inl hv)) (fun _ _ h => h)⟩,
    h.chg.trans c hU⟩
theorem It.out (h : It B U w0 w p c0 c1 fa ha ma ka wa fs hs M K W ga G v n F' L K0 W0 G0) (o : Out w w') : It B U w0 w' p c0 c1 fa ha ma ka wa fs hs M K W ga G v n F' L K0 W0 G0 :=
  ⟨h.arr.out o, owns_out h.ga_ o, h.gf, h.gh, h.gk, h.gw, h.kn.out o, h.fr.out o, h.dv, h.kep.out o,
    fun g hg => by
      obtain ⟨l, hr⟩ := h.grd g hg
      exact ⟨l, hr.chg (Chg.of_out (S := fun _ => False) o) (fun _ _ _ _ h => h) (fun _ _ h => h)⟩,
    h.chg.trans (Chg.of_out (S := fun _ => False) o) (fun _ h _ => h.elim)⟩
theorem It.append (h : It B U w0 w p c0 c1 fa ha ma ka wa fs hs M K W ga G v n F' L K0 W0 G0) (hU : ∀ k, v.ownBlock = some k → k < w0.heap.size → U k) {wA : World} (o : Out w wA) {v' : Value} {m : Nat} {zs : List Int} (hm : zs.length = m) (hnL : n ≤ L.length)
    (hat : AppAt wA w' 5 v v' n m (bV zs)) (hg : wA.grownBy w' v.ownBlock) (hown : w'.ownsRow B 5 1 v' (n + m) (bV (L.take n) ++ bV zs)) :
    ∃ L', It B U w0 w' p c0 c1 fa ha ma ka wa fs hs M K W ga G v n F' L' K0 W0 G0 ∧ L'.take n = L.take n ∧ L.length ≤ L'.length ∧ Chg (fun k => v.ownBlock = some k) w w' ∧ Gr B (fun k => v.ownBlock = some k ∨ Frs F' k) w' v L' v' (L.take n ++ zs) ∧ (L' = L ∨ L' = L.take n ++ zs ++ L.drop (n + m)) := by
  have hA := h.out o
  have hc : Chg (fun k => v.ownBlock = some k) wA w' := Chg.of_grown hg (fun k hk => hk)
  have hcw : Chg (fun k => v.ownBlock = some k) w w' := (Chg.of_out (S := fun k => v.ownBlock = some k) o).trans hc (fun _ h _ => h)
  have hln : (L.take n ++ zs).length = n + m := by rw [List.length_append, List.length_take, hm]; omega
  rcases kn_step hA.kn hm hat hg with ⟨L', k1, k2, k3, rfl⟩ | ⟨k1, k2, k3⟩
  · refine ⟨_, hA.chgv hc hU k1, ?_, ?_, hcw, ?_, .inr rfl⟩
    · rw [List.append_assoc, List.take_left' (by rw [List.length_take]; omega)]
    · simp; omega
    · rcases k2 with ⟨e, _⟩ | ⟨b, cap, cur, e, _⟩
      · subst e
        simp only [Value.ownBlock] at k3
        rcases hat with ⟨g, cap, cur, rfl, e2, _⟩ | ⟨⟨cap, e2⟩, _⟩
        · cases e2
        · cases e2
      · subst e
        refine .inl ⟨b, cap, k3.symm.trans rfl, by rw [hln], ?_, ?_⟩
        · exact len_le _ _
        · rw [hln, List.take_left' hln]
  · refine ⟨L, hA.chgv hc hU k1, rfl, Nat.le_refl _, hcw, .inr ⟨?_, ?_⟩, .inl rfl⟩
    · rw [hln, bV_app]; exact hown
    · intro k hk hS
      rw [k2] at hk
      obtain rfl := Option.some.inj hk
      exact Nat.lt_irrefl _ (hA.sub hS).lt
theorem It.keep (h : It B U w0 w p c0 c1 fa ha ma ka wa fs hs M K W ga G v n F' L K0 W0 G0) {x y ka' wa' : Value} (e : KeepEnd B p w w' (.int .i64 c0) (.int .i64 c1) (.bool false) fa ha ma ka wa x y ka' wa' K.length K W) (hWK : W.length = K.length) (hU : ∀ k, k = p ∨ ka.ownBlock = some k ∨ wa.ownBlock = some k → k < w0.heap.size → U k) :
    It B U w0 w' p c0 c1 fa ha ma ka' wa' fs hs M (K ++ [x]) (W ++ [y]) ga G v n F' L K0 W0 G0 := by
  have hne : ∀ k, (k = p ∨ ka.ownBlock = some k ∨ wa.ownBlock = some k) → ¬ IsT8 w k := by
    rintro k (rfl | hk | hk)
    · exact st_notT8 h.arr.st
    · exact notT8 h.arr.ka_ (by decide) hk
    · exact notT8 h.arr.wa_ (by decide) hk
  have hrow : ∀ {et : TypeId} {u : Value} {m : Nat} {xs : List Value}, w.ownsRow B et 1 u m xs → et ≠ 42 → Dis u ka → Dis u wa → w'.ownsRow B et 1 u m xs := fun ho het d1 d2 =>
    owns_chg ho (fun k hk hc => by
      rcases hc with rfl | hc | hc
      · exact st_apart h.arr.st het ho hk
      · exact d1 k hk hc
      · exact d2 k hk hc) e.chg
  have hnew : ∀ {et : TypeId} {u : Value} {m : Nat} {xs : List Value}, w.ownsRow B et 1 u m xs → (∀ k, ka'.ownBlock = some k → ka.ownBlock = some k ∨ w.heap.size ≤ k) → Dis u ka → Dis u ka' := fun ho hb d k hk hk' => by
    rcases hb k hk' with h1 | h1
    · exact d k hk h1
    · exact absurd (ownsRow_block_lt ho hk).1 (by omega)
  have hnewW : ∀ {et : TypeId} {u : Value} {m : Nat} {xs : List Value}, w.ownsRow B et 1 u m xs → Dis u wa → Dis u wa' := fun ho d k hk hk' => by
    rcases e.wb k hk' with h1 | h1
    · exact d k hk h1
    · exact absurd (ownsRow_block_lt ho hk).1 (by omega)
  have hmd : Dis ma ka := fun k hk hk' => by
    have h1 := ownsRow_block_lt h.arr.ma_ hk
    exact apart_types h.arr.ma_ h.arr.ka_ (by decide) hk hk'
  have hmd2 : Dis ma wa := fun k hk hk' => apart_types h.arr.ma_ h.arr.wa_ (by decide) hk hk'
  have hks := e.ks
  have hws := e.ws
  refine ⟨⟨e.st, hrow h.arr.fa_ (by decide) h.arr.fk h.arr.fw, hrow h.arr.ha_ (by decide) h.arr.hk h.arr.hw, hrow h.arr.ma_ (by decide) hmd hmd2, by rw [List.length_append]; exact hks, by rw [List.length_append, hWK]; exact hws, h.arr.fh, hnew h.arr.fa_ e.kb h.arr.fk, hnewW h.arr.fa_ h.arr.fw, hnew h.arr.ha_ e.kb h.arr.hk, hnewW h.arr.ha_ h.arr.hw, e.ap, h.arr.bp, Nat.le_trans h.arr.bw e.chg.size⟩,
    hrow h.ga_ (by decide) h.gk h.gw, h.gf, h.gh, hnew h.ga_ e.kb h.gk, hnewW h.ga_ h.gw, h.kn.chg e.chg (fun k hk hc => hne k hc (h.kn.isT8 hk)), h.fr.chg e.chg (fun k hk hc => hne k hc (h.fr.isT8 hk)), h.dv,
    h.kep.chg e.chg (fun k _ h8 hc => hne k hc h8) (fun _ _ h => h), fun g hg => ?_, h.chg.trans e.chg hU⟩
  obtain ⟨l, hr⟩ := h.grd g hg
  exact ⟨l, hr.chg e.chg (fun k cur _ hc hk => hne k hk ⟨cur, hc⟩) (fun _ _ h => h)⟩
theorem It.grow (h : It B U w0 w p c0 c1 fa ha ma ka wa fs hs M K W ga G v n F' L K0 W0 G0) {wA : World} (o : Out w wA) {ga' : Value} {news : List Value} {m : Nat} (hm : news.length = m) (hat : AppAt wA w' 29 ga ga' G.length m news) (hg : wA.grownBy w' ga.ownBlock) (hown : w'.ownsRow B 29 1 ga' (G.length + m) (G ++ news)) (hU : ∀ k, ga.ownBlock = some k → k < w0.heap.size → U k) :
    It B U w0 w' p c0 c1 fa ha ma ka wa fs hs M K W ga' (G ++ news) v n F' L K0 W0 G0 := by
  have hA := h.out o
  have c : Chg (fun k => ga.ownBlock = some k) wA w' := Chg.of_grown hg (fun _ h => h)
  have hne : ∀ k, ga.ownBlock = some k → ¬ IsT8 wA k := fun k hk => notT8 hA.ga_ (by decide) hk
  have hrow : ∀ {et : TypeId} {u : Value} {q : Nat} {xs : List Value}, wA.ownsRow B et 1 u q xs → Dis ga u → w'.ownsRow B et 1 u q xs := fun ho d => owns_chg ho (fun k hk hc => d k hc hk) c
  have hd : ∀ {et : TypeId} {u : Value} {q : Nat} {xs : List Value}, wA.ownsRow B et 1 u q xs → Dis ga u → Dis ga' u := fun ho d k hk hk' => by
    rcases hat.block k hk with h1 | h1
    · exact d k h1 hk'
    · exact absurd (ownsRow_block_lt ho hk').1 (by omega)
  have hgm : Dis ga ma := fun k hk hk' => apart_types hA.ga_ hA.arr.ma_ (by decide) hk hk'
  refine ⟨⟨hA.arr.st.same (c.block p hA.arr.st.lt (fun hk => st_apart hA.arr.st (by decide) hA.ga_ hk)), hrow hA.arr.fa_ hA.gf, hrow hA.arr.ha_ hA.gh, hrow hA.arr.ma_ hgm, hrow hA.arr.ka_ hA.gk, hrow hA.arr.wa_ hA.gw, hA.arr.fh, hA.arr.fk, hA.arr.fw, hA.arr.hk, hA.arr.hw, hA.arr.kw, hA.arr.bp, Nat.le_trans hA.arr.bw c.size⟩,
    by rw [List.length_append, hm]; exact hown, hd hA.arr.fa_ hA.gf, hd hA.arr.ha_ hA.gh, hd hA.arr.ka_ hA.gk, hd hA.arr.wa_ hA.gw, hA.kn.chg c (fun k hk hc => hne k hc (hA.kn.isT8 hk)), hA.fr.chg c (fun k hk hc => hne k hc (hA.fr.isT8 hk)), hA.dv,
    hA.kep.chg c (fun k _ h8 hc => hne k hc h8) (fun _ _ h => h), fun g hg => ?_, hA.chg.trans c hU⟩
  obtain ⟨l, hr⟩ := hA.grd g hg
  exact ⟨l, hr.chg c (fun k cur _ hc hk => hne k hk ⟨cur, hc⟩) (fun _ _ h => h)⟩
end
theorem kn_share {B N q : Nat} {w w' : World} {v g : Value} {L L' : List Int} (hv : Kn B w v N L) (hg : Kn B w g q L) (hg' : Kn B w' g q L') (hb : g.ownBlock = v.ownBlock) (hq : N ≤ q) : Kn B w' v N L' := by
  rcases hg' with ⟨rfl, rfl, rfl⟩ | ⟨b, cap, cur, rfl, hB, hc, h1, h2, h3, hs, ht⟩
  · rcases hv with ⟨rfl, rfl, _⟩ | ⟨b, cap, cur, rfl, _⟩
    · exact .inl ⟨rfl, rfl, rfl⟩
    · simp [Value.ownBlock] at hb
  · rcases hv with ⟨rfl, _⟩ | ⟨b2, cap2, cur2, rfl, _, hc2, _, _, hm2, hs2, _⟩
    · simp [Value.ownBlock] at hb
    · simp only [Value.ownBlock, Option.some.injEq] at hb
      subst hb
      rcases hg with ⟨e, _⟩ | ⟨b3, cap3, cur3, e, _, hc3, _, _, _, hs3, _⟩
      · cases e
      · injection e with e1 _ e3
        injection e1 with e1
        injection e1 with e1
        subst e1 e3
        rw [hc2] at hc3
        injection hc3 with hc3
        injection hc3 with hc3
        subst hc3
        obtain rfl : cap2 = cap := by omega
        exact .inr ⟨b, cap2, cur, rfl, hB, hc, by omega, h2, h3, hs, ht⟩
def G4 (B : Nat) (w4 w : World) (v : Value) (L : List Int) (g : Value) (q : Nat) (l : List Int) : Prop :=
  (Kn B w g q L ∧ g.ownBlock = v.ownBlock ∧ L.take q = l) ∨ (w.ownsRow B 5 1 g q (bV l) ∧ ∀ x, g.ownBlock = some x → w4.heap.size ≤ x)
theorem G4.owns {B q : Nat} {w4 w : World} {v g : Value} {L l : List Int} (h : G4 B w4 w v L g q l) : w.ownsRow B 5 1 g q (bV l) := by
  rcases h with ⟨h1, _, h2⟩ | ⟨h, _⟩
  · rw [← h2]; exact h1.owns
  · exact h
theorem G4.out {B q : Nat} {w4 w w' : World} {v g : Value} {L l : List Int} (h : G4 B w4 w v L g q l) (o : Out w w') : G4 B w4 w' v L g q l := by
  rcases h with ⟨h1, h2, h3⟩ | ⟨h, hk⟩
  · exact .inl ⟨h1.out o, h2, h3⟩
  · exact .inr ⟨owns_out h o, hk⟩
theorem g4_step {B N q : Nat} {w4 w wA w' : World} {v g g' : Value} {L l0 l : List Int} {z : Int} (hv : Kn B w v N L) (h0 : L.take N = l0) (hN : N ≤ q) (hG : G4 B w4 w v L g q l) (hlq : l.length = q) (hc : Chg (fun k => v.ownBlock = some k) w4 w) (hv4 : ∀ k, v.ownBlock = some k → k < w4.heap.size) (o : Out w wA)
    (hat : AppAt wA w' 5 g g' q 1 (bV [z])) (hg : wA.grownBy w' g.ownBlock) (hown : w'.ownsRow B 5 1 g' (q + 1) (bV l ++ bV [z])) :
    ∃ L', Kn B w' v N L' ∧ L'.take N = l0 ∧ L.length ≤ L'.length ∧ Chg (fun k => v.ownBlock = some k) w4 w' ∧ G4 B w4 w' v L' g' (q + 1) (l ++ [z]) := by
  have hcA : Chg (fun k => v.ownBlock = some k) w4 wA := hc.trans (Chg.of_out (S := fun _ => False) o) (fun _ h _ => h.elim)
  have hown' : w'.ownsRow B 5 1 g' (q + 1) (bV (l ++ [z])) := by rw [bV_app]; exact hown
  rcases hG with ⟨k1, k2, k3⟩ | ⟨k1, k2⟩
  · have hqL : q ≤ L.length := by
      have : (L.take q).length = q := by rw [k3, hlq]
      rw [List.length_take] at this; omega
    rcases kn_step (k1.out o) (show [z].length = 1 from rfl) hat hg with ⟨L', m1, m2, m3, rfl⟩ | ⟨m1, m2, m3⟩
    · refine ⟨_, kn_share (hv.out o) (k1.out o) m1 k2 hN, ?_, ?_, ?_, .inl ⟨m2, m3.trans k2, ?_⟩⟩
      · rw [List.append_assoc, List.take_append_of_le_length (by rw [List.length_take]; omega), List.take_take, Nat.min_eq_left hN]; exact h0
      · simp; omega
      · exact hcA.trans (Chg.of_grown (S := fun k => v.ownBlock = some k) hg (fun k hk => by rw [k2] at hk; exact hk)) (fun _ h _ => h)
      · rw [k3, List.take_left' (by simp [hlq])]
    · refine ⟨L, (hv.out o).out m3, h0, Nat.le_refl _, hcA.trans (Chg.of_out (S := fun _ => False) m3) (fun _ h _ => h.elim), .inr ⟨hown', fun x hx => ?_⟩⟩
      rw [m2] at hx
      obtain rfl := Option.some.inj hx
      exact hcA.size
  · have hne : ∀ k, v.ownBlock = some k → g.ownBlock ≠ some k := fun k hk hgk => by
      have h1 := hv4 k hk
      have h2 := k2 k hgk
      omega
    refine ⟨L, (hv.out o).chg (Chg.of_grown (S := fun k => g.ownBlock = some k) hg (fun _ h => h)) hne, h0, Nat.le_refl _, hcA.trans (Chg.of_grown (S := fun k => g.ownBlock = some k) hg (fun _ h => h)) (fun x hx hlt => ?_), .inr ⟨hown', fun x hx => ?_⟩⟩
    · have := k2 x hx; omega
    · rcases hat.block x hx with h | rfl
      · exact k2 x h
      · exact hcA.size
theorem G4.gr {B q : Nat} {S : Nat → Prop} {w4 w w' : World} {v g : Value} {L L' l : List Int} (h : G4 B w4 w v L g q l) (hlq : l.length = q) (hq : 0 < q) (hS : ∀ k, S k → k < w4.heap.size) (hvS : ∀ k, v.ownBlock = some k → S k) (c : Chg (fun k => v.ownBlock = some k) w w') (hL : L.take q = l → L'.take q = l) : Gr B S w' v L' g l := by
  rcases h with ⟨h1, h2, h3⟩ | ⟨h1, h2⟩
  · have hL' := hL h3
    rcases h1 with ⟨_, rfl, _⟩ | ⟨b, cap, cur, rfl, _⟩
    · omega
    · refine .inl ⟨b, cap, h2.symm.trans rfl, by rw [hlq], ?_, by rw [hlq]; exact hL'⟩
      have : (L'.take q).length = q := by rw [hL', hlq]
      rw [List.length_take] at this
      omega
  · refine .inr ⟨?_, fun k hk hs => by have := h2 k hk; have := hS k hs; omega⟩
    rw [hlq]
    exact owns_chg h1 (fun k hk hv => by have := h2 k hk; have := hS k (hvS k hv); omega) c
theorem take_same {L l mo : List Int} {N R : Nat} (hl : L.take N = l) (hln : l.length = N) (hmo : mo.length = R) (L' : List Int) (h : L' = L ∨ L' = L.take N ++ mo ++ L.drop (N + R)) : L.take (N + R) = l ++ mo → L'.take (N + R) = l ++ mo := by
  intro h1
  rcases h with rfl | rfl
  · exact h1
  · rw [hl, List.take_left' (by simp [hln, hmo])]
theorem Gr.chg8 {B : Nat} {S T : Nat → Prop} {w w' : World} {v g : Value} {L l : List Int} (h : Gr B S w v L g l) (c : Chg T w w') (hT : ∀ k, IsT8 w k → ¬ T k) : Gr B S w' v L g l := by
  rcases h with h | ⟨ho, hk⟩
  · exact .inl h
  · exact .inr ⟨owns_chg ho (fun k hk' ht => hT k (isT8_of ho hk') ht) c, hk⟩
def Grs (B : Nat) (S : Nat → Prop) (w : World) (v : Value) (L : List Int) (gs : List Value) : Prop := ∀ g ∈ gs, ∃ l, Gr B S w v L g l
theorem Grs.chg8 {B : Nat} {S T : Nat → Prop} {w w' : World} {v : Value} {L : List Int} {gs : List Value} (h : Grs B S w v L gs) (c : Chg T w w') (hT : ∀ k, IsT8 w k → ¬ T k) : Grs B S w' v L gs := fun g hg => by
  obtain ⟨l, hl⟩ := h g hg
  exact ⟨l, hl.chg8 c hT⟩
theorem Grs.out {B : Nat} {S : Nat → Prop} {w w' : World} {v : Value} {L : List Int} {gs : List Value} (h : Grs B S w v L gs) (o : Out w w') : Grs B S w' v L gs := fun g hg => by
  obtain ⟨l, hl⟩ := h g hg
  exact ⟨l, hl.out o⟩
theorem It.g8 {B : Nat} {U : Nat → Prop} {w0 w : World} {p : Nat} {c0 c1 : Int} {fa ha ma ka wa : Value} {fs hs : List Value} {M : List Int} {K W : List Value} {ga : Value} {G : List Value} {v : Value} {n : Nat} {F' : List (Value × List Int)} {L : List Int} {K0 W0 G0 : List Value} (h : It B U w0 w p c0 c1 fa ha ma ka wa fs hs M K W ga G v n F' L K0 W0 G0) : ∀ k, IsT8 w k → ¬ ga.ownBlock = some k := fun k h8 hk => notT8 h.ga_ (by decide) hk h8
theorem It.k8 {B : Nat} {U : Nat → Prop} {w0 w : World} {p : Nat} {c0 c1 : Int} {fa ha ma ka wa : Value} {fs hs : List Value} {M : List Int} {K W : List Value} {ga : Value} {G : List Value} {v : Value} {n : Nat} {F' : List (Value × List Int)} {L : List Int} {K0 W0 G0 : List Value} (h : It B U w0 w p c0 c1 fa ha ma ka wa fs hs M K W ga G v n F' L K0 W0 G0) : ∀ k, IsT8 w k → ¬ (k = p ∨ ka.ownBlock = some k ∨ wa.ownBlock = some k) := by
  rintro k h8 (rfl | hk | hk)
  · exact st_notT8 h.arr.st h8
  · exact notT8 h.arr.ka_ (by decide) hk h8
  · exact notT8 h.arr.wa_ (by decide) hk h8
theorem row_chg8 {B n : Nat} {T : Nat → Prop} {w w' : World} {v : Value} {xs : List Value} (h : w.ownsRow B 5 1 v n xs) (c : Chg T w w') (hT : ∀ k, IsT8 w k → ¬ T k) : w'.ownsRow B 5 1 v n xs := owns_chg h (fun k hk ht => hT k (isT8_of h hk) ht) c
theorem chg_grow {w wA w' : World} {ga : Value} (o : Out w wA) (hg : wA.grownBy w' ga.ownBlock) : Chg (fun k => ga.ownBlock = some k) w w' := (Chg.of_out (S := fun k => ga.ownBlock = some k) o).trans (Chg.of_grown (S := fun k => ga.ownBlock = some k) hg (fun _ h => h)) (fun _ h _ => h)
theorem rd_new {B B' n : Nat} {T : Nat → Prop} {w : World} {v : Value} {l : List Int} (h : w.ownsRow B' 5 1 v n (bV l)) (hl : l.length = n) (hB : B ≤ B') (hT : ∀ k, T k → k < B') : Rd B T w v l := by
  rcases h.2 with ⟨rfl, h0⟩ | ⟨g, cap, cur, rfl, hb, hg, hn, hm, hs, ht⟩
  · exact .inl ⟨rfl, List.length_eq_zero_iff.1 (by omega)⟩
  · exact .inr ⟨g, cap, cur, by rw [hl], by omega, fun h => by have := hT g h; omega, hg, by rw [hl]; simpa using ht⟩
theorem out_grown {w w1 w2 : World} {g : Nat} (o : Out w w1) (hg : w1.grownBy w2 (some g)) (h : w.heap.size ≤ g) : Out w w2 := by
  refine ⟨hg.os.trans o.os, hg.tape.trans o.tape, hg.output.trans o.output, Nat.le_trans o.size hg.size, fun k hk => ?_⟩
  have h1 : w1.heap[k]? = w.heap[k]? := Below.block o k hk
  have hs := o.size
  exact (hg.block k (by omega) (fun e => by have := Option.some.inj e; omega)).trans h1
theorem copyW (w : World) (a : Option Addr) (n cap : Nat) (B : List Int) (hn : B.length = n) (hi : BytA w a B) (hm : n ≤ 60000000010000) : Calls Tryz.prog 21 #[.slice a n cap] w fun e w' => ∃ a1 c1, e = .returned (.slice a1 n c1) ∧ w'.ownsRow w.heap.size 5 1 (.slice a1 n c1) n (bV B) ∧ Out w w' := by
  by_cases hs : n ≤ 3518437208883
  · refine (copyB w a n cap B hn hi hs).mono ?_
    rintro e w' ⟨v, rfl, hown, ho⟩
    obtain ⟨a1, c1, rfl, hA, hc⟩ := owns_bytA hown
    subst hn
    exact ⟨a1, c1, rfl, hown, ho⟩
  · obtain ⟨i0, hi0, hz0, hz1, hz2⟩ := info_parts info8
    cases a with
    | none =>
      obtain rfl : B = [] := by
        rcases hi with h | ⟨b, off, h, _⟩
        · exact h
        · cases h
      exact absurd (by simpa using hn.symm : n = 0) (by omega)
    | some ad =>
      have hcells : ∀ j u, (bV B)[j]? = some u → (w.alloc (.cells #[] 5)).cell? (ad.add j) = some u := by
        intro j u hu
        obtain ⟨hj, rfl⟩ := bV_get hu
        rcases hi with rfl | ⟨b, off, h, hc⟩
        · simp at hj
        · cases h
          rw [WideShapes.add_plain]
          exact cell_later ((Out.refl w).alloc _) (hc j hj)
      go_enter Tryz.func21, Tryz.ntmps21
      go_wp2_with (first | (at_builtin; go_loud (refine wpList_append_two rfl (.tmp 3) (.tmp 4) 29 rfl w.heap.size 5 i0 _ 1 Tryz.underlying29 hi0 hz0 hz1 hz2 rfl _ 0 [] rfl (owns_voidBk w _ _ _ (Nat.le_refl _)) ad n cap (bV B) (by omega) rfl (by rw [bV_len, hn]) hcells (bV_one B) (by omega) (by omega) (by rw [size_alloc]; omega) ?_); intro v1 w1 hown1 hgrow1 hat1; obtain ⟨a1, c1, rfl⟩ := hat1.form))
      go_ret
      refine ⟨a1, c1, by simp, by simpa using hown1, ?_⟩
      exact Chg.out (S := fun k => k = w.heap.size) (Chg.of_grown hgrow1 (fun k h => (Option.some.inj h).symm)) ((Out.refl w).alloc _) (fun k hk => by omega)
section
variable {B : Nat} {U : Nat → Prop} {w0 w w' : World} {p : Nat} {c0 c1 : Int} {fa ha ma ka wa : Value} {fs hs : List Value} {M : List Int} {K W : List Value} {ga : Value} {G : List Value} {v : Value} {n : Nat} {F' : List (Value × List Int)} {L L' : List Int} {K0 W0 G0 : List Value} {x y : Value}
theorem It.base (h : It B U w0 w p c0 c1 fa ha ma ka wa fs hs M (K0 ++ [x]) (W0 ++ [y]) ga G v n F' L K0 W0 G0) {l : List Int} (hx : Rd B (fun k => v.ownBlock = some k ∨ Frs F' k) w x l) (hy : Rd B (fun k => v.ownBlock = some k ∨ Frs F' k) w y l) : It B U w0 w p c0 c1 fa ha ma ka wa fs hs M (K0 ++ [x]) (W0 ++ [y]) ga G v n F' L (K0 ++ [x]) (W0 ++ [y]) G0 :=
  ⟨h.arr, h.ga_, h.gf, h.gh, h.gk, h.gw, h.kn, h.fr, h.dv, h.kep.snoc hx hy, h.grd, h.chg⟩
theorem It.keepRest (h : It B U w0 w p c0 c1 fa ha ma ka wa fs hs M K W ga G v n F' L K W G0) {ka' wa' : Value} (e : KeepEnd B p w w' (.int .i64 c0) (.int .i64 c1) (.bool false) fa ha ma ka wa x y ka' wa' K.length K W) (hWK : W.length = K.length) (hU : ∀ k, k = p ∨ ka.ownBlock = some k ∨ wa.ownBlock = some k → k < w0.heap.size → U k)
    {l : List Int} (hx : Rd B (fun k => v.ownBlock = some k ∨ Frs F' k) w x l) (hy : Rd B (fun k => v.ownBlock = some k ∨ Frs F' k) w y l) : It B U w0 w' p c0 c1 fa ha ma ka' wa' fs hs M (K ++ [x]) (W ++ [y]) ga G v n F' L (K ++ [x]) (W ++ [y]) G0 :=
  (h.keep e hWK hU).base (hx.chg e.chg (fun k cur _ hc hk => h.k8 k ⟨cur, hc⟩ hk) (fun _ _ h => h)) (hy.chg e.chg (fun k cur _ hc hk => h.k8 k ⟨cur, hc⟩ hk) (fun _ _ h => h))
end
def Lens (G : List Value) (q : Nat) : Prop := ∀ g ∈ G, ∃ a n c, g = .slice a n c ∧ n ≤ q
theorem rd_len {B : Nat} {S : Nat → Prop} {w : World} {a : Option Addr} {n c : Nat} {l : List Int} (h : Rd B S w (.slice a n c) l) : l.length = n ∧ BytA w a l := by
  obtain ⟨a', c', e, hb⟩ := h.bytA
  injection e with e1 e2 e3
  subst e1
  exact ⟨e2.symm, hb⟩
end Go.Proofs.YtekjfbmebekmeaaGreat.Bo
