import Derived.Test.YtikmaoigepoeoaaSvj
namespace Go.Proofs.Ytikmaoigepoeoaa
open Go.RowKit
set_option linter.unusedVariables false
set_option linter.unusedSimpArgs false
theorem kn_share {B N q : Nat} {w w' : World} {v g : Value} {L L' : List Int} (hv : Kn B w v N L) (hg : Kn B w g q L) (hg' : Kn B w' g q L') (hb : g.ownBlock = v.ownBlock) (hq : N ≤ q) : Kn B w' v N L' := by
  rcases hg' with ⟨rfl, rfl, rfl⟩ | ⟨b, cap, cur, rfl, hB, hc, h1, h2, h3, hs, ht⟩
  · rcases hv with ⟨rfl, rfl, _⟩ | ⟨b, cap, cur, rfl, _⟩
    · exact .inl ⟨rfl, rfl, rfl⟩
    · simp [Value.ownBlock] at hb
  · rcases hv with ⟨rfl, _⟩ | ⟨b2, cap2, cur2, rfl, _, hc2, _, _, hm2, hs2, _⟩
    · simp [Value.ownBlock] at hb
    · simp only [Value.ownBlock, Option.some.injEq] at hb
      subst hb
      rcases hg with ⟨e, _⟩ | ⟨b3, cap3, cur3, e, _, hc3, _, _, _, hs3, _⟩
      · cases e
      · injection e with e1 _ e3
        injection e1 with e1
        injection e1 with e1
        subst e1 e3
        rw [hc2] at hc3
        injection hc3 with hc3
        injection hc3 with hc3
        subst hc3
        obtain rfl : cap2 = cap := by omega
        exact .inr ⟨b, cap2, cur, rfl, hB, hc, by omega, h2, h3, hs, ht⟩
/-- the list that grows place by place -/
def G4 (B : Nat) (w4 w : World) (v : Value) (L : List Int) (g : Value) (q : Nat) (l : List Int) : Prop :=
  (Kn B w g q L ∧ g.ownBlock = v.ownBlock ∧ L.take q = l) ∨ (w.ownsRow B 5 1 g q (bV l) ∧ ∀ x, g.ownBlock = some x → w4.heap.size ≤ x)
theorem G4.owns {B q : Nat} {w4 w : World} {v g : Value} {L l : List Int} (h : G4 B w4 w v L g q l) : w.ownsRow B 5 1 g q (bV l) := by
  rcases h with ⟨h1, _, h2⟩ | ⟨h, _⟩
  · rw [← h2]; exact h1.owns
  · exact h
theorem G4.out {B q : Nat} {w4 w w' : World} {v g : Value} {L l : List Int} (h : G4 B w4 w v L g q l) (o : Out w w') : G4 B w4 w' v L g q l := by
  rcases h with ⟨h1, h2, h3⟩ | ⟨h, hk⟩
  · exact .inl ⟨h1.out o, h2, h3⟩
  · exact .inr ⟨owns_out h o, hk⟩
theorem g4_step {B N q : Nat} {w4 w wA w' : World} {v g g' : Value} {L l0 l : List Int} {z : Int} (hv : Kn B w v N L) (h0 : L.take N = l0) (hN : N ≤ q) (hG : G4 B w4 w v L g q l) (hlq : l.length = q) (hc : Chg (fun k => v.ownBlock = some k) w4 w) (hv4 : ∀ k, v.ownBlock = some k → k < w4.heap.size) (o : Out w wA)
    (hat : AppAt wA w' 5 g g' q 1 (bV [z])) (hg : wA.grownBy w' g.ownBlock) (hown : w'.ownsRow B 5 1 g' (q + 1) (bV l ++ bV [z])) :
    ∃ L', Kn B w' v N L' ∧ L'.take N = l0 ∧ L.length ≤ L'.length ∧ Chg (fun k => v.ownBlock = some k) w4 w' ∧ G4 B w4 w' v L' g' (q + 1) (l ++ [z]) := by
  have hcA : Chg (fun k => v.ownBlock = some k) w4 wA := hc.trans (Chg.of_out (S := fun _ => False) o) (fun _ h _ => h.elim)
  have hown' : w'.ownsRow B 5 1 g' (q + 1) (bV (l ++ [z])) := by rw [bV_app]; exact hown
  rcases hG with ⟨k1, k2, k3⟩ | ⟨k1, k2⟩
  · have hqL : q ≤ L.length := by
      have : (L.take q).length = q := by rw [k3, hlq]
      rw [List.length_take] at this; omega
    rcases kn_step (k1.out o) (show [z].length = 1 from rfl) hat hg with ⟨L', m1, m2, m3, rfl⟩ | ⟨m1, m2, m3⟩
    · refine ⟨_, kn_share (hv.out o) (k1.out o) m1 k2 hN, ?_, ?_, ?_, .inl ⟨m2, m3.trans k2, ?_⟩⟩
      · rw [List.append_assoc, List.take_append_of_le_length (by rw [List.length_take]; omega), List.take_take, Nat.min_eq_left hN]; exact h0
      · simp; omega
      · exact hcA.trans (Chg.of_grown (S := fun k => v.ownBlock = some k) hg (fun k hk => by rw [k2] at hk; exact hk)) (fun _ h _ => h)
      · rw [k3, List.take_left' (by simp [hlq])]
    · refine ⟨L, (hv.out o).out m3, h0, Nat.le_refl _, hcA.trans (Chg.of_out (S := fun _ => False) m3) (fun _ h _ => h.elim), .inr ⟨hown', fun x hx => ?_⟩⟩
      rw [m2] at hx
      obtain rfl := Option.some.inj hx
      exact hcA.size
  · have hne : ∀ k, v.ownBlock = some k → g.ownBlock ≠ some k := fun k hk hgk => by
      have h1 := hv4 k hk
      have h2 := k2 k hgk
      omega
    refine ⟨L, (hv.out o).chg (Chg.of_grown (S := fun k => g.ownBlock = some k) hg (fun _ h => h)) hne, h0, Nat.le_refl _, hcA.trans (Chg.of_grown (S := fun k => g.ownBlock = some k) hg (fun _ h => h)) (fun x hx hlt => ?_), .inr ⟨hown', fun x hx => ?_⟩⟩
    · have := k2 x hx; omega
    · rcases hat.block x hx with h | rfl
      · exact k2 x h
      · exact hcA.size
theorem G4.gr {B q : Nat} {S : Nat → Prop} {w4 w w' : World} {v g : Value} {L L' l : List Int} (h : G4 B w4 w v L g q l) (hlq : l.length = q) (hq : 0 < q) (hS : ∀ k, S k → k < w4.heap.size) (hvS : ∀ k, v.ownBlock = some k → S k) (c : Chg (fun k => v.ownBlock = some k) w w') (hL : L.take q = l → L'.take q = l) : Gr B S w' v L' g l := by
  rcases h with ⟨h1, h2, h3⟩ | ⟨h1, h2⟩
  · have hL' := hL h3
    rcases h1 with ⟨_, rfl, _⟩ | ⟨b, cap, cur, rfl, _⟩
    · omega
    · refine .inl ⟨b, cap, h2.symm.trans rfl, by rw [hlq], ?_, by rw [hlq]; exact hL'⟩
      have : (L'.take q).length = q := by rw [hL', hlq]
      rw [List.length_take] at this
      omega
  · refine .inr ⟨?_, fun k hk hs => by have := h2 k hk; have := hS k hs; omega⟩
    rw [hlq]
    exact owns_chg h1 (fun k hk hv => by have := h2 k hk; have := hS k (hvS k hv); omega) c
theorem take_same {L l mo : List Int} {N R : Nat} (hl : L.take N = l) (hln : l.length = N) (hmo : mo.length = R) (L' : List Int) (h : L' = L ∨ L' = L.take N ++ mo ++ L.drop (N + R)) : L.take (N + R) = l ++ mo → L'.take (N + R) = l ++ mo := by
  intro h1
  rcases h with rfl | rfl
  · exact h1
  · rw [hl, List.take_left' (by simp [hln, hmo])]
theorem Gr.chg8 {B : Nat} {S T : Nat → Prop} {w w' : World} {v g : Value} {L l : List Int} (h : Gr B S w v L g l) (c : Chg T w w') (hT : ∀ k, IsT8 w k → ¬ T k) : Gr B S w' v L g l := by
  rcases h with h | ⟨ho, hk⟩
  · exact .inl h
  · exact .inr ⟨owns_chg ho (fun k hk' ht => hT k (isT8_of ho hk') ht) c, hk⟩
/-- all that was grown -/
def Grs (B : Nat) (S : Nat → Prop) (w : World) (v : Value) (L : List Int) (gs : List Value) : Prop := ∀ g ∈ gs, ∃ l, Gr B S w v L g l
theorem Grs.chg8 {B : Nat} {S T : Nat → Prop} {w w' : World} {v : Value} {L : List Int} {gs : List Value} (h : Grs B S w v L gs) (c : Chg T w w') (hT : ∀ k, IsT8 w k → ¬ T k) : Grs B S w' v L gs := fun g hg => by
  obtain ⟨l, hl⟩ := h g hg
  exact ⟨l, hl.chg8 c hT⟩
theorem Grs.out {B : Nat} {S : Nat → Prop} {w w' : World} {v : Value} {L : List Int} {gs : List Value} (h : Grs B S w v L gs) (o : Out w w') : Grs B S w' v L gs := fun g hg => by
  obtain ⟨l, hl⟩ := h g hg
  exact ⟨l, hl.out o⟩
theorem It.g8 {B : Nat} {U : Nat → Prop} {w0 w : World} {p : Nat} {c0 c1 : Int} {fa ha ma ka wa : Value} {fs hs : List Value} {M : List Int} {K W : List Value} {ga : Value} {G : List Value} {v : Value} {n : Nat} {F' : List (Value × List Int)} {L : List Int} {K0 W0 G0 : List Value} (h : It B U w0 w p c0 c1 fa ha ma ka wa fs hs M K W ga G v n F' L K0 W0 G0) : ∀ k, IsT8 w k → ¬ ga.ownBlock = some k := fun k h8 hk => notT8 h.ga_ (by decide) hk h8
theorem It.k8 {B : Nat} {U : Nat → Prop} {w0 w : World} {p : Nat} {c0 c1 : Int} {fa ha ma ka wa : Value} {fs hs : List Value} {M : List Int} {K W : List Value} {ga : Value} {G : List Value} {v : Value} {n : Nat} {F' : List (Value × List Int)} {L : List Int} {K0 W0 G0 : List Value} (h : It B U w0 w p c0 c1 fa ha ma ka wa fs hs M K W ga G v n F' L K0 W0 G0) : ∀ k, IsT8 w k → ¬ (k = p ∨ ka.ownBlock = some k ∨ wa.ownBlock = some k) := by
  rintro k h8 (rfl | hk | hk)
  · exact st_notT8 h.arr.st h8
  · exact notT8 h.arr.ka_ (by decide) hk h8
  · exact notT8 h.arr.wa_ (by decide) hk h8
theorem row_chg8 {B n : Nat} {T : Nat → Prop} {w w' : World} {v : Value} {xs : List Value} (h : w.ownsRow B 5 1 v n xs) (c : Chg T w w') (hT : ∀ k, IsT8 w k → ¬ T k) : w'.ownsRow B 5 1 v n xs := owns_chg h (fun k hk ht => hT k (isT8_of h hk) ht) c
theorem chg_grow {w wA w' : World} {ga : Value} (o : Out w wA) (hg : wA.grownBy w' ga.ownBlock) : Chg (fun k => ga.ownBlock = some k) w w' := (Chg.of_out (S := fun k => ga.ownBlock = some k) o).trans (Chg.of_grown (S := fun k => ga.ownBlock = some k) hg (fun _ h => h)) (fun _ h _ => h)
theorem rd_new {B B' n : Nat} {T : Nat → Prop} {w : World} {v : Value} {l : List Int} (h : w.ownsRow B' 5 1 v n (bV l)) (hl : l.length = n) (hB : B ≤ B') (hT : ∀ k, T k → k < B') : Rd B T w v l := by
  rcases h.2 with ⟨rfl, h0⟩ | ⟨g, cap, cur, rfl, hb, hg, hn, hm, hs, ht⟩
  · exact .inl ⟨rfl, List.length_eq_zero_iff.1 (by omega)⟩
  · exact .inr ⟨g, cap, cur, by rw [hl], by omega, fun h => by have := hT g h; omega, hg, by rw [hl]; simpa using ht⟩
theorem out_grown {w w1 w2 : World} {g : Nat} (o : Out w w1) (hg : w1.grownBy w2 (some g)) (h : w.heap.size ≤ g) : Out w w2 := by
  refine ⟨hg.os.trans o.os, hg.tape.trans o.tape, hg.output.trans o.output, Nat.le_trans o.size hg.size, fun k hk => ?_⟩
  have h1 : w1.heap[k]? = w.heap[k]? := Below.block o k hk
  have hs := o.size
  exact (hg.block k (by omega) (fun e => by have := Option.some.inj e; omega)).trans h1
end Go.Proofs.Ytikmaoigepoeoaa
