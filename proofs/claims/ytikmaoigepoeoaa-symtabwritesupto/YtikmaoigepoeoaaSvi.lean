import Derived.Test.YtikmaoigepoeoaaSvg
namespace Go.Proofs.Ytikmaoigepoeoaa
open Go.RowKit
set_option linter.unusedVariables false
set_option linter.unusedSimpArgs false
theorem bV_len (l : List Int) : (bV l).length = l.length := by simp [bV]
theorem bV_app (a b : List Int) : bV (a ++ b) = bV a ++ bV b := by simp [bV]
theorem bV_take (l : List Int) (k : Nat) : (bV l).take k = bV (l.take k) := by simp [bV, List.map_take]
/-- the list v of n places lies in a block whose first places are known to read L -/
def Kn (B : Nat) (w : World) (v : Value) (n : Nat) (L : List Int) : Prop :=
  (v = .slice none 0 0 ∧ n = 0 ∧ L = []) ∨ ∃ b cap cur, v = .slice (some ⟨b, 0, none⟩) n cap ∧ B ≤ b ∧ w.heap[b]? = some (.cells cur 5 (0, 0)) ∧ n ≤ L.length ∧ L.length ≤ cap ∧ cap ≤ maxLen ∧ cur.size = cap ∧ cur.toList.take L.length = bV L
theorem Kn.owns {B n : Nat} {w : World} {v : Value} {L : List Int} (h : Kn B w v n L) : w.ownsRow B 5 1 v n (bV (L.take n)) := by
  rcases h with ⟨rfl, rfl, rfl⟩ | ⟨b, cap, cur, rfl, hB, hg, h1, h2, hm, hs, ht⟩
  · exact World.ownsRow_nil _ _ _ _
  · refine ⟨by rw [bV_len, List.length_take]; omega, .inr ⟨b, cap, cur, rfl, hB, hg, by omega, hm, by omega, ?_⟩⟩
    rw [Nat.mul_one, ← bV_take, ← ht, List.take_take, Nat.min_eq_left h1]
theorem kn_of {B n : Nat} {w : World} {v : Value} {l : List Int} (hn : l.length = n) (h : w.ownsRow B 5 1 v n (bV l)) : Kn B w v n l := by
  rcases h.2 with ⟨rfl, h0⟩ | ⟨g, cap, cur, rfl, hb, hg, hnc, hm, hs, ht⟩
  · exact .inl ⟨rfl, h0, List.length_eq_zero_iff.1 (by omega)⟩
  · exact .inr ⟨g, cap, cur, rfl, hb, hg, by omega, by omega, hm, by omega, by rw [hn]; simpa using ht⟩
theorem Kn.chg {B n : Nat} {U : Nat → Prop} {w w' : World} {v : Value} {L : List Int} (h : Kn B w v n L) (c : Chg U w w') (hU : ∀ k, v.ownBlock = some k → ¬ U k) : Kn B w' v n L := by
  rcases h with h | ⟨b, cap, cur, rfl, hB, hg, rest⟩
  · exact .inl h
  · exact .inr ⟨b, cap, cur, rfl, hB, (c.block b (Array.getElem?_eq_some_iff.1 hg).1 (hU b rfl)).trans hg, rest⟩
theorem Kn.out {B n : Nat} {w w' : World} {v : Value} {L : List Int} (h : Kn B w v n L) (o : Out w w') : Kn B w' v n L := h.chg (Chg.of_out (S := fun _ => False) o) (fun _ _ h => h)
theorem Kn.isT8 {B n : Nat} {w : World} {v : Value} {L : List Int} (h : Kn B w v n L) {k : Nat} (hk : v.ownBlock = some k) : IsT8 w k := isT8_of h.owns hk
/-- one append to a list whose block is known -/
theorem kn_step {B n m : Nat} {w w' : World} {v v' : Value} {L zs : List Int} (h : Kn B w v n L) (hm : zs.length = m) (hat : AppAt w w' 5 v v' n m (bV zs)) (hg : w.grownBy w' v.ownBlock) :
    (∃ L', Kn B w' v n L' ∧ Kn B w' v' (n + m) L' ∧ v'.ownBlock = v.ownBlock ∧ L' = L.take n ++ zs ++ L.drop (n + m)) ∨ (Kn B w' v n L ∧ v'.ownBlock = some w.heap.size ∧ Out w w') := by
  rcases hat with ⟨g, cap, cur, rfl, rfl, hroom, hg1, hg2⟩ | ⟨⟨cap', rfl⟩, hold⟩
  · left
    rcases h with ⟨h, _⟩ | ⟨b, cap2, cur2, e, hB, hb, h1, h2, h3, hs, ht⟩
    · cases h
    · injection e with e1 _ e3
      injection e1 with e1
      injection e1 with e1
      subst e1 e3
      rw [hg1] at hb
      injection hb with hb
      injection hb with hb
      subst hb
      have hcl : cur.toList.length = cap := by simpa using hs
      have key : ((cur.toList.take n ++ bV zs ++ cur.toList.drop (n + m)).toArray).toList.take (L.take n ++ zs ++ L.drop (n + m)).length = bV (L.take n ++ zs ++ L.drop (n + m)) := by
        have e1 : cur.toList.take n = bV (L.take n) := by rw [← bV_take, ← ht, List.take_take, Nat.min_eq_left h1]
        have e2 : (cur.toList.drop (n + m)).take (L.length - (n + m)) = bV (L.drop (n + m)) := by
          have : bV (L.drop (n + m)) = (bV L).drop (n + m) := by simp [bV, List.map_drop]
          rw [this, ← ht, List.drop_take]
        simp only [bV_app]
        rw [e1, ← e2]
        have hlen : (L.take n ++ zs ++ L.drop (n + m)).length = (bV (L.take n) ++ bV zs).length + (L.length - (n + m)) := by
          simp [bV_len]; omega
        rw [hlen, List.take_length_add_append]
      have hl' : (L.take n ++ zs ++ L.drop (n + m)).length ≤ cap := by simp; omega
      have hn' : n + m ≤ (L.take n ++ zs ++ L.drop (n + m)).length := by simp; omega
      have hsz : ((cur.toList.take n ++ bV zs ++ cur.toList.drop (n + m)).toArray).size = cap := by simp [bV_len]; omega
      exact ⟨_, .inr ⟨g, cap, _, rfl, hB, hg2, by omega, hl', h3, hsz, key⟩, .inr ⟨g, cap, _, rfl, hB, hg2, hn', hl', h3, hsz, key⟩, rfl, rfl⟩
  · right
    have ho : Out w w' := ⟨hg.os, hg.tape, hg.output, hg.size, hold⟩
    exact ⟨h.out ho, rfl, ho⟩
/-- a slice that was grown out of v: in v's own block, or at rest in a block of its own -/
def Gr (B : Nat) (S : Nat → Prop) (w : World) (v : Value) (L : List Int) (g : Value) (l : List Int) : Prop :=
  (∃ b c, v.ownBlock = some b ∧ g = .slice (some ⟨b, 0, none⟩) l.length c ∧ l.length ≤ L.length ∧ L.take l.length = l) ∨ (w.ownsRow B 5 1 g l.length (bV l) ∧ ∀ k, g.ownBlock = some k → ¬ S k)
theorem Gr.step {B : Nat} {S : Nat → Prop} {w w' : World} {v g : Value} {L L' l : List Int} (h : Gr B S w v L g l) (c : Chg (fun k => v.ownBlock = some k) w w') (hS : ∀ k, v.ownBlock = some k → S k) (hL : L.length ≤ L'.length) : ∃ l', Gr B S w' v L' g l' := by
  rcases h with ⟨b, c1, hb, rfl, h1, h2⟩ | ⟨ho, hk⟩
  · refine ⟨L'.take l.length, .inl ⟨b, c1, hb, ?_, ?_, ?_⟩⟩
    · rw [List.length_take, Nat.min_eq_left (by omega)]
    · rw [List.length_take]; omega
    · rw [List.length_take, Nat.min_eq_left (by omega)]
  · exact ⟨l, .inr ⟨owns_chg ho (fun k hk' hv => hk k hk' (hS k hv)) c, hk⟩⟩
theorem Gr.out {B : Nat} {S : Nat → Prop} {w w' : World} {v g : Value} {L l : List Int} (h : Gr B S w v L g l) (o : Out w w') : Gr B S w' v L g l := by
  rcases h with h | ⟨ho, hk⟩
  · exact .inl h
  · exact .inr ⟨owns_out ho o, hk⟩
/-- behind the last append all of them are at rest -/
theorem Gr.rest {B n : Nat} {S T : Nat → Prop} {w : World} {v g : Value} {L l : List Int} (h : Gr B S w v L g l) (hK : Kn B w v n L) (hT : ∀ k, T k → S k) (hv : ∀ k, v.ownBlock = some k → ¬ T k) : Rd B T w g l := by
  rcases h with ⟨b, c1, hb, rfl, h1, h2⟩ | ⟨ho, hk⟩
  · rcases hK with ⟨rfl, _⟩ | ⟨b', cap, cur, rfl, hB, hg, h3, h4, hm, hs, ht⟩
    · simp [Value.ownBlock] at hb
    · simp only [Value.ownBlock, Option.some.injEq] at hb
      subst hb
      refine .inr ⟨b', c1, cur, rfl, hB, hv b' rfl, hg, ?_⟩
      rw [← h2, List.length_take, Nat.min_eq_left h1, ← bV_take, ← ht, List.take_take, Nat.min_eq_left h1]
  · exact rd_of_owns ho (fun k hk' ht => hk k hk' (hT k ht))
end Go.Proofs.Ytikmaoigepoeoaa
