import Derived.Test.YtlfcjbeldnkkoaaGb28
namespace Go.Proofs.Ytlfcjbeldnkkoaa
open Go.RowKit
set_option linter.unusedVariables false
set_option linter.unusedSimpArgs false
/-- the lists with marks in the first i of them -/
def mixF : List (Value × List Int) → List Int → Nat → List (Value × List Int)
  | x :: F, m :: M, i + 1 => (x.1, markB x.2.length m) :: mixF F M i
  | F, _, _ => F
theorem mixF_zero (F : List (Value × List Int)) (M : List Int) : mixF F M 0 = F := by cases F <;> cases M <;> rfl
theorem mixF_step : ∀ (F : List (Value × List Int)) (M : List Int) (i : Nat) (x : Value × List Int) (m : Int), F[i]? = some x → M[i]? = some m → (mixF F M i)[i]? = some x ∧ mixF F M (i + 1) = (mixF F M i).set i (x.1, markB x.2.length m)
  | [], _, _, _, _, h, _ => by simp at h
  | _ :: _, [], _, _, _, _, h => by simp at h
  | y :: F, n :: M, 0, x, m, h, k => by
    simp at h k; subst h k
    refine ⟨rfl, ?_⟩
    show (y.1, markB y.2.length n) :: mixF F M 0 = _
    rw [mixF_zero, mixF_zero]; rfl
  | y :: F, n :: M, i + 1, x, m, h, k => by
    obtain ⟨h1, h2⟩ := mixF_step F M i x m (by simpa using h) (by simpa using k)
    refine ⟨by simpa [mixF] using h1, ?_⟩
    show (y.1, markB y.2.length n) :: mixF F M (i + 1) = _
    rw [h2]; rfl
theorem mixF_len : ∀ (F : List (Value × List Int)) (M : List Int) (i : Nat), (mixF F M i).length = F.length
  | [], _, _ => by simp [mixF]
  | _ :: _, [], _ => by simp [mixF]
  | _ :: _, _ :: _, 0 => by simp [mixF]
  | _ :: F, _ :: M, i + 1 => by simp [mixF, mixF_len F M i]
/-- a store into an own row -/
theorem owns_store {B n : Nat} {w : World} {g c : Nat} {l : List Int} (h : w.ownsRow B 5 1 (.slice (some ⟨g, 0, none⟩) n c) n (bV l)) {k : Nat} (hk : k < n) (z : Int) : (w.setCell ⟨g, k, none⟩ (.int .u8 z)).ownsRow B 5 1 (.slice (some ⟨g, 0, none⟩) n c) n (bV (l.set k z)) := by
  refine ⟨by rw [bV, List.length_map, List.length_set]; have := h.1; rw [bV, List.length_map] at this; exact this, ?_⟩
  rcases h.2 with ⟨h0, _⟩ | ⟨g', cap, cur, e, hb, hg, hn, hm, hs, ht⟩
  · cases h0
  · cases e
    refine .inr ⟨g, c, cur.setIfInBounds k (.int .u8 z), rfl, hb, set_at hg k _, hn, hm, by simpa using hs, ?_⟩
    rw [Array.toList_setIfInBounds, List.take_set, ht, bV, bV, List.map_set]
theorem owns_cell {B n g c : Nat} {w : World} {l : List Int} (h : w.ownsRow B 5 1 (.slice (some ⟨g, 0, none⟩) n c) n (bV l)) {k : Nat} (hk : k < n) : w.cell? ⟨g, k, none⟩ = some (.int .u8 (gB l k)) ∧ w.frozen? ⟨g, k, none⟩ = false := by
  rcases h.2 with ⟨h0, _⟩ | ⟨g', cap, cur, e, hb, hg, hn, hm, hs, ht⟩
  · cases h0
  · cases e
    have hl : l.length = n := by have := h.1; rw [bV, List.length_map] at this; omega
    have e1 : (bV l)[k]? = some (.int .u8 (gB l k)) := by simp [bV, gB, List.getD, List.getElem?_eq_getElem (show k < l.length by omega)]
    rw [← ht, List.getElem?_take, if_pos (by omega)] at e1
    exact ⟨by rw [cell_at hg]; simpa using e1, frozen_at hg k⟩
theorem row_cell {B n g c : Nat} {w : World} {e : TypeId} {xs : List Value} (h : w.ownsRow B e 1 (.slice (some ⟨g, 0, none⟩) n c) n xs) {k : Nat} {x : Value} (hx : xs[k]? = some x) : w.cell? ⟨g, k, none⟩ = some x := by
  have := h.cells (g := g) rfl k x hx
  rwa [WideShapes.add_plain, Nat.zero_add] at this
theorem row_form {B n : Nat} {w : World} {e : TypeId} {v : Value} {xs : List Value} (h : w.ownsRow B e 1 v n xs) (h0 : 0 < n) : ∃ g c, v = .slice (some ⟨g, 0, none⟩) n c := by
  rcases h.2 with ⟨_, h1⟩ | ⟨g, cap, cur, rfl, -⟩
  · omega
  · exact ⟨g, cap, rfl⟩
theorem set_take_drop (l m : List Int) (k : Nat) (h : m.length = l.length) (hk : k < l.length) : (m.take k ++ l.drop k).set k (gB m k) = m.take (k + 1) ++ l.drop (k + 1) := by
  have hl : (m.take k).length = k := by simp; omega
  rw [List.set_append_right _ _ (by omega), hl, Nat.sub_self, List.drop_eq_getElem_cons hk, List.set_cons_zero, List.take_add_one, List.getElem?_eq_getElem (by omega), List.append_assoc]
  simp [gB, List.getD, List.getElem?_eq_getElem (show k < m.length by omega)]
end Go.Proofs.Ytlfcjbeldnkkoaa
namespace Go.Proofs.Ytlfcjbeldnkkoaa
open Go.RowKit
set_option linter.unusedVariables false
set_option linter.unusedSimpArgs false
theorem bV_len (l : List Int) : (bV l).length = l.length := by simp [bV]
theorem bV_app (a b : List Int) : bV (a ++ b) = bV a ++ bV b := by simp [bV]
theorem bV_take (l : List Int) (k : Nat) : (bV l).take k = bV (l.take k) := by simp [bV, List.map_take]
/-- the list v of n places lies in a block whose first places are known to read L -/
def Kn (B : Nat) (w : World) (v : Value) (n : Nat) (L : List Int) : Prop :=
  (v = .slice none 0 0 ∧ n = 0 ∧ L = []) ∨ ∃ b cap cur, v = .slice (some ⟨b, 0, none⟩) n cap ∧ B ≤ b ∧ w.heap[b]? = some (.cells cur 5 (0, 0)) ∧ n ≤ L.length ∧ L.length ≤ cap ∧ cap ≤ maxLen ∧ cur.size = cap ∧ cur.toList.take L.length = bV L
theorem Kn.owns {B n : Nat} {w : World} {v : Value} {L : List Int} (h : Kn B w v n L) : w.ownsRow B 5 1 v n (bV (L.take n)) := by
  rcases h with ⟨rfl, rfl, rfl⟩ | ⟨b, cap, cur, rfl, hB, hg, h1, h2, hm, hs, ht⟩
  · exact World.ownsRow_nil _ _ _ _
  · refine ⟨by rw [bV_len, List.length_take]; omega, .inr ⟨b, cap, cur, rfl, hB, hg, by omega, hm, by omega, ?_⟩⟩
    rw [Nat.mul_one, ← bV_take, ← ht, List.take_take, Nat.min_eq_left h1]
theorem kn_of {B n : Nat} {w : World} {v : Value} {l : List Int} (hn : l.length = n) (h : w.ownsRow B 5 1 v n (bV l)) : Kn B w v n l := by
  rcases h.2 with ⟨rfl, h0⟩ | ⟨g, cap, cur, rfl, hb, hg, hnc, hm, hs, ht⟩
  · exact .inl ⟨rfl, h0, List.length_eq_zero_iff.1 (by omega)⟩
  · exact .inr ⟨g, cap, cur, rfl, hb, hg, by omega, by omega, hm, by omega, by rw [hn]; simpa using ht⟩
theorem Kn.chg {B n : Nat} {U : Nat → Prop} {w w' : World} {v : Value} {L : List Int} (h : Kn B w v n L) (c : Chg U w w') (hU : ∀ k, v.ownBlock = some k → ¬ U k) : Kn B w' v n L := by
  rcases h with h | ⟨b, cap, cur, rfl, hB, hg, rest⟩
  · exact .inl h
  · exact .inr ⟨b, cap, cur, rfl, hB, (c.block b (Array.getElem?_eq_some_iff.1 hg).1 (hU b rfl)).trans hg, rest⟩
theorem Kn.out {B n : Nat} {w w' : World} {v : Value} {L : List Int} (h : Kn B w v n L) (o : Out w w') : Kn B w' v n L := h.chg (Chg.of_out (S := fun _ => False) o) (fun _ _ h => h)
theorem Kn.isT8 {B n : Nat} {w : World} {v : Value} {L : List Int} (h : Kn B w v n L) {k : Nat} (hk : v.ownBlock = some k) : IsT8 w k := isT8_of h.owns hk
/-- one append to a list whose block is known -/
theorem kn_step {B n m : Nat} {w w' : World} {v v' : Value} {L zs : List Int} (h : Kn B w v n L) (hm : zs.length = m) (hat : AppAt w w' 5 v v' n m (bV zs)) (hg : w.grownBy w' v.ownBlock) :
    (∃ L', Kn B w' v n L' ∧ Kn B w' v' (n + m) L' ∧ v'.ownBlock = v.ownBlock ∧ L' = L.take n ++ zs ++ L.drop (n + m)) ∨ (Kn B w' v n L ∧ v'.ownBlock = some w.heap.size ∧ Out w w') := by
  rcases hat with ⟨g, cap, cur, rfl, rfl, hroom, hg1, hg2⟩ | ⟨⟨cap', rfl⟩, hold⟩
  · left
    rcases h with ⟨h, _⟩ | ⟨b, cap2, cur2, e, hB, hb, h1, h2, h3, hs, ht⟩
    · cases h
    · injection e with e1 _ e3
      injection e1 with e1
      injection e1 with e1
      subst e1 e3
      rw [hg1] at hb
      injection hb with hb
      injection hb with hb
      subst hb
      have hcl : cur.toList.length = cap := by simpa using hs
      have key : ((cur.toList.take n ++ bV zs ++ cur.toList.drop (n + m)).toArray).toList.take (L.take n ++ zs ++ L.drop (n + m)).length = bV (L.take n ++ zs ++ L.drop (n + m)) := by
        have e1 : cur.toList.take n = bV (L.take n) := by rw [← bV_take, ← ht, List.take_take, Nat.min_eq_left h1]
        have e2 : (cur.toList.drop (n + m)).take (L.length - (n + m)) = bV (L.drop (n + m)) := by
          have : bV (L.drop (n + m)) = (bV L).drop (n + m) := by simp [bV, List.map_drop]
          rw [this, ← ht, List.drop_take]
        simp only [bV_app]
        rw [e1, ← e2]
        have hlen : (L.take n ++ zs ++ L.drop (n + m)).length = (bV (L.take n) ++ bV zs).length + (L.length - (n + m)) := by
          simp [bV_len]; omega
        rw [hlen, List.take_length_add_append]
      have hl' : (L.take n ++ zs ++ L.drop (n + m)).length ≤ cap := by simp; omega
      have hn' : n + m ≤ (L.take n ++ zs ++ L.drop (n + m)).length := by simp; omega
      have hsz : ((cur.toList.take n ++ bV zs ++ cur.toList.drop (n + m)).toArray).size = cap := by simp [bV_len]; omega
      exact ⟨_, .inr ⟨g, cap, _, rfl, hB, hg2, by omega, hl', h3, hsz, key⟩, .inr ⟨g, cap, _, rfl, hB, hg2, hn', hl', h3, hsz, key⟩, rfl, rfl⟩
  · right
    have ho : Out w w' := ⟨hg.os, hg.tape, hg.output, hg.size, hold⟩
    exact ⟨h.out ho, rfl, ho⟩
/-- a slice that was grown out of v: in v's own block, or at rest in a block of its own -/
def Gr (B : Nat) (S : Nat → Prop) (w : World) (v : Value) (L : List Int) (g : Value) (l : List Int) : Prop :=
  (∃ b c, v.ownBlock = some b ∧ g = .slice (some ⟨b, 0, none⟩) l.length c ∧ l.length ≤ L.length ∧ L.take l.length = l) ∨ (w.ownsRow B 5 1 g l.length (bV l) ∧ ∀ k, g.ownBlock = some k → ¬ S k)
theorem Gr.step {B : Nat} {S : Nat → Prop} {w w' : World} {v g : Value} {L L' l : List Int} (h : Gr B S w v L g l) (c : Chg (fun k => v.ownBlock = some k) w w') (hS : ∀ k, v.ownBlock = some k → S k) (hL : L.length ≤ L'.length) : ∃ l', Gr B S w' v L' g l' := by
  rcases h with ⟨b, c1, hb, rfl, h1, h2⟩ | ⟨ho, hk⟩
  · refine ⟨L'.take l.length, .inl ⟨b, c1, hb, ?_, ?_, ?_⟩⟩
    · rw [List.length_take, Nat.min_eq_left (by omega)]
    · rw [List.length_take]; omega
    · rw [List.length_take, Nat.min_eq_left (by omega)]
  · exact ⟨l, .inr ⟨owns_chg ho (fun k hk' hv => hk k hk' (hS k hv)) c, hk⟩⟩
theorem Gr.out {B : Nat} {S : Nat → Prop} {w w' : World} {v g : Value} {L l : List Int} (h : Gr B S w v L g l) (o : Out w w') : Gr B S w' v L g l := by
  rcases h with h | ⟨ho, hk⟩
  · exact .inl h
  · exact .inr ⟨owns_out ho o, hk⟩
/-- behind the last append all of them are at rest -/
theorem Gr.rest {B n : Nat} {S T : Nat → Prop} {w : World} {v g : Value} {L l : List Int} (h : Gr B S w v L g l) (hK : Kn B w v n L) (hT : ∀ k, T k → S k) (hv : ∀ k, v.ownBlock = some k → ¬ T k) : Rd B T w g l := by
  rcases h with ⟨b, c1, hb, rfl, h1, h2⟩ | ⟨ho, hk⟩
  · rcases hK with ⟨rfl, _⟩ | ⟨b', cap, cur, rfl, hB, hg, h3, h4, hm, hs, ht⟩
    · simp [Value.ownBlock] at hb
    · simp only [Value.ownBlock, Option.some.injEq] at hb
      subst hb
      refine .inr ⟨b', c1, cur, rfl, hB, hv b' rfl, hg, ?_⟩
      rw [← h2, List.length_take, Nat.min_eq_left h1, ← bV_take, ← ht, List.take_take, Nat.min_eq_left h1]
  · exact rd_of_owns ho (fun k hk' ht => hk k hk' (hT k ht))
end Go.Proofs.Ytlfcjbeldnkkoaa
namespace Go.Proofs.Ytlfcjbeldnkkoaa
open Go.RowKit
set_option linter.unusedVariables false
set_option linter.unusedSimpArgs false
/-- within a round of the second loop: the list v is grown, those behind it lie untouched -/
structure It (B : Nat) (U : Nat → Prop) (w0 w : World) (p : Nat) (c0 c1 : Int) (fa ha ma ka wa : Value) (fs hs : List Value) (M : List Int) (K W : List Value) (ga : Value) (G : List Value) (v : Value) (n : Nat) (F' : List (Value × List Int)) (L : List Int) (K0 W0 G0 : List Value) : Prop where
  arr : Arr B w p c0 c1 fa ha ma ka wa fs hs M K W
  ga_ : w.ownsRow B 24 1 ga G.length G
  gf : Dis ga fa
  gh : Dis ga ha
  gk : Dis ga ka
  gw : Dis ga wa
  kn : Kn B w v n L
  fr : Fresh B w F'
  dv : ∀ x ∈ F', Dis v x.1
  kep : Kep B (fun k => v.ownBlock = some k ∨ Frs F' k) w K0 W0
  grd : ∀ g ∈ G0, ∃ l, Rd B (fun k => v.ownBlock = some k ∨ Frs F' k) w g l
  chg : Chg U w0 w
theorem len_le (a b : List Int) : a.length ≤ (a ++ b).length := by simp
theorem AppAt.form {w w' : World} {e : TypeId} {v v' : Value} {n m : Nat} {news : List Value} (h : AppAt w w' e v v' n m news) : ∃ a c, v' = .slice a (n + m) c := by
  rcases h with ⟨g, cap, cur, rfl, rfl, -⟩ | ⟨⟨cap, rfl⟩, -⟩
  · exact ⟨_, _, rfl⟩
  · exact ⟨_, _, rfl⟩
section
variable {B : Nat} {U : Nat → Prop} {w0 w w' : World} {p : Nat} {c0 c1 : Int} {fa ha ma ka wa : Value} {fs hs : List Value} {M : List Int} {K W : List Value} {ga : Value} {G : List Value} {v : Value} {n : Nat} {F' : List (Value × List Int)} {L L' : List Int} {K0 W0 G0 : List Value}
theorem It.sub (h : It B U w0 w p c0 c1 fa ha ma ka wa fs hs M K W ga G v n F' L K0 W0 G0) {k : Nat} (hk : v.ownBlock = some k ∨ Frs F' k) : IsT8 w k := by
  rcases hk with hk | hk
  · exact h.kn.isT8 hk
  · exact h.fr.isT8 hk
/-- v's own block turns, and new ones -/
theorem It.chgv (h : It B U w0 w p c0 c1 fa ha ma ka wa fs hs M K W ga G v n F' L K0 W0 G0) (c : Chg (fun k => v.ownBlock = some k) w w') (hU : ∀ k, v.ownBlock = some k → k < w0.heap.size → U k) (hk : Kn B w' v n L') : It B U w0 w' p c0 c1 fa ha ma ka wa fs hs M K W ga G v n F' L' K0 W0 G0 :=
  ⟨h.arr.chg8 c (fun k _ hk => h.kn.isT8 hk), owns_chg h.ga_ (fun k hk hv => notT8 h.ga_ (by decide) hk (h.kn.isT8 hv)) c, h.gf, h.gh, h.gk, h.gw, hk,
    h.fr.chg c (fun k ⟨x, hx, hk⟩ hv => h.dv x hx k hv hk), h.dv,
    h.kep.chg c (fun k hs _ hv => hs (.inl hv)) (fun _ _ h => h),
    fun g hg => by
      obtain ⟨l, hr⟩ := h.grd g hg
      exact ⟨l, hr.chg c (fun k cur hs _ hv => hs (.inl hv)) (fun _ _ h => h)⟩,
    h.chg.trans c hU⟩
theorem It.out (h : It B U w0 w p c0 c1 fa ha ma ka wa fs hs M K W ga G v n F' L K0 W0 G0) (o : Out w w') : It B U w0 w' p c0 c1 fa ha ma ka wa fs hs M K W ga G v n F' L K0 W0 G0 :=
  ⟨h.arr.out o, owns_out h.ga_ o, h.gf, h.gh, h.gk, h.gw, h.kn.out o, h.fr.out o, h.dv, h.kep.out o,
    fun g hg => by
      obtain ⟨l, hr⟩ := h.grd g hg
      exact ⟨l, hr.chg (Chg.of_out (S := fun _ => False) o) (fun _ _ _ _ h => h) (fun _ _ h => h)⟩,
    h.chg.trans (Chg.of_out (S := fun _ => False) o) (fun _ h _ => h.elim)⟩
/-- an append to v -/
theorem It.append (h : It B U w0 w p c0 c1 fa ha ma ka wa fs hs M K W ga G v n F' L K0 W0 G0) (hU : ∀ k, v.ownBlock = some k → k < w0.heap.size → U k) {wA : World} (o : Out w wA) {v' : Value} {m : Nat} {zs : List Int} (hm : zs.length = m) (hnL : n ≤ L.length)
    (hat : AppAt wA w' 5 v v' n m (bV zs)) (hg : wA.grownBy w' v.ownBlock) (hown : w'.ownsRow B 5 1 v' (n + m) (bV (L.take n) ++ bV zs)) :
    ∃ L', It B U w0 w' p c0 c1 fa ha ma ka wa fs hs M K W ga G v n F' L' K0 W0 G0 ∧ L'.take n = L.take n ∧ L.length ≤ L'.length ∧ Chg (fun k => v.ownBlock = some k) w w' ∧ Gr B (fun k => v.ownBlock = some k ∨ Frs F' k) w' v L' v' (L.take n ++ zs) ∧ (L' = L ∨ L' = L.take n ++ zs ++ L.drop (n + m)) := by
  have hA := h.out o
  have hc : Chg (fun k => v.ownBlock = some k) wA w' := Chg.of_grown hg (fun k hk => hk)
  have hcw : Chg (fun k => v.ownBlock = some k) w w' := (Chg.of_out (S := fun k => v.ownBlock = some k) o).trans hc (fun _ h _ => h)
  have hln : (L.take n ++ zs).length = n + m := by rw [List.length_append, List.length_take, hm]; omega
  rcases kn_step hA.kn hm hat hg with ⟨L', k1, k2, k3, rfl⟩ | ⟨k1, k2, k3⟩
  · refine ⟨_, hA.chgv hc hU k1, ?_, ?_, hcw, ?_, .inr rfl⟩
    · rw [List.append_assoc, List.take_left' (by rw [List.length_take]; omega)]
    · simp; omega
    · rcases k2 with ⟨e, _⟩ | ⟨b, cap, cur, e, _⟩
      · subst e
        simp only [Value.ownBlock] at k3
        rcases hat with ⟨g, cap, cur, rfl, e2, _⟩ | ⟨⟨cap, e2⟩, _⟩
        · cases e2
        · cases e2
      · subst e
        refine .inl ⟨b, cap, k3.symm.trans rfl, by rw [hln], ?_, ?_⟩
        · exact len_le _ _
        · rw [hln, List.take_left' hln]
  · refine ⟨L, hA.chgv hc hU k1, rfl, Nat.le_refl _, hcw, .inr ⟨?_, ?_⟩, .inl rfl⟩
    · rw [hln, bV_app]; exact hown
    · intro k hk hS
      rw [k2] at hk
      obtain rfl := Option.some.inj hk
      exact Nat.lt_irrefl _ (hA.sub hS).lt
/-- a pair is kept -/
theorem It.keep (h : It B U w0 w p c0 c1 fa ha ma ka wa fs hs M K W ga G v n F' L K0 W0 G0) {x y ka' wa' : Value} (e : KeepEnd B p w w' (.int .i64 c0) (.int .i64 c1) (.bool false) fa ha ma ka wa x y ka' wa' K.length K W) (hWK : W.length = K.length) (hU : ∀ k, k = p ∨ ka.ownBlock = some k ∨ wa.ownBlock = some k → k < w0.heap.size → U k) :
    It B U w0 w' p c0 c1 fa ha ma ka' wa' fs hs M (K ++ [x]) (W ++ [y]) ga G v n F' L K0 W0 G0 := by
  have hne : ∀ k, (k = p ∨ ka.ownBlock = some k ∨ wa.ownBlock = some k) → ¬ IsT8 w k := by
    rintro k (rfl | hk | hk)
    · exact st_notT8 h.arr.st
    · exact notT8 h.arr.ka_ (by decide) hk
    · exact notT8 h.arr.wa_ (by decide) hk
  have hrow : ∀ {et : TypeId} {u : Value} {m : Nat} {xs : List Value}, w.ownsRow B et 1 u m xs → et ≠ 32 → Dis u ka → Dis u wa → w'.ownsRow B et 1 u m xs := fun ho het d1 d2 =>
    owns_chg ho (fun k hk hc => by
      rcases hc with rfl | hc | hc
      · exact st_apart h.arr.st het ho hk
      · exact d1 k hk hc
      · exact d2 k hk hc) e.chg
  have hnew : ∀ {et : TypeId} {u : Value} {m : Nat} {xs : List Value}, w.ownsRow B et 1 u m xs → (∀ k, ka'.ownBlock = some k → ka.ownBlock = some k ∨ w.heap.size ≤ k) → Dis u ka → Dis u ka' := fun ho hb d k hk hk' => by
    rcases hb k hk' with h1 | h1
    · exact d k hk h1
    · exact absurd (ownsRow_block_lt ho hk).1 (by omega)
  have hnewW : ∀ {et : TypeId} {u : Value} {m : Nat} {xs : List Value}, w.ownsRow B et 1 u m xs → Dis u wa → Dis u wa' := fun ho d k hk hk' => by
    rcases e.wb k hk' with h1 | h1
    · exact d k hk h1
    · exact absurd (ownsRow_block_lt ho hk).1 (by omega)
  have hmd : Dis ma ka := fun k hk hk' => by
    have h1 := ownsRow_block_lt h.arr.ma_ hk
    exact apart_types h.arr.ma_ h.arr.ka_ (by decide) hk hk'
  have hmd2 : Dis ma wa := fun k hk hk' => apart_types h.arr.ma_ h.arr.wa_ (by decide) hk hk'
  have hks := e.ks
  have hws := e.ws
  refine ⟨⟨e.st, hrow h.arr.fa_ (by decide) h.arr.fk h.arr.fw, hrow h.arr.ha_ (by decide) h.arr.hk h.arr.hw, hrow h.arr.ma_ (by decide) hmd hmd2, by rw [List.length_append]; exact hks, by rw [List.length_append, hWK]; exact hws, h.arr.fh, hnew h.arr.fa_ e.kb h.arr.fk, hnewW h.arr.fa_ h.arr.fw, hnew h.arr.ha_ e.kb h.arr.hk, hnewW h.arr.ha_ h.arr.hw, e.ap, h.arr.bp, Nat.le_trans h.arr.bw e.chg.size⟩,
    hrow h.ga_ (by decide) h.gk h.gw, h.gf, h.gh, hnew h.ga_ e.kb h.gk, hnewW h.ga_ h.gw, h.kn.chg e.chg (fun k hk hc => hne k hc (h.kn.isT8 hk)), h.fr.chg e.chg (fun k hk hc => hne k hc (h.fr.isT8 hk)), h.dv,
    h.kep.chg e.chg (fun k _ h8 hc => hne k hc h8) (fun _ _ h => h), fun g hg => ?_, h.chg.trans e.chg hU⟩
  obtain ⟨l, hr⟩ := h.grd g hg
  exact ⟨l, hr.chg e.chg (fun k cur _ hc hk => hne k hk ⟨cur, hc⟩) (fun _ _ h => h)⟩
/-- the row of grown lists grows -/
theorem It.grow (h : It B U w0 w p c0 c1 fa ha ma ka wa fs hs M K W ga G v n F' L K0 W0 G0) {wA : World} (o : Out w wA) {ga' : Value} {news : List Value} {m : Nat} (hm : news.length = m) (hat : AppAt wA w' 24 ga ga' G.length m news) (hg : wA.grownBy w' ga.ownBlock) (hown : w'.ownsRow B 24 1 ga' (G.length + m) (G ++ news)) (hU : ∀ k, ga.ownBlock = some k → k < w0.heap.size → U k) :
    It B U w0 w' p c0 c1 fa ha ma ka wa fs hs M K W ga' (G ++ news) v n F' L K0 W0 G0 := by
  have hA := h.out o
  have c : Chg (fun k => ga.ownBlock = some k) wA w' := Chg.of_grown hg (fun _ h => h)
  have hne : ∀ k, ga.ownBlock = some k → ¬ IsT8 wA k := fun k hk => notT8 hA.ga_ (by decide) hk
  have hrow : ∀ {et : TypeId} {u : Value} {q : Nat} {xs : List Value}, wA.ownsRow B et 1 u q xs → Dis ga u → w'.ownsRow B et 1 u q xs := fun ho d => owns_chg ho (fun k hk hc => d k hc hk) c
  have hd : ∀ {et : TypeId} {u : Value} {q : Nat} {xs : List Value}, wA.ownsRow B et 1 u q xs → Dis ga u → Dis ga' u := fun ho d k hk hk' => by
    rcases hat.block k hk with h1 | h1
    · exact d k h1 hk'
    · exact absurd (ownsRow_block_lt ho hk').1 (by omega)
  have hgm : Dis ga ma := fun k hk hk' => apart_types hA.ga_ hA.arr.ma_ (by decide) hk hk'
  refine ⟨⟨hA.arr.st.same (c.block p hA.arr.st.lt (fun hk => st_apart hA.arr.st (by decide) hA.ga_ hk)), hrow hA.arr.fa_ hA.gf, hrow hA.arr.ha_ hA.gh, hrow hA.arr.ma_ hgm, hrow hA.arr.ka_ hA.gk, hrow hA.arr.wa_ hA.gw, hA.arr.fh, hA.arr.fk, hA.arr.fw, hA.arr.hk, hA.arr.hw, hA.arr.kw, hA.arr.bp, Nat.le_trans hA.arr.bw c.size⟩,
    by rw [List.length_append, hm]; exact hown, hd hA.arr.fa_ hA.gf, hd hA.arr.ha_ hA.gh, hd hA.arr.ka_ hA.gk, hd hA.arr.wa_ hA.gw, hA.kn.chg c (fun k hk hc => hne k hc (hA.kn.isT8 hk)), hA.fr.chg c (fun k hk hc => hne k hc (hA.fr.isT8 hk)), hA.dv,
    hA.kep.chg c (fun k _ h8 hc => hne k hc h8) (fun _ _ h => h), fun g hg => ?_, hA.chg.trans c hU⟩
  obtain ⟨l, hr⟩ := hA.grd g hg
  exact ⟨l, hr.chg c (fun k cur _ hc hk => hne k hk ⟨cur, hc⟩) (fun _ _ h => h)⟩
end
end Go.Proofs.Ytlfcjbeldnkkoaa
