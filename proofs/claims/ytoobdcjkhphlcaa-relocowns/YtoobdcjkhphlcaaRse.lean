import Derived.Test.YtoobdcjkhphlcaaRsd
namespace Go.Proofs.Ytoobdcjkhphlcaa
open Go.RowKit
set_option linter.unusedVariables false
set_option linter.unusedSimpArgs false
/-- a row does not lie in a block of another kind -/
theorem own_kind {B s n : Nat} {w : World} {e t : TypeId} {v : Value} {xs : List Value} {b : Nat} {cs : Array Value} {fr : Nat × Nat} (h : w.ownsRow B e s v n xs) (hb : w.heap[b]? = some (.cells cs t fr)) (hne : ¬ e = t) : ¬ v.ownBlock = some b := fun hv => by
  rcases h.2 with ⟨hx, _⟩ | ⟨g, cap, cur, hx, _, hg, _⟩
  · rw [hx] at hv; cases hv
  · rw [hx] at hv
    simp [Value.ownBlock] at hv
    subst hv
    rw [hb] at hg; simp at hg; exact hne hg.2.1.symm
theorem Shf.notp {w : World} {B p : Nat} {ct tt : Int} {fa wa ka ma : Value} {F W K : List Value} {M : List Int} (h : Shf w B p ct tt fa wa ka ma F W K M) : (¬ fa.ownBlock = some p) ∧ (¬ wa.ownBlock = some p) ∧ (¬ ka.ownBlock = some p) ∧ ¬ ma.ownBlock = some p :=
  ⟨own_kind h.fa_ h.st (by decide), own_kind h.wa_ h.st (by decide), own_kind h.ka_ h.st (by decide), own_kind h.ma_ h.st (by decide)⟩
/-- a field is stored -/
theorem Shf.store {w : World} {B p : Nat} {ct tt : Int} {fa wa ka ma : Value} (hst : w.heap[p]? = some (.cells #[.int .i64 ct, .int .i64 tt, .bool false, fa, wa, ka, ma] 41 (0, 0))) (bp : B ≤ p) (j : Nat) (u : Value) {ct' tt' : Int} {fa' wa' ka' ma' : Value} {F' W' K' : List Value} {M' : List Int}
    (hc : (#[.int .i64 ct, .int .i64 tt, .bool false, fa, wa, ka, ma] : Array Value).setIfInBounds j u = #[.int .i64 ct', .int .i64 tt', .bool false, fa', wa', ka', ma'])
    (hf : w.ownsRow B 22 1 fa' F'.length F') (hw : w.ownsRow B 22 1 wa' W'.length W') (hk : w.ownsRow B 22 1 ka' K'.length K') (hm : w.ownsRow B 3 1 ma' M'.length (M'.map (Value.int .i64)))
    (fw : ∀ b, fa'.ownBlock = some b → ¬ wa'.ownBlock = some b) (fk : ∀ b, fa'.ownBlock = some b → ¬ ka'.ownBlock = some b) (wk : ∀ b, wa'.ownBlock = some b → ¬ ka'.ownBlock = some b) : Shf (w.setCell ⟨p, j, none⟩ u) B p ct' tt' fa' wa' ka' ma' F' W' K' M' := by
  have c : Chg (fun k => k = p) w (w.setCell ⟨p, j, none⟩ u) := Chg.setCell (S := fun k => k = p) (Chg.refl _ w) (p := ⟨p, j, none⟩) rfl u
  refine ⟨by rw [set_atL hst, hc], bp, owns_chg hf (fun k hk' e => own_kind hf hst (by decide) (by rw [hk', e])) c, owns_chg hw (fun k hk' e => own_kind hw hst (by decide) (by rw [hk', e])) c, owns_chg hk (fun k hk' e => own_kind hk hst (by decide) (by rw [hk', e])) c, owns_chg hm (fun k hk' e => own_kind hm hst (by decide) (by rw [hk', e])) c, fw, fk, wk⟩
/-- only blocks of tokens turn -/
theorem Shf.tok {w w' : World} {B p : Nat} {ct tt : Int} {fa wa ka ma : Value} {F W K : List Value} {M : List Int} (h : Shf w B p ct tt fa wa ka ma F W K M) {S : Nat → Prop} (c : Chg S w w') (hS : ∀ b, S b → b < w.heap.size → ∃ cs, BlT w b cs) : Shf w' B p ct tt fa wa ka ma F W K M := by
  have key : ∀ {e : TypeId} {n : Nat} {v : Value} {xs : List Value}, w.ownsRow B e 1 v n xs → ¬ e = 27 → w'.ownsRow B e 1 v n xs := fun {e n v xs} h1 hne => owns_chg h1 (fun k hk hs => by
    obtain ⟨cs, hb⟩ := hS k hs (h1.lt k hk).2
    exact own_kind h1 hb hne hk) c
  refine ⟨(c.block p h.lt (fun hs => ?_)).trans h.st, h.bp, key h.fa_ (by decide), key h.wa_ (by decide), key h.ka_ (by decide), key h.ma_ (by decide), h.fw, h.fk, h.wk⟩
  obtain ⟨cs, hb⟩ := hS p hs h.lt
  have h1 : w.heap[p]? = _ := hb
  rw [h.st] at h1; simp at h1
/-- a list that was handed out: k of its tokens are marks from m on -/
def FLk (w : World) (B : Nat) (x : Value) (m : Int) (n k : Nat) : Prop := n ≤ 33554433 ∧ k ≤ n ∧ ((x = .slice none 0 0 ∧ n = 0) ∨ ∃ g c cs, x = .slice (some ⟨g, 0, none⟩) n c ∧ B ≤ g ∧ BlT w g cs ∧ cs.size = c * 3 ∧ n ≤ c ∧ Mk m k cs)
theorem FLk.form {w : World} {B : Nat} {x : Value} {m : Int} {n k : Nat} (h : FLk w B x m n k) : ∃ a c, x = .slice a n c := by
  rcases h.2.2 with ⟨rfl, rfl⟩ | ⟨g, c, cs, rfl, _⟩
  · exact ⟨_, _, rfl⟩
  · exact ⟨_, _, rfl⟩
theorem FLk.ml {w : World} {B : Nat} {x : Value} {m : Int} {n : Nat} (h : FLk w B x m n n) : ML w x m n := by
  rcases h.2.2 with h | ⟨g, c, cs, hx, hg, hb, hs, hn, hm⟩
  · exact .inl h
  · exact .inr ⟨g, c, cs, hx, hb, hs, hn, hm⟩
theorem FLk.chg {S : Nat → Prop} {w w' : World} {B : Nat} {x : Value} {m : Int} {n k : Nat} (h : FLk w B x m n k) (c : Chg S w w') (hs : ∀ b, x.ownBlock = some b → ¬ S b) : FLk w' B x m n k := by
  refine ⟨h.1, h.2.1, ?_⟩
  rcases h.2.2 with h | ⟨g, cp, cs, hx, hg, hb, hr⟩
  · exact .inl h
  · exact .inr ⟨g, cp, cs, hx, hg, hb.chg c (hs g (by rw [hx]; rfl)), hr⟩
theorem FLk.out {w w' : World} {B : Nat} {x : Value} {m : Int} {n k : Nat} (h : FLk w B x m n k) (o : Out w w') : FLk w' B x m n k := h.chg (S := fun _ => False) (Chg.of_out o) (fun _ _ h => h)
theorem FLk.blk {w : World} {B : Nat} {x : Value} {m : Int} {n k : Nat} (h : FLk w B x m n k) : ∀ b, x.ownBlock = some b → B ≤ b ∧ ∃ cs, BlT w b cs := fun b hb => by
  rcases h.2.2 with ⟨rfl, _⟩ | ⟨g, c, cs, rfl, hg, hbl, _⟩
  · cases hb
  · simp [Value.ownBlock] at hb; subst hb; exact ⟨hg, cs, hbl⟩
theorem FLk.mark {w : World} {B : Nat} {x : Value} {m m' : Int} {n : Nat} (h : FLk w B x m n 0) : FLk w B x m' n 0 := by
  refine ⟨h.1, h.2.1, ?_⟩
  rcases h.2.2 with h | ⟨g, c, cs, hx, hg, hb, hs, hn, _⟩
  · exact .inl h
  · exact .inr ⟨g, c, cs, hx, hg, hb, hs, hn, Mk.zero _ _⟩
theorem FLk.of_own {w : World} {B : Nat} {x : Value} {T : List Rl} (h : OwR B x T w) (hl : T.length ≤ 33554433) (m : Int) : FLk w B x m T.length 0 := by
  refine ⟨hl, Nat.zero_le _, ?_⟩
  rcases h.2 with ⟨hv, hn⟩ | ⟨g, cap, cur, hv, hb, hg, hn, hm, hs, ht⟩
  · exact .inl ⟨hv, hn⟩
  · exact .inr ⟨g, cap, cur, hv, hb, hg, hs, hn, Mk.zero _ _⟩
def set4 (cs : Array Value) (k : Nat) (m : Int) : Array Value := ((cs.setIfInBounds (k * 3) (.int .i64 m)).setIfInBounds (k * 3 + 1) (.int .i64 77)).setIfInBounds (k * 3 + 2) (.int .i64 (-m))
theorem set4_size (cs : Array Value) (k : Nat) (m : Int) : (set4 cs k m).size = cs.size := by simp [set4]
theorem set4_mk {cs : Array Value} {k : Nat} {m : Int} (h : k * 3 + 3 ≤ cs.size) (hm : Mk m k cs) : Mk m (k + 1) (set4 cs k (m + k)) := fun i hi j hj => by
  unfold set4
  simp only [Array.getElem?_setIfInBounds, Array.size_setIfInBounds]
  by_cases hik : i < k
  · rw [if_neg (by omega), if_neg (by omega), if_neg (by omega)]
    exact hm i hik j hj
  · obtain rfl : i = k := by omega
    have h4 : j = 0 ∨ j = 1 ∨ j = 2 := by omega
    rcases h4 with rfl | rfl | rfl
    · rw [if_neg (by omega), if_neg (by omega), if_pos (by omega), if_pos (by omega)]; rfl
    · rw [if_neg (by omega), if_pos (by omega), if_pos (by omega)]; rfl
    · rw [if_pos (by omega), if_pos (by omega)]; rfl
theorem BlT.set4 {w : World} {g : Nat} {cs : Array Value} (h : BlT w g cs) (k : Nat) (m : Int) : BlT (((w.setCell ⟨g, k * 3, none⟩ (.int .i64 m)).setCell ⟨g, k * 3 + 1, none⟩ (.int .i64 77)).setCell ⟨g, k * 3 + 2, none⟩ (.int .i64 (-m))) g (set4 cs k m) :=
  set_atL (set_atL (set_atL (show w.heap[g]? = _ from h) _ _) _ _) _ _
theorem BlT.cell {w : World} {g : Nat} {cs : Array Value} (h : BlT w g cs) {i : Nat} (hi : i < cs.size) : ∃ u, w.cell? ⟨g, i, none⟩ = some u := ⟨cs[i], by rw [cell_atL (show w.heap[g]? = _ from h), Array.getElem?_eq_getElem hi]⟩
theorem BlT.frozen {w : World} {g : Nat} {cs : Array Value} (h : BlT w g cs) (j : Nat) : w.frozen? ⟨g, j, none⟩ = false := frozen_atL (show w.heap[g]? = _ from h) j
theorem chg4g {S : Nat → Prop} {g : Nat} {W w : World} (h : Chg S W w) (hg : S g) (o : Nat) (a b c : Value) : Chg S W (((w.setCell ⟨g, o, none⟩ a).setCell ⟨g, o + 1, none⟩ b).setCell ⟨g, o + 2, none⟩ c) :=
  ((h.setCell (p := ⟨g, o, none⟩) hg a).setCell (p := ⟨g, o + 1, none⟩) hg b).setCell (p := ⟨g, o + 2, none⟩) hg c
end Go.Proofs.Ytoobdcjkhphlcaa
