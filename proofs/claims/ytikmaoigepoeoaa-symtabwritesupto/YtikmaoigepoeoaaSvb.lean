import Derived.Test.YtikmaoigepoeoaaSva
namespace Go.Proofs.Ytikmaoigepoeoaa
open Go.RowKit
set_option linter.unusedVariables false
set_option linter.unusedSimpArgs false
theorem info31 : (Try.prog.info? 37).map (fun i => (i.zero, i.size, i.bytes)) = some (some (.slice none 0 0), 1, 24) := by kernel_rfl
/-- the struct's block -/
def StAt (w : World) (p : Nat) (cs : Array Value) : Prop := w.heap[p]? = some (.cells cs 32 (0, 0))
theorem StAt.cell {w : World} {p : Nat} {cs : Array Value} (h : StAt w p cs) (j : Nat) : w.cell? ⟨p, j, none⟩ = cs[j]? := by simp [World.cell?, show w.heap[p]? = _ from h]
theorem StAt.frozen {w : World} {p : Nat} {cs : Array Value} (h : StAt w p cs) (j : Nat) : w.frozen? ⟨p, j, none⟩ = false := by simp [World.frozen?, show w.heap[p]? = _ from h]
theorem StAt.lt {w : World} {p : Nat} {cs : Array Value} (h : StAt w p cs) : p < w.heap.size := (Array.getElem?_eq_some_iff.1 h).1
theorem StAt.set {w : World} {p : Nat} {cs : Array Value} (h : StAt w p cs) (j : Nat) (u : Value) : StAt (w.setCell ⟨p, j, none⟩ u) p (cs.setIfInBounds j u) := by
  show (w.setCell ⟨p, j, none⟩ u).heap[p]? = _
  simp [World.setCell, Array.getElem?_modify, show w.heap[p]? = _ from h]
theorem StAt.same {w w' : World} {p : Nat} {cs : Array Value} (h : StAt w p cs) (e : w'.heap[p]? = w.heap[p]?) : StAt w' p cs := e.trans h
/-- a row of another element type than the struct's does not lie in the struct's block -/
theorem st_apart {w : World} {p B n : Nat} {cs : Array Value} {e : TypeId} {v : Value} {xs : List Value} (h : StAt w p cs) (he : e ≠ 32) (ho : w.ownsRow B e 1 v n xs) : v.ownBlock ≠ some p := by
  intro hk
  obtain ⟨-, -, c1, h1⟩ := ownsRow_block_lt ho hk
  rw [show w.heap[p]? = _ from h] at h1
  injection h1 with h1
  injection h1 with _ h1
  exact he h1.symm
structure KeepEnd (B p : Nat) (w w' : World) (c0 c1 c2 fa ha ma ka wa v u ka' wa' : Value) (n : Nat) (ks ws : List Value) : Prop where
  st : StAt w' p #[c0, c1, c2, fa, ha, ma, ka', wa']
  ks : w'.ownsRow B 37 1 ka' (n + 1) (ks ++ [v])
  ws : w'.ownsRow B 37 1 wa' (n + 1) (ws ++ [u])
  chg : Chg (fun k => k = p ∨ ka.ownBlock = some k ∨ wa.ownBlock = some k) w w'
  kb : ∀ k, ka'.ownBlock = some k → ka.ownBlock = some k ∨ w.heap.size ≤ k
  wb : ∀ k, wa'.ownBlock = some k → wa.ownBlock = some k ∨ w.heap.size ≤ k
  ap : ∀ k, ka'.ownBlock = some k → wa'.ownBlock ≠ some k
theorem keep_any (w : World) (B p : Nat) (c0 c1 c2 fa ha ma ka wa : Value) (va ua : Option Addr) (vn vc un uc : Nat) (hB : B ≤ w.heap.size) (hst : StAt w p #[c0, c1, c2, fa, ha, ma, ka, wa])
    (n : Nat) (hn : n ≤ 2000000000000) (ks ws : List Value) (hka : w.ownsRow B 37 1 ka n ks) (hwa : w.ownsRow B 37 1 wa n ws) (hap : ∀ k, ka.ownBlock = some k → wa.ownBlock ≠ some k) :
    Calls Try.prog 51 #[.pointer (some ⟨p, 0, none⟩), .slice va vn vc, .slice ua un uc] w fun e w' => (∃ r, e = .returned r) ∧ ∃ ka' wa', KeepEnd B p w w' c0 c1 c2 fa ha ma ka wa (.slice va vn vc) (.slice ua un uc) ka' wa' n ks ws := by
  obtain ⟨i0, hi, hz0, hz1, hz2⟩ := info_parts info31
  have hc6 : w.cell? ⟨p, 6, none⟩ = some ka := hst.cell 6
  have hf6 : w.frozen? ⟨p, 6, none⟩ = false := hst.frozen 6
  have hpk : ka.ownBlock ≠ some p := st_apart hst (by decide) hka
  have hpw : wa.ownBlock ≠ some p := st_apart hst (by decide) hwa
  have hst1 : ∀ w1, (w.alloc (.cells #[.slice va vn vc] 37)).grownBy w1 ka.ownBlock → StAt w1 p #[c0, c1, c2, fa, ha, ma, ka, wa] := fun w1 hg => by
    refine (hst.same (Below.heap_alloc w _ p hst.lt)).same (hg.block p ?_ (fun e => hpk e.symm))
    have := hst.lt
    rw [size_alloc]; omega
  have H1 := hidOf <| hst1
  have H2 := hidOf <| hap
  have H3 := hidOf <| hpk
  have H4 := hidOf <| hpw
  clear hst1 hap hpk hpw
  go_enter Try.func51, Try.ntmps51
  go_upto_region 1 with (first | (at_builtin; refine wpList_append_two rfl (.tmp 10) (.tmp 12) 29 rfl B 37 i0 (.slice none 0 0) 24 Try.underlying29 hi hz0 hz1 hz2 rfl ka n ks rfl (owns_alloc hka _) ⟨w.heap.size, 0, none⟩ 1 1 [.slice va vn vc] (by omega) rfl rfl (one_row _ _ _) (by intro x hx; simp at hx; subst hx; rfl) (by omega) (by omega) (by rw [size_alloc]; omega) ?_; intro v1 w1 hown1 hgrow1 hat1; obtain ⟨a1, n1, cc1, rfl⟩ := hat1.slice; have hs1 := H1.out w1 hgrow1; have hc61 : w1.cell? ⟨p, 6, none⟩ = some ka := hs1.cell 6; have hf61 := hs1.frozen 6; have hs2 := hs1.set 6 (.slice a1 n1 cc1); have hc7 : (w1.setCell ⟨p, 6, none⟩ (.slice a1 n1 cc1)).cell? ⟨p, 7, none⟩ = some wa := hs2.cell 7; have hf7 := hs2.frozen 7; have hwa2 := owns_setCell (a := ⟨p, 6, none⟩) (u := .slice a1 n1 cc1) (owns_grown (owns_alloc hwa _) hgrow1 (fun k hk e => H2.out k e hk)) H4.out))
  clear hc6 hf6 hc61 hf61
  have H5 := hidOf <| hgrow1
  have H6 := hidOf <| hat1
  have H7 := hidOf <| hown1
  have H8 := hidOf <| hs2
  have H0 := hidOf <| hst.lt
  clear hgrow1 hat1 hown1 hs2 hs1 hst
  have hsz : B ≤ (w1.setCell ⟨p, 6, none⟩ (.slice a1 n1 cc1)).heap.size := by
    have h := H5.out.size
    rw [size_alloc] at h
    simp [World.setCell]
    omega
  have hst2 : ∀ w2, ((w1.setCell ⟨p, 6, none⟩ (.slice a1 n1 cc1)).alloc (.cells #[.slice ua un uc] 37)).grownBy w2 wa.ownBlock → StAt w2 p #[c0, c1, c2, fa, ha, ma, .slice a1 n1 cc1, wa] := fun w2 hg => by
    have h8 : StAt _ p #[c0, c1, c2, fa, ha, ma, .slice a1 n1 cc1, wa] := H8.out
    refine (h8.same (Below.heap_alloc _ _ p h8.lt)).same (hg.block p ?_ (fun e => H4.out e.symm))
    have := h8.lt
    rw [size_alloc]; omega
  have H9 := hidOf <| hst2
  clear hst2
  go_wp2_with (first | (at_builtin; refine wpList_append_two rfl (.tmp 20) (.tmp 22) 29 rfl B 37 i0 (.slice none 0 0) 24 Try.underlying29 hi hz0 hz1 hz2 rfl wa n ws rfl (owns_alloc hwa2 _) _ 1 1 [.slice ua un uc] (by omega) rfl rfl (news_new _ #[.slice ua un uc] _ _ (by simp)) (by intro x hx; simp at hx; subst hx; rfl) (by omega) (by omega) (by rw [size_alloc]; omega) ?_; intro v2 w2 hown2 hgrow2 hat2; obtain ⟨a2, n2, cc2, rfl⟩ := hat2.slice; have hs3 := H9.out w2 hgrow2; have hc73 : w2.cell? ⟨p, 7, none⟩ = some wa := hs3.cell 7; have hf73 := hs3.frozen 7))
  go_end0
  have hg1 := H5.out
  have hg2 := hgrow2
  have ha1 : AppAt _ _ _ _ _ _ _ _ := H6.out
  have hp := H0.out
  have hz1' : (w.alloc (.cells #[.slice va vn vc] 37)).heap.size = w.heap.size + 1 := by rw [size_alloc]
  have hz2' : ((w1.setCell ⟨p, 6, none⟩ (.slice a1 n1 cc1)).alloc (.cells #[.slice ua un uc] 37)).heap.size = w1.heap.size + 1 := by rw [size_alloc]; simp [World.setCell]
  have hle1 := hg1.size
  have hkb : ∀ k, (Value.slice a1 n1 cc1).ownBlock = some k → ka.ownBlock = some k ∨ w.heap.size ≤ k := fun k hk => by
    rcases ha1.block k hk with h | h
    · exact .inl h
    · exact .inr (by omega)
  have hk7 : w1.ownsRow B 37 1 (.slice a1 n1 cc1) (n + 1) (ks ++ [.slice va vn vc]) := H7.out
  have hpa1 : (Value.slice a1 n1 cc1).ownBlock ≠ some p := fun e => by
    rcases ha1.block p e with h | h
    · exact H3.out h
    · omega
  have hka2 := owns_alloc (owns_setCell (a := ⟨p, 6, none⟩) (u := .slice a1 n1 cc1) hk7 hpa1) (.cells #[.slice ua un uc] 37)
  have hkw : ∀ k, (Value.slice a1 n1 cc1).ownBlock = some k → wa.ownBlock ≠ some k := fun k hk e => by
    rcases ha1.block k hk with h | h
    · exact H2.out k h e
    · have := (ownsRow_block_lt hwa e).1; omega
  have hka3 := owns_grown hka2 hg2 (fun k hk e => hkw k hk e)
  have hpa2 : (Value.slice a2 n2 cc2).ownBlock ≠ some p := fun e => by
    rcases hat2.block p e with h | h
    · exact H4.out h
    · omega
  refine ⟨⟨_, rfl⟩, .slice a1 n1 cc1, .slice a2 n2 cc2, ⟨hs3.set 7 _, owns_setCell hka3 hpa1, owns_setCell hown2 hpa2, ?_, hkb, fun k hk => ?_, fun k hk e => ?_⟩⟩
  · have c1 : Chg (fun k => k = p ∨ ka.ownBlock = some k ∨ wa.ownBlock = some k) w w1 := (Chg.alloc (Chg.refl _ w) _).trans (T := fun k => ka.ownBlock = some k) (Chg.of_grown hg1 (fun k h => h)) (fun x hx _ => .inr (.inl hx))
    have c2 := Chg.alloc (Chg.setCell c1 (p := ⟨p, 6, none⟩) (.inl rfl) (.slice a1 n1 cc1)) (.cells #[.slice ua un uc] 37)
    have c3 := c2.trans (T := fun k => wa.ownBlock = some k) (Chg.of_grown hg2 (fun k h => h)) (fun x hx _ => .inr (.inr hx))
    exact Chg.setCell c3 (p := ⟨p, 7, none⟩) (.inl rfl) _
  · rcases hat2.block k hk with h | h
    · exact .inl h
    · exact .inr (by omega)
  · rcases hat2.block k e with h | h
    · exact hkw k hk h
    · have := (ownsRow_block_lt hka2 hk).1; omega
end Go.Proofs.Ytikmaoigepoeoaa
