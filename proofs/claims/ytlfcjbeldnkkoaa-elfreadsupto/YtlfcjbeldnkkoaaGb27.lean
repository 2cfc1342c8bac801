import Derived.Test.YtlfcjbeldnkkoaaGb26
namespace Go.Proofs.Ytlfcjbeldnkkoaa
open Go.RowKit
set_option linter.unusedVariables false
set_option linter.unusedSimpArgs false
theorem info31 : (Try.prog.info? 24).map (fun i => (i.zero, i.size, i.bytes)) = some (some (.slice none 0 0), 1, 24) := by kernel_rfl
/-- the struct's block -/
def StAt (w : World) (p : Nat) (cs : Array Value) : Prop := w.heap[p]? = some (.cells cs 32 (0, 0))
theorem StAt.cell {w : World} {p : Nat} {cs : Array Value} (h : StAt w p cs) (j : Nat) : w.cell? ⟨p, j, none⟩ = cs[j]? := by simp [World.cell?, show w.heap[p]? = _ from h]
theorem StAt.frozen {w : World} {p : Nat} {cs : Array Value} (h : StAt w p cs) (j : Nat) : w.frozen? ⟨p, j, none⟩ = false := by simp [World.frozen?, show w.heap[p]? = _ from h]
theorem StAt.lt {w : World} {p : Nat} {cs : Array Value} (h : StAt w p cs) : p < w.heap.size := (Array.getElem?_eq_some_iff.1 h).1
theorem StAt.set {w : World} {p : Nat} {cs : Array Value} (h : StAt w p cs) (j : Nat) (u : Value) : StAt (w.setCell ⟨p, j, none⟩ u) p (cs.setIfInBounds j u) := by
  show (w.setCell ⟨p, j, none⟩ u).heap[p]? = _
  simp [World.setCell, Array.getElem?_modify, show w.heap[p]? = _ from h]
theorem StAt.same {w w' : World} {p : Nat} {cs : Array Value} (h : StAt w p cs) (e : w'.heap[p]? = w.heap[p]?) : StAt w' p cs := e.trans h
/-- a row of another element type than the struct's does not lie in the struct's block -/
theorem st_apart {w : World} {p B n : Nat} {cs : Array Value} {e : TypeId} {v : Value} {xs : List Value} (h : StAt w p cs) (he : e ≠ 32) (ho : w.ownsRow B e 1 v n xs) : v.ownBlock ≠ some p := by
  intro hk
  obtain ⟨-, -, c1, h1⟩ := ownsRow_block_lt ho hk
  rw [show w.heap[p]? = _ from h] at h1
  injection h1 with h1
  injection h1 with _ h1
  exact he h1.symm
structure KeepEnd (B p : Nat) (w w' : World) (c0 c1 c2 fa ha ma ka wa v u ka' wa' : Value) (n : Nat) (ks ws : List Value) : Prop where
  st : StAt w' p #[c0, c1, c2, fa, ha, ma, ka', wa']
  ks : w'.ownsRow B 24 1 ka' (n + 1) (ks ++ [v])
  ws : w'.ownsRow B 24 1 wa' (n + 1) (ws ++ [u])
  chg : Chg (fun k => k = p ∨ ka.ownBlock = some k ∨ wa.ownBlock = some k) w w'
  kb : ∀ k, ka'.ownBlock = some k → ka.ownBlock = some k ∨ w.heap.size ≤ k
  wb : ∀ k, wa'.ownBlock = some k → wa.ownBlock = some k ∨ w.heap.size ≤ k
  ap : ∀ k, ka'.ownBlock = some k → wa'.ownBlock ≠ some k
theorem keep_any (w : World) (B p : Nat) (c0 c1 c2 fa ha ma ka wa : Value) (va ua : Option Addr) (vn vc un uc : Nat) (hB : B ≤ w.heap.size) (hst : StAt w p #[c0, c1, c2, fa, ha, ma, ka, wa])
    (n : Nat) (hn : n ≤ 2000000000000) (ks ws : List Value) (hka : w.ownsRow B 24 1 ka n ks) (hwa : w.ownsRow B 24 1 wa n ws) (hap : ∀ k, ka.ownBlock = some k → wa.ownBlock ≠ some k) :
    Calls Try.prog 83 #[.pointer (some ⟨p, 0, none⟩), .slice va vn vc, .slice ua un uc] w fun e w' => (∃ r, e = .returned r) ∧ ∃ ka' wa', KeepEnd B p w w' c0 c1 c2 fa ha ma ka wa (.slice va vn vc) (.slice ua un uc) ka' wa' n ks ws := by
  obtain ⟨i0, hi, hz0, hz1, hz2⟩ := info_parts info31
  have hc6 : w.cell? ⟨p, 6, none⟩ = some ka := hst.cell 6
  have hf6 : w.frozen? ⟨p, 6, none⟩ = false := hst.frozen 6
  have hpk : ka.ownBlock ≠ some p := st_apart hst (by decide) hka
  have hpw : wa.ownBlock ≠ some p := st_apart hst (by decide) hwa
  have hst1 : ∀ w1, (w.alloc (.cells #[.slice va vn vc] 24)).grownBy w1 ka.ownBlock → StAt w1 p #[c0, c1, c2, fa, ha, ma, ka, wa] := fun w1 hg => by
    refine (hst.same (Below.heap_alloc w _ p hst.lt)).same (hg.block p ?_ (fun e => hpk e.symm))
    have := hst.lt
    rw [size_alloc]; omega
  have H1 := hidOf <| hst1
  have H2 := hidOf <| hap
  have H3 := hidOf <| hpk
  have H4 := hidOf <| hpw
  clear hst1 hap hpk hpw
  go_enter Try.func83, Try.ntmps83
  go_upto_region 1 with (first | (at_builtin; refine wpList_append_two rfl (.tmp 10) (.tmp 12) 22 rfl B 24 i0 (.slice none 0 0) 24 Try.underlying22 hi hz0 hz1 hz2 rfl ka n ks rfl (owns_alloc hka _) ⟨w.heap.size, 0, none⟩ 1 1 [.slice va vn vc] (by omega) rfl rfl (one_row _ _ _) (by intro x hx; simp at hx; subst hx; rfl) (by omega) (by omega) (by rw [size_alloc]; omega) ?_; intro v1 w1 hown1 hgrow1 hat1; obtain ⟨a1, n1, cc1, rfl⟩ := hat1.slice; have hs1 := H1.out w1 hgrow1; have hc61 : w1.cell? ⟨p, 6, none⟩ = some ka := hs1.cell 6; have hf61 := hs1.frozen 6; have hs2 := hs1.set 6 (.slice a1 n1 cc1); have hc7 : (w1.setCell ⟨p, 6, none⟩ (.slice a1 n1 cc1)).cell? ⟨p, 7, none⟩ = some wa := hs2.cell 7; have hf7 := hs2.frozen 7; have hwa2 := owns_setCell (a := ⟨p, 6, none⟩) (u := .slice a1 n1 cc1) (owns_grown (owns_alloc hwa _) hgrow1 (fun k hk e => H2.out k e hk)) H4.out))
  clear hc6 hf6 hc61 hf61
  have H5 := hidOf <| hgrow1
  have H6 := hidOf <| hat1
  have H7 := hidOf <| hown1
  have H8 := hidOf <| hs2
  have H0 := hidOf <| hst.lt
  clear hgrow1 hat1 hown1 hs2 hs1 hst
  have hsz : B ≤ (w1.setCell ⟨p, 6, none⟩ (.slice a1 n1 cc1)).heap.size := by
    have h := H5.out.size
    rw [size_alloc] at h
    simp [World.setCell]
    omega
  have hst2 : ∀ w2, ((w1.setCell ⟨p, 6, none⟩ (.slice a1 n1 cc1)).alloc (.cells #[.slice ua un uc] 24)).grownBy w2 wa.ownBlock → StAt w2 p #[c0, c1, c2, fa, ha, ma, .slice a1 n1 cc1, wa] := fun w2 hg => by
    have h8 : StAt _ p #[c0, c1, c2, fa, ha, ma, .slice a1 n1 cc1, wa] := H8.out
    refine (h8.same (Below.heap_alloc _ _ p h8.lt)).same (hg.block p ?_ (fun e => H4.out e.symm))
    have := h8.lt
    rw [size_alloc]; omega
  have H9 := hidOf <| hst2
  clear hst2
  go_wp2_with (first | (at_builtin; refine wpList_append_two rfl (.tmp 20) (.tmp 22) 22 rfl B 24 i0 (.slice none 0 0) 24 Try.underlying22 hi hz0 hz1 hz2 rfl wa n ws rfl (owns_alloc hwa2 _) _ 1 1 [.slice ua un uc] (by omega) rfl rfl (news_new _ #[.slice ua un uc] _ _ (by simp)) (by intro x hx; simp at hx; subst hx; rfl) (by omega) (by omega) (by rw [size_alloc]; omega) ?_; intro v2 w2 hown2 hgrow2 hat2; obtain ⟨a2, n2, cc2, rfl⟩ := hat2.slice; have hs3 := H9.out w2 hgrow2; have hc73 : w2.cell? ⟨p, 7, none⟩ = some wa := hs3.cell 7; have hf73 := hs3.frozen 7))
  go_end0
  have hg1 := H5.out
  have hg2 := hgrow2
  have ha1 : AppAt _ _ _ _ _ _ _ _ := H6.out
  have hp := H0.out
  have hz1' : (w.alloc (.cells #[.slice va vn vc] 24)).heap.size = w.heap.size + 1 := by rw [size_alloc]
  have hz2' : ((w1.setCell ⟨p, 6, none⟩ (.slice a1 n1 cc1)).alloc (.cells #[.slice ua un uc] 24)).heap.size = w1.heap.size + 1 := by rw [size_alloc]; simp [World.setCell]
  have hle1 := hg1.size
  have hkb : ∀ k, (Value.slice a1 n1 cc1).ownBlock = some k → ka.ownBlock = some k ∨ w.heap.size ≤ k := fun k hk => by
    rcases ha1.block k hk with h | h
    · exact .inl h
    · exact .inr (by omega)
  have hk7 : w1.ownsRow B 24 1 (.slice a1 n1 cc1) (n + 1) (ks ++ [.slice va vn vc]) := H7.out
  have hpa1 : (Value.slice a1 n1 cc1).ownBlock ≠ some p := fun e => by
    rcases ha1.block p e with h | h
    · exact H3.out h
    · omega
  have hka2 := owns_alloc (owns_setCell (a := ⟨p, 6, none⟩) (u := .slice a1 n1 cc1) hk7 hpa1) (.cells #[.slice ua un uc] 24)
  have hkw : ∀ k, (Value.slice a1 n1 cc1).ownBlock = some k → wa.ownBlock ≠ some k := fun k hk e => by
    rcases ha1.block k hk with h | h
    · exact H2.out k h e
    · have := (ownsRow_block_lt hwa e).1; omega
  have hka3 := owns_grown hka2 hg2 (fun k hk e => hkw k hk e)
  have hpa2 : (Value.slice a2 n2 cc2).ownBlock ≠ some p := fun e => by
    rcases hat2.block p e with h | h
    · exact H4.out h
    · omega
  refine ⟨⟨_, rfl⟩, .slice a1 n1 cc1, .slice a2 n2 cc2, ⟨hs3.set 7 _, owns_setCell hka3 hpa1, owns_setCell hown2 hpa2, ?_, hkb, fun k hk => ?_, fun k hk e => ?_⟩⟩
  · have c1 : Chg (fun k => k = p ∨ ka.ownBlock = some k ∨ wa.ownBlock = some k) w w1 := (Chg.alloc (Chg.refl _ w) _).trans (T := fun k => ka.ownBlock = some k) (Chg.of_grown hg1 (fun k h => h)) (fun x hx _ => .inr (.inl hx))
    have c2 := Chg.alloc (Chg.setCell c1 (p := ⟨p, 6, none⟩) (.inl rfl) (.slice a1 n1 cc1)) (.cells #[.slice ua un uc] 24)
    have c3 := c2.trans (T := fun k => wa.ownBlock = some k) (Chg.of_grown hg2 (fun k h => h)) (fun x hx _ => .inr (.inr hx))
    exact Chg.setCell c3 (p := ⟨p, 7, none⟩) (.inl rfl) _
  · rcases hat2.block k hk with h | h
    · exact .inl h
    · exact .inr (by omega)
  · rcases hat2.block k e with h | h
    · exact hkw k hk h
    · have := (ownsRow_block_lt hka2 hk).1; omega
end Go.Proofs.Ytlfcjbeldnkkoaa
namespace Go.Proofs.Ytlfcjbeldnkkoaa
open Go.RowKit
set_option linter.unusedVariables false
set_option linter.unusedSimpArgs false
/-- a list at rest: it reads l, its block is none of S -/
def Rd (B : Nat) (S : Nat → Prop) (w : World) (v : Value) (l : List Int) : Prop :=
  (v = .slice none 0 0 ∧ l = []) ∨ ∃ g c cur, v = .slice (some ⟨g, 0, none⟩) l.length c ∧ B ≤ g ∧ ¬ S g ∧ w.heap[g]? = some (.cells cur 5 (0, 0)) ∧ cur.toList.take l.length = bV l
theorem Rd.bytA {B : Nat} {S : Nat → Prop} {w : World} {v : Value} {l : List Int} (h : Rd B S w v l) : ∃ a c, v = .slice a l.length c ∧ BytA w a l := by
  rcases h with ⟨rfl, rfl⟩ | ⟨g, c, cur, rfl, hB, hS, hg, ht⟩
  · exact ⟨none, 0, rfl, .inl rfl⟩
  · refine ⟨_, c, rfl, .inr ⟨g, 0, rfl, fun k hk => ?_⟩⟩
    have e1 : (bV l)[k]? = some (.int .u8 (gB l k)) := by simp [bV, gB, List.getD, List.getElem?_eq_getElem hk]
    rw [← ht, List.getElem?_take, if_pos hk] at e1
    rw [cell_at hg, Nat.zero_add]; simpa using e1
theorem Rd.conv {B : Nat} {S : Nat → Prop} {w : World} {v : Value} {l : List Int} (h : Rd B S w v l) : (convert 24 9 v).run Try.prog w = .ok (.string (strB l)) w := by
  obtain ⟨a, c, rfl, hA⟩ := h.bytA
  exact conv_bytes w a _ c l rfl hA
theorem Rd.drewN {B : Nat} {S : Nat → Prop} {w : World} {v : Value} {l : List Int} (h : Rd B S w v l) (m : Nat) : Rd B S (w.drewN m) v l := h
theorem Rd.chg {B : Nat} {S T U : Nat → Prop} {w w' : World} {v : Value} {l : List Int} (h : Rd B S w v l) (c : Chg U w w') (hU : ∀ k cur, ¬ S k → w.heap[k]? = some (.cells cur 5 (0, 0)) → ¬ U k) (hT : ∀ k, k < w.heap.size → ¬ S k → ¬ T k) : Rd B T w' v l := by
  rcases h with h | ⟨g, cc, cur, rfl, hB, hS, hg, ht⟩
  · exact .inl h
  · have hlt : g < w.heap.size := (Array.getElem?_eq_some_iff.1 hg).1
    exact .inr ⟨g, cc, cur, rfl, hB, hT g hlt hS, (c.block g hlt (hU g cur hS hg)).trans hg, ht⟩
theorem Rd.out {B : Nat} {S : Nat → Prop} {w w' : World} {v : Value} {l : List Int} (h : Rd B S w v l) (o : Out w w') (hS : ∀ k, w.heap.size ≤ k → ¬ S k) : Rd B S w' v l := h.chg (Chg.of_out (S := fun _ => False) o) (fun _ _ _ _ h => h) (fun _ _ h => h)
theorem Rd.mono {B : Nat} {S T : Nat → Prop} {w : World} {v : Value} {l : List Int} (h : Rd B S w v l) (hT : ∀ k, ¬ S k → ¬ T k) : Rd B T w v l := h.chg (Chg.refl (fun _ => False) w) (fun _ _ _ _ h => h) (fun k _ h => hT k h)
theorem rd_of_owns {B : Nat} {S : Nat → Prop} {w : World} {v : Value} {l : List Int} (h : w.ownsRow B 5 1 v l.length (bV l)) (hS : ∀ k, v.ownBlock = some k → ¬ S k) : Rd B S w v l := by
  rcases h.2 with ⟨rfl, h0⟩ | ⟨g, cap, cur, rfl, hb, hg, hn, hm, hs, ht⟩
  · exact .inl ⟨rfl, List.length_eq_zero_iff.1 h0⟩
  · exact .inr ⟨g, cap, cur, rfl, hb, hS g rfl, hg, by simpa using ht⟩
/-- the lists of two rows read alike -/
def Pairs (w : World) (xs ys : List Value) : Prop := ∀ (j : Nat) x y, xs[j]? = some x → ys[j]? = some y → ∃ s, ∀ m, (convert 24 9 x).run Try.prog (w.drewN m) = .ok (.string s) (w.drewN m) ∧ (convert 24 9 y).run Try.prog (w.drewN m) = .ok (.string s) (w.drewN m)
theorem pairs_of {B : Nat} {S T : Nat → Prop} {w : World} {xs ys : List Value} (h : ∀ (j : Nat) x y, xs[j]? = some x → ys[j]? = some y → ∃ l, Rd B S w x l ∧ Rd B T w y l) : Pairs w xs ys := fun j x y hx hy => by
  obtain ⟨l, h1, h2⟩ := h j x y hx hy
  exact ⟨strB l, fun m => ⟨(h1.drewN m).conv, (h2.drewN m).conv⟩⟩
def Alike2 (w : World) (n g1 g2 : Nat) : Prop := ∀ j, j < n → ∃ x y s, w.cell? ⟨g1, j, none⟩ = some x ∧ w.cell? ⟨g2, j, none⟩ = some y ∧ ∀ m, (convert 24 9 x).run Try.prog (w.drewN m) = .ok (.string s) (w.drewN m) ∧ (convert 24 9 y).run Try.prog (w.drewN m) = .ok (.string s) (w.drewN m)
theorem alike_of {w : World} {B n g1 g2 c1 c2 : Nat} {xs ys : List Value} {e : TypeId} (h1 : w.ownsRow B e 1 (.slice (some ⟨g1, 0, none⟩) n c1) n xs) (h2 : w.ownsRow B e 1 (.slice (some ⟨g2, 0, none⟩) n c2) n ys) (hp : Pairs w xs ys) : Alike2 w n g1 g2 := by
  intro j hj
  have l1 : j < xs.length := by have := h1.1; omega
  have l2 : j < ys.length := by have := h2.1; omega
  have e1 : xs[j]? = some xs[j] := List.getElem?_eq_getElem l1
  have e2 : ys[j]? = some ys[j] := List.getElem?_eq_getElem l2
  obtain ⟨s, hs⟩ := hp j _ _ e1 e2
  have q1 := h1.cells (g := g1) rfl j _ e1
  have q2 := h2.cells (g := g2) rfl j _ e2
  rw [WideShapes.add_plain, Nat.zero_add] at q1 q2
  exact ⟨_, _, s, q1, q2, hs⟩
theorem books_same0 (w : World) (p : Nat) (c0 c1 c2 fa ha ma wa : Value) (a1 : Option Addr) (cc1 : Nat) (hst : StAt w p #[c0, c1, c2, fa, ha, ma, .slice a1 0 cc1, wa]) :
    Calls Try.prog 45 #[.pointer (some ⟨p, 0, none⟩)] w fun e w' => e = .returned (.bool true) ∧ ∃ m, w' = w.drewN m := by
  have hc6 : w.cell? ⟨p, 6, none⟩ = some (.slice a1 0 cc1) := hst.cell 6
  go_enter Try.func45, Try.ntmps45
  go_wp2
  refine wp_loop_rounds 1 ?_
  rw [rounds_succ]
  go_wp2
  go_ret
  exact ⟨rfl, 0, rfl⟩
theorem books_same1 (w : World) (p : Nat) (c0 c1 c2 fa ha ma : Value) (g1 g2 n cc1 cc2 : Nat) (hn : n ≤ 2000000000000) (hst : StAt w p #[c0, c1, c2, fa, ha, ma, .slice (some ⟨g1, 0, none⟩) n cc1, .slice (some ⟨g2, 0, none⟩) n cc2]) (hal : Alike2 w n g1 g2) :
    Calls Try.prog 45 #[.pointer (some ⟨p, 0, none⟩)] w fun e w' => e = .returned (.bool true) ∧ ∃ m, w' = w.drewN m := by
  have HA := hidOf hal
  clear hal
  go_enter Try.func45, Try.ntmps45
  go_wp2
  go_loopw [3] (fun i wr => ∃ k : Nat, k ≤ n ∧ i = .int .i64 k ∧ ∃ m, wr = w.drewN m) (fun i _ => n - (intOf i).toNat)
  case atStart => exact ⟨0, by omega, rfl, 0, rfl⟩
  case round =>
    obtain ⟨k, hk, rfl, m, rfl⟩ := hrel
    have hc6 : (w.drewN m).cell? ⟨p, 6, none⟩ = some (.slice (some ⟨g1, 0, none⟩) n cc1) := hst.cell 6
    have hc7 : (w.drewN m).cell? ⟨p, 7, none⟩ = some (.slice (some ⟨g2, 0, none⟩) n cc2) := hst.cell 7
    have hxx : k < n → ∃ x y s, (w.drewN m).cell? ⟨g1, k, none⟩ = some x ∧ (w.drewN m).cell? ⟨g2, k, none⟩ = some y ∧ ∀ q, (convert 24 9 x).run Try.prog ((w.drewN m).drewN q) = .ok (.string s) ((w.drewN m).drewN q) ∧ (convert 24 9 y).run Try.prog ((w.drewN m).drewN q) = .ok (.string s) ((w.drewN m).drewN q) := fun hk => by
      obtain ⟨x, y, s, h1, h2, h3⟩ := HA.out k hk
      exact ⟨x, y, s, h1, h2, fun q => by rw [drewN_twice]; exact h3 (m + q)⟩
    generalize hwm : w.drewN m = wm at *
    by_cases hkn : k < n
    · obtain ⟨x, y, s, q1, q2, hcv⟩ := hxx hkn
      have hv1 := fun q => (hcv q).1
      have hv2 := fun q => (hcv q).2
      clear hxx hcv
      go_wp2
      go_quiet (fail)
      go_wp2
      go_roundw
      case rel => exact ⟨k + 1, by omega, by simp, by subst hwm; first | exact ⟨_, rfl⟩ | exact ⟨_, (drewN_twice _ _ _)⟩⟩
      case measure => simp [intOf]; omega
    · obtain rfl : k = n := by omega
      clear hxx
      go_wp2
      go_ret
      exact ⟨rfl, _, hwm.symm⟩
end Go.Proofs.Ytlfcjbeldnkkoaa
