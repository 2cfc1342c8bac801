import Derived.Test.YtekjfbmebekmeaaGreatGa10
namespace Go.Proofs.YtekjfbmebekmeaaGreat.Bo
open Go.RowKit
set_option linter.unusedVariables false
set_option linter.unusedSimpArgs false
theorem info31 : (Tryz.prog.info? 29).map (fun i => (i.zero, i.size, i.bytes)) = some (some (.slice none 0 0), 1, 24) := by kernel_rfl
def StAt (w : World) (p : Nat) (cs : Array Value) : Prop := w.heap[p]? = some (.cells cs 42 (0, 0))
theorem StAt.cell {w : World} {p : Nat} {cs : Array Value} (h : StAt w p cs) (j : Nat) : w.cell? ⟨p, j, none⟩ = cs[j]? := by simp [World.cell?, show w.heap[p]? = _ from h]
theorem StAt.frozen {w : World} {p : Nat} {cs : Array Value} (h : StAt w p cs) (j : Nat) : w.frozen? ⟨p, j, none⟩ = false := by simp [World.frozen?, show w.heap[p]? = _ from h]
theorem StAt.lt {w : World} {p : Nat} {cs : Array Value} (h : StAt w p cs) : p < w.heap.size := (Array.getElem?_eq_some_iff.1 h).1
theorem StAt.set {w : World} {p : Nat} {cs : Array Value} (h : StAt w p cs) (j : Nat) (u : Value) : StAt (w.setCell ⟨p, j, none⟩ u) p (cs.setIfInBounds j u) := by
  show (w.setCell ⟨p, j, none⟩ u).heap[p]? = _
  simp [World.setCell, Array.getElem?_modify, show w.heap[p]? = _ from h]
theorem StAt.same {w w' : World} {p : Nat} {cs : Array Value} (h : StAt w p cs) (e : w'.heap[p]? = w.heap[p]?) : StAt w' p cs := e.trans h
theorem st_apart {w : World} {p B n : Nat} {cs : Array Value} {e : TypeId} {v : Value} {xs : List Value} (h : StAt w p cs) (he : e ≠ 42) (ho : w.ownsRow B e 1 v n xs) : v.ownBlock ≠ some p := by
  intro hk
  obtain ⟨-, -, c1, h1⟩ := ownsRow_block_lt ho hk
  rw [show w.heap[p]? = _ from h] at h1
  injection h1 with h1
  injection h1 with _ h1
  exact he h1.symm
structure KeepEnd (B p : Nat) (w w' : World) (c0 c1 c2 fa ha ma ka wa v u ka' wa' : Value) (n : Nat) (ks ws : List Value) : Prop where
  st : StAt w' p #[c0, c1, c2, fa, ha, ma, ka', wa']
  ks : w'.ownsRow B 29 1 ka' (n + 1) (ks ++ [v])
  ws : w'.ownsRow B 29 1 wa' (n + 1) (ws ++ [u])
  chg : Chg (fun k => k = p ∨ ka.ownBlock = some k ∨ wa.ownBlock = some k) w w'
  kb : ∀ k, ka'.ownBlock = some k → ka.ownBlock = some k ∨ w.heap.size ≤ k
  wb : ∀ k, wa'.ownBlock = some k → wa.ownBlock = some k ∨ w.heap.size ≤ k
  ap : ∀ k, ka'.ownBlock = some k → wa'.ownBlock ≠ some k
theorem keep_any (w : World) (B p : Nat) (c0 c1 c2 fa ha ma ka wa : Value) (va ua : Option Addr) (vn vc un uc : Nat) (hB : B ≤ w.heap.size) (hst : StAt w p #[c0, c1, c2, fa, ha, ma, ka, wa])
    (n : Nat) (hn : n ≤ 2000000000000) (ks ws : List Value) (hka : w.ownsRow B 29 1 ka n ks) (hwa : w.ownsRow B 29 1 wa n ws) (hap : ∀ k, ka.ownBlock = some k → wa.ownBlock ≠ some k) :
    Calls Tryz.prog 75 #[.pointer (some ⟨p, 0, none⟩), .slice va vn vc, .slice ua un uc] w fun e w' => (∃ r, e = .returned r) ∧ ∃ ka' wa', KeepEnd B p w w' c0 c1 c2 fa ha ma ka wa (.slice va vn vc) (.slice ua un uc) ka' wa' n ks ws := by
  obtain ⟨i0, hi, hz0, hz1, hz2⟩ := info_parts info31
  have hc6 : w.cell? ⟨p, 6, none⟩ = some ka := hst.cell 6
  have hf6 : w.frozen? ⟨p, 6, none⟩ = false := hst.frozen 6
  have hpk : ka.ownBlock ≠ some p := st_apart hst (by decide) hka
  have hpw : wa.ownBlock ≠ some p := st_apart hst (by decide) hwa
  have hst1 : ∀ w1, (w.alloc (.cells #[.slice va vn vc] 29)).grownBy w1 ka.ownBlock → StAt w1 p #[c0, c1, c2, fa, ha, ma, ka, wa] := fun w1 hg => by
    refine (hst.same (Below.heap_alloc w _ p hst.lt)).same (hg.block p ?_ (fun e => hpk e.symm))
    have := hst.lt
    rw [size_alloc]; omega
  have H1 := hidOf <| hst1
  have H2 := hidOf <| hap
  have H3 := hidOf <| hpk
  have H4 := hidOf <| hpw
  clear hst1 hap hpk hpw
  go_enter Tryz.func75, Tryz.ntmps75
  go_upto_region 1 with (first | (at_builtin; refine wpList_append_two rfl (.tmp 10) (.tmp 12) 39 rfl B 29 i0 (.slice none 0 0) 24 Tryz.underlying39 hi hz0 hz1 hz2 rfl ka n ks rfl (owns_alloc hka _) ⟨w.heap.size, 0, none⟩ 1 1 [.slice va vn vc] (by omega) rfl rfl (one_row _ _ _) (by intro x hx; simp at hx; subst hx; rfl) (by omega) (by omega) (by rw [size_alloc]; omega) ?_; intro v1 w1 hown1 hgrow1 hat1; obtain ⟨a1, n1, cc1, rfl⟩ := hat1.slice; have hs1 := H1.out w1 hgrow1; have hc61 : w1.cell? ⟨p, 6, none⟩ = some ka := hs1.cell 6; have hf61 := hs1.frozen 6; have hs2 := hs1.set 6 (.slice a1 n1 cc1); have hc7 : (w1.setCell ⟨p, 6, none⟩ (.slice a1 n1 cc1)).cell? ⟨p, 7, none⟩ = some wa := hs2.cell 7; have hf7 := hs2.frozen 7; have hwa2 := owns_setCell (a := ⟨p, 6, none⟩) (u := .slice a1 n1 cc1) (owns_grown (owns_alloc hwa _) hgrow1 (fun k hk e => H2.out k e hk)) H4.out))
  clear hc6 hf6 hc61 hf61
  have H5 := hidOf <| hgrow1
  have H6 := hidOf <| hat1
  have H7 := hidOf <| hown1
  have H8 := hidOf <| hs2
  have H0 := hidOf <| hst.lt
  clear hgrow1 hat1 hown1 hs2 hs1 hst
  have hsz : B ≤ (w1.setCell ⟨p, 6, none⟩ (.slice a1 n1 cc1)).heap.size := by
    have h := H5.out.size
    rw [size_alloc] at h
    simp [World.setCell]
    omega
  have hst2 : ∀ w2, ((w1.setCell ⟨p, 6, none⟩ (.slice a1 n1 cc1)).alloc (.cells #[.slice ua un uc] 29)).grownBy w2 wa.ownBlock → StAt w2 p #[c0, c1, c2, fa, ha, ma, .slice a1 n1 cc1, wa] := fun w2 hg => by
    have h8 : StAt _ p #[c0, c1, c2, fa, ha, ma, .slice a1 n1 cc1, wa] := H8.out
    refine (h8.same (Below.heap_alloc _ _ p h8.lt)).same (hg.block p ?_ (fun e => H4.out e.symm))
    have := h8.lt
    rw [size_alloc]; omega
  have H9 := hidOf <| hst2
  clear hst2
  go_wp2_with (first | (at_builtin; refine wpList_append_two rfl (.tmp 20) (.tmp 22) 39 rfl B 29 i0 (.slice none 0 0) 24 Tryz.underlying39 hi hz0 hz1 hz2 rfl wa n ws rfl (owns_alloc hwa2 _) _ 1 1 [.slice ua un uc] (by omega) rfl rfl (news_new _ #[.slice ua un uc] _ _ (by simp)) (by intro x hx; simp at hx; subst hx; rfl) (by omega) (by omega) (by rw [size_alloc]; omega) ?_; intro v2 w2 hown2 hgrow2 hat2; obtain ⟨a2, n2, cc2, rfl⟩ := hat2.slice; have hs3 := H9.out w2 hgrow2; have hc73 : w2.cell? ⟨p, 7, none⟩ = some wa := hs3.cell 7; have hf73 := hs3.frozen 7))
  go_end0
  have hg1 := H5.out
  have hg2 := hgrow2
  have ha1 : AppAt _ _ _ _ _ _ _ _ := H6.out
  have hp := H0.out
  have hz1' : (w.alloc (.cells #[.slice va vn vc] 29)).heap.size = w.heap.size + 1 := by rw [size_alloc]
  have hz2' : ((w1.setCell ⟨p, 6, none⟩ (.slice a1 n1 cc1)).alloc (.cells #[.slice ua un uc] 29)).heap.size = w1.heap.size + 1 := by rw [size_alloc]; simp [World.setCell]
  have hle1 := hg1.size
  have hkb : ∀ k, (Value.slice a1 n1 cc1).ownBlock = some k → ka.ownBlock = some k ∨ w.heap.size ≤ k := fun k hk => by
    rcases ha1.block k hk with h | h
    · exact .inl h
    · exact .inr (by omega)
  have hk7 : w1.ownsRow B 29 1 (.slice a1 n1 cc1) (n + 1) (ks ++ [.slice va vn vc]) := H7.out
  have hpa1 : (Value.slice a1 n1 cc1).ownBlock ≠ some p := fun e => by
    rcases ha1.block p e with h | h
    · exact H3.out h
    · omega
  have hka2 := owns_alloc (owns_setCell (a := ⟨p, 6, none⟩) (u := .slice a1 n1 cc1) hk7 hpa1) (.cells #[.slice ua un uc] 29)
  have hkw : ∀ k, (Value.slice a1 n1 cc1).ownBlock = some k → wa.ownBlock ≠ some k := fun k hk e => by
    rcases ha1.block k hk with h | h
    · exact H2.out k h e
    · have := (ownsRow_block_lt hwa e).1; omega
  have hka3 := owns_grown hka2 hg2 (fun k hk e => hkw k hk e)
  have hpa2 : (Value.slice a2 n2 cc2).ownBlock ≠ some p := fun e => by
    rcases hat2.block p e with h | h
    · exact H4.out h
    · omega
  refine ⟨⟨_, rfl⟩, .slice a1 n1 cc1, .slice a2 n2 cc2, ⟨hs3.set 7 _, owns_setCell hka3 hpa1, owns_setCell hown2 hpa2, ?_, hkb, fun k hk => ?_, fun k hk e => ?_⟩⟩
  · have c1 : Chg (fun k => k = p ∨ ka.ownBlock = some k ∨ wa.ownBlock = some k) w w1 := (Chg.alloc (Chg.refl _ w) _).trans (T := fun k => ka.ownBlock = some k) (Chg.of_grown hg1 (fun k h => h)) (fun x hx _ => .inr (.inl hx))
    have c2 := Chg.alloc (Chg.setCell c1 (p := ⟨p, 6, none⟩) (.inl rfl) (.slice a1 n1 cc1)) (.cells #[.slice ua un uc] 29)
    have c3 := c2.trans (T := fun k => wa.ownBlock = some k) (Chg.of_grown hg2 (fun k h => h)) (fun x hx _ => .inr (.inr hx))
    exact Chg.setCell c3 (p := ⟨p, 7, none⟩) (.inl rfl) _
  · rcases hat2.block k hk with h | h
    · exact .inl h
    · exact .inr (by omega)
  · rcases hat2.block k e with h | h
    · exact hkw k hk h
    · have := (ownsRow_block_lt hka2 hk).1; omega
def Rd (B : Nat) (S : Nat → Prop) (w : World) (v : Value) (l : List Int) : Prop :=
  (v = .slice none 0 0 ∧ l = []) ∨ ∃ g c cur, v = .slice (some ⟨g, 0, none⟩) l.length c ∧ B ≤ g ∧ ¬ S g ∧ w.heap[g]? = some (.cells cur 5 (0, 0)) ∧ cur.toList.take l.length = bV l
theorem Rd.bytA {B : Nat} {S : Nat → Prop} {w : World} {v : Value} {l : List Int} (h : Rd B S w v l) : ∃ a c, v = .slice a l.length c ∧ BytA w a l := by
  rcases h with ⟨rfl, rfl⟩ | ⟨g, c, cur, rfl, hB, hS, hg, ht⟩
  · exact ⟨none, 0, rfl, .inl rfl⟩
  · refine ⟨_, c, rfl, .inr ⟨g, 0, rfl, fun k hk => ?_⟩⟩
    have e1 : (bV l)[k]? = some (.int .u8 (gB l k)) := by simp [bV, gB, List.getD, List.getElem?_eq_getElem hk]
    rw [← ht, List.getElem?_take, if_pos hk] at e1
    rw [cell_at hg, Nat.zero_add]; simpa using e1
theorem Rd.conv {B : Nat} {S : Nat → Prop} {w : World} {v : Value} {l : List Int} (h : Rd B S w v l) : (convert 29 9 v).run Tryz.prog w = .ok (.string (strB l)) w := by
  obtain ⟨a, c, rfl, hA⟩ := h.bytA
  exact conv_bytes w a _ c l rfl hA
theorem Rd.drewN {B : Nat} {S : Nat → Prop} {w : World} {v : Value} {l : List Int} (h : Rd B S w v l) (m : Nat) : Rd B S (w.drewN m) v l := h
theorem Rd.chg {B : Nat} {S T U : Nat → Prop} {w w' : World} {v : Value} {l : List Int} (h : Rd B S w v l) (c : Chg U w w') (hU : ∀ k cur, ¬ S k → w.heap[k]? = some (.cells cur 5 (0, 0)) → ¬ U k) (hT : ∀ k, k < w.heap.size → ¬ S k → ¬ T k) : Rd B T w' v l := by
  rcases h with h | ⟨g, cc, cur, rfl, hB, hS, hg, ht⟩
  · exact .inl h
  · have hlt : g < w.heap.size := (Array.getElem?_eq_some_iff.1 hg).1
    exact .inr ⟨g, cc, cur, rfl, hB, hT g hlt hS, (c.block g hlt (hU g cur hS hg)).trans hg, ht⟩
theorem Rd.mono {B : Nat} {S T : Nat → Prop} {w : World} {v : Value} {l : List Int} (h : Rd B S w v l) (hT : ∀ k, ¬ S k → ¬ T k) : Rd B T w v l := h.chg (Chg.refl (fun _ => False) w) (fun _ _ _ _ h => h) (fun k _ h => hT k h)
theorem rd_of_owns {B : Nat} {S : Nat → Prop} {w : World} {v : Value} {l : List Int} (h : w.ownsRow B 5 1 v l.length (bV l)) (hS : ∀ k, v.ownBlock = some k → ¬ S k) : Rd B S w v l := by
  rcases h.2 with ⟨rfl, h0⟩ | ⟨g, cap, cur, rfl, hb, hg, hn, hm, hs, ht⟩
  · exact .inl ⟨rfl, List.length_eq_zero_iff.1 h0⟩
  · exact .inr ⟨g, cap, cur, rfl, hb, hS g rfl, hg, by simpa using ht⟩
def Pairs (w : World) (xs ys : List Value) : Prop := ∀ (j : Nat) x y, xs[j]? = some x → ys[j]? = some y → ∃ s, ∀ m, (convert 29 9 x).run Tryz.prog (w.drewN m) = .ok (.string s) (w.drewN m) ∧ (convert 29 9 y).run Tryz.prog (w.drewN m) = .ok (.string s) (w.drewN m)
theorem pairs_of {B : Nat} {S T : Nat → Prop} {w : World} {xs ys : List Value} (h : ∀ (j : Nat) x y, xs[j]? = some x → ys[j]? = some y → ∃ l, Rd B S w x l ∧ Rd B T w y l) : Pairs w xs ys := fun j x y hx hy => by
  obtain ⟨l, h1, h2⟩ := h j x y hx hy
  exact ⟨strB l, fun m => ⟨(h1.drewN m).conv, (h2.drewN m).conv⟩⟩
def Alike2 (w : World) (n g1 g2 : Nat) : Prop := ∀ j, j < n → ∃ x y s, w.cell? ⟨g1, j, none⟩ = some x ∧ w.cell? ⟨g2, j, none⟩ = some y ∧ ∀ m, (convert 29 9 x).run Tryz.prog (w.drewN m) = .ok (.string s) (w.drewN m) ∧ (convert 29 9 y).run Tryz.prog (w.drewN m) = .ok (.string s) (w.drewN m)
theorem alike_of {w : World} {B n g1 g2 c1 c2 : Nat} {xs ys : List Value} {e : TypeId} (h1 : w.ownsRow B e 1 (.slice (some ⟨g1, 0, none⟩) n c1) n xs) (h2 : w.ownsRow B e 1 (.slice (some ⟨g2, 0, none⟩) n c2) n ys) (hp : Pairs w xs ys) : Alike2 w n g1 g2 := by
  intro j hj
  have l1 : j < xs.length := by have := h1.1; omega
  have l2 : j < ys.length := by have := h2.1; omega
  have e1 : xs[j]? = some xs[j] := List.getElem?_eq_getElem l1
  have e2 : ys[j]? = some ys[j] := List.getElem?_eq_getElem l2
  obtain ⟨s, hs⟩ := hp j _ _ e1 e2
  have q1 := h1.cells (g := g1) rfl j _ e1
  have q2 := h2.cells (g := g2) rfl j _ e2
  rw [WideShapes.add_plain, Nat.zero_add] at q1 q2
  exact ⟨_, _, s, q1, q2, hs⟩
theorem books_same0 (w : World) (p : Nat) (c0 c1 c2 fa ha ma wa : Value) (a1 : Option Addr) (cc1 : Nat) (hst : StAt w p #[c0, c1, c2, fa, ha, ma, .slice a1 0 cc1, wa]) :
    Calls Tryz.prog 41 #[.pointer (some ⟨p, 0, none⟩)] w fun e w' => e = .returned (.bool true) ∧ ∃ m, w' = w.drewN m := by
  have hc6 : w.cell? ⟨p, 6, none⟩ = some (.slice a1 0 cc1) := hst.cell 6
  go_enter Tryz.func41, Tryz.ntmps41
  go_wp2
  refine wp_loop_rounds 1 ?_
  rw [rounds_succ]
  go_wp2
  go_ret
  exact ⟨rfl, 0, rfl⟩
theorem books_same1 (w : World) (p : Nat) (c0 c1 c2 fa ha ma : Value) (g1 g2 n cc1 cc2 : Nat) (hn : n ≤ 2000000000000) (hst : StAt w p #[c0, c1, c2, fa, ha, ma, .slice (some ⟨g1, 0, none⟩) n cc1, .slice (some ⟨g2, 0, none⟩) n cc2]) (hal : Alike2 w n g1 g2) :
    Calls Tryz.prog 41 #[.pointer (some ⟨p, 0, none⟩)] w fun e w' => e = .returned (.bool true) ∧ ∃ m, w' = w.drewN m := by
  have HA := hidOf hal
  clear hal
  go_enter Tryz.func41, Tryz.ntmps41
  go_wp2
  go_loopw [3] (fun i wr => ∃ k : Nat, k ≤ n ∧ i = .int .i64 k ∧ ∃ m, wr = w.drewN m) (fun i _ => n - (intOf i).toNat)
  case atStart => exact ⟨0, by omega, rfl, 0, rfl⟩
  case round =>
    obtain ⟨k, hk, rfl, m, rfl⟩ := hrel
    have hc6 : (w.drewN m).cell? ⟨p, 6, none⟩ = some (.slice (some ⟨g1, 0, none⟩) n cc1) := hst.cell 6
    have hc7 : (w.drewN m).cell? ⟨p, 7, none⟩ = some (.slice (some ⟨g2, 0, none⟩) n cc2) := hst.cell 7
    have hxx : k < n → ∃ x y s, (w.drewN m).cell? ⟨g1, k, none⟩ = some x ∧ (w.drewN m).cell? ⟨g2, k, none⟩ = some y ∧ ∀ q, (convert 29 9 x).run Tryz.prog ((w.drewN m).drewN q) = .ok (.string s) ((w.drewN m).drewN q) ∧ (convert 29 9 y).run Tryz.prog ((w.drewN m).drewN q) = .ok (.string s) ((w.drewN m).drewN q) := fun hk => by
      obtain ⟨x, y, s, h1, h2, h3⟩ := HA.out k hk
      exact ⟨x, y, s, h1, h2, fun q => by rw [drewN_twice]; exact h3 (m + q)⟩
    generalize hwm : w.drewN m = wm at *
    by_cases hkn : k < n
    · obtain ⟨x, y, s, q1, q2, hcv⟩ := hxx hkn
      have hv1 := fun q => (hcv q).1
      have hv2 := fun q => (hcv q).2
      clear hxx hcv
      go_wp2
      go_quiet (fail)
      go_wp2
      go_roundw
      case rel => exact ⟨k + 1, by omega, by simp, by subst hwm; first | exact ⟨_, rfl⟩ | exact ⟨_, (drewN_twice _ _ _)⟩⟩
      case measure => simp [intOf]; omega
    · obtain rfl : k = n := by omega
      clear hxx
      go_wp2
      go_ret
      exact ⟨rfl, _, hwm.symm⟩
theorem StAt.self {w : World} {p j : Nat} {cs : Array Value} {u : Value} (h : StAt w p cs) (hj : cs[j]? = some u) : w.setCell ⟨p, j, none⟩ u = w := setCell_self h hj
theorem books_untouched0 (w : World) (p : Nat) (c0 c1 c2 ha ma ka wa : Value) (a1 : Option Addr) (cc1 : Nat) (hst : StAt w p #[c0, c1, c2, .slice a1 0 cc1, ha, ma, ka, wa]) :
    Calls Tryz.prog 40 #[.pointer (some ⟨p, 0, none⟩)] w fun e w' => (∃ r, e = .returned r) ∧ ∃ m, w' = w.drewN m := by
  have hc3 : w.cell? ⟨p, 3, none⟩ = some (.slice a1 0 cc1) := hst.cell 3
  go_enter Tryz.func40, Tryz.ntmps40
  go_wp2
  refine wp_loop_rounds 1 ?_
  rw [rounds_succ]
  go_wp2
  go_end0
  exact ⟨⟨_, rfl⟩, 0, rfl⟩
theorem books_untouched1 (w : World) (p : Nat) (c0 c1 ma ka wa : Value) (g1 g2 n cc1 cc2 : Nat) (hn : n ≤ 2000000000000) (hst : StAt w p #[c0, c1, .bool false, .slice (some ⟨g1, 0, none⟩) n cc1, .slice (some ⟨g2, 0, none⟩) n cc2, ma, ka, wa]) (hal : Alike2 w n g1 g2) :
    Calls Tryz.prog 40 #[.pointer (some ⟨p, 0, none⟩)] w fun e w' => (∃ r, e = .returned r) ∧ ∃ m, w' = w.drewN m := by
  have HA := hidOf hal
  clear hal
  go_enter Tryz.func40, Tryz.ntmps40
  go_wp2
  go_loopw [2] (fun i wr => ∃ k : Nat, k ≤ n ∧ i = .int .i64 k ∧ ∃ m, wr = w.drewN m) (fun i _ => n - (intOf i).toNat)
  case atStart => exact ⟨0, by omega, rfl, 0, rfl⟩
  case round =>
    obtain ⟨k, hk, rfl, m, rfl⟩ := hrel
    have hc2 : (w.drewN m).cell? ⟨p, 2, none⟩ = some (.bool false) := hst.cell 2
    have hf2 : (w.drewN m).frozen? ⟨p, 2, none⟩ = false := hst.frozen 2
    have hc3 : (w.drewN m).cell? ⟨p, 3, none⟩ = some (.slice (some ⟨g1, 0, none⟩) n cc1) := hst.cell 3
    have hc4 : (w.drewN m).cell? ⟨p, 4, none⟩ = some (.slice (some ⟨g2, 0, none⟩) n cc2) := hst.cell 4
    have hxx : k < n → ∃ x y s, (w.drewN m).cell? ⟨g1, k, none⟩ = some x ∧ (w.drewN m).cell? ⟨g2, k, none⟩ = some y ∧ ∀ q, (convert 29 9 x).run Tryz.prog ((w.drewN m).drewN q) = .ok (.string s) ((w.drewN m).drewN q) ∧ (convert 29 9 y).run Tryz.prog ((w.drewN m).drewN q) = .ok (.string s) ((w.drewN m).drewN q) := fun hk => by
      obtain ⟨x, y, s, h1, h2, h3⟩ := HA.out k hk
      exact ⟨x, y, s, h1, h2, fun q => by rw [drewN_twice]; exact h3 (m + q)⟩
    have hself : ∀ q, ((w.drewN m).drewN q).setCell ⟨p, 2, none⟩ (.bool false) = (w.drewN m).drewN q := fun q => StAt.self (w := (w.drewN m).drewN q) hst rfl
    have HS := hidOf hself
    have hself0 : (w.drewN m).setCell ⟨p, 2, none⟩ (.bool false) = w.drewN m := StAt.self (w := w.drewN m) hst rfl
    have HS0 := hidOf hself0
    clear hself hself0
    generalize hwm : w.drewN m = wm at *
    by_cases hkn : k < n
    · obtain ⟨x, y, s, q1, q2, hcv⟩ := hxx hkn
      have hv1 := fun q => (hcv q).1
      have hv2 := fun q => (hcv q).2
      have hw1 : (convert 29 9 x).run Tryz.prog wm.drew = .ok (.string s) wm.drew := hv1 1
      have hw2 : (convert 29 9 y).run Tryz.prog wm.drew = .ok (.string s) wm.drew := hv2 1
      clear hxx hcv
      have hlt : (k : Int) < n := by omega
      have h0k : (0 : Int) ≤ (k : Int) := by omega
      go_upto_region 3 with fail
      go_region_held3 (fun w' => w'.cell? ⟨p, 2, none⟩ = some (.bool false) ∧ w'.cell? ⟨p, 3, none⟩ = some (.slice (some ⟨g1, 0, none⟩) n cc1) ∧ w'.cell? ⟨p, 4, none⟩ = some (.slice (some ⟨g2, 0, none⟩) n cc2) ∧ w'.cell? ⟨g1, k, none⟩ = some x ∧ w'.cell? ⟨g2, k, none⟩ = some y ∧ w'.frozen? ⟨p, 2, none⟩ = false ∧ (convert 29 9 x).run Tryz.prog w' = .ok (.string s) w' ∧ (convert 29 9 y).run Tryz.prog w' = .ok (.string s) w') (first | (rw [HS0.out]; go_keep) | (rw [HS.out]; go_keep) | (simp only [HS.out]; go_keep) | go_keep)
        (fail)
      all_goals go_wp2
      all_goals go_roundw
      case rel =>
        refine ⟨k + 1, by omega, by simp, ?_⟩
        first | rw [HS0.out] | rw [HS.out]
        subst hwm
        first | exact ⟨_, rfl⟩ | exact ⟨_, (drewN_twice _ _ 1)⟩ | exact ⟨_, (drewN_twice _ _ _)⟩
      case measure => simp [intOf]; omega
    · obtain rfl : k = n := by omega
      clear hxx
      go_wp2
      go_end0
      exact ⟨⟨_, rfl⟩, _, hwm.symm⟩
theorem Pairs.drewN {w : World} {xs ys : List Value} (h : Pairs w xs ys) (m : Nat) : Pairs (w.drewN m) xs ys := fun j x y hx hy => by
  obtain ⟨s, hs⟩ := h j x y hx hy
  exact ⟨s, fun q => by rw [drewN_twice]; exact hs (m + q)⟩
theorem books_untouched (w : World) (B p : Nat) (c0 c1 fa ha ma ka wa : Value) (n : Nat) (xs ys : List Value) (hn : n ≤ 2000000000000) (hst : StAt w p #[c0, c1, .bool false, fa, ha, ma, ka, wa]) (h1 : w.ownsRow B 29 1 fa n xs) (h2 : w.ownsRow B 29 1 ha n ys) (hp : Pairs w xs ys) :
    Calls Tryz.prog 40 #[.pointer (some ⟨p, 0, none⟩)] w fun e w' => (∃ r, e = .returned r) ∧ ∃ m, w' = w.drewN m := by
  rcases two_rows h1 h2 with ⟨a, c, rfl, rfl⟩ | ⟨g1, g2, cc1, cc2, rfl, rfl⟩
  · exact books_untouched0 w p c0 c1 _ ha ma ka wa a c hst
  · exact books_untouched1 w p c0 c1 ma ka wa g1 g2 n cc1 cc2 hn hst (alike_of h1 h2 hp)
theorem books_same (w : World) (B p : Nat) (c0 c1 c2 fa ha ma ka wa : Value) (n : Nat) (xs ys : List Value) (hn : n ≤ 2000000000000) (hst : StAt w p #[c0, c1, c2, fa, ha, ma, ka, wa]) (h1 : w.ownsRow B 29 1 ka n xs) (h2 : w.ownsRow B 29 1 wa n ys) (hp : Pairs w xs ys) :
    Calls Tryz.prog 41 #[.pointer (some ⟨p, 0, none⟩)] w fun e w' => e = .returned (.bool true) ∧ ∃ m, w' = w.drewN m := by
  rcases two_rows h1 h2 with ⟨a, c, rfl, rfl⟩ | ⟨g1, g2, cc1, cc2, rfl, rfl⟩
  · exact books_same0 w p c0 c1 c2 fa ha ma wa a c hst
  · exact books_same1 w p c0 c1 c2 fa ha ma g1 g2 n cc1 cc2 hn hst (alike_of h1 h2 hp)
theorem books_holds (w : World) (B p : Nat) (c0 c1 fa ha ma ka wa : Value) (n n' : Nat) (xs ys ks ws : List Value) (hn : n ≤ 2000000000000) (hn' : n' ≤ 2000000000000) (hst : StAt w p #[c0, c1, .bool false, fa, ha, ma, ka, wa])
    (h1 : w.ownsRow B 29 1 fa n xs) (h2 : w.ownsRow B 29 1 ha n ys) (hp : Pairs w xs ys) (h3 : w.ownsRow B 29 1 ka n' ks) (h4 : w.ownsRow B 29 1 wa n' ws) (hq : Pairs w ks ws) :
    Calls Tryz.prog 11 #[.pointer (some ⟨p, 0, none⟩)] w fun e w' => e = .returned (.bool true) ∧ ∃ m, w' = w.drewN m := by
  have HU := hidOf (books_untouched w B p c0 c1 fa ha ma ka wa n xs ys hn hst h1 h2 hp)
  have HQ : Hid (∀ m, Calls Tryz.prog 41 #[.pointer (some ⟨p, 0, none⟩)] (w.drewN m) fun e w' => e = .returned (.bool true) ∧ ∃ k, w' = w.drewN k) :=
    fun m => (books_same (w.drewN m) B p c0 c1 _ fa ha ma ka wa n' ks ws hn' hst h3 h4 (hq.drewN m)).mono fun e w' ⟨he, k, hk⟩ => ⟨he, m + k, by rw [hk, drewN_twice]⟩
  have hc2 : ∀ m, (w.drewN m).cell? ⟨p, 2, none⟩ = some (.bool false) := fun m => StAt.cell (w := w.drewN m) hst 2
  clear hst h1 h2 hp h3 h4 hq
  go_enter Tryz.func11, Tryz.ntmps11
  go_wp2_with (first | (go_at_call 40; refine HU.out.mono ?_; rintro e w' ⟨⟨r, rfl⟩, m, rfl⟩; have hcm := hc2 m) | (go_at_call 41; refine (HQ.out _).mono ?_; rintro e w' ⟨rfl, k, rfl⟩))
  go_ret
  exact ⟨rfl, _, rfl⟩
def markB (k : Nat) (m : Int) : List Int := (List.range k).map (fun j : Nat => (m + 7 * (j : Int) + 1) % 256)
theorem markB_len (k : Nat) (m : Int) : (markB k m).length = k := by simp [markB]
theorem marked_any (w : World) (k : Nat) (m : Int) (hk : k ≤ 100000000000000) (h1 : 0 ≤ m) (h2 : m ≤ 20000000000000) : Calls Tryz.prog 74 #[.int .i64 k, .int .i64 m] w fun e w' => ∃ g, e = .returned (.slice (some ⟨g, 0, none⟩) k k) ∧ w'.ownsRow w.heap.size 5 1 (.slice (some ⟨g, 0, none⟩) k k) (markB k m).length (bV (markB k m)) ∧ Out w w' := by
  have hmk := run_make_row' (P := Tryz.prog) 29 5 (.int .u8 0) 1 Tryz.underlying29 info8 rfl .i64 .i64 k (by omega) (by omega)
  go_enter Tryz.func74, Tryz.ntmps74
  go_wp2
  clear hmk
  go_loopw [6] (fun i wr => ∃ j : Nat, j ≤ k ∧ i = .int .i64 j ∧ Hid (wr.rowIs w.heap.size 5 k (fun x => if x < j then .int .u8 ((m + 7 * x + 1) % 256) else .int .u8 0)) ∧ Hid (Out w wr)) (fun i _ => (k + 1 - intOf i).toNat)
  case atStart => exact ⟨0, by omega, rfl, by simpa [Hid] using World.rowIs_made w (.int .u8 0) k 5, hidOf (Out.alloc (Out.refl _) _)⟩
  case round =>
    obtain ⟨j, hj, rfl, Hrow, Hor⟩ := hrel
    by_cases hjk : j < k
    · have hc := Hrow.out.cell hjk
      have hf := Hrow.out.frozen j
      have hlt : (j : Int) < k := by omega
      have hb : (7 : Int) * (j : Int) ≤ 700000000000000 := by omega
      go_wp2
      go_roundw
      case rel =>
        refine ⟨j + 1, by omega, by simp, ?_, hidOf (Hor.out.setCell (a := ⟨w.heap.size, j, none⟩) (Nat.le_refl _) _)⟩
        refine (Hrow.out.set j _).congr (fun x hx => ?_)
        by_cases hxj : x = j
        · subst hxj; simp
        · simp only [hxj, if_false]
          by_cases hx2 : x < j
          · rw [if_pos hx2, if_pos (by omega)]
          · rw [if_neg hx2, if_neg (by omega)]
      case measure => simp [intOf]; omega
    · have hlt : ¬ (j : Int) < k := by omega
      obtain rfl : j = k := by omega
      go_wp2
      go_ret
      refine ⟨w.heap.size, rfl, ?_, Hor.out⟩
      rw [markB_len]
      refine owns_row Hrow.out (Nat.le_refl _) (by simp only [maxLen]; omega) (by simp [bV, markB]) (fun x hx => ?_)
      simp [bV, markB, hx]
theorem marked_two (w : World) (kI mI : Int) (k : Nat) (m : Int) (he : kI = (k : Int)) (hm : mI = m) (hk : k ≤ 100000000000000) (h1 : 0 ≤ m) (h2 : m ≤ 20000000000000) : Calls Tryz.prog 74 #[.int .i64 kI, .int .i64 mI] w fun e w' => ∃ g, e = .returned (.slice (some ⟨g, 0, none⟩) k k) ∧ w'.ownsRow w.heap.size 5 1 (.slice (some ⟨g, 0, none⟩) k k) (markB k m).length (bV (markB k m)) ∧ Out w w' := by
  subst he hm; exact marked_any w k _ hk h1 h2
end Go.Proofs.YtekjfbmebekmeaaGreat.Bo
