import Derived.Test.YtekjfbmebekmeaaGreatGa36
namespace Go.Proofs.YtekjfbmebekmeaaGreat
open Go.RowKit
set_option linter.unusedVariables false
set_option linter.unusedSimpArgs false
set_option maxHeartbeats 16000000 in
set_option maxRecDepth 100000 in
theorem open_not (w : World) (a : Option Addr) (c : Nat) (L : List RI) (h : InR w a L) (hL : ∀ x ∈ L, x.f < 18446744073709551616 ∧ x.d.length ≤ 1000000000) (hn : L.length ≤ 1000000000) (hok0 : ¬ okQ (L.map fdI)) :
    Calls Tryz.prog 6 #[.slice a L.length c] w fun e w' => OpenE L L.length w e w' := by
  have CC := hidOf (copyR_any w a c L h (fun x hx => by have := (hL x hx).2; omega) (by omega))
  have LC : Hid (∀ W, Out w W → Calls Tryz.prog 15 #[.slice a L.length c] W fun e w' => LentE L L.length W e w') := hidOf (fun W o => lent_any W a c L (h.out o) hL hn)
  obtain ⟨n, hN⟩ : ∃ n, Hid (n = L.length) := ⟨_, rfl⟩
  obtain ⟨P, hP⟩ : ∃ P, Hid (P = L.map fdI) := ⟨_, rfl⟩
  have HI := hidOf h
  have HL := hidOf hL
  rw [← hN.out] at hn CC LC ⊢
  have hL48 : Hid (∀ x ∈ L, x.f < 18446744073709551616 ∧ x.d.length ≤ 140737488355328) := hidOf (fun x hx => ⟨(hL x hx).1, by have := (hL x hx).2; omega⟩)
  clear h hL
  have hLP : Hid (∀ p ∈ P, p.1 < 18446744073709551616 ∧ p.2.length ≤ 140737488355328) := hidOf (fun p hp => by
    rw [hP.out] at hp
    obtain ⟨x, hx, rfl⟩ := List.mem_map.1 hp
    exact hL48.out x hx)
  have RC : Hid (∀ (W : World) (a1 : Option Addr) (c1 : Nat) (R : List Rg) (B : Nat), W.ownsRow B 36 2 (.slice a1 n c1) n (rowG R) → (∀ z ∈ R, DaI B W z) → R.map (fun z => (z.f, z.d)) = L.map (fun x => (x.f, x.d)) → Calls Tryz.prog 13 #[.slice a1 n c1] W fun e w' => Out W w' ∧ (¬ okQ P ∧ e = .returned (.tuple #[.agg #[.slice none 0 0], .int .i64 201]) ∨ okQ P ∧ ∃ a' c', ∃ R' : List Rg, e = .returned (.tuple #[.agg #[.slice a' n c'], .int .i64 0]) ∧ RLs W.heap.size w' a' c' n R' ∧ R'.map fdR = P)) := hidOf (fun W a1 c1 R B ho hd hm => by
    have hRP : (R.map Rg.ri).map fdI = P := by rw [hP.out, List.map_map]; exact hm
    have hRl : R.length = n := by have := congrArg List.length hm; simpa [hN.out] using this
    have h9 := refNew_any W a1 c1 (R.map Rg.ri) (inR_own2 (by rw [hRl]; exact ho) hd) (fun x hx => by
      have h8 : fdI x ∈ P := by rw [← hRP]; exact List.mem_map.2 ⟨x, hx, rfl⟩
      exact hLP.out _ h8) (by rw [List.length_map, hRl]; omega)
    rw [List.length_map, hRl] at h9
    refine h9.mono fun e w' h7 => ?_
    unfold NewQ at h7
    rw [hRP] at h7
    exact h7)
  have MC : Hid (∀ (W WL : World) (p : Nat) (fa : Option Addr) (fc : Nat) (Q : List LQ) (V : List Rg) (b : Option Addr) (m cc : Nat), LnI WL W p n (n + 70) fa fc L Q V → m = n → (n = 0 ∨ b = some ⟨p, 0, none⟩) → Calls Tryz.prog 16 #[.slice b m cc] W fun e w' => Out W w' ∧ (¬ okQ P ∧ e = .returned (.tuple #[.pointer none, .int .i64 201]) ∨ okQ P ∧ ∃ s v1 v2 X Y, e = .returned (.tuple #[.pointer (some ⟨s, 0, none⟩), .int .i64 0]) ∧ SpD W.heap.size w' s v1 v2 X Y n ∧ ((flat X ++ flat Y).map fdR).Perm P)) := hidOf (fun W WL p fa fc Q V b m cc hl hmn hb => by
    rw [hmn]
    have hql : (Q.map LQ.ri).length = n := by have := hl.qlen; rw [List.length_map]; omega
    have hQP : (Q.map LQ.ri).map fdI = P := by rw [hP.out]; exact hl.fdI
    have hin : InR W b (Q.map LQ.ri) := by
      rcases hb with h0 | rfl
      · exact .inl (List.length_eq_zero_iff.1 (by omega))
      · exact hl.inR
    have hbd : ∀ x ∈ Q.map LQ.ri, x.f < 18446744073709551616 ∧ x.d.length ≤ 140737488355328 := fun x hx => by
      obtain ⟨y, hy, e1, e2⟩ := hl.oldL hx
      rw [e1, e2]; exact hL48.out y hy
    have h9 := New_any W b cc (Q.map LQ.ri) hin hbd (by omega)
    rw [hql] at h9
    refine h9.mono fun e w' h7 => ?_
    rcases h7 with ⟨he, ho, k, r, F, E, hk, hrun, hno⟩ | ⟨s, v1, v2, X, Y, he, hsp, ho, hrun⟩
    · refine ⟨ho, .inl ⟨fun hq => ?_, he⟩⟩
      rw [← hQP] at hq
      exact run_not hk hrun (fun x hx => (hbd x hx).1) hno ((okI_Q _).2 hq)
    · rw [hql] at hsp
      have h6 := run_ok hrun (fun x hx => (hbd x hx).1)
      have h5 := (run_all hrun (fun x hx => (hbd x hx).1)).2
      rw [hQP] at h5
      exact ⟨ho, .inr ⟨by rw [← hQP]; exact (okI_Q _).1 h6, s, v1, v2, X, Y, he, hsp, h5⟩⟩)
  have NC := hidOf (fun x W => num20_any x W)
  obtain ⟨N, hNN⟩ : ∃ N, Hid (N = n + 70) := ⟨_, rfl⟩
  have hnN : n ≤ N := by have := hNN.out; omega
  have hnN2 : (n : Int) ≤ (N : Int) := by omega
  have hok : ¬ okQ P := by rw [hP.out]; exact hok0
  · have HOK := hidOf hok
    have RC2 : Hid (∀ (W : World) (a1 : Option Addr) (c1 : Nat) (R : List Rg) (B : Nat), W.ownsRow B 36 2 (.slice a1 n c1) n (rowG R) → (∀ z ∈ R, DaI B W z) → R.map (fun z => (z.f, z.d)) = L.map (fun x => (x.f, x.d)) → Calls Tryz.prog 13 #[.slice a1 n c1] W fun e w' => e = .returned (.tuple #[.agg #[.slice none 0 0], .int .i64 201]) ∧ Out W w') := hidOf (fun W a1 c1 R B h1 h2 h3 => (RC.out W a1 c1 R B h1 h2 h3).mono fun e w' h7 => by
      rcases h7 with ⟨ho, ⟨_, he⟩ | ⟨hn7, _⟩⟩
      · exact ⟨he, ho⟩
      · exact absurd hn7 hok)
    have MC2 : Hid (∀ (W WL : World) (p : Nat) (fa : Option Addr) (fc : Nat) (Q : List LQ) (V : List Rg) (b : Option Addr) (m cc : Nat), LnI WL W p n (n + 70) fa fc L Q V → m = n → (n = 0 ∨ b = some ⟨p, 0, none⟩) → Calls Tryz.prog 16 #[.slice b m cc] W fun e w' => e = .returned (.tuple #[.pointer none, .int .i64 201]) ∧ Out W w') := hidOf (fun W WL p fa fc Q V b m cc h1 hm h2 => (MC.out W WL p fa fc Q V b m cc h1 hm h2).mono fun e w' h7 => by
      rcases h7 with ⟨ho, ⟨_, he⟩ | ⟨hn7, _⟩⟩
      · exact ⟨he, ho⟩
      · exact absurd hn7 hok)
    clear hok RC MC
    go_enter Tryz.func6, Tryz.ntmps6
    go_upto_region 2 with (first | (go_at_call 14; refine CC.out.mono ?_; rintro e w1 ⟨a1, c1, R1, rfl, hown, hda, hmap, ho1⟩; have O1 := hidOf ho1; have RN := hidOf (RC2.out w1 a1 c1 R1 _ hown hda hmap); clear hown hda hmap ho1) | (go_at_call 13; refine RN.out.mono ?_; rintro e w2 ⟨rfl, ho2⟩; have O2 := hidOf (O1.out.trans ho2); clear ho2))
    obtain ⟨q4, hq4⟩ : ∃ q4, Hid (q4 = w2.heap.size) := ⟨_, rfl⟩
    obtain ⟨w3, H3, b3, o3⟩ : ∃ w3, Hid (w3 = w2.alloc (.cells #[.slice none 0 0] 47)) ∧ w3.heap[q4]? = some (.cells #[.slice none 0 0] 47 (0, 0)) ∧ Out w2 w3 := ⟨_, rfl, by rw [hq4.out]; exact heap_alloc_new w2 _, (Out.refl w2).alloc _⟩
    have B3 := hidOf b3
    have O3 := hidOf o3
    clear b3 o3
    rw [← hq4.out]
    rw [← H3.out]
    have LC3 := hidOf (LC.out w3 (O2.out.trans O3.out))
    go_upto_region 3 with (go_at_call 15; refine LC3.out.mono ?_; rintro e w4 ⟨g, fa, fc, Q, V, rfl, hln⟩; have LN := hidOf hln; rw [← hNN.out]; clear hln)
    have hcap0 : ¬ (N = n) := by have := hNN.out; omega
    by_cases h0 : n = 0
    · have h0I : ((n : Nat) : Int) = 0 := by omega
      have h0b : ((n : Int) == 0) = true := by rw [h0I]; rfl
      have MN := hidOf (MC2.out w4 w3 g fa fc Q V none 0 0 LN.out h0.symm (.inl h0))
      clear h0 h0I
      go_upto_region 7 with (go_at_call 16; refine MN.out.mono ?_; rintro e w5 ⟨rfl, ho5⟩; have O5 := hidOf ho5; clear ho5)
      have BC := hidOf (back_any w3 w5 g n fa fc L Q V a c (LN.out.upto O5.out) (HI.out.out (O2.out.trans O3.out)) HL.out hn)
      rw [← hNN.out] at BC
      go_upto_region 8 with (go_at_call 17; refine BC.out.mono ?_; rintro e w6 ⟨rfl, hc6⟩; have C6 := hidOf hc6; clear hc6)
      have hold : ∀ b, b < w3.heap.size → ¬ rkS g Q b := fun b hb hk => by have := (LN.out.rk hk).1; omega
      have hnew : ∀ b, w4.heap.size ≤ b → ¬ rkS g Q b := fun b hb hk => by have := (LN.out.rk hk).2; omega
      have b6 : w6.heap[q4]? = some (.cells #[.slice none 0 0] 47 (0, 0)) := blk_chg (blk_out B3.out (LN.out.out.trans O5.out)) C6.out (hold q4 (Array.getElem?_eq_some_iff.1 B3.out).1)
      have c4 : w6.drew.cell? ⟨q4, 0, none⟩ = some (.slice none 0 0) := (cell_B b6 0).trans rfl
      have OW6 : Hid (Out w w6) := hidOf (Chg.out C6.out ((O2.out.trans O3.out).trans (LN.out.out.trans O5.out)) (fun b hb => Nat.le_trans (O2.out.trans O3.out).size (LN.out.rk hb).1))
      obtain ⟨w7, H7, b7, o7⟩ : ∃ w7, Hid (w6.drew.alloc (.cells #[.pointer (none), (.slice none 0 0), .slice none 0 0, .int .i64 0] 61) = w7) ∧ w7.heap[w6.heap.size]? = some (.cells #[.pointer (none), (.slice none 0 0), .slice none 0 0, .int .i64 0] 61 (0, 0)) ∧ Out w6 w7 := ⟨_, rfl, heap_alloc_new w6.drew _, ((Out.refl w6).drew).alloc _⟩
      have H7b : Hid ((w6.alloc (.cells #[.pointer (none), (.slice none 0 0), .slice none 0 0, .int .i64 0] 61)).drew = w7) := hidOf (by rw [← H7.out]; rfl)
      have B7 := hidOf b7
      have O7 := hidOf o7
      have c7 : w7.cell? ⟨q4, 0, none⟩ = some (.slice none 0 0) := cell_later o7 (show w6.cell? _ = _ from c4)
      clear b6 hold hnew b7 o7
      go_upto_region 8 with fail
      refine wp_region_held_drew (S := (fun w' => w'.cell? ⟨q4, 0, none⟩ = some (.slice none 0 0))) (by kernel_rfl) ?_ (fun hHeld => ?_)
      · exact c4
      refine tkLB [0, 1, 2, 4, 5, 6, 8] ?_
      iterate 7 (refine tkLC (v := ?_) rfl rfl (by kernel_rfl) (by kernel_rfl) (by kernel_rfl) (fun _ _ _ h => h) (by rfl) (by assumption) ?_ ?_; rotate_left; (· (intro w hSw; (try dsimp only at hSw); go_simp; (try with_reducible rfl))); simp only [Act.put, List.setIfInBounds_toArray, List.set_cons_zero, List.set_cons_succ])
      refine tkLE ?_
      refine wpAnyH_ready (rs := [3, 7]) (by kernel_rfl) (by simp) ?_
      refine (AllReadyH.cons rfl (fun Ko3 hKo3 => ?_) (AllReadyH.cons rfl (fun Ko7 hKo7 => ?_) AllReadyH.nil))
      · rw [if_pos (by rfl)]
        go_simp
        first | rw [H7b.out] | rw [H7.out]
        refine hKo3.out _ _ c7 (fun hHeld3 => ?_)
        try simp only [Act.put, List.setIfInBounds_toArray, List.set_cons_zero, List.set_cons_succ]
        refine wpAnyH_ready (rs := [7]) (by kernel_rfl) (by simp) ?_
        refine (AllReadyH.cons rfl (fun Ko7 hKo7 => ?_) AllReadyH.nil)
        rw [if_pos (by rfl)]
        go_simp
        go_at_call 18
        refine (NC.out 201 _).mono ?_
        rintro e wx ⟨rfl, hx⟩
        subst hx
        refine hKo7.out _ _ c7 (fun hHeld7 => ?_)
        try simp only [Act.put, List.setIfInBounds_toArray, List.set_cons_zero, List.set_cons_succ]
        refine tkLB [9, 10, 11, 12, 13, 14, 15, 16, 17, 18, 19] ?_
        iterate 11 (refine tkLC (v := ?_) rfl rfl (by kernel_rfl) (by kernel_rfl) (by kernel_rfl) (fun _ _ _ h => h) (by rfl) (by assumption) ?_ ?_; rotate_left; (· (intro w hSw; (try dsimp only at hSw); go_simp; (try with_reducible rfl))); simp only [Act.put, List.setIfInBounds_toArray, List.set_cons_zero, List.set_cons_succ])
        refine tkLE ?_
        refine wpAnyH_done (by kernel_rfl) ?_ _
        go_wp2
        refine bodyPost_ret (results_tmp2 rfl _ _ _) rfl ?_
        exact ⟨w6.heap.size, by first | rfl | simp, OW6.out.trans O7.out, .inl ⟨(cell_B B7.out 0).trans rfl, ⟨_, B7.out⟩, OW6.out.size⟩⟩
      · rw [if_pos (by rfl)]
        go_simp
        go_at_call 18
        refine (NC.out 201 _).mono ?_
        rintro e wx ⟨rfl, hx⟩
        subst hx
        refine hKo7.out _ _ c4 (fun hHeld7 => ?_)
        try simp only [Act.put, List.setIfInBounds_toArray, List.set_cons_zero, List.set_cons_succ]
        refine tkLB [9, 10, 11, 12, 13, 14, 15, 16, 17] ?_
        iterate 9 (refine tkLC (v := ?_) rfl rfl (by kernel_rfl) (by kernel_rfl) (by kernel_rfl) (fun _ _ _ h => h) (by rfl) (by assumption) ?_ ?_; rotate_left; (· (intro w hSw; (try dsimp only at hSw); go_simp; (try with_reducible rfl))); simp only [Act.put, List.setIfInBounds_toArray, List.set_cons_zero, List.set_cons_succ])
        refine tkLE ?_
        refine wpAnyH_ready (rs := [3]) (by kernel_rfl) (by simp) ?_
        refine (AllReadyH.cons rfl (fun Ko3 hKo3 => ?_) AllReadyH.nil)
        rw [if_pos (by rfl)]
        go_simp
        first | rw [H7b.out] | rw [H7.out]
        refine hKo3.out _ _ c7 (fun hHeld3 => ?_)
        try simp only [Act.put, List.setIfInBounds_toArray, List.set_cons_zero, List.set_cons_succ]
        refine tkLB [18, 19] ?_
        iterate 2 (refine tkLC (v := ?_) rfl rfl (by kernel_rfl) (by kernel_rfl) (by kernel_rfl) (fun _ _ _ h => h) (by rfl) (by assumption) ?_ ?_; rotate_left; (· (intro w hSw; (try dsimp only at hSw); go_simp; (try with_reducible rfl))); simp only [Act.put, List.setIfInBounds_toArray, List.set_cons_zero, List.set_cons_succ])
        refine tkLE ?_
        refine wpAnyH_done (by kernel_rfl) ?_ _
        go_wp2
        refine bodyPost_ret (results_tmp2 rfl _ _ _) rfl ?_
        exact ⟨w6.heap.size, by first | rfl | simp, OW6.out.trans O7.out, .inl ⟨(cell_B B7.out 0).trans rfl, ⟨_, B7.out⟩, OW6.out.size⟩⟩
    · have h0I : ¬ ((n : Nat) : Int) = 0 := by omega
      have h0b : ((n : Int) == 0) = false := by rw [beq_eq_false_iff_ne]; exact h0I
      have MN := hidOf (MC2.out w4 w3 g fa fc Q V (some ⟨g, 0, none⟩) n N LN.out rfl (.inr rfl))
      go_upto_region 7 with (go_at_call 16; refine MN.out.mono ?_; rintro e w5 ⟨rfl, ho5⟩; have O5 := hidOf ho5; clear ho5)
      have BC := hidOf (back_any w3 w5 g n fa fc L Q V a c (LN.out.upto O5.out) (HI.out.out (O2.out.trans O3.out)) HL.out hn)
      rw [← hNN.out] at BC
      go_upto_region 8 with (go_at_call 17; refine BC.out.mono ?_; rintro e w6 ⟨rfl, hc6⟩; have C6 := hidOf hc6; clear hc6)
      have hold : ∀ b, b < w3.heap.size → ¬ rkS g Q b := fun b hb hk => by have := (LN.out.rk hk).1; omega
      have hnew : ∀ b, w4.heap.size ≤ b → ¬ rkS g Q b := fun b hb hk => by have := (LN.out.rk hk).2; omega
      have b6 : w6.heap[q4]? = some (.cells #[.slice none 0 0] 47 (0, 0)) := blk_chg (blk_out B3.out (LN.out.out.trans O5.out)) C6.out (hold q4 (Array.getElem?_eq_some_iff.1 B3.out).1)
      have c4 : w6.drew.cell? ⟨q4, 0, none⟩ = some (.slice none 0 0) := (cell_B b6 0).trans rfl
      have OW6 : Hid (Out w w6) := hidOf (Chg.out C6.out ((O2.out.trans O3.out).trans (LN.out.out.trans O5.out)) (fun b hb => Nat.le_trans (O2.out.trans O3.out).size (LN.out.rk hb).1))
      obtain ⟨w7, H7, b7, o7⟩ : ∃ w7, Hid (w6.drew.alloc (.cells #[.pointer (none), (.slice none 0 0), .slice none 0 0, .int .i64 0] 61) = w7) ∧ w7.heap[w6.heap.size]? = some (.cells #[.pointer (none), (.slice none 0 0), .slice none 0 0, .int .i64 0] 61 (0, 0)) ∧ Out w6 w7 := ⟨_, rfl, heap_alloc_new w6.drew _, ((Out.refl w6).drew).alloc _⟩
      have H7b : Hid ((w6.alloc (.cells #[.pointer (none), (.slice none 0 0), .slice none 0 0, .int .i64 0] 61)).drew = w7) := hidOf (by rw [← H7.out]; rfl)
      have B7 := hidOf b7
      have O7 := hidOf o7
      have c7 : w7.cell? ⟨q4, 0, none⟩ = some (.slice none 0 0) := cell_later o7 (show w6.cell? _ = _ from c4)
      clear b6 hold hnew b7 o7
      go_upto_region 8 with fail
      refine wp_region_held_drew (S := (fun w' => w'.cell? ⟨q4, 0, none⟩ = some (.slice none 0 0))) (by kernel_rfl) ?_ (fun hHeld => ?_)
      · exact c4
      refine tkLB [0, 1, 2, 4, 5, 6, 8] ?_
      iterate 7 (refine tkLC (v := ?_) rfl rfl (by kernel_rfl) (by kernel_rfl) (by kernel_rfl) (fun _ _ _ h => h) (by rfl) (by assumption) ?_ ?_; rotate_left; (· (intro w hSw; (try dsimp only at hSw); go_simp; (try with_reducible rfl))); simp only [Act.put, List.setIfInBounds_toArray, List.set_cons_zero, List.set_cons_succ])
      refine tkLE ?_
      refine wpAnyH_ready (rs := [3, 7]) (by kernel_rfl) (by simp) ?_
      refine (AllReadyH.cons rfl (fun Ko3 hKo3 => ?_) (AllReadyH.cons rfl (fun Ko7 hKo7 => ?_) AllReadyH.nil))
      · rw [if_pos (by rfl)]
        go_simp
        first | rw [H7b.out] | rw [H7.out]
        refine hKo3.out _ _ c7 (fun hHeld3 => ?_)
        try simp only [Act.put, List.setIfInBounds_toArray, List.set_cons_zero, List.set_cons_succ]
        refine wpAnyH_ready (rs := [7]) (by kernel_rfl) (by simp) ?_
        refine (AllReadyH.cons rfl (fun Ko7 hKo7 => ?_) AllReadyH.nil)
        rw [if_pos (by rfl)]
        go_simp
        go_at_call 18
        refine (NC.out 201 _).mono ?_
        rintro e wx ⟨rfl, hx⟩
        subst hx
        refine hKo7.out _ _ c7 (fun hHeld7 => ?_)
        try simp only [Act.put, List.setIfInBounds_toArray, List.set_cons_zero, List.set_cons_succ]
        refine tkLB [9, 10, 11, 12, 13, 14, 15, 16, 17, 18, 19] ?_
        iterate 11 (refine tkLC (v := ?_) rfl rfl (by kernel_rfl) (by kernel_rfl) (by kernel_rfl) (fun _ _ _ h => h) (by rfl) (by assumption) ?_ ?_; rotate_left; (· (intro w hSw; (try dsimp only at hSw); go_simp; (try with_reducible rfl))); simp only [Act.put, List.setIfInBounds_toArray, List.set_cons_zero, List.set_cons_succ])
        refine tkLE ?_
        refine wpAnyH_done (by kernel_rfl) ?_ _
        go_wp2
        refine bodyPost_ret (results_tmp2 rfl _ _ _) rfl ?_
        exact ⟨w6.heap.size, by first | rfl | simp, OW6.out.trans O7.out, .inl ⟨(cell_B B7.out 0).trans rfl, ⟨_, B7.out⟩, OW6.out.size⟩⟩
      · rw [if_pos (by rfl)]
        go_simp
        go_at_call 18
        refine (NC.out 201 _).mono ?_
        rintro e wx ⟨rfl, hx⟩
        subst hx
        refine hKo7.out _ _ c4 (fun hHeld7 => ?_)
        try simp only [Act.put, List.setIfInBounds_toArray, List.set_cons_zero, List.set_cons_succ]
        refine tkLB [9, 10, 11, 12, 13, 14, 15, 16, 17] ?_
        iterate 9 (refine tkLC (v := ?_) rfl rfl (by kernel_rfl) (by kernel_rfl) (by kernel_rfl) (fun _ _ _ h => h) (by rfl) (by assumption) ?_ ?_; rotate_left; (· (intro w hSw; (try dsimp only at hSw); go_simp; (try with_reducible rfl))); simp only [Act.put, List.setIfInBounds_toArray, List.set_cons_zero, List.set_cons_succ])
        refine tkLE ?_
        refine wpAnyH_ready (rs := [3]) (by kernel_rfl) (by simp) ?_
        refine (AllReadyH.cons rfl (fun Ko3 hKo3 => ?_) AllReadyH.nil)
        rw [if_pos (by rfl)]
        go_simp
        first | rw [H7b.out] | rw [H7.out]
        refine hKo3.out _ _ c7 (fun hHeld3 => ?_)
        try simp only [Act.put, List.setIfInBounds_toArray, List.set_cons_zero, List.set_cons_succ]
        refine tkLB [18, 19] ?_
        iterate 2 (refine tkLC (v := ?_) rfl rfl (by kernel_rfl) (by kernel_rfl) (by kernel_rfl) (fun _ _ _ h => h) (by rfl) (by assumption) ?_ ?_; rotate_left; (· (intro w hSw; (try dsimp only at hSw); go_simp; (try with_reducible rfl))); simp only [Act.put, List.setIfInBounds_toArray, List.set_cons_zero, List.set_cons_succ])
        refine tkLE ?_
        refine wpAnyH_done (by kernel_rfl) ?_ _
        go_wp2
        refine bodyPost_ret (results_tmp2 rfl _ _ _) rfl ?_
        exact ⟨w6.heap.size, by first | rfl | simp, OW6.out.trans O7.out, .inl ⟨(cell_B B7.out 0).trans rfl, ⟨_, B7.out⟩, OW6.out.size⟩⟩
end Go.Proofs.YtekjfbmebekmeaaGreat
