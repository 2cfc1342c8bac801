import Derived.Test.YtekjfbmebekmeaaGreatGa41
namespace Go.Proofs.YtekjfbmebekmeaaGreat
open Go.RowKit
set_option linter.unusedVariables false
set_option linter.unusedSimpArgs false
theorem bd_rem {P : List (Nat × List UInt8)} (h : BdP P) (f : Nat) : BdP (RemQ P f).1 := fun p hp => by
  unfold RemQ at hp
  split at hp
  · exact h p (List.mem_filter.1 hp).1
  · exact h p hp
theorem bd_put {P : List (Nat × List UInt8)} (h : BdP P) (at_ : Nat) (b : List UInt8) : BdP (PutQ P at_ b).1 := fun p hp => by
  unfold PutQ at hp
  split at hp
  · exact h p hp
  · cases hf : fndO P at_ b.length with
    | none => rw [hf] at hp; exact h p hp
    | some i =>
      rw [hf] at hp
      obtain ⟨q, hq, hfit⟩ := fnd_some hf
      obtain ⟨h1, h2, h3⟩ := fitQ_iff.1 hfit
      simp only [putP, hq] at hp
      rcases List.mem_or_eq_of_mem_set hp with hp | rfl
      · exact h p hp
      · show (layL q.2 (at_ - q.1) b).length ≤ _
        rw [layL_len _ _ _ (by omega)]
        exact h q (List.mem_of_getElem? hq)
theorem bd_add {P : List (Nat × List UInt8)} (h : BdP P) (f : Nat) (l : List UInt8) (hl : l.length ≤ 1048576) : BdP (AdQ P f l).1 := fun p hp => by
  unfold AdQ at hp
  split at hp
  · exact h p hp
  · rcases List.mem_append.1 hp with hp | hp
    · exact h p hp
    · simp only [List.mem_cons, List.not_mem_nil, or_false] at hp
      subst hp; exact hl
theorem DkW.out {B m d : Nat} {w w' : World} {t : DkT} (h : DkW B w d t m) (o : Out w w') : DkW B w' d t m := ⟨h.1.out o, h.2.1, h.2.2⟩
set_option maxHeartbeats 16000000 in
set_option maxRecDepth 100000 in
theorem act2_any (B m d : Nat) (w : World) (t : DkT) (h : DkW B w d t m) (hm : m + 1 ≤ 1000000000) (which : Int) (at_ : Nat) (N : Int) (x k dc : Nat) (da : Option Addr) (ha : at_ < 18446744073709551616) (hN : -9223372036854775808 ≤ N ∧ N < 9223372036854775808) (hx : x < 18446744073709551616) :
    Calls Tryz.prog 8 #[.pointer (some ⟨d, 0, none⟩), actV which 2 at_ N x k dc da] w fun e w' => ActE B d m (m) k t w e w' := by
  unfold actV
  obtain ⟨p, hp⟩ : ∃ p, Hid (p = w.heap.size) := ⟨_, rfl⟩
  obtain ⟨w0, H0, b0, o0⟩ : ∃ w0, Hid (w0 = w.alloc (.cells #[.int .i64 which, .int .i64 2, .int .u64 at_, .int .i64 N, .int .u64 x, .slice da k dc] 31)) ∧ w0.heap[p]? = some (.cells #[.int .i64 which, .int .i64 2, .int .u64 at_, .int .i64 N, .int .u64 x, .slice da k dc] 31 (0, 0)) ∧ Out w w0 := ⟨_, rfl, by rw [hp.out]; exact heap_alloc_new w _, (Out.refl w).alloc _⟩
  have c0 : w0.cell? ⟨p, 0, none⟩ = some (.int .i64 which) := (cell_B b0 0).trans rfl
  have c1 : w0.cell? ⟨p, 1, none⟩ = some (.int .i64 2) := (cell_B b0 1).trans rfl
  have c2 : w0.cell? ⟨p, 2, none⟩ = some (.int .u64 at_) := (cell_B b0 2).trans rfl
  have c3 : w0.cell? ⟨p, 3, none⟩ = some (.int .i64 N) := (cell_B b0 3).trans rfl
  have c4 : w0.cell? ⟨p, 4, none⟩ = some (.int .u64 x) := (cell_B b0 4).trans rfl
  have c5 : w0.cell? ⟨p, 5, none⟩ = some (.slice da k dc) := (cell_B b0 5).trans rfl
  have cd0 : w0.cell? ⟨d, 0, none⟩ = some (.pointer (some ⟨t.s, 0, none⟩)) := cell_later o0 ((cell_B h.1.blk 0).trans rfl)
  have cd1 : w0.cell? ⟨d, 1, none⟩ = some (.slice t.a t.n t.c) := cell_later o0 ((cell_B h.1.blk 1).trans (by rw [h.2.1]; rfl))
  have hpm := h.2.2
  have HW := hidOf h
  have HW0 := hidOf (h.out o0)
  have O0 := hidOf o0
  have NP : Hid (∀ k, w.heap.size ≤ k → ¬ t.fA k) := hidOf (fun k hk hf => by have := h.1.fA_lt hf; omega)
  obtain ⟨code, hcode⟩ : ∃ c, Hid (c = (RemQ (t.R.map fdR) at_).2) := ⟨_, rfl⟩
  obtain ⟨PQ, hPQ⟩ : ∃ c, Hid (c = (RemQ (t.R.map fdR) at_).1) := ⟨_, rfl⟩
  have BD : Hid (BdP (t.R.map fdR) → k ≤ 1048576 → BdP PQ) := hidOf (fun hq hq2 => by rw [hPQ.out]; exact bd_rem hq at_)
  have NC := hidOf (fun x W => num20_any x W)
  have QC : Hid (∀ W, Out w0 W → Calls Tryz.prog 25 #[.agg #[.slice t.a t.n t.c], .int .u64 at_] W fun e w' => ∃ a' c' n' R', e = .returned (.tuple #[.agg #[.slice a' n' c'], .int .i64 code]) ∧ DkR B d m W t w' { t with a := a', c := c', n := n', R := R' } ∧ R'.map fdR = PQ ∧ Out W w') := hidOf (fun W o => by
    have h9 := rRemove (HW0.out.out o) hm at_ ha
    rw [← hcode.out, ← hPQ.out] at h9
    exact h9)
  have MC : Hid (∀ W a' c' n' R', DkR B d m w t W { t with a := a', c := c', n := n', R := R' } → Calls Tryz.prog 26 #[.pointer (some ⟨t.s, 0, none⟩), .int .u64 at_] W fun e w' => ∃ v1' v2' X' Y', e = .returned (.int .i64 code) ∧ DkR B d m w t w' { t with v1 := v1', v2 := v2', X := X', Y := Y', a := a', c := c', n := n', R := R' } ∧ PQ.Perm ((flat X' ++ flat Y').map fdR) ∧ Chg t.fA W w') := hidOf (fun W a' c' n' R' hd => by
    have h9 := dRemove hd (by omega) (t.R.map fdR) hpm at_ ha
    rw [← hcode.out, ← hPQ.out] at h9
    exact h9)
  clear b0 o0 h hpm
  go_enter Tryz.func8, Tryz.ntmps8
  go_upto_region 1 with fail
  rw [← hp.out]
  rw [← H0.out]
  go_upto_region 11 with fail
  refine wp_region_held_drew (S := (fun w' => w'.cell? ⟨d, 1, none⟩ = some (.slice t.a t.n t.c) ∧ w'.cell? ⟨p, 2, none⟩ = some (.int .u64 at_))) (by kernel_rfl) ?_ (fun hHeld => ?_)
  · exact ⟨cell_later (Out.refl w0).drew cd1, cell_later (Out.refl w0).drew c2⟩
  refine tkLB [0, 1, 2, 3, 4, 5] ?_
  iterate 6 (refine tkLC (v := ?_) rfl rfl (by kernel_rfl) (by kernel_rfl) (by kernel_rfl) (fun _ _ _ h => h) (by rfl) (by assumption) ?_ ?_; rotate_left; (· (intro w hSw; (try dsimp only at hSw); go_simp; (try with_reducible rfl))); simp only [Act.put, List.setIfInBounds_toArray, List.set_cons_zero, List.set_cons_succ])
  refine tkLE ?_
  refine wpAnyH_ready (rs := [6, 10]) (by kernel_rfl) (by simp) ?_
  refine (AllReadyH.cons rfl (fun Ko6 hKo6 => ?_) (AllReadyH.cons rfl (fun Ko10 hKo10 => ?_) AllReadyH.nil))
  · rw [if_pos (by rfl)]
    go_simp
    go_at_call 25
    refine (QC.out _ ((Out.refl w0).drew)).mono ?_
    rintro e w1 ⟨a', c', n', R', rfl, hdr, hmap, ho1⟩
    have DR1 := hidOf hdr
    have MP := hidOf hmap
    have P1 := hidOf (Out.trans ((Out.refl w0).drew) ho1)
    have PCW : Hid (Out w0 w0.drew) := hidOf ((Out.refl w0).drew)
    clear hdr hmap ho1
    refine hKo6.out _ _ ⟨cell_later P1.out cd1, cell_later P1.out c2⟩ (fun hHeld6 => ?_)
    try simp only [Act.put, List.setIfInBounds_toArray, List.set_cons_zero, List.set_cons_succ]
    refine tkLB [7, 8, 9] ?_
    iterate 3 (refine tkLC (v := ?_) rfl rfl (by kernel_rfl) (by kernel_rfl) (by kernel_rfl) (fun _ _ _ h => h) (by rfl) (by assumption) ?_ ?_; rotate_left; (· (intro w hSw; (try dsimp only at hSw); go_simp; (try with_reducible rfl))); simp only [Act.put, List.setIfInBounds_toArray, List.set_cons_zero, List.set_cons_succ])
    refine tkLE ?_
    refine wpAnyH_ready (rs := [10]) (by kernel_rfl) (by simp) ?_
    refine (AllReadyH.cons rfl (fun Ko10 hKo10 => ?_) AllReadyH.nil)
    rw [if_pos (by rfl)]
    go_simp
    obtain ⟨wA, HA, hA⟩ : ∃ wA, Hid (wA = w1.alloc (.cells #[.slice none 0 0] 47)) ∧ Hid (wA.heap[w1.heap.size]? = some (.cells #[.slice none 0 0] 47 (0, 0))) := ⟨_, rfl, hidOf (heap_alloc_new w1 _)⟩
    have PA : Hid (Out w0 wA) := hidOf (by rw [HA.out]; exact Out.alloc P1.out _)
    have oAc : Out w1 wA := by rw [HA.out]; exact (Out.refl _).alloc _
    rw [← HA.out]
    obtain ⟨q, hq⟩ : ∃ q, Hid (q = w1.heap.size) := ⟨_, rfl⟩
    have hqr : Hid (w0.heap.size ≤ q) := hidOf (by rw [hq.out]; exact (P1.out).size)
    rw [← hq.out] at hA
    have hqA : Hid (q < wA.heap.size) := hidOf (Array.getElem?_eq_some_iff.1 hA.out).1
    rw [← hq.out]
    refine hKo10.out _ _ ⟨cell_later PA.out cd1, cell_later PA.out c2⟩ (fun hHeld10 => ?_)
    try simp only [Act.put, List.setIfInBounds_toArray, List.set_cons_zero, List.set_cons_succ]
    refine wpAnyH_ready (rs := [11]) (by kernel_rfl) (by simp) ?_
    refine (AllReadyH.cons rfl (fun Ko11 hKo11 => ?_) AllReadyH.nil)
    have zq : wA.frozen? ⟨q, 0, none⟩ = false := froz_B hA.out 0
    have zc : wA.cell? ⟨q, 0, none⟩ = some (.slice none 0 0) := by rw [cell_B hA.out] <;> rfl
    rw [if_pos (by rfl)]
    go_simp
    obtain ⟨wS, HS, bS, cS⟩ : ∃ wS, Hid (wS = wA.setCell ⟨q, 0, none⟩ (.slice a' n' c')) ∧ wS.heap[q]? = some (.cells #[.slice a' n' c'] 47 (0, 0)) ∧ Chg (fun b => b = q) wA wS := ⟨_, rfl, set_B hA.out 0 _, (Chg.refl (fun b => b = q) wA).setCell rfl _⟩
    rw [← HS.out]
    have PS : Hid (Out w0 wS) := hidOf (Chg.out cS PA.out (fun b hb => by have := hqr.out; omega))
    have BS := hidOf bS
    have nq : ¬ DkT.fp { t with a := a', c := c', n := n', R := R' } d q := fun hk => by have h7 := (DR1.out.dk.lt hk).2; rw [hq.out] at h7; omega
    have DRS : Hid (DkR B d m w t wS { t with a := a', c := c', n := n', R := R' }) := hidOf (((((DkR.start HW.out.1).out (O0.out.trans PCW.out)).trans DR1.out).out oAc).chgQ cS nq (by have := hqr.out; have := O0.out.size; omega))
    clear cS bS zq zc nq
    refine hKo11.out _ _ ⟨cell_later PS.out cd1, cell_later PS.out c2⟩ (fun hHeld11 => ?_)
    try simp only [Act.put, List.setIfInBounds_toArray, List.set_cons_zero, List.set_cons_succ]
    refine tkLB [12] ?_
    iterate 1 (refine tkLC (v := ?_) rfl rfl (by kernel_rfl) (by kernel_rfl) (by kernel_rfl) (fun _ _ _ h => h) (by rfl) (by assumption) ?_ ?_; rotate_left; (· (intro w hSw; (try dsimp only at hSw); go_simp; (try with_reducible rfl))); simp only [Act.put, List.setIfInBounds_toArray, List.set_cons_zero, List.set_cons_succ])
    refine tkLE ?_
    refine wpAnyH_done (by kernel_rfl) ?_ _
    go_upto_region 12 with fail
    refine wp_region_held_drew (S := (fun w' => w'.cell? ⟨d, 0, none⟩ = some (.pointer (some ⟨t.s, 0, none⟩)) ∧ w'.cell? ⟨p, 2, none⟩ = some (.int .u64 at_))) (by kernel_rfl) ?_ (fun hHeld => ?_)
    · exact ⟨cell_later PS.out.drew cd0, cell_later PS.out.drew c2⟩
    refine tkLB [0, 1, 2, 3, 4, 5] ?_
    iterate 6 (refine tkLC (v := ?_) rfl rfl (by kernel_rfl) (by kernel_rfl) (by kernel_rfl) (fun _ _ _ h => h) (by rfl) (by assumption) ?_ ?_; rotate_left; (· (intro w hSw; (try dsimp only at hSw); go_simp; (try with_reducible rfl))); simp only [Act.put, List.setIfInBounds_toArray, List.set_cons_zero, List.set_cons_succ])
    refine tkLE ?_
    refine wpAnyH_ready (rs := [6]) (by kernel_rfl) (by simp) ?_
    refine (AllReadyH.cons rfl (fun Ko6 hKo6 => ?_) AllReadyH.nil)
    rw [if_pos (by rfl)]
    go_simp
    go_at_call 26
    refine (MC.out _ a' c' n' R' (DRS.out.out (Out.refl wS).drew)).mono ?_
    rintro e w2 ⟨v1', v2', X', Y', rfl, hdr2, hpm2, hch2⟩
    have DR2 := hidOf hdr2
    have PM2 := hidOf hpm2
    have gd0 : w2.cell? ⟨d, 0, none⟩ = some (.pointer (some ⟨t.s, 0, none⟩)) := (cell_B hdr2.dk.blk 0).trans rfl
    have g2 := hch2.cell (cell_later PS.out.drew c2) (NP.out p (by rw [hp.out]; exact Nat.le_refl _))
    have gq : w2.cell? ⟨q, 0, none⟩ = some (.slice a' n' c') := hch2.cell (show wS.drew.cell? _ = _ from (cell_B BS.out 0).trans rfl) (NP.out q (by have := hqr.out; have := O0.out.size; omega))
    have zd : w2.frozen? ⟨d, 1, none⟩ = false := froz_B hdr2.dk.blk 1
    have zc : w2.cell? ⟨d, 1, none⟩ = some t.cv := (cell_B hdr2.dk.blk 1).trans rfl
    clear hdr2 hpm2 hch2
    refine hKo6.out _ _ ⟨gd0, g2⟩ (fun hHeld6 => ?_)
    try simp only [Act.put, List.setIfInBounds_toArray, List.set_cons_zero, List.set_cons_succ]
    refine tkLB [7] ?_
    iterate 1 (refine tkLC (v := ?_) rfl rfl (by kernel_rfl) (by kernel_rfl) (by kernel_rfl) (fun _ _ _ h => h) (by rfl) (by assumption) ?_ ?_; rotate_left; (· (intro w hSw; (try dsimp only at hSw); go_simp; (try with_reducible rfl))); simp only [Act.put, List.setIfInBounds_toArray, List.set_cons_zero, List.set_cons_succ])
    refine tkLE ?_
    refine wpAnyH_done (by kernel_rfl) ?_ _
    go_wp2_with (go_at_call 18; refine (NC.out _ _).mono ?_; rintro e wx ⟨rfl, hx0⟩; subst hx0)
    refine bodyPost_ret (results_tmp3 rfl _ _ _) rfl ?_
    exact ⟨_, _, _, by first | rfl | simp, (DR2.out.setR _).mono (by omega), rfl, (by show (R'.map fdR).Perm _; rw [MP.out]; exact PM2.out), (fun hq hq2 => by show BdP (R'.map fdR); rw [MP.out]; exact BD.out hq hq2), OutS.nil _ _ _ _ _⟩
  · rw [if_pos (by rfl)]
    go_simp
    obtain ⟨wA, HA, hA⟩ : ∃ wA, Hid (wA = (w0.alloc (.cells #[.slice none 0 0] 47)).drew) ∧ Hid (wA.heap[w0.heap.size]? = some (.cells #[.slice none 0 0] 47 (0, 0))) := ⟨_, rfl, hidOf (heap_alloc_new w0 _)⟩
    have PA : Hid (Out w0 wA) := hidOf (by rw [HA.out]; exact ((Out.refl w0).alloc _).drew)
    rw [← HA.out]
    obtain ⟨q, hq⟩ : ∃ q, Hid (q = w0.heap.size) := ⟨_, rfl⟩
    have hqr : Hid (w0.heap.size ≤ q) := hidOf (by rw [hq.out]; exact Nat.le_refl _)
    rw [← hq.out] at hA
    have hqA : Hid (q < wA.heap.size) := hidOf (Array.getElem?_eq_some_iff.1 hA.out).1
    rw [← hq.out]
    refine hKo10.out _ _ ⟨cell_later PA.out cd1, cell_later PA.out c2⟩ (fun hHeld10 => ?_)
    try simp only [Act.put, List.setIfInBounds_toArray, List.set_cons_zero, List.set_cons_succ]
    refine wpAnyH_ready (rs := [6]) (by kernel_rfl) (by simp) ?_
    refine (AllReadyH.cons rfl (fun Ko6 hKo6 => ?_) AllReadyH.nil)
    rw [if_pos (by rfl)]
    go_simp
    go_at_call 25
    refine (QC.out _ PA.out).mono ?_
    rintro e w1 ⟨a', c', n', R', rfl, hdr, hmap, ho1⟩
    have DR1 := hidOf hdr
    have MP := hidOf hmap
    have P1 := hidOf (Out.trans PA.out ho1)
    have PCW : Hid (Out w0 wA) := hidOf PA.out
    have hA1 := hidOf (blk_out hA.out ho1)
    have SQ : Hid (q < wA.heap.size) := hqA
    clear hdr hmap ho1
    refine hKo6.out _ _ ⟨cell_later P1.out cd1, cell_later P1.out c2⟩ (fun hHeld6 => ?_)
    try simp only [Act.put, List.setIfInBounds_toArray, List.set_cons_zero, List.set_cons_succ]
    refine tkLB [7, 8, 9] ?_
    iterate 3 (refine tkLC (v := ?_) rfl rfl (by kernel_rfl) (by kernel_rfl) (by kernel_rfl) (fun _ _ _ h => h) (by rfl) (by assumption) ?_ ?_; rotate_left; (· (intro w hSw; (try dsimp only at hSw); go_simp; (try with_reducible rfl))); simp only [Act.put, List.setIfInBounds_toArray, List.set_cons_zero, List.set_cons_succ])
    refine tkLE ?_
    refine wpAnyH_ready (rs := [11]) (by kernel_rfl) (by simp) ?_
    refine (AllReadyH.cons rfl (fun Ko11 hKo11 => ?_) AllReadyH.nil)
    have zq : w1.frozen? ⟨q, 0, none⟩ = false := froz_B hA1.out 0
    have zc : w1.cell? ⟨q, 0, none⟩ = some (.slice none 0 0) := by rw [cell_B hA1.out] <;> rfl
    rw [if_pos (by rfl)]
    go_simp
    obtain ⟨wS, HS, bS, cS⟩ : ∃ wS, Hid (wS = w1.setCell ⟨q, 0, none⟩ (.slice a' n' c')) ∧ wS.heap[q]? = some (.cells #[.slice a' n' c'] 47 (0, 0)) ∧ Chg (fun b => b = q) w1 wS := ⟨_, rfl, set_B hA1.out 0 _, (Chg.refl (fun b => b = q) w1).setCell rfl _⟩
    rw [← HS.out]
    have PS : Hid (Out w0 wS) := hidOf (Chg.out cS P1.out (fun b hb => by have := hqr.out; omega))
    have BS := hidOf bS
    have nq : ¬ DkT.fp { t with a := a', c := c', n := n', R := R' } d q := fun hk => by
      have hz := hqr.out
      have ho := O0.out.size
      have hsq := SQ.out
      rcases DR1.out.new q hk with e | e
      · have := (HW.out.1.lt e).2; omega
      · omega
    have DRS : Hid (DkR B d m w t wS { t with a := a', c := c', n := n', R := R' }) := hidOf (((((DkR.start HW.out.1).out (O0.out.trans PCW.out)).trans DR1.out)).chgQ cS nq (by have := hqr.out; have := O0.out.size; omega))
    clear cS bS zq zc nq
    refine hKo11.out _ _ ⟨cell_later PS.out cd1, cell_later PS.out c2⟩ (fun hHeld11 => ?_)
    try simp only [Act.put, List.setIfInBounds_toArray, List.set_cons_zero, List.set_cons_succ]
    refine tkLB [12] ?_
    iterate 1 (refine tkLC (v := ?_) rfl rfl (by kernel_rfl) (by kernel_rfl) (by kernel_rfl) (fun _ _ _ h => h) (by rfl) (by assumption) ?_ ?_; rotate_left; (· (intro w hSw; (try dsimp only at hSw); go_simp; (try with_reducible rfl))); simp only [Act.put, List.setIfInBounds_toArray, List.set_cons_zero, List.set_cons_succ])
    refine tkLE ?_
    refine wpAnyH_done (by kernel_rfl) ?_ _
    go_upto_region 12 with fail
    refine wp_region_held_drew (S := (fun w' => w'.cell? ⟨d, 0, none⟩ = some (.pointer (some ⟨t.s, 0, none⟩)) ∧ w'.cell? ⟨p, 2, none⟩ = some (.int .u64 at_))) (by kernel_rfl) ?_ (fun hHeld => ?_)
    · exact ⟨cell_later PS.out.drew cd0, cell_later PS.out.drew c2⟩
    refine tkLB [0, 1, 2, 3, 4, 5] ?_
    iterate 6 (refine tkLC (v := ?_) rfl rfl (by kernel_rfl) (by kernel_rfl) (by kernel_rfl) (fun _ _ _ h => h) (by rfl) (by assumption) ?_ ?_; rotate_left; (· (intro w hSw; (try dsimp only at hSw); go_simp; (try with_reducible rfl))); simp only [Act.put, List.setIfInBounds_toArray, List.set_cons_zero, List.set_cons_succ])
    refine tkLE ?_
    refine wpAnyH_ready (rs := [6]) (by kernel_rfl) (by simp) ?_
    refine (AllReadyH.cons rfl (fun Ko6 hKo6 => ?_) AllReadyH.nil)
    rw [if_pos (by rfl)]
    go_simp
    go_at_call 26
    refine (MC.out _ a' c' n' R' (DRS.out.out (Out.refl wS).drew)).mono ?_
    rintro e w2 ⟨v1', v2', X', Y', rfl, hdr2, hpm2, hch2⟩
    have DR2 := hidOf hdr2
    have PM2 := hidOf hpm2
    have gd0 : w2.cell? ⟨d, 0, none⟩ = some (.pointer (some ⟨t.s, 0, none⟩)) := (cell_B hdr2.dk.blk 0).trans rfl
    have g2 := hch2.cell (cell_later PS.out.drew c2) (NP.out p (by rw [hp.out]; exact Nat.le_refl _))
    have gq : w2.cell? ⟨q, 0, none⟩ = some (.slice a' n' c') := hch2.cell (show wS.drew.cell? _ = _ from (cell_B BS.out 0).trans rfl) (NP.out q (by have := hqr.out; have := O0.out.size; omega))
    have zd : w2.frozen? ⟨d, 1, none⟩ = false := froz_B hdr2.dk.blk 1
    have zc : w2.cell? ⟨d, 1, none⟩ = some t.cv := (cell_B hdr2.dk.blk 1).trans rfl
    clear hdr2 hpm2 hch2
    refine hKo6.out _ _ ⟨gd0, g2⟩ (fun hHeld6 => ?_)
    try simp only [Act.put, List.setIfInBounds_toArray, List.set_cons_zero, List.set_cons_succ]
    refine tkLB [7] ?_
    iterate 1 (refine tkLC (v := ?_) rfl rfl (by kernel_rfl) (by kernel_rfl) (by kernel_rfl) (fun _ _ _ h => h) (by rfl) (by assumption) ?_ ?_; rotate_left; (· (intro w hSw; (try dsimp only at hSw); go_simp; (try with_reducible rfl))); simp only [Act.put, List.setIfInBounds_toArray, List.set_cons_zero, List.set_cons_succ])
    refine tkLE ?_
    refine wpAnyH_done (by kernel_rfl) ?_ _
    go_wp2_with (go_at_call 18; refine (NC.out _ _).mono ?_; rintro e wx ⟨rfl, hx0⟩; subst hx0)
    refine bodyPost_ret (results_tmp3 rfl _ _ _) rfl ?_
    exact ⟨_, _, _, by first | rfl | simp, (DR2.out.setR _).mono (by omega), rfl, (by show (R'.map fdR).Perm _; rw [MP.out]; exact PM2.out), (fun hq hq2 => by show BdP (R'.map fdR); rw [MP.out]; exact BD.out hq hq2), OutS.nil _ _ _ _ _⟩
set_option maxHeartbeats 16000000 in
set_option maxRecDepth 100000 in
theorem act4_any (B m d : Nat) (w : World) (t : DkT) (h : DkW B w d t m) (hm : m + 1 ≤ 1000000000) (which : Int) (at_ : Nat) (N : Int) (x k dc : Nat) (da : Option Addr) (ha : at_ < 18446744073709551616) (hN : -9223372036854775808 ≤ N ∧ N < 9223372036854775808) (hx : x < 18446744073709551616) :
    Calls Tryz.prog 8 #[.pointer (some ⟨d, 0, none⟩), actV which 4 at_ N x k dc da] w fun e w' => ActE B d m (m) k t w e w' := by
  unfold actV
  obtain ⟨p, hp⟩ : ∃ p, Hid (p = w.heap.size) := ⟨_, rfl⟩
  obtain ⟨w0, H0, b0, o0⟩ : ∃ w0, Hid (w0 = w.alloc (.cells #[.int .i64 which, .int .i64 4, .int .u64 at_, .int .i64 N, .int .u64 x, .slice da k dc] 31)) ∧ w0.heap[p]? = some (.cells #[.int .i64 which, .int .i64 4, .int .u64 at_, .int .i64 N, .int .u64 x, .slice da k dc] 31 (0, 0)) ∧ Out w w0 := ⟨_, rfl, by rw [hp.out]; exact heap_alloc_new w _, (Out.refl w).alloc _⟩
  have c0 : w0.cell? ⟨p, 0, none⟩ = some (.int .i64 which) := (cell_B b0 0).trans rfl
  have c1 : w0.cell? ⟨p, 1, none⟩ = some (.int .i64 4) := (cell_B b0 1).trans rfl
  have c2 : w0.cell? ⟨p, 2, none⟩ = some (.int .u64 at_) := (cell_B b0 2).trans rfl
  have c3 : w0.cell? ⟨p, 3, none⟩ = some (.int .i64 N) := (cell_B b0 3).trans rfl
  have c4 : w0.cell? ⟨p, 4, none⟩ = some (.int .u64 x) := (cell_B b0 4).trans rfl
  have c5 : w0.cell? ⟨p, 5, none⟩ = some (.slice da k dc) := (cell_B b0 5).trans rfl
  have cd0 : w0.cell? ⟨d, 0, none⟩ = some (.pointer (some ⟨t.s, 0, none⟩)) := cell_later o0 ((cell_B h.1.blk 0).trans rfl)
  have cd1 : w0.cell? ⟨d, 1, none⟩ = some (.slice t.a t.n t.c) := cell_later o0 ((cell_B h.1.blk 1).trans (by rw [h.2.1]; rfl))
  have hpm := h.2.2
  have HW := hidOf h
  have HW0 := hidOf (h.out o0)
  have O0 := hidOf o0
  have NP : Hid (∀ k, w.heap.size ≤ k → ¬ t.fA k) := hidOf (fun k hk hf => by have := h.1.fA_lt hf; omega)
  obtain ⟨code, hcode⟩ : ∃ c, Hid (c = (PutQ (t.R.map fdR) at_ (bysN x (widN N))).2) := ⟨_, rfl⟩
  obtain ⟨PQ, hPQ⟩ : ∃ c, Hid (c = (PutQ (t.R.map fdR) at_ (bysN x (widN N))).1) := ⟨_, rfl⟩
  have BD : Hid (BdP (t.R.map fdR) → k ≤ 1048576 → BdP PQ) := hidOf (fun hq hq2 => by rw [hPQ.out]; exact bd_put hq at_ _)
  have NC := hidOf (fun x W => num20_any x W)
  have QC : Hid (∀ W, Out w0 W → Calls Tryz.prog 29 #[.agg #[.slice t.a t.n t.c], .int .u64 at_, .int .i64 N, .int .u64 x] W fun e w' => ∃ a' c' n' R', e = .returned (.tuple #[.agg #[.slice a' n' c'], .int .i64 code]) ∧ DkR B d m W t w' { t with a := a', c := c', n := n', R := R' } ∧ R'.map fdR = PQ ∧ Out W w') := hidOf (fun W o => by
    have h9 := rStore (HW0.out.out o) hm at_ x N ha hx
    rw [← hcode.out, ← hPQ.out] at h9
    exact h9)
  have MC : Hid (∀ W a' c' n' R', DkR B d m w t W { t with a := a', c := c', n := n', R := R' } → Calls Tryz.prog 30 #[.pointer (some ⟨t.s, 0, none⟩), .int .u64 at_, .int .i64 N, .int .u64 x] W fun e w' => ∃ v1' v2' X' Y', e = .returned (.int .i64 code) ∧ DkR B d m w t w' { t with v1 := v1', v2 := v2', X := X', Y := Y', a := a', c := c', n := n', R := R' } ∧ PQ.Perm ((flat X' ++ flat Y').map fdR) ∧ Chg t.fA W w') := hidOf (fun W a' c' n' R' hd => by
    have h9 := dStore hd (t.R.map fdR) hpm at_ x N ha hx
    rw [← hcode.out, ← hPQ.out] at h9
    exact h9)
  clear b0 o0 h hpm
  go_enter Tryz.func8, Tryz.ntmps8
  go_upto_region 1 with fail
  rw [← hp.out]
  rw [← H0.out]
  go_upto_region 20 with fail
  refine wp_region_held_drew (S := (fun w' => w'.cell? ⟨d, 1, none⟩ = some (.slice t.a t.n t.c) ∧ w'.cell? ⟨p, 2, none⟩ = some (.int .u64 at_) ∧ w'.cell? ⟨p, 3, none⟩ = some (.int .i64 N) ∧ w'.cell? ⟨p, 4, none⟩ = some (.int .u64 x))) (by kernel_rfl) ?_ (fun hHeld => ?_)
  · exact ⟨cell_later (Out.refl w0).drew cd1, cell_later (Out.refl w0).drew c2, cell_later (Out.refl w0).drew c3, cell_later (Out.refl w0).drew c4⟩
  refine tkLB [0, 1, 2, 3, 4, 5, 6, 7, 8, 9] ?_
  iterate 10 (refine tkLC (v := ?_) rfl rfl (by kernel_rfl) (by kernel_rfl) (by kernel_rfl) (fun _ _ _ h => h) (by rfl) (by assumption) ?_ ?_; rotate_left; (· (intro w hSw; (try dsimp only at hSw); go_simp; (try with_reducible rfl))); simp only [Act.put, List.setIfInBounds_toArray, List.set_cons_zero, List.set_cons_succ])
  refine tkLE ?_
  refine wpAnyH_ready (rs := [10, 14]) (by kernel_rfl) (by simp) ?_
  refine (AllReadyH.cons rfl (fun Ko10 hKo10 => ?_) (AllReadyH.cons rfl (fun Ko14 hKo14 => ?_) AllReadyH.nil))
  · rw [if_pos (by rfl)]
    go_simp
    go_at_call 29
    refine (QC.out _ ((Out.refl w0).drew)).mono ?_
    rintro e w1 ⟨a', c', n', R', rfl, hdr, hmap, ho1⟩
    have DR1 := hidOf hdr
    have MP := hidOf hmap
    have P1 := hidOf (Out.trans ((Out.refl w0).drew) ho1)
    have PCW : Hid (Out w0 w0.drew) := hidOf ((Out.refl w0).drew)
    clear hdr hmap ho1
    refine hKo10.out _ _ ⟨cell_later P1.out cd1, cell_later P1.out c2, cell_later P1.out c3, cell_later P1.out c4⟩ (fun hHeld10 => ?_)
    try simp only [Act.put, List.setIfInBounds_toArray, List.set_cons_zero, List.set_cons_succ]
    refine tkLB [11, 12, 13] ?_
    iterate 3 (refine tkLC (v := ?_) rfl rfl (by kernel_rfl) (by kernel_rfl) (by kernel_rfl) (fun _ _ _ h => h) (by rfl) (by assumption) ?_ ?_; rotate_left; (· (intro w hSw; (try dsimp only at hSw); go_simp; (try with_reducible rfl))); simp only [Act.put, List.setIfInBounds_toArray, List.set_cons_zero, List.set_cons_succ])
    refine tkLE ?_
    refine wpAnyH_ready (rs := [14]) (by kernel_rfl) (by simp) ?_
    refine (AllReadyH.cons rfl (fun Ko14 hKo14 => ?_) AllReadyH.nil)
    rw [if_pos (by rfl)]
    go_simp
    obtain ⟨wA, HA, hA⟩ : ∃ wA, Hid (wA = w1.alloc (.cells #[.slice none 0 0] 47)) ∧ Hid (wA.heap[w1.heap.size]? = some (.cells #[.slice none 0 0] 47 (0, 0))) := ⟨_, rfl, hidOf (heap_alloc_new w1 _)⟩
    have PA : Hid (Out w0 wA) := hidOf (by rw [HA.out]; exact Out.alloc P1.out _)
    have oAc : Out w1 wA := by rw [HA.out]; exact (Out.refl _).alloc _
    rw [← HA.out]
    obtain ⟨q, hq⟩ : ∃ q, Hid (q = w1.heap.size) := ⟨_, rfl⟩
    have hqr : Hid (w0.heap.size ≤ q) := hidOf (by rw [hq.out]; exact (P1.out).size)
    rw [← hq.out] at hA
    have hqA : Hid (q < wA.heap.size) := hidOf (Array.getElem?_eq_some_iff.1 hA.out).1
    rw [← hq.out]
    refine hKo14.out _ _ ⟨cell_later PA.out cd1, cell_later PA.out c2, cell_later PA.out c3, cell_later PA.out c4⟩ (fun hHeld14 => ?_)
    try simp only [Act.put, List.setIfInBounds_toArray, List.set_cons_zero, List.set_cons_succ]
    refine wpAnyH_ready (rs := [15]) (by kernel_rfl) (by simp) ?_
    refine (AllReadyH.cons rfl (fun Ko15 hKo15 => ?_) AllReadyH.nil)
    have zq : wA.frozen? ⟨q, 0, none⟩ = false := froz_B hA.out 0
    have zc : wA.cell? ⟨q, 0, none⟩ = some (.slice none 0 0) := by rw [cell_B hA.out] <;> rfl
    rw [if_pos (by rfl)]
    go_simp
    obtain ⟨wS, HS, bS, cS⟩ : ∃ wS, Hid (wS = wA.setCell ⟨q, 0, none⟩ (.slice a' n' c')) ∧ wS.heap[q]? = some (.cells #[.slice a' n' c'] 47 (0, 0)) ∧ Chg (fun b => b = q) wA wS := ⟨_, rfl, set_B hA.out 0 _, (Chg.refl (fun b => b = q) wA).setCell rfl _⟩
    rw [← HS.out]
    have PS : Hid (Out w0 wS) := hidOf (Chg.out cS PA.out (fun b hb => by have := hqr.out; omega))
    have BS := hidOf bS
    have nq : ¬ DkT.fp { t with a := a', c := c', n := n', R := R' } d q := fun hk => by have h7 := (DR1.out.dk.lt hk).2; rw [hq.out] at h7; omega
    have DRS : Hid (DkR B d m w t wS { t with a := a', c := c', n := n', R := R' }) := hidOf (((((DkR.start HW.out.1).out (O0.out.trans PCW.out)).trans DR1.out).out oAc).chgQ cS nq (by have := hqr.out; have := O0.out.size; omega))
    clear cS bS zq zc nq
    refine hKo15.out _ _ ⟨cell_later PS.out cd1, cell_later PS.out c2, cell_later PS.out c3, cell_later PS.out c4⟩ (fun hHeld15 => ?_)
    try simp only [Act.put, List.setIfInBounds_toArray, List.set_cons_zero, List.set_cons_succ]
    refine tkLB [16] ?_
    iterate 1 (refine tkLC (v := ?_) rfl rfl (by kernel_rfl) (by kernel_rfl) (by kernel_rfl) (fun _ _ _ h => h) (by rfl) (by assumption) ?_ ?_; rotate_left; (· (intro w hSw; (try dsimp only at hSw); go_simp; (try with_reducible rfl))); simp only [Act.put, List.setIfInBounds_toArray, List.set_cons_zero, List.set_cons_succ])
    refine tkLE ?_
    refine wpAnyH_done (by kernel_rfl) ?_ _
    go_upto_region 21 with fail
    refine wp_region_held_drew (S := (fun w' => w'.cell? ⟨d, 0, none⟩ = some (.pointer (some ⟨t.s, 0, none⟩)) ∧ w'.cell? ⟨p, 2, none⟩ = some (.int .u64 at_) ∧ w'.cell? ⟨p, 3, none⟩ = some (.int .i64 N) ∧ w'.cell? ⟨p, 4, none⟩ = some (.int .u64 x))) (by kernel_rfl) ?_ (fun hHeld => ?_)
    · exact ⟨cell_later PS.out.drew cd0, cell_later PS.out.drew c2, cell_later PS.out.drew c3, cell_later PS.out.drew c4⟩
    refine tkLB [0, 1, 2, 3, 4, 5, 6, 7, 8, 9] ?_
    iterate 10 (refine tkLC (v := ?_) rfl rfl (by kernel_rfl) (by kernel_rfl) (by kernel_rfl) (fun _ _ _ h => h) (by rfl) (by assumption) ?_ ?_; rotate_left; (· (intro w hSw; (try dsimp only at hSw); go_simp; (try with_reducible rfl))); simp only [Act.put, List.setIfInBounds_toArray, List.set_cons_zero, List.set_cons_succ])
    refine tkLE ?_
    refine wpAnyH_ready (rs := [10]) (by kernel_rfl) (by simp) ?_
    refine (AllReadyH.cons rfl (fun Ko10 hKo10 => ?_) AllReadyH.nil)
    rw [if_pos (by rfl)]
    go_simp
    go_at_call 30
    refine (MC.out _ a' c' n' R' (DRS.out.out (Out.refl wS).drew)).mono ?_
    rintro e w2 ⟨v1', v2', X', Y', rfl, hdr2, hpm2, hch2⟩
    have DR2 := hidOf hdr2
    have PM2 := hidOf hpm2
    have gd0 : w2.cell? ⟨d, 0, none⟩ = some (.pointer (some ⟨t.s, 0, none⟩)) := (cell_B hdr2.dk.blk 0).trans rfl
    have g2 := hch2.cell (cell_later PS.out.drew c2) (NP.out p (by rw [hp.out]; exact Nat.le_refl _))
    have g3 := hch2.cell (cell_later PS.out.drew c3) (NP.out p (by rw [hp.out]; exact Nat.le_refl _))
    have g4 := hch2.cell (cell_later PS.out.drew c4) (NP.out p (by rw [hp.out]; exact Nat.le_refl _))
    have gq : w2.cell? ⟨q, 0, none⟩ = some (.slice a' n' c') := hch2.cell (show wS.drew.cell? _ = _ from (cell_B BS.out 0).trans rfl) (NP.out q (by have := hqr.out; have := O0.out.size; omega))
    have zd : w2.frozen? ⟨d, 1, none⟩ = false := froz_B hdr2.dk.blk 1
    have zc : w2.cell? ⟨d, 1, none⟩ = some t.cv := (cell_B hdr2.dk.blk 1).trans rfl
    clear hdr2 hpm2 hch2
    refine hKo10.out _ _ ⟨gd0, g2, g3, g4⟩ (fun hHeld10 => ?_)
    try simp only [Act.put, List.setIfInBounds_toArray, List.set_cons_zero, List.set_cons_succ]
    refine tkLB [11] ?_
    iterate 1 (refine tkLC (v := ?_) rfl rfl (by kernel_rfl) (by kernel_rfl) (by kernel_rfl) (fun _ _ _ h => h) (by rfl) (by assumption) ?_ ?_; rotate_left; (· (intro w hSw; (try dsimp only at hSw); go_simp; (try with_reducible rfl))); simp only [Act.put, List.setIfInBounds_toArray, List.set_cons_zero, List.set_cons_succ])
    refine tkLE ?_
    refine wpAnyH_done (by kernel_rfl) ?_ _
    go_wp2_with (go_at_call 18; refine (NC.out _ _).mono ?_; rintro e wx ⟨rfl, hx0⟩; subst hx0)
    refine bodyPost_ret (results_tmp3 rfl _ _ _) rfl ?_
    exact ⟨_, _, _, by first | rfl | simp, (DR2.out.setR _).mono (by omega), rfl, (by show (R'.map fdR).Perm _; rw [MP.out]; exact PM2.out), (fun hq hq2 => by show BdP (R'.map fdR); rw [MP.out]; exact BD.out hq hq2), OutS.nil _ _ _ _ _⟩
  · rw [if_pos (by rfl)]
    go_simp
    obtain ⟨wA, HA, hA⟩ : ∃ wA, Hid (wA = (w0.alloc (.cells #[.slice none 0 0] 47)).drew) ∧ Hid (wA.heap[w0.heap.size]? = some (.cells #[.slice none 0 0] 47 (0, 0))) := ⟨_, rfl, hidOf (heap_alloc_new w0 _)⟩
    have PA : Hid (Out w0 wA) := hidOf (by rw [HA.out]; exact ((Out.refl w0).alloc _).drew)
    rw [← HA.out]
    obtain ⟨q, hq⟩ : ∃ q, Hid (q = w0.heap.size) := ⟨_, rfl⟩
    have hqr : Hid (w0.heap.size ≤ q) := hidOf (by rw [hq.out]; exact Nat.le_refl _)
    rw [← hq.out] at hA
    have hqA : Hid (q < wA.heap.size) := hidOf (Array.getElem?_eq_some_iff.1 hA.out).1
    rw [← hq.out]
    refine hKo14.out _ _ ⟨cell_later PA.out cd1, cell_later PA.out c2, cell_later PA.out c3, cell_later PA.out c4⟩ (fun hHeld14 => ?_)
    try simp only [Act.put, List.setIfInBounds_toArray, List.set_cons_zero, List.set_cons_succ]
    refine wpAnyH_ready (rs := [10]) (by kernel_rfl) (by simp) ?_
    refine (AllReadyH.cons rfl (fun Ko10 hKo10 => ?_) AllReadyH.nil)
    rw [if_pos (by rfl)]
    go_simp
    go_at_call 29
    refine (QC.out _ PA.out).mono ?_
    rintro e w1 ⟨a', c', n', R', rfl, hdr, hmap, ho1⟩
    have DR1 := hidOf hdr
    have MP := hidOf hmap
    have P1 := hidOf (Out.trans PA.out ho1)
    have PCW : Hid (Out w0 wA) := hidOf PA.out
    have hA1 := hidOf (blk_out hA.out ho1)
    have SQ : Hid (q < wA.heap.size) := hqA
    clear hdr hmap ho1
    refine hKo10.out _ _ ⟨cell_later P1.out cd1, cell_later P1.out c2, cell_later P1.out c3, cell_later P1.out c4⟩ (fun hHeld10 => ?_)
    try simp only [Act.put, List.setIfInBounds_toArray, List.set_cons_zero, List.set_cons_succ]
    refine tkLB [11, 12, 13] ?_
    iterate 3 (refine tkLC (v := ?_) rfl rfl (by kernel_rfl) (by kernel_rfl) (by kernel_rfl) (fun _ _ _ h => h) (by rfl) (by assumption) ?_ ?_; rotate_left; (· (intro w hSw; (try dsimp only at hSw); go_simp; (try with_reducible rfl))); simp only [Act.put, List.setIfInBounds_toArray, List.set_cons_zero, List.set_cons_succ])
    refine tkLE ?_
    refine wpAnyH_ready (rs := [15]) (by kernel_rfl) (by simp) ?_
    refine (AllReadyH.cons rfl (fun Ko15 hKo15 => ?_) AllReadyH.nil)
    have zq : w1.frozen? ⟨q, 0, none⟩ = false := froz_B hA1.out 0
    have zc : w1.cell? ⟨q, 0, none⟩ = some (.slice none 0 0) := by rw [cell_B hA1.out] <;> rfl
    rw [if_pos (by rfl)]
    go_simp
    obtain ⟨wS, HS, bS, cS⟩ : ∃ wS, Hid (wS = w1.setCell ⟨q, 0, none⟩ (.slice a' n' c')) ∧ wS.heap[q]? = some (.cells #[.slice a' n' c'] 47 (0, 0)) ∧ Chg (fun b => b = q) w1 wS := ⟨_, rfl, set_B hA1.out 0 _, (Chg.refl (fun b => b = q) w1).setCell rfl _⟩
    rw [← HS.out]
    have PS : Hid (Out w0 wS) := hidOf (Chg.out cS P1.out (fun b hb => by have := hqr.out; omega))
    have BS := hidOf bS
    have nq : ¬ DkT.fp { t with a := a', c := c', n := n', R := R' } d q := fun hk => by
      have hz := hqr.out
      have ho := O0.out.size
      have hsq := SQ.out
      rcases DR1.out.new q hk with e | e
      · have := (HW.out.1.lt e).2; omega
      · omega
    have DRS : Hid (DkR B d m w t wS { t with a := a', c := c', n := n', R := R' }) := hidOf (((((DkR.start HW.out.1).out (O0.out.trans PCW.out)).trans DR1.out)).chgQ cS nq (by have := hqr.out; have := O0.out.size; omega))
    clear cS bS zq zc nq
    refine hKo15.out _ _ ⟨cell_later PS.out cd1, cell_later PS.out c2, cell_later PS.out c3, cell_later PS.out c4⟩ (fun hHeld15 => ?_)
    try simp only [Act.put, List.setIfInBounds_toArray, List.set_cons_zero, List.set_cons_succ]
    refine tkLB [16] ?_
    iterate 1 (refine tkLC (v := ?_) rfl rfl (by kernel_rfl) (by kernel_rfl) (by kernel_rfl) (fun _ _ _ h => h) (by rfl) (by assumption) ?_ ?_; rotate_left; (· (intro w hSw; (try dsimp only at hSw); go_simp; (try with_reducible rfl))); simp only [Act.put, List.setIfInBounds_toArray, List.set_cons_zero, List.set_cons_succ])
    refine tkLE ?_
    refine wpAnyH_done (by kernel_rfl) ?_ _
    go_upto_region 21 with fail
    refine wp_region_held_drew (S := (fun w' => w'.cell? ⟨d, 0, none⟩ = some (.pointer (some ⟨t.s, 0, none⟩)) ∧ w'.cell? ⟨p, 2, none⟩ = some (.int .u64 at_) ∧ w'.cell? ⟨p, 3, none⟩ = some (.int .i64 N) ∧ w'.cell? ⟨p, 4, none⟩ = some (.int .u64 x))) (by kernel_rfl) ?_ (fun hHeld => ?_)
    · exact ⟨cell_later PS.out.drew cd0, cell_later PS.out.drew c2, cell_later PS.out.drew c3, cell_later PS.out.drew c4⟩
    refine tkLB [0, 1, 2, 3, 4, 5, 6, 7, 8, 9] ?_
    iterate 10 (refine tkLC (v := ?_) rfl rfl (by kernel_rfl) (by kernel_rfl) (by kernel_rfl) (fun _ _ _ h => h) (by rfl) (by assumption) ?_ ?_; rotate_left; (· (intro w hSw; (try dsimp only at hSw); go_simp; (try with_reducible rfl))); simp only [Act.put, List.setIfInBounds_toArray, List.set_cons_zero, List.set_cons_succ])
    refine tkLE ?_
    refine wpAnyH_ready (rs := [10]) (by kernel_rfl) (by simp) ?_
    refine (AllReadyH.cons rfl (fun Ko10 hKo10 => ?_) AllReadyH.nil)
    rw [if_pos (by rfl)]
    go_simp
    go_at_call 30
    refine (MC.out _ a' c' n' R' (DRS.out.out (Out.refl wS).drew)).mono ?_
    rintro e w2 ⟨v1', v2', X', Y', rfl, hdr2, hpm2, hch2⟩
    have DR2 := hidOf hdr2
    have PM2 := hidOf hpm2
    have gd0 : w2.cell? ⟨d, 0, none⟩ = some (.pointer (some ⟨t.s, 0, none⟩)) := (cell_B hdr2.dk.blk 0).trans rfl
    have g2 := hch2.cell (cell_later PS.out.drew c2) (NP.out p (by rw [hp.out]; exact Nat.le_refl _))
    have g3 := hch2.cell (cell_later PS.out.drew c3) (NP.out p (by rw [hp.out]; exact Nat.le_refl _))
    have g4 := hch2.cell (cell_later PS.out.drew c4) (NP.out p (by rw [hp.out]; exact Nat.le_refl _))
    have gq : w2.cell? ⟨q, 0, none⟩ = some (.slice a' n' c') := hch2.cell (show wS.drew.cell? _ = _ from (cell_B BS.out 0).trans rfl) (NP.out q (by have := hqr.out; have := O0.out.size; omega))
    have zd : w2.frozen? ⟨d, 1, none⟩ = false := froz_B hdr2.dk.blk 1
    have zc : w2.cell? ⟨d, 1, none⟩ = some t.cv := (cell_B hdr2.dk.blk 1).trans rfl
    clear hdr2 hpm2 hch2
    refine hKo10.out _ _ ⟨gd0, g2, g3, g4⟩ (fun hHeld10 => ?_)
    try simp only [Act.put, List.setIfInBounds_toArray, List.set_cons_zero, List.set_cons_succ]
    refine tkLB [11] ?_
    iterate 1 (refine tkLC (v := ?_) rfl rfl (by kernel_rfl) (by kernel_rfl) (by kernel_rfl) (fun _ _ _ h => h) (by rfl) (by assumption) ?_ ?_; rotate_left; (· (intro w hSw; (try dsimp only at hSw); go_simp; (try with_reducible rfl))); simp only [Act.put, List.setIfInBounds_toArray, List.set_cons_zero, List.set_cons_succ])
    refine tkLE ?_
    refine wpAnyH_done (by kernel_rfl) ?_ _
    go_wp2_with (go_at_call 18; refine (NC.out _ _).mono ?_; rintro e wx ⟨rfl, hx0⟩; subst hx0)
    refine bodyPost_ret (results_tmp3 rfl _ _ _) rfl ?_
    exact ⟨_, _, _, by first | rfl | simp, (DR2.out.setR _).mono (by omega), rfl, (by show (R'.map fdR).Perm _; rw [MP.out]; exact PM2.out), (fun hq hq2 => by show BdP (R'.map fdR); rw [MP.out]; exact BD.out hq hq2), OutS.nil _ _ _ _ _⟩
end Go.Proofs.YtekjfbmebekmeaaGreat
