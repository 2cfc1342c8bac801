import Derived.Test.YtekjfbmebekmeaaGreatGa42
namespace Go.Proofs.YtekjfbmebekmeaaGreat
open Go.RowKit
set_option linter.unusedVariables false
set_option linter.unusedSimpArgs false
theorem RestG.a {w : World} {a : Option Addr} {d : List UInt8} (h : RestG w a d) : RestA w a d := h.imp id (fun ⟨g, e, h1⟩ => ⟨⟨g, 0, none⟩, e, fun j u hj => by
  rw [List.getElem?_map] at hj
  rw [add_B, Nat.zero_add]
  cases hx : d[j]? with
  | none => rw [hx] at hj; cases hj
  | some x => rw [hx] at hj; cases hj; exact h1 j x hx⟩)
theorem restKeep {B m m' d : Nat} {w w' : World} {t t' : DkT} {a : Option Addr} {l : List UInt8} (hr : RestAt B w a l) (h : Dk B w d t m) (k : DkR B d m' w t w' t') : RestAt B w' a l :=
  hr.imp id (fun ⟨b, o, h1, h2, h3⟩ => ⟨b, o, h1, h2, fun j x hx => k.chg.cell (h3 j x hx) (fun hf => by have h4 := (h.lt hf).1; have h5 : b < B := h1; have h6 : B ≤ b := h4; omega)⟩)
set_option maxHeartbeats 16000000 in
set_option maxRecDepth 100000 in
theorem act1_any (B m d : Nat) (w : World) (t : DkT) (h : DkW B w d t m) (hm : m + 1 ≤ 1000000000) (which : Int) (at_ : Nat) (N : Int) (x dc : Nat) (da : Option Addr) (ha : at_ < 18446744073709551616) (hN : -9223372036854775808 ≤ N ∧ N < 9223372036854775808) (hx : x < 18446744073709551616) (l : List UInt8) (hr0 : RestAt B w da l) (hl : l.length ≤ 1048576) :
    Calls Tryz.prog 8 #[.pointer (some ⟨d, 0, none⟩), actV which 1 at_ N x l.length dc da] w fun e w' => ActE B d m (m + 1) l.length t w e w' := by
  obtain ⟨k, hk⟩ : ∃ k, Hid (k = l.length) := ⟨_, rfl⟩
  rw [← hk.out] at hl ⊢
  have HR := hidOf hr0
  clear hr0
  unfold actV
  obtain ⟨p, hp⟩ : ∃ p, Hid (p = w.heap.size) := ⟨_, rfl⟩
  obtain ⟨w0, H0, b0, o0⟩ : ∃ w0, Hid (w0 = w.alloc (.cells #[.int .i64 which, .int .i64 1, .int .u64 at_, .int .i64 N, .int .u64 x, .slice da k dc] 31)) ∧ w0.heap[p]? = some (.cells #[.int .i64 which, .int .i64 1, .int .u64 at_, .int .i64 N, .int .u64 x, .slice da k dc] 31 (0, 0)) ∧ Out w w0 := ⟨_, rfl, by rw [hp.out]; exact heap_alloc_new w _, (Out.refl w).alloc _⟩
  have c0 : w0.cell? ⟨p, 0, none⟩ = some (.int .i64 which) := (cell_B b0 0).trans rfl
  have c1 : w0.cell? ⟨p, 1, none⟩ = some (.int .i64 1) := (cell_B b0 1).trans rfl
  have c2 : w0.cell? ⟨p, 2, none⟩ = some (.int .u64 at_) := (cell_B b0 2).trans rfl
  have c3 : w0.cell? ⟨p, 3, none⟩ = some (.int .i64 N) := (cell_B b0 3).trans rfl
  have c4 : w0.cell? ⟨p, 4, none⟩ = some (.int .u64 x) := (cell_B b0 4).trans rfl
  have c5 : w0.cell? ⟨p, 5, none⟩ = some (.slice da k dc) := (cell_B b0 5).trans rfl
  have cd0 : w0.cell? ⟨d, 0, none⟩ = some (.pointer (some ⟨t.s, 0, none⟩)) := cell_later o0 ((cell_B h.1.blk 0).trans rfl)
  have cd1 : w0.cell? ⟨d, 1, none⟩ = some (.slice t.a t.n t.c) := cell_later o0 ((cell_B h.1.blk 1).trans (by rw [h.2.1]; rfl))
  have hpm := h.2.2
  have HW := hidOf h
  have HW0 := hidOf (h.out o0)
  have O0 := hidOf o0
  have NP : Hid (∀ k, w.heap.size ≤ k → ¬ t.fA k) := hidOf (fun k hk hf => by have := h.1.fA_lt hf; omega)
  obtain ⟨code, hcode⟩ : ∃ c, Hid (c = (AdQ (t.R.map fdR) at_ l).2) := ⟨_, rfl⟩
  obtain ⟨PQ, hPQ⟩ : ∃ c, Hid (c = (AdQ (t.R.map fdR) at_ l).1) := ⟨_, rfl⟩
  have BD : Hid (BdP (t.R.map fdR) → k ≤ 1048576 → BdP PQ) := hidOf (fun hq hq2 => by rw [hPQ.out]; exact bd_add hq at_ l (by rw [← hk.out]; exact hq2))
  have NC := hidOf (fun x W => num20_any x W)
  have CC : Hid (∀ W, Out w0 W → Calls Tryz.prog 21 #[.slice da k dc] W fun e w' => ∃ ca cc, e = .returned (.slice ca k cc) ∧ RestG w' ca l ∧ Out W w') := hidOf (fun W o => by
    rw [hk.out]
    refine (copyB_any W da dc l ((HR.out.a.out O0.out).out o) (by rw [← hk.out]; omega)).mono ?_
    rintro e w' ⟨g, c', he, hown, ho⟩
    exact ⟨_, _, he, RestG.own hown, ho⟩)
  have QC : Hid (∀ W, Out w0 W → ∀ ca cc, RestG W ca l → Calls Tryz.prog 20 #[.agg #[.slice t.a t.n t.c], .agg #[.int .u64 at_, .slice ca k cc]] W fun e w' => ∃ a' c' n' R', e = .returned (.tuple #[.agg #[.slice a' n' c'], .int .i64 code]) ∧ DkR B d m W t w' { t with a := a', c := c', n := n', R := R' } ∧ R'.map fdR = PQ ∧ Out W w') := hidOf (fun W o ca cc hr => by
    have h9 := rAdd (HW0.out.out o) hm at_ cc ca l ha hr.a (by rw [← hk.out]; omega)
    rw [← hcode.out, ← hPQ.out, ← hk.out] at h9
    exact h9)
  have LDC : Hid (∀ W a' c' n' R', DkR B d m w t W { t with a := a', c := c', n := n', R := R' } → Calls Tryz.prog 23 #[.pointer (some ⟨d, 0, none⟩), .agg #[.int .i64 which, .int .i64 1, .int .u64 at_, .int .i64 N, .int .u64 x, .slice da k dc]] W fun e w' => ∃ g mm R ba bc, e = .returned (.slice ba k bc) ∧ RestA w' ba l ∧ LeC w' d 2 g mm (csD t g mm k) (k : Int) (l ++ (lmsB k (k + 70) ++ R)) ∧ ∃ w1, Out W w1 ∧ Chg (SL d g) w1 w' ∧ (t.bv.ownBlock = some g ∨ w1.heap.size ≤ g) ∧ mm ≤ 5000000) := hidOf (fun W a' c' n' R' hd => by
    have h9 := lendD_any B m d W _ hd.dk which 1 at_ N x dc da l (restKeep HR.out HW.out.1 hd) (by rw [← hk.out]; exact hl) hx
    unfold LdE actV at h9
    rw [← hk.out] at h9
    exact h9)
  have MC : Hid (∀ W a' c' n' R' bv' N', DkR B d m w t W { t with a := a', c := c', n := n', R := R', bv := bv', N := N' } → ∀ ba bc, RestA W ba l → Calls Tryz.prog 22 #[.pointer (some ⟨t.s, 0, none⟩), .agg #[.int .u64 at_, .slice ba k bc]] W fun e w' => ∃ v1' v2' X' Y', e = .returned (.int .i64 code) ∧ DkR B d (m + 1) w t w' { t with v1 := v1', v2 := v2', X := X', Y := Y', a := a', c := c', n := n', R := R', bv := bv', N := N' } ∧ PQ.Perm ((flat X' ++ flat Y').map fdR) ∧ Chg t.fA W w') := hidOf (fun W a' c' n' R' bv' N' hd ba bc hr => by
    have h9 := dAdd hd (by omega) (t.R.map fdR) hpm at_ bc ba l ha hr (by rw [← hk.out]; omega)
    rw [← hcode.out, ← hPQ.out, ← hk.out] at h9
    exact h9)
  have NPS : Hid (p < w0.heap.size) := hidOf (Array.getElem?_eq_some_iff.1 b0).1
  clear b0 o0 h hpm
  go_enter Tryz.func8, Tryz.ntmps8
  go_upto_region 1 with fail
  rw [← hp.out]
  rw [← H0.out]
  go_upto_region 5 with fail
  refine wp_region_held_drew (S := (fun w' => w'.cell? ⟨d, 1, none⟩ = some (.slice t.a t.n t.c) ∧ w'.cell? ⟨p, 2, none⟩ = some (.int .u64 at_) ∧ w'.cell? ⟨p, 5, none⟩ = some (.slice da k dc))) (by kernel_rfl) ?_ (fun hHeld => ?_)
  · exact ⟨cell_later (Out.refl w0).drew cd1, cell_later (Out.refl w0).drew c2, cell_later (Out.refl w0).drew c5⟩
  refine tkLB [0, 1, 2, 3, 4, 5, 6, 7] ?_
  iterate 8 (refine tkLC (v := ?_) rfl rfl (by kernel_rfl) (by kernel_rfl) (by kernel_rfl) (fun _ _ _ h => h) (by rfl) (by assumption) ?_ ?_; rotate_left; (· (intro w hSw; (try dsimp only at hSw); go_simp; (try with_reducible rfl))); simp only [Act.put, List.setIfInBounds_toArray, List.set_cons_zero, List.set_cons_succ])
  refine tkLE ?_
  refine wpAnyH_ready (rs := [8, 14]) (by kernel_rfl) (by simp) ?_
  refine (AllReadyH.cons rfl (fun Ko8 hKo8 => ?_) (AllReadyH.cons rfl (fun Ko14 hKo14 => ?_) AllReadyH.nil))
  · rw [if_pos (by rfl)]
    go_simp
    go_at_call 21
    refine (CC.out _ ((Out.refl w0).drew)).mono ?_
    rintro e wc ⟨ca, cc, rfl, hrc, hoc⟩
    have RC := hidOf hrc
    have Pc := hidOf (Out.trans ((Out.refl w0).drew) hoc)
    clear hrc hoc
    refine hKo8.out _ _ ⟨cell_later Pc.out cd1, cell_later Pc.out c2, cell_later Pc.out c5⟩ (fun hHeld8 => ?_)
    try simp only [Act.put, List.setIfInBounds_toArray, List.set_cons_zero, List.set_cons_succ]
    refine tkLB [9] ?_
    iterate 1 (refine tkLC (v := ?_) rfl rfl (by kernel_rfl) (by kernel_rfl) (by kernel_rfl) (fun _ _ _ h => h) (by rfl) (by assumption) ?_ ?_; rotate_left; (· (intro w hSw; (try dsimp only at hSw); go_simp; (try with_reducible rfl))); simp only [Act.put, List.setIfInBounds_toArray, List.set_cons_zero, List.set_cons_succ])
    refine tkLE ?_
    refine wpAnyH_ready (rs := [10, 14]) (by kernel_rfl) (by simp) ?_
    refine (AllReadyH.cons rfl (fun Ko10 hKo10 => ?_) (AllReadyH.cons rfl (fun Ko14 hKo14 => ?_) AllReadyH.nil))
    · rw [if_pos (by rfl)]
      go_simp
      go_at_call 20
      refine (QC.out _ Pc.out ca cc RC.out).mono ?_
      rintro e w1 ⟨a', c', n', R', rfl, hdr, hmap, ho1⟩
      have DR1 := hidOf hdr
      have MP := hidOf hmap
      have P1 := hidOf (Out.trans Pc.out ho1)
      have PCW : Hid (Out w0 wc) := hidOf Pc.out
      clear hdr hmap ho1
      refine hKo10.out _ _ ⟨cell_later P1.out cd1, cell_later P1.out c2, cell_later P1.out c5⟩ (fun hHeld10 => ?_)
      try simp only [Act.put, List.setIfInBounds_toArray, List.set_cons_zero, List.set_cons_succ]
      refine tkLB [11, 12, 13] ?_
      iterate 3 (refine tkLC (v := ?_) rfl rfl (by kernel_rfl) (by kernel_rfl) (by kernel_rfl) (fun _ _ _ h => h) (by rfl) (by assumption) ?_ ?_; rotate_left; (· (intro w hSw; (try dsimp only at hSw); go_simp; (try with_reducible rfl))); simp only [Act.put, List.setIfInBounds_toArray, List.set_cons_zero, List.set_cons_succ])
      refine tkLE ?_
      refine wpAnyH_ready (rs := [14]) (by kernel_rfl) (by simp) ?_
      refine (AllReadyH.cons rfl (fun Ko14 hKo14 => ?_) AllReadyH.nil)
      rw [if_pos (by rfl)]
      go_simp
      obtain ⟨wA, HA, hA⟩ : ∃ wA, Hid (wA = w1.alloc (.cells #[.slice none 0 0] 47)) ∧ Hid (wA.heap[w1.heap.size]? = some (.cells #[.slice none 0 0] 47 (0, 0))) := ⟨_, rfl, hidOf (heap_alloc_new w1 _)⟩
      have PA : Hid (Out w0 wA) := hidOf (by rw [HA.out]; exact Out.alloc P1.out _)
      have oAc : Out w1 wA := by rw [HA.out]; exact (Out.refl _).alloc _
      rw [← HA.out]
      obtain ⟨q, hq⟩ : ∃ q, Hid (q = w1.heap.size) := ⟨_, rfl⟩
      have hqr : Hid (w0.heap.size ≤ q) := hidOf (by rw [hq.out]; exact (P1.out).size)
      rw [← hq.out] at hA
      have hqA : Hid (q < wA.heap.size) := hidOf (Array.getElem?_eq_some_iff.1 hA.out).1
      rw [← hq.out]
      refine hKo14.out _ _ ⟨cell_later PA.out cd1, cell_later PA.out c2, cell_later PA.out c5⟩ (fun hHeld14 => ?_)
      try simp only [Act.put, List.setIfInBounds_toArray, List.set_cons_zero, List.set_cons_succ]
      refine wpAnyH_ready (rs := [15]) (by kernel_rfl) (by simp) ?_
      refine (AllReadyH.cons rfl (fun Ko15 hKo15 => ?_) AllReadyH.nil)
      have zq : wA.frozen? ⟨q, 0, none⟩ = false := froz_B hA.out 0
      have zc : wA.cell? ⟨q, 0, none⟩ = some (.slice none 0 0) := by rw [cell_B hA.out] <;> rfl
      rw [if_pos (by rfl)]
      go_simp
      obtain ⟨wS, HS, bS, cS⟩ : ∃ wS, Hid (wS = wA.setCell ⟨q, 0, none⟩ (.slice a' n' c')) ∧ wS.heap[q]? = some (.cells #[.slice a' n' c'] 47 (0, 0)) ∧ Chg (fun b => b = q) wA wS := ⟨_, rfl, set_B hA.out 0 _, (Chg.refl (fun b => b = q) wA).setCell rfl _⟩
      rw [← HS.out]
      have PS : Hid (Out w0 wS) := hidOf (Chg.out cS PA.out (fun b hb => by have := hqr.out; omega))
      have BS := hidOf bS
      have nq : ¬ DkT.fp { t with a := a', c := c', n := n', R := R' } d q := fun hk => by have h7 := (DR1.out.dk.lt hk).2; rw [hq.out] at h7; omega
      have DRS : Hid (DkR B d m w t wS { t with a := a', c := c', n := n', R := R' }) := hidOf (((((DkR.start HW.out.1).out (O0.out.trans PCW.out)).trans DR1.out).out oAc).chgQ cS nq (by have := hqr.out; have := O0.out.size; omega))
      clear cS bS zq zc nq
      refine hKo15.out _ _ ⟨cell_later PS.out cd1, cell_later PS.out c2, cell_later PS.out c5⟩ (fun hHeld15 => ?_)
      try simp only [Act.put, List.setIfInBounds_toArray, List.set_cons_zero, List.set_cons_succ]
      refine tkLB [16] ?_
      iterate 1 (refine tkLC (v := ?_) rfl rfl (by kernel_rfl) (by kernel_rfl) (by kernel_rfl) (fun _ _ _ h => h) (by rfl) (by assumption) ?_ ?_; rotate_left; (· (intro w hSw; (try dsimp only at hSw); go_simp; (try with_reducible rfl))); simp only [Act.put, List.setIfInBounds_toArray, List.set_cons_zero, List.set_cons_succ])
      refine tkLE ?_
      refine wpAnyH_done (by kernel_rfl) ?_ _
      go_upto_region 6 with fail
      refine wp_region_held_drew (S := (fun w' => w'.cell? ⟨d, 0, none⟩ = some (.pointer (some ⟨t.s, 0, none⟩)) ∧ w'.cell? ⟨p, 0, none⟩ = some (.int .i64 which) ∧ w'.cell? ⟨p, 1, none⟩ = some (.int .i64 1) ∧ w'.cell? ⟨p, 2, none⟩ = some (.int .u64 at_) ∧ w'.cell? ⟨p, 3, none⟩ = some (.int .i64 N) ∧ w'.cell? ⟨p, 4, none⟩ = some (.int .u64 x) ∧ w'.cell? ⟨p, 5, none⟩ = some (.slice da k dc))) (by kernel_rfl) ?_ (fun hHeld => ?_)
      · exact ⟨cell_later PS.out.drew cd0, cell_later PS.out.drew c0, cell_later PS.out.drew c1, cell_later PS.out.drew c2, cell_later PS.out.drew c3, cell_later PS.out.drew c4, cell_later PS.out.drew c5⟩
      refine tkLB [0, 1, 2, 3, 4, 5, 6, 7] ?_
      iterate 8 (refine tkLC (v := ?_) rfl rfl (by kernel_rfl) (by kernel_rfl) (by kernel_rfl) (fun _ _ _ h => h) (by rfl) (by assumption) ?_ ?_; rotate_left; (· (intro w hSw; (try dsimp only at hSw); go_simp; (try with_reducible rfl))); simp only [Act.put, List.setIfInBounds_toArray, List.set_cons_zero, List.set_cons_succ])
      refine tkLE ?_
      refine wpAnyH_ready (rs := [8]) (by kernel_rfl) (by simp) ?_
      refine (AllReadyH.cons rfl (fun Ko8 hKo8 => ?_) AllReadyH.nil)
      rw [if_pos (by rfl)]
      go_simp
      go_at_call 23
      refine (LDC.out _ a' c' n' R' (DRS.out.out (Out.refl wS).drew)).mono ?_
      rintro e w2 ⟨g, mm, RR, ba, bc, rfl, hra, hlc, wL, hoL, hcL, hgL, hmL⟩
      have DR2 : Hid (DkR B d m w t w2 { t with a := a', c := c', n := n', R := R', bv := .slice (some ⟨g, 0, none⟩) mm mm, N := (k : Int) }) := hidOf (((DRS.out.out (Out.refl wS).drew).out hoL).lend hcL hgL hlc hmL)
      have hpL : ¬ SL d g p := fun hs => by
        have h6 := (HW.out.1.lt (.inr (.inr (.inl rfl)))).2
        have h7 := O0.out.size
        have h8 := NPS.out
        have h9 := PS.out.size
        have h10 := hoL.size
        rcases hs with e | e
        · rw [hp.out] at e; omega
        · rcases hgL with e2 | e2
          · have := (HW.out.1.bf.lt e2).2; rw [hp.out] at e; omega
          · have h11 : wS.heap.size ≤ wL.heap.size := h10
            omega
      have f0 := hcL.cell (cell_later (Out.trans PS.out.drew hoL) c0) hpL
      have f1 := hcL.cell (cell_later (Out.trans PS.out.drew hoL) c1) hpL
      have f2 := hcL.cell (cell_later (Out.trans PS.out.drew hoL) c2) hpL
      have f3 := hcL.cell (cell_later (Out.trans PS.out.drew hoL) c3) hpL
      have f4 := hcL.cell (cell_later (Out.trans PS.out.drew hoL) c4) hpL
      have f5 := hcL.cell (cell_later (Out.trans PS.out.drew hoL) c5) hpL
      have fd0 : w2.cell? ⟨d, 0, none⟩ = some (.pointer (some ⟨t.s, 0, none⟩)) := (cell_B DR2.out.dk.blk 0).trans rfl
      have hqL : ¬ SL d g q := fun hs => by
        have h6 := (HW.out.1.lt (.inr (.inr (.inl rfl)))).2
        have h7 := O0.out.size
        have h8 := hqr.out
        have h9 := (Array.getElem?_eq_some_iff.1 BS.out).1
        have h11 : wS.heap.size ≤ wL.heap.size := hoL.size
        rcases hs with e | e
        · omega
        · rcases hgL with e2 | e2
          · have := (HW.out.1.bf.lt e2).2; omega
          · omega
      have fq : w2.cell? ⟨q, 0, none⟩ = some (.slice a' n' c') := hcL.cell (cell_later hoL (show wS.drew.cell? _ = _ from (cell_B BS.out 0).trans rfl)) hqL
      have RA2 := hidOf hra
      have LC2 := hidOf hlc
      have HML := hidOf hmL
      have NGP : Hid (¬ p = g) := hidOf (fun e => hpL (.inr e))
      have NG : Hid (¬ q = g) := hidOf (fun e => hqL (.inr e))
      clear hpL hqL hra hlc hoL hcL hgL hmL
      refine hKo8.out _ _ ⟨fd0, f0, f1, f2, f3, f4, f5⟩ (fun hHeld8 => ?_)
      try simp only [Act.put, List.setIfInBounds_toArray, List.set_cons_zero, List.set_cons_succ]
      refine tkLB [9] ?_
      iterate 1 (refine tkLC (v := ?_) rfl rfl (by kernel_rfl) (by kernel_rfl) (by kernel_rfl) (fun _ _ _ h => h) (by rfl) (by assumption) ?_ ?_; rotate_left; (· (intro w hSw; (try dsimp only at hSw); go_simp; (try with_reducible rfl))); simp only [Act.put, List.setIfInBounds_toArray, List.set_cons_zero, List.set_cons_succ])
      refine tkLE ?_
      refine wpAnyH_ready (rs := [10]) (by kernel_rfl) (by simp) ?_
      refine (AllReadyH.cons rfl (fun Ko10 hKo10 => ?_) AllReadyH.nil)
      rw [if_pos (by rfl)]
      go_simp
      go_at_call 22
      refine (MC.out _ a' c' n' R' _ _ DR2.out ba bc RA2.out).mono ?_
      rintro e w3 ⟨v1', v2', X', Y', rfl, hdr2, hpm2, hch2⟩
      have DR3 := hidOf hdr2
      have PM2 := hidOf hpm2
      have LC3 := hidOf (LC2.out.chg hch2 (fun hk => DR2.out.dk.AL _ hk (.inl rfl)) (fun hk => DR2.out.dk.AL _ hk (.inr rfl)))
      have gd0 : w3.cell? ⟨d, 0, none⟩ = some (.pointer (some ⟨t.s, 0, none⟩)) := (cell_B hdr2.dk.blk 0).trans rfl
      have g0 := hch2.cell f0 (NP.out p (by rw [hp.out]; exact Nat.le_refl _))
      have g1 := hch2.cell f1 (NP.out p (by rw [hp.out]; exact Nat.le_refl _))
      have g2 := hch2.cell f2 (NP.out p (by rw [hp.out]; exact Nat.le_refl _))
      have g3 := hch2.cell f3 (NP.out p (by rw [hp.out]; exact Nat.le_refl _))
      have g4 := hch2.cell f4 (NP.out p (by rw [hp.out]; exact Nat.le_refl _))
      have g5 := hch2.cell f5 (NP.out p (by rw [hp.out]; exact Nat.le_refl _))
      have gq := hch2.cell fq (NP.out q (by have := hqr.out; have := O0.out.size; omega))
      clear hdr2 hpm2 hch2
      refine hKo10.out _ _ ⟨gd0, g0, g1, g2, g3, g4, g5⟩ (fun hHeld10 => ?_)
      try simp only [Act.put, List.setIfInBounds_toArray, List.set_cons_zero, List.set_cons_succ]
      refine tkLB [11] ?_
      iterate 1 (refine tkLC (v := ?_) rfl rfl (by kernel_rfl) (by kernel_rfl) (by kernel_rfl) (fun _ _ _ h => h) (by rfl) (by assumption) ?_ ?_; rotate_left; (· (intro w hSw; (try dsimp only at hSw); go_simp; (try with_reducible rfl))); simp only [Act.put, List.setIfInBounds_toArray, List.set_cons_zero, List.set_cons_succ])
      refine tkLE ?_
      refine wpAnyH_done (by kernel_rfl) ?_ _
      have BC := hidOf (backC_any w3.drew d 2 g mm _ l RR (by have h9 := LC3.out; rw [hk.out] at h9; exact h9.drew) B da dc (restKeep HR.out HW.out.1 (DR3.out.out (Out.refl w3).drew)) (by rw [← hk.out]; omega))
      rw [← hk.out] at BC
      go_upto_region 7 with fail
      refine wp_region_held_drew (S := (fun w' => w'.cell? ⟨p, 5, none⟩ = some (.slice da k dc))) (by kernel_rfl) ?_ (fun hHeld => ?_)
      · exact g5
      refine tkLB [0, 1, 2, 3, 4] ?_
      iterate 5 (refine tkLC (v := ?_) rfl rfl (by kernel_rfl) (by kernel_rfl) (by kernel_rfl) (fun _ _ _ h => h) (by rfl) (by assumption) ?_ ?_; rotate_left; (· (intro w hSw; (try dsimp only at hSw); go_simp; (try with_reducible rfl))); simp only [Act.put, List.setIfInBounds_toArray, List.set_cons_zero, List.set_cons_succ])
      refine tkLE ?_
      refine wpAnyH_ready (rs := [5]) (by kernel_rfl) (by simp) ?_
      refine (AllReadyH.cons rfl (fun Ko5 hKo5 => ?_) AllReadyH.nil)
      rw [if_pos (by rfl)]
      go_simp
      go_at_call 24
      refine (BC.out).mono ?_
      rintro e w4 ⟨rfl, ⟨L4, hl4⟩, hc4⟩
      have DR4 := hidOf ((DR3.out.out (Out.refl w3).drew).lend hc4 (.inl rfl) hl4 HML.out)
      have hq4 : ¬ SL d g q := fun hs => by
        have h6 := (HW.out.1.lt (.inr (.inr (.inl rfl)))).2
        have h7 := O0.out.size
        have h8 := hqr.out
        rcases hs with e | e
        · omega
        · exact NG.out e
      have jq := hc4.cell (show w3.drew.cell? _ = _ from gq) hq4
      have hp4 : ¬ SL d g p := fun hs => by
        have h6 := (HW.out.1.lt (.inr (.inr (.inl rfl)))).2
        rcases hs with e | e
        · rw [hp.out] at e; omega
        · exact NGP.out e
      have j5 := hc4.cell (show w3.drew.cell? _ = _ from g5) hp4
      have zd : w4.frozen? ⟨d, 1, none⟩ = false := froz_B DR4.out.dk.blk 1
      have zc : w4.cell? ⟨d, 1, none⟩ = some t.cv := (cell_B DR4.out.dk.blk 1).trans rfl
      clear hc4 hl4 hq4 hp4
      refine hKo5.out _ _ j5 (fun hHeld5 => ?_)
      try simp only [Act.put, List.setIfInBounds_toArray, List.set_cons_zero, List.set_cons_succ]
      refine tkLB [6] ?_
      iterate 1 (refine tkLC (v := ?_) rfl rfl (by kernel_rfl) (by kernel_rfl) (by kernel_rfl) (fun _ _ _ h => h) (by rfl) (by assumption) ?_ ?_; rotate_left; (· (intro w hSw; (try dsimp only at hSw); go_simp; (try with_reducible rfl))); simp only [Act.put, List.setIfInBounds_toArray, List.set_cons_zero, List.set_cons_succ])
      refine tkLE ?_
      refine wpAnyH_done (by kernel_rfl) ?_ _
      go_wp2_with (go_at_call 18; refine (NC.out _ _).mono ?_; rintro e wx ⟨rfl, hx0⟩; subst hx0)
      refine bodyPost_ret (results_tmp3 rfl _ _ _) rfl ?_
      exact ⟨_, _, _, by first | rfl | simp, (DR4.out.setR _).mono (by omega), rfl, (by show (R'.map fdR).Perm _; rw [MP.out]; exact PM2.out), (fun hq hq2 => by show BdP (R'.map fdR); rw [MP.out]; exact BD.out hq hq2), OutS.nil _ _ _ _ _⟩
    · rw [if_pos (by rfl)]
      go_simp
      obtain ⟨wA, HA, hA⟩ : ∃ wA, Hid (wA = wc.alloc (.cells #[.slice none 0 0] 47)) ∧ Hid (wA.heap[wc.heap.size]? = some (.cells #[.slice none 0 0] 47 (0, 0))) := ⟨_, rfl, hidOf (heap_alloc_new wc _)⟩
      have PA : Hid (Out w0 wA) := hidOf (by rw [HA.out]; exact Out.alloc Pc.out _)
      have oAc : Out wc wA := by rw [HA.out]; exact (Out.refl _).alloc _
      rw [← HA.out]
      obtain ⟨q, hq⟩ : ∃ q, Hid (q = wc.heap.size) := ⟨_, rfl⟩
      have hqr : Hid (w0.heap.size ≤ q) := hidOf (by rw [hq.out]; exact (Pc.out).size)
      rw [← hq.out] at hA
      have hqA : Hid (q < wA.heap.size) := hidOf (Array.getElem?_eq_some_iff.1 hA.out).1
      rw [← hq.out]
      refine hKo14.out _ _ ⟨cell_later PA.out cd1, cell_later PA.out c2, cell_later PA.out c5⟩ (fun hHeld14 => ?_)
      try simp only [Act.put, List.setIfInBounds_toArray, List.set_cons_zero, List.set_cons_succ]
      refine wpAnyH_ready (rs := [10]) (by kernel_rfl) (by simp) ?_
      refine (AllReadyH.cons rfl (fun Ko10 hKo10 => ?_) AllReadyH.nil)
      have RC2 := hidOf (RC.out.out oAc)
      rw [if_pos (by rfl)]
      go_simp
      go_at_call 20
      refine (QC.out _ PA.out ca cc RC2.out).mono ?_
      rintro e w1 ⟨a', c', n', R', rfl, hdr, hmap, ho1⟩
      have DR1 := hidOf hdr
      have MP := hidOf hmap
      have P1 := hidOf (Out.trans PA.out ho1)
      have PCW : Hid (Out w0 wA) := hidOf PA.out
      have hA1 := hidOf (blk_out hA.out ho1)
      have SQ : Hid (q < wA.heap.size) := hqA
      clear hdr hmap ho1
      refine hKo10.out _ _ ⟨cell_later P1.out cd1, cell_later P1.out c2, cell_later P1.out c5⟩ (fun hHeld10 => ?_)
      try simp only [Act.put, List.setIfInBounds_toArray, List.set_cons_zero, List.set_cons_succ]
      refine tkLB [11, 12, 13] ?_
      iterate 3 (refine tkLC (v := ?_) rfl rfl (by kernel_rfl) (by kernel_rfl) (by kernel_rfl) (fun _ _ _ h => h) (by rfl) (by assumption) ?_ ?_; rotate_left; (· (intro w hSw; (try dsimp only at hSw); go_simp; (try with_reducible rfl))); simp only [Act.put, List.setIfInBounds_toArray, List.set_cons_zero, List.set_cons_succ])
      refine tkLE ?_
      refine wpAnyH_ready (rs := [15]) (by kernel_rfl) (by simp) ?_
      refine (AllReadyH.cons rfl (fun Ko15 hKo15 => ?_) AllReadyH.nil)
      have zq : w1.frozen? ⟨q, 0, none⟩ = false := froz_B hA1.out 0
      have zc : w1.cell? ⟨q, 0, none⟩ = some (.slice none 0 0) := by rw [cell_B hA1.out] <;> rfl
      rw [if_pos (by rfl)]
      go_simp
      obtain ⟨wS, HS, bS, cS⟩ : ∃ wS, Hid (wS = w1.setCell ⟨q, 0, none⟩ (.slice a' n' c')) ∧ wS.heap[q]? = some (.cells #[.slice a' n' c'] 47 (0, 0)) ∧ Chg (fun b => b = q) w1 wS := ⟨_, rfl, set_B hA1.out 0 _, (Chg.refl (fun b => b = q) w1).setCell rfl _⟩
      rw [← HS.out]
      have PS : Hid (Out w0 wS) := hidOf (Chg.out cS P1.out (fun b hb => by have := hqr.out; omega))
      have BS := hidOf bS
      have nq : ¬ DkT.fp { t with a := a', c := c', n := n', R := R' } d q := fun hk => by
        have hz := hqr.out
        have ho := O0.out.size
        have hsq := SQ.out
        rcases DR1.out.new q hk with e | e
        · have := (HW.out.1.lt e).2; omega
        · omega
      have DRS : Hid (DkR B d m w t wS { t with a := a', c := c', n := n', R := R' }) := hidOf (((((DkR.start HW.out.1).out (O0.out.trans PCW.out)).trans DR1.out)).chgQ cS nq (by have := hqr.out; have := O0.out.size; omega))
      clear cS bS zq zc nq
      refine hKo15.out _ _ ⟨cell_later PS.out cd1, cell_later PS.out c2, cell_later PS.out c5⟩ (fun hHeld15 => ?_)
      try simp only [Act.put, List.setIfInBounds_toArray, List.set_cons_zero, List.set_cons_succ]
      refine tkLB [16] ?_
      iterate 1 (refine tkLC (v := ?_) rfl rfl (by kernel_rfl) (by kernel_rfl) (by kernel_rfl) (fun _ _ _ h => h) (by rfl) (by assumption) ?_ ?_; rotate_left; (· (intro w hSw; (try dsimp only at hSw); go_simp; (try with_reducible rfl))); simp only [Act.put, List.setIfInBounds_toArray, List.set_cons_zero, List.set_cons_succ])
      refine tkLE ?_
      refine wpAnyH_done (by kernel_rfl) ?_ _
      go_upto_region 6 with fail
      refine wp_region_held_drew (S := (fun w' => w'.cell? ⟨d, 0, none⟩ = some (.pointer (some ⟨t.s, 0, none⟩)) ∧ w'.cell? ⟨p, 0, none⟩ = some (.int .i64 which) ∧ w'.cell? ⟨p, 1, none⟩ = some (.int .i64 1) ∧ w'.cell? ⟨p, 2, none⟩ = some (.int .u64 at_) ∧ w'.cell? ⟨p, 3, none⟩ = some (.int .i64 N) ∧ w'.cell? ⟨p, 4, none⟩ = some (.int .u64 x) ∧ w'.cell? ⟨p, 5, none⟩ = some (.slice da k dc))) (by kernel_rfl) ?_ (fun hHeld => ?_)
      · exact ⟨cell_later PS.out.drew cd0, cell_later PS.out.drew c0, cell_later PS.out.drew c1, cell_later PS.out.drew c2, cell_later PS.out.drew c3, cell_later PS.out.drew c4, cell_later PS.out.drew c5⟩
      refine tkLB [0, 1, 2, 3, 4, 5, 6, 7] ?_
      iterate 8 (refine tkLC (v := ?_) rfl rfl (by kernel_rfl) (by kernel_rfl) (by kernel_rfl) (fun _ _ _ h => h) (by rfl) (by assumption) ?_ ?_; rotate_left; (· (intro w hSw; (try dsimp only at hSw); go_simp; (try with_reducible rfl))); simp only [Act.put, List.setIfInBounds_toArray, List.set_cons_zero, List.set_cons_succ])
      refine tkLE ?_
      refine wpAnyH_ready (rs := [8]) (by kernel_rfl) (by simp) ?_
      refine (AllReadyH.cons rfl (fun Ko8 hKo8 => ?_) AllReadyH.nil)
      rw [if_pos (by rfl)]
      go_simp
      go_at_call 23
      refine (LDC.out _ a' c' n' R' (DRS.out.out (Out.refl wS).drew)).mono ?_
      rintro e w2 ⟨g, mm, RR, ba, bc, rfl, hra, hlc, wL, hoL, hcL, hgL, hmL⟩
      have DR2 : Hid (DkR B d m w t w2 { t with a := a', c := c', n := n', R := R', bv := .slice (some ⟨g, 0, none⟩) mm mm, N := (k : Int) }) := hidOf (((DRS.out.out (Out.refl wS).drew).out hoL).lend hcL hgL hlc hmL)
      have hpL : ¬ SL d g p := fun hs => by
        have h6 := (HW.out.1.lt (.inr (.inr (.inl rfl)))).2
        have h7 := O0.out.size
        have h8 := NPS.out
        have h9 := PS.out.size
        have h10 := hoL.size
        rcases hs with e | e
        · rw [hp.out] at e; omega
        · rcases hgL with e2 | e2
          · have := (HW.out.1.bf.lt e2).2; rw [hp.out] at e; omega
          · have h11 : wS.heap.size ≤ wL.heap.size := h10
            omega
      have f0 := hcL.cell (cell_later (Out.trans PS.out.drew hoL) c0) hpL
      have f1 := hcL.cell (cell_later (Out.trans PS.out.drew hoL) c1) hpL
      have f2 := hcL.cell (cell_later (Out.trans PS.out.drew hoL) c2) hpL
      have f3 := hcL.cell (cell_later (Out.trans PS.out.drew hoL) c3) hpL
      have f4 := hcL.cell (cell_later (Out.trans PS.out.drew hoL) c4) hpL
      have f5 := hcL.cell (cell_later (Out.trans PS.out.drew hoL) c5) hpL
      have fd0 : w2.cell? ⟨d, 0, none⟩ = some (.pointer (some ⟨t.s, 0, none⟩)) := (cell_B DR2.out.dk.blk 0).trans rfl
      have hqL : ¬ SL d g q := fun hs => by
        have h6 := (HW.out.1.lt (.inr (.inr (.inl rfl)))).2
        have h7 := O0.out.size
        have h8 := hqr.out
        have h9 := (Array.getElem?_eq_some_iff.1 BS.out).1
        have h11 : wS.heap.size ≤ wL.heap.size := hoL.size
        rcases hs with e | e
        · omega
        · rcases hgL with e2 | e2
          · have := (HW.out.1.bf.lt e2).2; omega
          · omega
      have fq : w2.cell? ⟨q, 0, none⟩ = some (.slice a' n' c') := hcL.cell (cell_later hoL (show wS.drew.cell? _ = _ from (cell_B BS.out 0).trans rfl)) hqL
      have RA2 := hidOf hra
      have LC2 := hidOf hlc
      have HML := hidOf hmL
      have NGP : Hid (¬ p = g) := hidOf (fun e => hpL (.inr e))
      have NG : Hid (¬ q = g) := hidOf (fun e => hqL (.inr e))
      clear hpL hqL hra hlc hoL hcL hgL hmL
      refine hKo8.out _ _ ⟨fd0, f0, f1, f2, f3, f4, f5⟩ (fun hHeld8 => ?_)
      try simp only [Act.put, List.setIfInBounds_toArray, List.set_cons_zero, List.set_cons_succ]
      refine tkLB [9] ?_
      iterate 1 (refine tkLC (v := ?_) rfl rfl (by kernel_rfl) (by kernel_rfl) (by kernel_rfl) (fun _ _ _ h => h) (by rfl) (by assumption) ?_ ?_; rotate_left; (· (intro w hSw; (try dsimp only at hSw); go_simp; (try with_reducible rfl))); simp only [Act.put, List.setIfInBounds_toArray, List.set_cons_zero, List.set_cons_succ])
      refine tkLE ?_
      refine wpAnyH_ready (rs := [10]) (by kernel_rfl) (by simp) ?_
      refine (AllReadyH.cons rfl (fun Ko10 hKo10 => ?_) AllReadyH.nil)
      rw [if_pos (by rfl)]
      go_simp
      go_at_call 22
      refine (MC.out _ a' c' n' R' _ _ DR2.out ba bc RA2.out).mono ?_
      rintro e w3 ⟨v1', v2', X', Y', rfl, hdr2, hpm2, hch2⟩
      have DR3 := hidOf hdr2
      have PM2 := hidOf hpm2
      have LC3 := hidOf (LC2.out.chg hch2 (fun hk => DR2.out.dk.AL _ hk (.inl rfl)) (fun hk => DR2.out.dk.AL _ hk (.inr rfl)))
      have gd0 : w3.cell? ⟨d, 0, none⟩ = some (.pointer (some ⟨t.s, 0, none⟩)) := (cell_B hdr2.dk.blk 0).trans rfl
      have g0 := hch2.cell f0 (NP.out p (by rw [hp.out]; exact Nat.le_refl _))
      have g1 := hch2.cell f1 (NP.out p (by rw [hp.out]; exact Nat.le_refl _))
      have g2 := hch2.cell f2 (NP.out p (by rw [hp.out]; exact Nat.le_refl _))
      have g3 := hch2.cell f3 (NP.out p (by rw [hp.out]; exact Nat.le_refl _))
      have g4 := hch2.cell f4 (NP.out p (by rw [hp.out]; exact Nat.le_refl _))
      have g5 := hch2.cell f5 (NP.out p (by rw [hp.out]; exact Nat.le_refl _))
      have gq := hch2.cell fq (NP.out q (by have := hqr.out; have := O0.out.size; omega))
      clear hdr2 hpm2 hch2
      refine hKo10.out _ _ ⟨gd0, g0, g1, g2, g3, g4, g5⟩ (fun hHeld10 => ?_)
      try simp only [Act.put, List.setIfInBounds_toArray, List.set_cons_zero, List.set_cons_succ]
      refine tkLB [11] ?_
      iterate 1 (refine tkLC (v := ?_) rfl rfl (by kernel_rfl) (by kernel_rfl) (by kernel_rfl) (fun _ _ _ h => h) (by rfl) (by assumption) ?_ ?_; rotate_left; (· (intro w hSw; (try dsimp only at hSw); go_simp; (try with_reducible rfl))); simp only [Act.put, List.setIfInBounds_toArray, List.set_cons_zero, List.set_cons_succ])
      refine tkLE ?_
      refine wpAnyH_done (by kernel_rfl) ?_ _
      have BC := hidOf (backC_any w3.drew d 2 g mm _ l RR (by have h9 := LC3.out; rw [hk.out] at h9; exact h9.drew) B da dc (restKeep HR.out HW.out.1 (DR3.out.out (Out.refl w3).drew)) (by rw [← hk.out]; omega))
      rw [← hk.out] at BC
      go_upto_region 7 with fail
      refine wp_region_held_drew (S := (fun w' => w'.cell? ⟨p, 5, none⟩ = some (.slice da k dc))) (by kernel_rfl) ?_ (fun hHeld => ?_)
      · exact g5
      refine tkLB [0, 1, 2, 3, 4] ?_
      iterate 5 (refine tkLC (v := ?_) rfl rfl (by kernel_rfl) (by kernel_rfl) (by kernel_rfl) (fun _ _ _ h => h) (by rfl) (by assumption) ?_ ?_; rotate_left; (· (intro w hSw; (try dsimp only at hSw); go_simp; (try with_reducible rfl))); simp only [Act.put, List.setIfInBounds_toArray, List.set_cons_zero, List.set_cons_succ])
      refine tkLE ?_
      refine wpAnyH_ready (rs := [5]) (by kernel_rfl) (by simp) ?_
      refine (AllReadyH.cons rfl (fun Ko5 hKo5 => ?_) AllReadyH.nil)
      rw [if_pos (by rfl)]
      go_simp
      go_at_call 24
      refine (BC.out).mono ?_
      rintro e w4 ⟨rfl, ⟨L4, hl4⟩, hc4⟩
      have DR4 := hidOf ((DR3.out.out (Out.refl w3).drew).lend hc4 (.inl rfl) hl4 HML.out)
      have hq4 : ¬ SL d g q := fun hs => by
        have h6 := (HW.out.1.lt (.inr (.inr (.inl rfl)))).2
        have h7 := O0.out.size
        have h8 := hqr.out
        rcases hs with e | e
        · omega
        · exact NG.out e
      have jq := hc4.cell (show w3.drew.cell? _ = _ from gq) hq4
      have hp4 : ¬ SL d g p := fun hs => by
        have h6 := (HW.out.1.lt (.inr (.inr (.inl rfl)))).2
        rcases hs with e | e
        · rw [hp.out] at e; omega
        · exact NGP.out e
      have j5 := hc4.cell (show w3.drew.cell? _ = _ from g5) hp4
      have zd : w4.frozen? ⟨d, 1, none⟩ = false := froz_B DR4.out.dk.blk 1
      have zc : w4.cell? ⟨d, 1, none⟩ = some t.cv := (cell_B DR4.out.dk.blk 1).trans rfl
      clear hc4 hl4 hq4 hp4
      refine hKo5.out _ _ j5 (fun hHeld5 => ?_)
      try simp only [Act.put, List.setIfInBounds_toArray, List.set_cons_zero, List.set_cons_succ]
      refine tkLB [6] ?_
      iterate 1 (refine tkLC (v := ?_) rfl rfl (by kernel_rfl) (by kernel_rfl) (by kernel_rfl) (fun _ _ _ h => h) (by rfl) (by assumption) ?_ ?_; rotate_left; (· (intro w hSw; (try dsimp only at hSw); go_simp; (try with_reducible rfl))); simp only [Act.put, List.setIfInBounds_toArray, List.set_cons_zero, List.set_cons_succ])
      refine tkLE ?_
      refine wpAnyH_done (by kernel_rfl) ?_ _
      go_wp2_with (go_at_call 18; refine (NC.out _ _).mono ?_; rintro e wx ⟨rfl, hx0⟩; subst hx0)
      refine bodyPost_ret (results_tmp3 rfl _ _ _) rfl ?_
      exact ⟨_, _, _, by first | rfl | simp, (DR4.out.setR _).mono (by omega), rfl, (by show (R'.map fdR).Perm _; rw [MP.out]; exact PM2.out), (fun hq hq2 => by show BdP (R'.map fdR); rw [MP.out]; exact BD.out hq hq2), OutS.nil _ _ _ _ _⟩
  · rw [if_pos (by rfl)]
    go_simp
    obtain ⟨wA, HA, hA⟩ : ∃ wA, Hid (wA = (w0.alloc (.cells #[.slice none 0 0] 47)).drew) ∧ Hid (wA.heap[w0.heap.size]? = some (.cells #[.slice none 0 0] 47 (0, 0))) := ⟨_, rfl, hidOf (heap_alloc_new w0 _)⟩
    have PA : Hid (Out w0 wA) := hidOf (by rw [HA.out]; exact ((Out.refl w0).alloc _).drew)
    rw [← HA.out]
    obtain ⟨q, hq⟩ : ∃ q, Hid (q = w0.heap.size) := ⟨_, rfl⟩
    have hqr : Hid (w0.heap.size ≤ q) := hidOf (by rw [hq.out]; exact Nat.le_refl _)
    rw [← hq.out] at hA
    have hqA : Hid (q < wA.heap.size) := hidOf (Array.getElem?_eq_some_iff.1 hA.out).1
    rw [← hq.out]
    refine hKo14.out _ _ ⟨cell_later PA.out cd1, cell_later PA.out c2, cell_later PA.out c5⟩ (fun hHeld14 => ?_)
    try simp only [Act.put, List.setIfInBounds_toArray, List.set_cons_zero, List.set_cons_succ]
    refine wpAnyH_ready (rs := [8]) (by kernel_rfl) (by simp) ?_
    refine (AllReadyH.cons rfl (fun Ko8 hKo8 => ?_) AllReadyH.nil)
    rw [if_pos (by rfl)]
    go_simp
    go_at_call 21
    refine (CC.out _ PA.out).mono ?_
    rintro e wc ⟨ca, cc, rfl, hrc, hoc⟩
    have RC := hidOf hrc
    have Pc := hidOf (Out.trans PA.out hoc)
    have hA2 := hidOf (blk_out hA.out hoc)
    have SA := hidOf (Nat.lt_of_lt_of_le hqA.out hoc.size)
    clear hrc hoc
    refine hKo8.out _ _ ⟨cell_later Pc.out cd1, cell_later Pc.out c2, cell_later Pc.out c5⟩ (fun hHeld8 => ?_)
    try simp only [Act.put, List.setIfInBounds_toArray, List.set_cons_zero, List.set_cons_succ]
    refine tkLB [9] ?_
    iterate 1 (refine tkLC (v := ?_) rfl rfl (by kernel_rfl) (by kernel_rfl) (by kernel_rfl) (fun _ _ _ h => h) (by rfl) (by assumption) ?_ ?_; rotate_left; (· (intro w hSw; (try dsimp only at hSw); go_simp; (try with_reducible rfl))); simp only [Act.put, List.setIfInBounds_toArray, List.set_cons_zero, List.set_cons_succ])
    refine tkLE ?_
    refine wpAnyH_ready (rs := [10]) (by kernel_rfl) (by simp) ?_
    refine (AllReadyH.cons rfl (fun Ko10 hKo10 => ?_) AllReadyH.nil)
    rw [if_pos (by rfl)]
    go_simp
    go_at_call 20
    refine (QC.out _ Pc.out ca cc RC.out).mono ?_
    rintro e w1 ⟨a', c', n', R', rfl, hdr, hmap, ho1⟩
    have DR1 := hidOf hdr
    have MP := hidOf hmap
    have P1 := hidOf (Out.trans Pc.out ho1)
    have PCW : Hid (Out w0 wc) := hidOf Pc.out
    have hA1 := hidOf (blk_out hA2.out ho1)
    have SQ : Hid (q < wc.heap.size) := SA
    clear hdr hmap ho1
    refine hKo10.out _ _ ⟨cell_later P1.out cd1, cell_later P1.out c2, cell_later P1.out c5⟩ (fun hHeld10 => ?_)
    try simp only [Act.put, List.setIfInBounds_toArray, List.set_cons_zero, List.set_cons_succ]
    refine tkLB [11, 12, 13] ?_
    iterate 3 (refine tkLC (v := ?_) rfl rfl (by kernel_rfl) (by kernel_rfl) (by kernel_rfl) (fun _ _ _ h => h) (by rfl) (by assumption) ?_ ?_; rotate_left; (· (intro w hSw; (try dsimp only at hSw); go_simp; (try with_reducible rfl))); simp only [Act.put, List.setIfInBounds_toArray, List.set_cons_zero, List.set_cons_succ])
    refine tkLE ?_
    refine wpAnyH_ready (rs := [15]) (by kernel_rfl) (by simp) ?_
    refine (AllReadyH.cons rfl (fun Ko15 hKo15 => ?_) AllReadyH.nil)
    have zq : w1.frozen? ⟨q, 0, none⟩ = false := froz_B hA1.out 0
    have zc : w1.cell? ⟨q, 0, none⟩ = some (.slice none 0 0) := by rw [cell_B hA1.out] <;> rfl
    rw [if_pos (by rfl)]
    go_simp
    obtain ⟨wS, HS, bS, cS⟩ : ∃ wS, Hid (wS = w1.setCell ⟨q, 0, none⟩ (.slice a' n' c')) ∧ wS.heap[q]? = some (.cells #[.slice a' n' c'] 47 (0, 0)) ∧ Chg (fun b => b = q) w1 wS := ⟨_, rfl, set_B hA1.out 0 _, (Chg.refl (fun b => b = q) w1).setCell rfl _⟩
    rw [← HS.out]
    have PS : Hid (Out w0 wS) := hidOf (Chg.out cS P1.out (fun b hb => by have := hqr.out; omega))
    have BS := hidOf bS
    have nq : ¬ DkT.fp { t with a := a', c := c', n := n', R := R' } d q := fun hk => by
      have hz := hqr.out
      have ho := O0.out.size
      have hsq := SQ.out
      rcases DR1.out.new q hk with e | e
      · have := (HW.out.1.lt e).2; omega
      · omega
    have DRS : Hid (DkR B d m w t wS { t with a := a', c := c', n := n', R := R' }) := hidOf (((((DkR.start HW.out.1).out (O0.out.trans PCW.out)).trans DR1.out)).chgQ cS nq (by have := hqr.out; have := O0.out.size; omega))
    clear cS bS zq zc nq
    refine hKo15.out _ _ ⟨cell_later PS.out cd1, cell_later PS.out c2, cell_later PS.out c5⟩ (fun hHeld15 => ?_)
    try simp only [Act.put, List.setIfInBounds_toArray, List.set_cons_zero, List.set_cons_succ]
    refine tkLB [16] ?_
    iterate 1 (refine tkLC (v := ?_) rfl rfl (by kernel_rfl) (by kernel_rfl) (by kernel_rfl) (fun _ _ _ h => h) (by rfl) (by assumption) ?_ ?_; rotate_left; (· (intro w hSw; (try dsimp only at hSw); go_simp; (try with_reducible rfl))); simp only [Act.put, List.setIfInBounds_toArray, List.set_cons_zero, List.set_cons_succ])
    refine tkLE ?_
    refine wpAnyH_done (by kernel_rfl) ?_ _
    go_upto_region 6 with fail
    refine wp_region_held_drew (S := (fun w' => w'.cell? ⟨d, 0, none⟩ = some (.pointer (some ⟨t.s, 0, none⟩)) ∧ w'.cell? ⟨p, 0, none⟩ = some (.int .i64 which) ∧ w'.cell? ⟨p, 1, none⟩ = some (.int .i64 1) ∧ w'.cell? ⟨p, 2, none⟩ = some (.int .u64 at_) ∧ w'.cell? ⟨p, 3, none⟩ = some (.int .i64 N) ∧ w'.cell? ⟨p, 4, none⟩ = some (.int .u64 x) ∧ w'.cell? ⟨p, 5, none⟩ = some (.slice da k dc))) (by kernel_rfl) ?_ (fun hHeld => ?_)
    · exact ⟨cell_later PS.out.drew cd0, cell_later PS.out.drew c0, cell_later PS.out.drew c1, cell_later PS.out.drew c2, cell_later PS.out.drew c3, cell_later PS.out.drew c4, cell_later PS.out.drew c5⟩
    refine tkLB [0, 1, 2, 3, 4, 5, 6, 7] ?_
    iterate 8 (refine tkLC (v := ?_) rfl rfl (by kernel_rfl) (by kernel_rfl) (by kernel_rfl) (fun _ _ _ h => h) (by rfl) (by assumption) ?_ ?_; rotate_left; (· (intro w hSw; (try dsimp only at hSw); go_simp; (try with_reducible rfl))); simp only [Act.put, List.setIfInBounds_toArray, List.set_cons_zero, List.set_cons_succ])
    refine tkLE ?_
    refine wpAnyH_ready (rs := [8]) (by kernel_rfl) (by simp) ?_
    refine (AllReadyH.cons rfl (fun Ko8 hKo8 => ?_) AllReadyH.nil)
    rw [if_pos (by rfl)]
    go_simp
    go_at_call 23
    refine (LDC.out _ a' c' n' R' (DRS.out.out (Out.refl wS).drew)).mono ?_
    rintro e w2 ⟨g, mm, RR, ba, bc, rfl, hra, hlc, wL, hoL, hcL, hgL, hmL⟩
    have DR2 : Hid (DkR B d m w t w2 { t with a := a', c := c', n := n', R := R', bv := .slice (some ⟨g, 0, none⟩) mm mm, N := (k : Int) }) := hidOf (((DRS.out.out (Out.refl wS).drew).out hoL).lend hcL hgL hlc hmL)
    have hpL : ¬ SL d g p := fun hs => by
      have h6 := (HW.out.1.lt (.inr (.inr (.inl rfl)))).2
      have h7 := O0.out.size
      have h8 := NPS.out
      have h9 := PS.out.size
      have h10 := hoL.size
      rcases hs with e | e
      · rw [hp.out] at e; omega
      · rcases hgL with e2 | e2
        · have := (HW.out.1.bf.lt e2).2; rw [hp.out] at e; omega
        · have h11 : wS.heap.size ≤ wL.heap.size := h10
          omega
    have f0 := hcL.cell (cell_later (Out.trans PS.out.drew hoL) c0) hpL
    have f1 := hcL.cell (cell_later (Out.trans PS.out.drew hoL) c1) hpL
    have f2 := hcL.cell (cell_later (Out.trans PS.out.drew hoL) c2) hpL
    have f3 := hcL.cell (cell_later (Out.trans PS.out.drew hoL) c3) hpL
    have f4 := hcL.cell (cell_later (Out.trans PS.out.drew hoL) c4) hpL
    have f5 := hcL.cell (cell_later (Out.trans PS.out.drew hoL) c5) hpL
    have fd0 : w2.cell? ⟨d, 0, none⟩ = some (.pointer (some ⟨t.s, 0, none⟩)) := (cell_B DR2.out.dk.blk 0).trans rfl
    have hqL : ¬ SL d g q := fun hs => by
      have h6 := (HW.out.1.lt (.inr (.inr (.inl rfl)))).2
      have h7 := O0.out.size
      have h8 := hqr.out
      have h9 := (Array.getElem?_eq_some_iff.1 BS.out).1
      have h11 : wS.heap.size ≤ wL.heap.size := hoL.size
      rcases hs with e | e
      · omega
      · rcases hgL with e2 | e2
        · have := (HW.out.1.bf.lt e2).2; omega
        · omega
    have fq : w2.cell? ⟨q, 0, none⟩ = some (.slice a' n' c') := hcL.cell (cell_later hoL (show wS.drew.cell? _ = _ from (cell_B BS.out 0).trans rfl)) hqL
    have RA2 := hidOf hra
    have LC2 := hidOf hlc
    have HML := hidOf hmL
    have NGP : Hid (¬ p = g) := hidOf (fun e => hpL (.inr e))
    have NG : Hid (¬ q = g) := hidOf (fun e => hqL (.inr e))
    clear hpL hqL hra hlc hoL hcL hgL hmL
    refine hKo8.out _ _ ⟨fd0, f0, f1, f2, f3, f4, f5⟩ (fun hHeld8 => ?_)
    try simp only [Act.put, List.setIfInBounds_toArray, List.set_cons_zero, List.set_cons_succ]
    refine tkLB [9] ?_
    iterate 1 (refine tkLC (v := ?_) rfl rfl (by kernel_rfl) (by kernel_rfl) (by kernel_rfl) (fun _ _ _ h => h) (by rfl) (by assumption) ?_ ?_; rotate_left; (· (intro w hSw; (try dsimp only at hSw); go_simp; (try with_reducible rfl))); simp only [Act.put, List.setIfInBounds_toArray, List.set_cons_zero, List.set_cons_succ])
    refine tkLE ?_
    refine wpAnyH_ready (rs := [10]) (by kernel_rfl) (by simp) ?_
    refine (AllReadyH.cons rfl (fun Ko10 hKo10 => ?_) AllReadyH.nil)
    rw [if_pos (by rfl)]
    go_simp
    go_at_call 22
    refine (MC.out _ a' c' n' R' _ _ DR2.out ba bc RA2.out).mono ?_
    rintro e w3 ⟨v1', v2', X', Y', rfl, hdr2, hpm2, hch2⟩
    have DR3 := hidOf hdr2
    have PM2 := hidOf hpm2
    have LC3 := hidOf (LC2.out.chg hch2 (fun hk => DR2.out.dk.AL _ hk (.inl rfl)) (fun hk => DR2.out.dk.AL _ hk (.inr rfl)))
    have gd0 : w3.cell? ⟨d, 0, none⟩ = some (.pointer (some ⟨t.s, 0, none⟩)) := (cell_B hdr2.dk.blk 0).trans rfl
    have g0 := hch2.cell f0 (NP.out p (by rw [hp.out]; exact Nat.le_refl _))
    have g1 := hch2.cell f1 (NP.out p (by rw [hp.out]; exact Nat.le_refl _))
    have g2 := hch2.cell f2 (NP.out p (by rw [hp.out]; exact Nat.le_refl _))
    have g3 := hch2.cell f3 (NP.out p (by rw [hp.out]; exact Nat.le_refl _))
    have g4 := hch2.cell f4 (NP.out p (by rw [hp.out]; exact Nat.le_refl _))
    have g5 := hch2.cell f5 (NP.out p (by rw [hp.out]; exact Nat.le_refl _))
    have gq := hch2.cell fq (NP.out q (by have := hqr.out; have := O0.out.size; omega))
    clear hdr2 hpm2 hch2
    refine hKo10.out _ _ ⟨gd0, g0, g1, g2, g3, g4, g5⟩ (fun hHeld10 => ?_)
    try simp only [Act.put, List.setIfInBounds_toArray, List.set_cons_zero, List.set_cons_succ]
    refine tkLB [11] ?_
    iterate 1 (refine tkLC (v := ?_) rfl rfl (by kernel_rfl) (by kernel_rfl) (by kernel_rfl) (fun _ _ _ h => h) (by rfl) (by assumption) ?_ ?_; rotate_left; (· (intro w hSw; (try dsimp only at hSw); go_simp; (try with_reducible rfl))); simp only [Act.put, List.setIfInBounds_toArray, List.set_cons_zero, List.set_cons_succ])
    refine tkLE ?_
    refine wpAnyH_done (by kernel_rfl) ?_ _
    have BC := hidOf (backC_any w3.drew d 2 g mm _ l RR (by have h9 := LC3.out; rw [hk.out] at h9; exact h9.drew) B da dc (restKeep HR.out HW.out.1 (DR3.out.out (Out.refl w3).drew)) (by rw [← hk.out]; omega))
    rw [← hk.out] at BC
    go_upto_region 7 with fail
    refine wp_region_held_drew (S := (fun w' => w'.cell? ⟨p, 5, none⟩ = some (.slice da k dc))) (by kernel_rfl) ?_ (fun hHeld => ?_)
    · exact g5
    refine tkLB [0, 1, 2, 3, 4] ?_
    iterate 5 (refine tkLC (v := ?_) rfl rfl (by kernel_rfl) (by kernel_rfl) (by kernel_rfl) (fun _ _ _ h => h) (by rfl) (by assumption) ?_ ?_; rotate_left; (· (intro w hSw; (try dsimp only at hSw); go_simp; (try with_reducible rfl))); simp only [Act.put, List.setIfInBounds_toArray, List.set_cons_zero, List.set_cons_succ])
    refine tkLE ?_
    refine wpAnyH_ready (rs := [5]) (by kernel_rfl) (by simp) ?_
    refine (AllReadyH.cons rfl (fun Ko5 hKo5 => ?_) AllReadyH.nil)
    rw [if_pos (by rfl)]
    go_simp
    go_at_call 24
    refine (BC.out).mono ?_
    rintro e w4 ⟨rfl, ⟨L4, hl4⟩, hc4⟩
    have DR4 := hidOf ((DR3.out.out (Out.refl w3).drew).lend hc4 (.inl rfl) hl4 HML.out)
    have hq4 : ¬ SL d g q := fun hs => by
      have h6 := (HW.out.1.lt (.inr (.inr (.inl rfl)))).2
      have h7 := O0.out.size
      have h8 := hqr.out
      rcases hs with e | e
      · omega
      · exact NG.out e
    have jq := hc4.cell (show w3.drew.cell? _ = _ from gq) hq4
    have hp4 : ¬ SL d g p := fun hs => by
      have h6 := (HW.out.1.lt (.inr (.inr (.inl rfl)))).2
      rcases hs with e | e
      · rw [hp.out] at e; omega
      · exact NGP.out e
    have j5 := hc4.cell (show w3.drew.cell? _ = _ from g5) hp4
    have zd : w4.frozen? ⟨d, 1, none⟩ = false := froz_B DR4.out.dk.blk 1
    have zc : w4.cell? ⟨d, 1, none⟩ = some t.cv := (cell_B DR4.out.dk.blk 1).trans rfl
    clear hc4 hl4 hq4 hp4
    refine hKo5.out _ _ j5 (fun hHeld5 => ?_)
    try simp only [Act.put, List.setIfInBounds_toArray, List.set_cons_zero, List.set_cons_succ]
    refine tkLB [6] ?_
    iterate 1 (refine tkLC (v := ?_) rfl rfl (by kernel_rfl) (by kernel_rfl) (by kernel_rfl) (fun _ _ _ h => h) (by rfl) (by assumption) ?_ ?_; rotate_left; (· (intro w hSw; (try dsimp only at hSw); go_simp; (try with_reducible rfl))); simp only [Act.put, List.setIfInBounds_toArray, List.set_cons_zero, List.set_cons_succ])
    refine tkLE ?_
    refine wpAnyH_done (by kernel_rfl) ?_ _
    go_wp2_with (go_at_call 18; refine (NC.out _ _).mono ?_; rintro e wx ⟨rfl, hx0⟩; subst hx0)
    refine bodyPost_ret (results_tmp3 rfl _ _ _) rfl ?_
    exact ⟨_, _, _, by first | rfl | simp, (DR4.out.setR _).mono (by omega), rfl, (by show (R'.map fdR).Perm _; rw [MP.out]; exact PM2.out), (fun hq hq2 => by show BdP (R'.map fdR); rw [MP.out]; exact BD.out hq hq2), OutS.nil _ _ _ _ _⟩
set_option maxHeartbeats 16000000 in
set_option maxRecDepth 100000 in
theorem act6_any (B m d : Nat) (w : World) (t : DkT) (h : DkW B w d t m) (hm : m + 1 ≤ 1000000000) (which : Int) (at_ : Nat) (N : Int) (x dc : Nat) (da : Option Addr) (ha : at_ < 18446744073709551616) (hN : -9223372036854775808 ≤ N ∧ N < 9223372036854775808) (hx : x < 18446744073709551616) (l : List UInt8) (hr0 : RestAt B w da l) (hl : l.length ≤ 1048576) :
    Calls Tryz.prog 8 #[.pointer (some ⟨d, 0, none⟩), actV which 6 at_ N x l.length dc da] w fun e w' => ActE B d m (m) l.length t w e w' := by
  obtain ⟨k, hk⟩ : ∃ k, Hid (k = l.length) := ⟨_, rfl⟩
  rw [← hk.out] at hl ⊢
  have HR := hidOf hr0
  clear hr0
  unfold actV
  obtain ⟨p, hp⟩ : ∃ p, Hid (p = w.heap.size) := ⟨_, rfl⟩
  obtain ⟨w0, H0, b0, o0⟩ : ∃ w0, Hid (w0 = w.alloc (.cells #[.int .i64 which, .int .i64 6, .int .u64 at_, .int .i64 N, .int .u64 x, .slice da k dc] 31)) ∧ w0.heap[p]? = some (.cells #[.int .i64 which, .int .i64 6, .int .u64 at_, .int .i64 N, .int .u64 x, .slice da k dc] 31 (0, 0)) ∧ Out w w0 := ⟨_, rfl, by rw [hp.out]; exact heap_alloc_new w _, (Out.refl w).alloc _⟩
  have c0 : w0.cell? ⟨p, 0, none⟩ = some (.int .i64 which) := (cell_B b0 0).trans rfl
  have c1 : w0.cell? ⟨p, 1, none⟩ = some (.int .i64 6) := (cell_B b0 1).trans rfl
  have c2 : w0.cell? ⟨p, 2, none⟩ = some (.int .u64 at_) := (cell_B b0 2).trans rfl
  have c3 : w0.cell? ⟨p, 3, none⟩ = some (.int .i64 N) := (cell_B b0 3).trans rfl
  have c4 : w0.cell? ⟨p, 4, none⟩ = some (.int .u64 x) := (cell_B b0 4).trans rfl
  have c5 : w0.cell? ⟨p, 5, none⟩ = some (.slice da k dc) := (cell_B b0 5).trans rfl
  have cd0 : w0.cell? ⟨d, 0, none⟩ = some (.pointer (some ⟨t.s, 0, none⟩)) := cell_later o0 ((cell_B h.1.blk 0).trans rfl)
  have cd1 : w0.cell? ⟨d, 1, none⟩ = some (.slice t.a t.n t.c) := cell_later o0 ((cell_B h.1.blk 1).trans (by rw [h.2.1]; rfl))
  have hpm := h.2.2
  have HW := hidOf h
  have HW0 := hidOf (h.out o0)
  have O0 := hidOf o0
  have NP : Hid (∀ k, w.heap.size ≤ k → ¬ t.fA k) := hidOf (fun k hk hf => by have := h.1.fA_lt hf; omega)
  obtain ⟨code, hcode⟩ : ∃ c, Hid (c = (PutQ (t.R.map fdR) at_ l).2) := ⟨_, rfl⟩
  obtain ⟨PQ, hPQ⟩ : ∃ c, Hid (c = (PutQ (t.R.map fdR) at_ l).1) := ⟨_, rfl⟩
  have BD : Hid (BdP (t.R.map fdR) → k ≤ 1048576 → BdP PQ) := hidOf (fun hq hq2 => by rw [hPQ.out]; exact bd_put hq at_ l)
  have NC := hidOf (fun x W => num20_any x W)
  have CC : Hid (∀ W, Out w0 W → Calls Tryz.prog 21 #[.slice da k dc] W fun e w' => ∃ ca cc, e = .returned (.slice ca k cc) ∧ RestG w' ca l ∧ Out W w') := hidOf (fun W o => by
    rw [hk.out]
    refine (copyB_any W da dc l ((HR.out.a.out O0.out).out o) (by rw [← hk.out]; omega)).mono ?_
    rintro e w' ⟨g, c', he, hown, ho⟩
    exact ⟨_, _, he, RestG.own hown, ho⟩)
  have QC : Hid (∀ W, Out w0 W → ∀ ca cc, RestG W ca l → Calls Tryz.prog 34 #[.agg #[.slice t.a t.n t.c], .int .u64 at_, .slice ca k cc] W fun e w' => ∃ a' c' n' R', e = .returned (.tuple #[.agg #[.slice a' n' c'], .int .i64 code]) ∧ DkR B d m W t w' { t with a := a', c := c', n := n', R := R' } ∧ R'.map fdR = PQ ∧ Out W w') := hidOf (fun W o ca cc hr => by
    have h9 := rPut (HW0.out.out o) hm at_ cc ca l ha hr (by rw [← hk.out]; omega)
    rw [← hcode.out, ← hPQ.out, ← hk.out] at h9
    exact h9)
  have LDC : Hid (∀ W a' c' n' R', DkR B d m w t W { t with a := a', c := c', n := n', R := R' } → Calls Tryz.prog 23 #[.pointer (some ⟨d, 0, none⟩), .agg #[.int .i64 which, .int .i64 6, .int .u64 at_, .int .i64 N, .int .u64 x, .slice da k dc]] W fun e w' => ∃ g mm R ba bc, e = .returned (.slice ba k bc) ∧ RestA w' ba l ∧ LeC w' d 2 g mm (csD t g mm k) (k : Int) (l ++ (lmsB k (k + 70) ++ R)) ∧ ∃ w1, Out W w1 ∧ Chg (SL d g) w1 w' ∧ (t.bv.ownBlock = some g ∨ w1.heap.size ≤ g) ∧ mm ≤ 5000000) := hidOf (fun W a' c' n' R' hd => by
    have h9 := lendD_any B m d W _ hd.dk which 6 at_ N x dc da l (restKeep HR.out HW.out.1 hd) (by rw [← hk.out]; exact hl) hx
    unfold LdE actV at h9
    rw [← hk.out] at h9
    exact h9)
  have MC : Hid (∀ W a' c' n' R' bv' N', DkR B d m w t W { t with a := a', c := c', n := n', R := R', bv := bv', N := N' } → ∀ ba bc, RestA W ba l → Calls Tryz.prog 35 #[.pointer (some ⟨t.s, 0, none⟩), .int .u64 at_, .slice ba k bc] W fun e w' => ∃ v1' v2' X' Y', e = .returned (.int .i64 code) ∧ DkR B d (m) w t w' { t with v1 := v1', v2 := v2', X := X', Y := Y', a := a', c := c', n := n', R := R', bv := bv', N := N' } ∧ PQ.Perm ((flat X' ++ flat Y').map fdR) ∧ Chg t.fA W w') := hidOf (fun W a' c' n' R' bv' N' hd ba bc hr => by
    have h9 := dPut hd (t.R.map fdR) hpm at_ bc ba l ha hr (by rw [← hk.out]; omega)
    rw [← hcode.out, ← hPQ.out, ← hk.out] at h9
    exact h9)
  have NPS : Hid (p < w0.heap.size) := hidOf (Array.getElem?_eq_some_iff.1 b0).1
  clear b0 o0 h hpm
  go_enter Tryz.func8, Tryz.ntmps8
  go_upto_region 1 with fail
  rw [← hp.out]
  rw [← H0.out]
  go_upto_region 29 with fail
  refine wp_region_held_drew (S := (fun w' => w'.cell? ⟨d, 1, none⟩ = some (.slice t.a t.n t.c) ∧ w'.cell? ⟨p, 2, none⟩ = some (.int .u64 at_) ∧ w'.cell? ⟨p, 5, none⟩ = some (.slice da k dc))) (by kernel_rfl) ?_ (fun hHeld => ?_)
  · exact ⟨cell_later (Out.refl w0).drew cd1, cell_later (Out.refl w0).drew c2, cell_later (Out.refl w0).drew c5⟩
  refine tkLB [0, 1, 2, 3, 4, 5, 6, 7] ?_
  iterate 8 (refine tkLC (v := ?_) rfl rfl (by kernel_rfl) (by kernel_rfl) (by kernel_rfl) (fun _ _ _ h => h) (by rfl) (by assumption) ?_ ?_; rotate_left; (· (intro w hSw; (try dsimp only at hSw); go_simp; (try with_reducible rfl))); simp only [Act.put, List.setIfInBounds_toArray, List.set_cons_zero, List.set_cons_succ])
  refine tkLE ?_
  refine wpAnyH_ready (rs := [8, 13]) (by kernel_rfl) (by simp) ?_
  refine (AllReadyH.cons rfl (fun Ko8 hKo8 => ?_) (AllReadyH.cons rfl (fun Ko13 hKo13 => ?_) AllReadyH.nil))
  · rw [if_pos (by rfl)]
    go_simp
    go_at_call 21
    refine (CC.out _ ((Out.refl w0).drew)).mono ?_
    rintro e wc ⟨ca, cc, rfl, hrc, hoc⟩
    have RC := hidOf hrc
    have Pc := hidOf (Out.trans ((Out.refl w0).drew) hoc)
    clear hrc hoc
    refine hKo8.out _ _ ⟨cell_later Pc.out cd1, cell_later Pc.out c2, cell_later Pc.out c5⟩ (fun hHeld8 => ?_)
    try simp only [Act.put, List.setIfInBounds_toArray, List.set_cons_zero, List.set_cons_succ]
    refine wpAnyH_ready (rs := [9, 13]) (by kernel_rfl) (by simp) ?_
    refine (AllReadyH.cons rfl (fun Ko9 hKo9 => ?_) (AllReadyH.cons rfl (fun Ko13 hKo13 => ?_) AllReadyH.nil))
    · rw [if_pos (by rfl)]
      go_simp
      go_at_call 34
      refine (QC.out _ Pc.out ca cc RC.out).mono ?_
      rintro e w1 ⟨a', c', n', R', rfl, hdr, hmap, ho1⟩
      have DR1 := hidOf hdr
      have MP := hidOf hmap
      have P1 := hidOf (Out.trans Pc.out ho1)
      have PCW : Hid (Out w0 wc) := hidOf Pc.out
      clear hdr hmap ho1
      refine hKo9.out _ _ ⟨cell_later P1.out cd1, cell_later P1.out c2, cell_later P1.out c5⟩ (fun hHeld9 => ?_)
      try simp only [Act.put, List.setIfInBounds_toArray, List.set_cons_zero, List.set_cons_succ]
      refine tkLB [10, 11, 12] ?_
      iterate 3 (refine tkLC (v := ?_) rfl rfl (by kernel_rfl) (by kernel_rfl) (by kernel_rfl) (fun _ _ _ h => h) (by rfl) (by assumption) ?_ ?_; rotate_left; (· (intro w hSw; (try dsimp only at hSw); go_simp; (try with_reducible rfl))); simp only [Act.put, List.setIfInBounds_toArray, List.set_cons_zero, List.set_cons_succ])
      refine tkLE ?_
      refine wpAnyH_ready (rs := [13]) (by kernel_rfl) (by simp) ?_
      refine (AllReadyH.cons rfl (fun Ko13 hKo13 => ?_) AllReadyH.nil)
      rw [if_pos (by rfl)]
      go_simp
      obtain ⟨wA, HA, hA⟩ : ∃ wA, Hid (wA = w1.alloc (.cells #[.slice none 0 0] 47)) ∧ Hid (wA.heap[w1.heap.size]? = some (.cells #[.slice none 0 0] 47 (0, 0))) := ⟨_, rfl, hidOf (heap_alloc_new w1 _)⟩
      have PA : Hid (Out w0 wA) := hidOf (by rw [HA.out]; exact Out.alloc P1.out _)
      have oAc : Out w1 wA := by rw [HA.out]; exact (Out.refl _).alloc _
      rw [← HA.out]
      obtain ⟨q, hq⟩ : ∃ q, Hid (q = w1.heap.size) := ⟨_, rfl⟩
      have hqr : Hid (w0.heap.size ≤ q) := hidOf (by rw [hq.out]; exact (P1.out).size)
      rw [← hq.out] at hA
      have hqA : Hid (q < wA.heap.size) := hidOf (Array.getElem?_eq_some_iff.1 hA.out).1
      rw [← hq.out]
      refine hKo13.out _ _ ⟨cell_later PA.out cd1, cell_later PA.out c2, cell_later PA.out c5⟩ (fun hHeld13 => ?_)
      try simp only [Act.put, List.setIfInBounds_toArray, List.set_cons_zero, List.set_cons_succ]
      refine wpAnyH_ready (rs := [14]) (by kernel_rfl) (by simp) ?_
      refine (AllReadyH.cons rfl (fun Ko14 hKo14 => ?_) AllReadyH.nil)
      have zq : wA.frozen? ⟨q, 0, none⟩ = false := froz_B hA.out 0
      have zc : wA.cell? ⟨q, 0, none⟩ = some (.slice none 0 0) := by rw [cell_B hA.out] <;> rfl
      rw [if_pos (by rfl)]
      go_simp
      obtain ⟨wS, HS, bS, cS⟩ : ∃ wS, Hid (wS = wA.setCell ⟨q, 0, none⟩ (.slice a' n' c')) ∧ wS.heap[q]? = some (.cells #[.slice a' n' c'] 47 (0, 0)) ∧ Chg (fun b => b = q) wA wS := ⟨_, rfl, set_B hA.out 0 _, (Chg.refl (fun b => b = q) wA).setCell rfl _⟩
      rw [← HS.out]
      have PS : Hid (Out w0 wS) := hidOf (Chg.out cS PA.out (fun b hb => by have := hqr.out; omega))
      have BS := hidOf bS
      have nq : ¬ DkT.fp { t with a := a', c := c', n := n', R := R' } d q := fun hk => by have h7 := (DR1.out.dk.lt hk).2; rw [hq.out] at h7; omega
      have DRS : Hid (DkR B d m w t wS { t with a := a', c := c', n := n', R := R' }) := hidOf (((((DkR.start HW.out.1).out (O0.out.trans PCW.out)).trans DR1.out).out oAc).chgQ cS nq (by have := hqr.out; have := O0.out.size; omega))
      clear cS bS zq zc nq
      refine hKo14.out _ _ ⟨cell_later PS.out cd1, cell_later PS.out c2, cell_later PS.out c5⟩ (fun hHeld14 => ?_)
      try simp only [Act.put, List.setIfInBounds_toArray, List.set_cons_zero, List.set_cons_succ]
      refine tkLB [15] ?_
      iterate 1 (refine tkLC (v := ?_) rfl rfl (by kernel_rfl) (by kernel_rfl) (by kernel_rfl) (fun _ _ _ h => h) (by rfl) (by assumption) ?_ ?_; rotate_left; (· (intro w hSw; (try dsimp only at hSw); go_simp; (try with_reducible rfl))); simp only [Act.put, List.setIfInBounds_toArray, List.set_cons_zero, List.set_cons_succ])
      refine tkLE ?_
      refine wpAnyH_done (by kernel_rfl) ?_ _
      go_upto_region 30 with fail
      refine wp_region_held_drew (S := (fun w' => w'.cell? ⟨d, 0, none⟩ = some (.pointer (some ⟨t.s, 0, none⟩)) ∧ w'.cell? ⟨p, 0, none⟩ = some (.int .i64 which) ∧ w'.cell? ⟨p, 1, none⟩ = some (.int .i64 6) ∧ w'.cell? ⟨p, 2, none⟩ = some (.int .u64 at_) ∧ w'.cell? ⟨p, 3, none⟩ = some (.int .i64 N) ∧ w'.cell? ⟨p, 4, none⟩ = some (.int .u64 x) ∧ w'.cell? ⟨p, 5, none⟩ = some (.slice da k dc))) (by kernel_rfl) ?_ (fun hHeld => ?_)
      · exact ⟨cell_later PS.out.drew cd0, cell_later PS.out.drew c0, cell_later PS.out.drew c1, cell_later PS.out.drew c2, cell_later PS.out.drew c3, cell_later PS.out.drew c4, cell_later PS.out.drew c5⟩
      refine tkLB [0, 1, 2, 3, 4, 5, 6, 7] ?_
      iterate 8 (refine tkLC (v := ?_) rfl rfl (by kernel_rfl) (by kernel_rfl) (by kernel_rfl) (fun _ _ _ h => h) (by rfl) (by assumption) ?_ ?_; rotate_left; (· (intro w hSw; (try dsimp only at hSw); go_simp; (try with_reducible rfl))); simp only [Act.put, List.setIfInBounds_toArray, List.set_cons_zero, List.set_cons_succ])
      refine tkLE ?_
      refine wpAnyH_ready (rs := [8]) (by kernel_rfl) (by simp) ?_
      refine (AllReadyH.cons rfl (fun Ko8 hKo8 => ?_) AllReadyH.nil)
      rw [if_pos (by rfl)]
      go_simp
      go_at_call 23
      refine (LDC.out _ a' c' n' R' (DRS.out.out (Out.refl wS).drew)).mono ?_
      rintro e w2 ⟨g, mm, RR, ba, bc, rfl, hra, hlc, wL, hoL, hcL, hgL, hmL⟩
      have DR2 : Hid (DkR B d m w t w2 { t with a := a', c := c', n := n', R := R', bv := .slice (some ⟨g, 0, none⟩) mm mm, N := (k : Int) }) := hidOf (((DRS.out.out (Out.refl wS).drew).out hoL).lend hcL hgL hlc hmL)
      have hpL : ¬ SL d g p := fun hs => by
        have h6 := (HW.out.1.lt (.inr (.inr (.inl rfl)))).2
        have h7 := O0.out.size
        have h8 := NPS.out
        have h9 := PS.out.size
        have h10 := hoL.size
        rcases hs with e | e
        · rw [hp.out] at e; omega
        · rcases hgL with e2 | e2
          · have := (HW.out.1.bf.lt e2).2; rw [hp.out] at e; omega
          · have h11 : wS.heap.size ≤ wL.heap.size := h10
            omega
      have f0 := hcL.cell (cell_later (Out.trans PS.out.drew hoL) c0) hpL
      have f1 := hcL.cell (cell_later (Out.trans PS.out.drew hoL) c1) hpL
      have f2 := hcL.cell (cell_later (Out.trans PS.out.drew hoL) c2) hpL
      have f3 := hcL.cell (cell_later (Out.trans PS.out.drew hoL) c3) hpL
      have f4 := hcL.cell (cell_later (Out.trans PS.out.drew hoL) c4) hpL
      have f5 := hcL.cell (cell_later (Out.trans PS.out.drew hoL) c5) hpL
      have fd0 : w2.cell? ⟨d, 0, none⟩ = some (.pointer (some ⟨t.s, 0, none⟩)) := (cell_B DR2.out.dk.blk 0).trans rfl
      have hqL : ¬ SL d g q := fun hs => by
        have h6 := (HW.out.1.lt (.inr (.inr (.inl rfl)))).2
        have h7 := O0.out.size
        have h8 := hqr.out
        have h9 := (Array.getElem?_eq_some_iff.1 BS.out).1
        have h11 : wS.heap.size ≤ wL.heap.size := hoL.size
        rcases hs with e | e
        · omega
        · rcases hgL with e2 | e2
          · have := (HW.out.1.bf.lt e2).2; omega
          · omega
      have fq : w2.cell? ⟨q, 0, none⟩ = some (.slice a' n' c') := hcL.cell (cell_later hoL (show wS.drew.cell? _ = _ from (cell_B BS.out 0).trans rfl)) hqL
      have RA2 := hidOf hra
      have LC2 := hidOf hlc
      have HML := hidOf hmL
      have NGP : Hid (¬ p = g) := hidOf (fun e => hpL (.inr e))
      have NG : Hid (¬ q = g) := hidOf (fun e => hqL (.inr e))
      clear hpL hqL hra hlc hoL hcL hgL hmL
      refine hKo8.out _ _ ⟨fd0, f0, f1, f2, f3, f4, f5⟩ (fun hHeld8 => ?_)
      try simp only [Act.put, List.setIfInBounds_toArray, List.set_cons_zero, List.set_cons_succ]
      refine wpAnyH_ready (rs := [9]) (by kernel_rfl) (by simp) ?_
      refine (AllReadyH.cons rfl (fun Ko9 hKo9 => ?_) AllReadyH.nil)
      rw [if_pos (by rfl)]
      go_simp
      go_at_call 35
      refine (MC.out _ a' c' n' R' _ _ DR2.out ba bc RA2.out).mono ?_
      rintro e w3 ⟨v1', v2', X', Y', rfl, hdr2, hpm2, hch2⟩
      have DR3 := hidOf hdr2
      have PM2 := hidOf hpm2
      have LC3 := hidOf (LC2.out.chg hch2 (fun hk => DR2.out.dk.AL _ hk (.inl rfl)) (fun hk => DR2.out.dk.AL _ hk (.inr rfl)))
      have gd0 : w3.cell? ⟨d, 0, none⟩ = some (.pointer (some ⟨t.s, 0, none⟩)) := (cell_B hdr2.dk.blk 0).trans rfl
      have g0 := hch2.cell f0 (NP.out p (by rw [hp.out]; exact Nat.le_refl _))
      have g1 := hch2.cell f1 (NP.out p (by rw [hp.out]; exact Nat.le_refl _))
      have g2 := hch2.cell f2 (NP.out p (by rw [hp.out]; exact Nat.le_refl _))
      have g3 := hch2.cell f3 (NP.out p (by rw [hp.out]; exact Nat.le_refl _))
      have g4 := hch2.cell f4 (NP.out p (by rw [hp.out]; exact Nat.le_refl _))
      have g5 := hch2.cell f5 (NP.out p (by rw [hp.out]; exact Nat.le_refl _))
      have gq := hch2.cell fq (NP.out q (by have := hqr.out; have := O0.out.size; omega))
      clear hdr2 hpm2 hch2
      refine hKo9.out _ _ ⟨gd0, g0, g1, g2, g3, g4, g5⟩ (fun hHeld9 => ?_)
      try simp only [Act.put, List.setIfInBounds_toArray, List.set_cons_zero, List.set_cons_succ]
      refine tkLB [10] ?_
      iterate 1 (refine tkLC (v := ?_) rfl rfl (by kernel_rfl) (by kernel_rfl) (by kernel_rfl) (fun _ _ _ h => h) (by rfl) (by assumption) ?_ ?_; rotate_left; (· (intro w hSw; (try dsimp only at hSw); go_simp; (try with_reducible rfl))); simp only [Act.put, List.setIfInBounds_toArray, List.set_cons_zero, List.set_cons_succ])
      refine tkLE ?_
      refine wpAnyH_done (by kernel_rfl) ?_ _
      have BC := hidOf (backC_any w3.drew d 2 g mm _ l RR (by have h9 := LC3.out; rw [hk.out] at h9; exact h9.drew) B da dc (restKeep HR.out HW.out.1 (DR3.out.out (Out.refl w3).drew)) (by rw [← hk.out]; omega))
      rw [← hk.out] at BC
      go_upto_region 31 with fail
      refine wp_region_held_drew (S := (fun w' => w'.cell? ⟨p, 5, none⟩ = some (.slice da k dc))) (by kernel_rfl) ?_ (fun hHeld => ?_)
      · exact g5
      refine tkLB [0, 1, 2, 3, 4] ?_
      iterate 5 (refine tkLC (v := ?_) rfl rfl (by kernel_rfl) (by kernel_rfl) (by kernel_rfl) (fun _ _ _ h => h) (by rfl) (by assumption) ?_ ?_; rotate_left; (· (intro w hSw; (try dsimp only at hSw); go_simp; (try with_reducible rfl))); simp only [Act.put, List.setIfInBounds_toArray, List.set_cons_zero, List.set_cons_succ])
      refine tkLE ?_
      refine wpAnyH_ready (rs := [5]) (by kernel_rfl) (by simp) ?_
      refine (AllReadyH.cons rfl (fun Ko5 hKo5 => ?_) AllReadyH.nil)
      rw [if_pos (by rfl)]
      go_simp
      go_at_call 24
      refine (BC.out).mono ?_
      rintro e w4 ⟨rfl, ⟨L4, hl4⟩, hc4⟩
      have DR4 := hidOf ((DR3.out.out (Out.refl w3).drew).lend hc4 (.inl rfl) hl4 HML.out)
      have hq4 : ¬ SL d g q := fun hs => by
        have h6 := (HW.out.1.lt (.inr (.inr (.inl rfl)))).2
        have h7 := O0.out.size
        have h8 := hqr.out
        rcases hs with e | e
        · omega
        · exact NG.out e
      have jq := hc4.cell (show w3.drew.cell? _ = _ from gq) hq4
      have hp4 : ¬ SL d g p := fun hs => by
        have h6 := (HW.out.1.lt (.inr (.inr (.inl rfl)))).2
        rcases hs with e | e
        · rw [hp.out] at e; omega
        · exact NGP.out e
      have j5 := hc4.cell (show w3.drew.cell? _ = _ from g5) hp4
      have zd : w4.frozen? ⟨d, 1, none⟩ = false := froz_B DR4.out.dk.blk 1
      have zc : w4.cell? ⟨d, 1, none⟩ = some t.cv := (cell_B DR4.out.dk.blk 1).trans rfl
      clear hc4 hl4 hq4 hp4
      refine hKo5.out _ _ j5 (fun hHeld5 => ?_)
      try simp only [Act.put, List.setIfInBounds_toArray, List.set_cons_zero, List.set_cons_succ]
      refine tkLB [6] ?_
      iterate 1 (refine tkLC (v := ?_) rfl rfl (by kernel_rfl) (by kernel_rfl) (by kernel_rfl) (fun _ _ _ h => h) (by rfl) (by assumption) ?_ ?_; rotate_left; (· (intro w hSw; (try dsimp only at hSw); go_simp; (try with_reducible rfl))); simp only [Act.put, List.setIfInBounds_toArray, List.set_cons_zero, List.set_cons_succ])
      refine tkLE ?_
      refine wpAnyH_done (by kernel_rfl) ?_ _
      go_wp2_with (go_at_call 18; refine (NC.out _ _).mono ?_; rintro e wx ⟨rfl, hx0⟩; subst hx0)
      refine bodyPost_ret (results_tmp3 rfl _ _ _) rfl ?_
      exact ⟨_, _, _, by first | rfl | simp, (DR4.out.setR _).mono (by omega), rfl, (by show (R'.map fdR).Perm _; rw [MP.out]; exact PM2.out), (fun hq hq2 => by show BdP (R'.map fdR); rw [MP.out]; exact BD.out hq hq2), OutS.nil _ _ _ _ _⟩
    · rw [if_pos (by rfl)]
      go_simp
      obtain ⟨wA, HA, hA⟩ : ∃ wA, Hid (wA = wc.alloc (.cells #[.slice none 0 0] 47)) ∧ Hid (wA.heap[wc.heap.size]? = some (.cells #[.slice none 0 0] 47 (0, 0))) := ⟨_, rfl, hidOf (heap_alloc_new wc _)⟩
      have PA : Hid (Out w0 wA) := hidOf (by rw [HA.out]; exact Out.alloc Pc.out _)
      have oAc : Out wc wA := by rw [HA.out]; exact (Out.refl _).alloc _
      rw [← HA.out]
      obtain ⟨q, hq⟩ : ∃ q, Hid (q = wc.heap.size) := ⟨_, rfl⟩
      have hqr : Hid (w0.heap.size ≤ q) := hidOf (by rw [hq.out]; exact (Pc.out).size)
      rw [← hq.out] at hA
      have hqA : Hid (q < wA.heap.size) := hidOf (Array.getElem?_eq_some_iff.1 hA.out).1
      rw [← hq.out]
      refine hKo13.out _ _ ⟨cell_later PA.out cd1, cell_later PA.out c2, cell_later PA.out c5⟩ (fun hHeld13 => ?_)
      try simp only [Act.put, List.setIfInBounds_toArray, List.set_cons_zero, List.set_cons_succ]
      refine wpAnyH_ready (rs := [9]) (by kernel_rfl) (by simp) ?_
      refine (AllReadyH.cons rfl (fun Ko9 hKo9 => ?_) AllReadyH.nil)
      have RC2 := hidOf (RC.out.out oAc)
      rw [if_pos (by rfl)]
      go_simp
      go_at_call 34
      refine (QC.out _ PA.out ca cc RC2.out).mono ?_
      rintro e w1 ⟨a', c', n', R', rfl, hdr, hmap, ho1⟩
      have DR1 := hidOf hdr
      have MP := hidOf hmap
      have P1 := hidOf (Out.trans PA.out ho1)
      have PCW : Hid (Out w0 wA) := hidOf PA.out
      have hA1 := hidOf (blk_out hA.out ho1)
      have SQ : Hid (q < wA.heap.size) := hqA
      clear hdr hmap ho1
      refine hKo9.out _ _ ⟨cell_later P1.out cd1, cell_later P1.out c2, cell_later P1.out c5⟩ (fun hHeld9 => ?_)
      try simp only [Act.put, List.setIfInBounds_toArray, List.set_cons_zero, List.set_cons_succ]
      refine tkLB [10, 11, 12] ?_
      iterate 3 (refine tkLC (v := ?_) rfl rfl (by kernel_rfl) (by kernel_rfl) (by kernel_rfl) (fun _ _ _ h => h) (by rfl) (by assumption) ?_ ?_; rotate_left; (· (intro w hSw; (try dsimp only at hSw); go_simp; (try with_reducible rfl))); simp only [Act.put, List.setIfInBounds_toArray, List.set_cons_zero, List.set_cons_succ])
      refine tkLE ?_
      refine wpAnyH_ready (rs := [14]) (by kernel_rfl) (by simp) ?_
      refine (AllReadyH.cons rfl (fun Ko14 hKo14 => ?_) AllReadyH.nil)
      have zq : w1.frozen? ⟨q, 0, none⟩ = false := froz_B hA1.out 0
      have zc : w1.cell? ⟨q, 0, none⟩ = some (.slice none 0 0) := by rw [cell_B hA1.out] <;> rfl
      rw [if_pos (by rfl)]
      go_simp
      obtain ⟨wS, HS, bS, cS⟩ : ∃ wS, Hid (wS = w1.setCell ⟨q, 0, none⟩ (.slice a' n' c')) ∧ wS.heap[q]? = some (.cells #[.slice a' n' c'] 47 (0, 0)) ∧ Chg (fun b => b = q) w1 wS := ⟨_, rfl, set_B hA1.out 0 _, (Chg.refl (fun b => b = q) w1).setCell rfl _⟩
      rw [← HS.out]
      have PS : Hid (Out w0 wS) := hidOf (Chg.out cS P1.out (fun b hb => by have := hqr.out; omega))
      have BS := hidOf bS
      have nq : ¬ DkT.fp { t with a := a', c := c', n := n', R := R' } d q := fun hk => by
        have hz := hqr.out
        have ho := O0.out.size
        have hsq := SQ.out
        rcases DR1.out.new q hk with e | e
        · have := (HW.out.1.lt e).2; omega
        · omega
      have DRS : Hid (DkR B d m w t wS { t with a := a', c := c', n := n', R := R' }) := hidOf (((((DkR.start HW.out.1).out (O0.out.trans PCW.out)).trans DR1.out)).chgQ cS nq (by have := hqr.out; have := O0.out.size; omega))
      clear cS bS zq zc nq
      refine hKo14.out _ _ ⟨cell_later PS.out cd1, cell_later PS.out c2, cell_later PS.out c5⟩ (fun hHeld14 => ?_)
      try simp only [Act.put, List.setIfInBounds_toArray, List.set_cons_zero, List.set_cons_succ]
      refine tkLB [15] ?_
      iterate 1 (refine tkLC (v := ?_) rfl rfl (by kernel_rfl) (by kernel_rfl) (by kernel_rfl) (fun _ _ _ h => h) (by rfl) (by assumption) ?_ ?_; rotate_left; (· (intro w hSw; (try dsimp only at hSw); go_simp; (try with_reducible rfl))); simp only [Act.put, List.setIfInBounds_toArray, List.set_cons_zero, List.set_cons_succ])
      refine tkLE ?_
      refine wpAnyH_done (by kernel_rfl) ?_ _
      go_upto_region 30 with fail
      refine wp_region_held_drew (S := (fun w' => w'.cell? ⟨d, 0, none⟩ = some (.pointer (some ⟨t.s, 0, none⟩)) ∧ w'.cell? ⟨p, 0, none⟩ = some (.int .i64 which) ∧ w'.cell? ⟨p, 1, none⟩ = some (.int .i64 6) ∧ w'.cell? ⟨p, 2, none⟩ = some (.int .u64 at_) ∧ w'.cell? ⟨p, 3, none⟩ = some (.int .i64 N) ∧ w'.cell? ⟨p, 4, none⟩ = some (.int .u64 x) ∧ w'.cell? ⟨p, 5, none⟩ = some (.slice da k dc))) (by kernel_rfl) ?_ (fun hHeld => ?_)
      · exact ⟨cell_later PS.out.drew cd0, cell_later PS.out.drew c0, cell_later PS.out.drew c1, cell_later PS.out.drew c2, cell_later PS.out.drew c3, cell_later PS.out.drew c4, cell_later PS.out.drew c5⟩
      refine tkLB [0, 1, 2, 3, 4, 5, 6, 7] ?_
      iterate 8 (refine tkLC (v := ?_) rfl rfl (by kernel_rfl) (by kernel_rfl) (by kernel_rfl) (fun _ _ _ h => h) (by rfl) (by assumption) ?_ ?_; rotate_left; (· (intro w hSw; (try dsimp only at hSw); go_simp; (try with_reducible rfl))); simp only [Act.put, List.setIfInBounds_toArray, List.set_cons_zero, List.set_cons_succ])
      refine tkLE ?_
      refine wpAnyH_ready (rs := [8]) (by kernel_rfl) (by simp) ?_
      refine (AllReadyH.cons rfl (fun Ko8 hKo8 => ?_) AllReadyH.nil)
      rw [if_pos (by rfl)]
      go_simp
      go_at_call 23
      refine (LDC.out _ a' c' n' R' (DRS.out.out (Out.refl wS).drew)).mono ?_
      rintro e w2 ⟨g, mm, RR, ba, bc, rfl, hra, hlc, wL, hoL, hcL, hgL, hmL⟩
      have DR2 : Hid (DkR B d m w t w2 { t with a := a', c := c', n := n', R := R', bv := .slice (some ⟨g, 0, none⟩) mm mm, N := (k : Int) }) := hidOf (((DRS.out.out (Out.refl wS).drew).out hoL).lend hcL hgL hlc hmL)
      have hpL : ¬ SL d g p := fun hs => by
        have h6 := (HW.out.1.lt (.inr (.inr (.inl rfl)))).2
        have h7 := O0.out.size
        have h8 := NPS.out
        have h9 := PS.out.size
        have h10 := hoL.size
        rcases hs with e | e
        · rw [hp.out] at e; omega
        · rcases hgL with e2 | e2
          · have := (HW.out.1.bf.lt e2).2; rw [hp.out] at e; omega
          · have h11 : wS.heap.size ≤ wL.heap.size := h10
            omega
      have f0 := hcL.cell (cell_later (Out.trans PS.out.drew hoL) c0) hpL
      have f1 := hcL.cell (cell_later (Out.trans PS.out.drew hoL) c1) hpL
      have f2 := hcL.cell (cell_later (Out.trans PS.out.drew hoL) c2) hpL
      have f3 := hcL.cell (cell_later (Out.trans PS.out.drew hoL) c3) hpL
      have f4 := hcL.cell (cell_later (Out.trans PS.out.drew hoL) c4) hpL
      have f5 := hcL.cell (cell_later (Out.trans PS.out.drew hoL) c5) hpL
      have fd0 : w2.cell? ⟨d, 0, none⟩ = some (.pointer (some ⟨t.s, 0, none⟩)) := (cell_B DR2.out.dk.blk 0).trans rfl
      have hqL : ¬ SL d g q := fun hs => by
        have h6 := (HW.out.1.lt (.inr (.inr (.inl rfl)))).2
        have h7 := O0.out.size
        have h8 := hqr.out
        have h9 := (Array.getElem?_eq_some_iff.1 BS.out).1
        have h11 : wS.heap.size ≤ wL.heap.size := hoL.size
        rcases hs with e | e
        · omega
        · rcases hgL with e2 | e2
          · have := (HW.out.1.bf.lt e2).2; omega
          · omega
      have fq : w2.cell? ⟨q, 0, none⟩ = some (.slice a' n' c') := hcL.cell (cell_later hoL (show wS.drew.cell? _ = _ from (cell_B BS.out 0).trans rfl)) hqL
      have RA2 := hidOf hra
      have LC2 := hidOf hlc
      have HML := hidOf hmL
      have NGP : Hid (¬ p = g) := hidOf (fun e => hpL (.inr e))
      have NG : Hid (¬ q = g) := hidOf (fun e => hqL (.inr e))
      clear hpL hqL hra hlc hoL hcL hgL hmL
      refine hKo8.out _ _ ⟨fd0, f0, f1, f2, f3, f4, f5⟩ (fun hHeld8 => ?_)
      try simp only [Act.put, List.setIfInBounds_toArray, List.set_cons_zero, List.set_cons_succ]
      refine wpAnyH_ready (rs := [9]) (by kernel_rfl) (by simp) ?_
      refine (AllReadyH.cons rfl (fun Ko9 hKo9 => ?_) AllReadyH.nil)
      rw [if_pos (by rfl)]
      go_simp
      go_at_call 35
      refine (MC.out _ a' c' n' R' _ _ DR2.out ba bc RA2.out).mono ?_
      rintro e w3 ⟨v1', v2', X', Y', rfl, hdr2, hpm2, hch2⟩
      have DR3 := hidOf hdr2
      have PM2 := hidOf hpm2
      have LC3 := hidOf (LC2.out.chg hch2 (fun hk => DR2.out.dk.AL _ hk (.inl rfl)) (fun hk => DR2.out.dk.AL _ hk (.inr rfl)))
      have gd0 : w3.cell? ⟨d, 0, none⟩ = some (.pointer (some ⟨t.s, 0, none⟩)) := (cell_B hdr2.dk.blk 0).trans rfl
      have g0 := hch2.cell f0 (NP.out p (by rw [hp.out]; exact Nat.le_refl _))
      have g1 := hch2.cell f1 (NP.out p (by rw [hp.out]; exact Nat.le_refl _))
      have g2 := hch2.cell f2 (NP.out p (by rw [hp.out]; exact Nat.le_refl _))
      have g3 := hch2.cell f3 (NP.out p (by rw [hp.out]; exact Nat.le_refl _))
      have g4 := hch2.cell f4 (NP.out p (by rw [hp.out]; exact Nat.le_refl _))
      have g5 := hch2.cell f5 (NP.out p (by rw [hp.out]; exact Nat.le_refl _))
      have gq := hch2.cell fq (NP.out q (by have := hqr.out; have := O0.out.size; omega))
      clear hdr2 hpm2 hch2
      refine hKo9.out _ _ ⟨gd0, g0, g1, g2, g3, g4, g5⟩ (fun hHeld9 => ?_)
      try simp only [Act.put, List.setIfInBounds_toArray, List.set_cons_zero, List.set_cons_succ]
      refine tkLB [10] ?_
      iterate 1 (refine tkLC (v := ?_) rfl rfl (by kernel_rfl) (by kernel_rfl) (by kernel_rfl) (fun _ _ _ h => h) (by rfl) (by assumption) ?_ ?_; rotate_left; (· (intro w hSw; (try dsimp only at hSw); go_simp; (try with_reducible rfl))); simp only [Act.put, List.setIfInBounds_toArray, List.set_cons_zero, List.set_cons_succ])
      refine tkLE ?_
      refine wpAnyH_done (by kernel_rfl) ?_ _
      have BC := hidOf (backC_any w3.drew d 2 g mm _ l RR (by have h9 := LC3.out; rw [hk.out] at h9; exact h9.drew) B da dc (restKeep HR.out HW.out.1 (DR3.out.out (Out.refl w3).drew)) (by rw [← hk.out]; omega))
      rw [← hk.out] at BC
      go_upto_region 31 with fail
      refine wp_region_held_drew (S := (fun w' => w'.cell? ⟨p, 5, none⟩ = some (.slice da k dc))) (by kernel_rfl) ?_ (fun hHeld => ?_)
      · exact g5
      refine tkLB [0, 1, 2, 3, 4] ?_
      iterate 5 (refine tkLC (v := ?_) rfl rfl (by kernel_rfl) (by kernel_rfl) (by kernel_rfl) (fun _ _ _ h => h) (by rfl) (by assumption) ?_ ?_; rotate_left; (· (intro w hSw; (try dsimp only at hSw); go_simp; (try with_reducible rfl))); simp only [Act.put, List.setIfInBounds_toArray, List.set_cons_zero, List.set_cons_succ])
      refine tkLE ?_
      refine wpAnyH_ready (rs := [5]) (by kernel_rfl) (by simp) ?_
      refine (AllReadyH.cons rfl (fun Ko5 hKo5 => ?_) AllReadyH.nil)
      rw [if_pos (by rfl)]
      go_simp
      go_at_call 24
      refine (BC.out).mono ?_
      rintro e w4 ⟨rfl, ⟨L4, hl4⟩, hc4⟩
      have DR4 := hidOf ((DR3.out.out (Out.refl w3).drew).lend hc4 (.inl rfl) hl4 HML.out)
      have hq4 : ¬ SL d g q := fun hs => by
        have h6 := (HW.out.1.lt (.inr (.inr (.inl rfl)))).2
        have h7 := O0.out.size
        have h8 := hqr.out
        rcases hs with e | e
        · omega
        · exact NG.out e
      have jq := hc4.cell (show w3.drew.cell? _ = _ from gq) hq4
      have hp4 : ¬ SL d g p := fun hs => by
        have h6 := (HW.out.1.lt (.inr (.inr (.inl rfl)))).2
        rcases hs with e | e
        · rw [hp.out] at e; omega
        · exact NGP.out e
      have j5 := hc4.cell (show w3.drew.cell? _ = _ from g5) hp4
      have zd : w4.frozen? ⟨d, 1, none⟩ = false := froz_B DR4.out.dk.blk 1
      have zc : w4.cell? ⟨d, 1, none⟩ = some t.cv := (cell_B DR4.out.dk.blk 1).trans rfl
      clear hc4 hl4 hq4 hp4
      refine hKo5.out _ _ j5 (fun hHeld5 => ?_)
      try simp only [Act.put, List.setIfInBounds_toArray, List.set_cons_zero, List.set_cons_succ]
      refine tkLB [6] ?_
      iterate 1 (refine tkLC (v := ?_) rfl rfl (by kernel_rfl) (by kernel_rfl) (by kernel_rfl) (fun _ _ _ h => h) (by rfl) (by assumption) ?_ ?_; rotate_left; (· (intro w hSw; (try dsimp only at hSw); go_simp; (try with_reducible rfl))); simp only [Act.put, List.setIfInBounds_toArray, List.set_cons_zero, List.set_cons_succ])
      refine tkLE ?_
      refine wpAnyH_done (by kernel_rfl) ?_ _
      go_wp2_with (go_at_call 18; refine (NC.out _ _).mono ?_; rintro e wx ⟨rfl, hx0⟩; subst hx0)
      refine bodyPost_ret (results_tmp3 rfl _ _ _) rfl ?_
      exact ⟨_, _, _, by first | rfl | simp, (DR4.out.setR _).mono (by omega), rfl, (by show (R'.map fdR).Perm _; rw [MP.out]; exact PM2.out), (fun hq hq2 => by show BdP (R'.map fdR); rw [MP.out]; exact BD.out hq hq2), OutS.nil _ _ _ _ _⟩
  · rw [if_pos (by rfl)]
    go_simp
    obtain ⟨wA, HA, hA⟩ : ∃ wA, Hid (wA = (w0.alloc (.cells #[.slice none 0 0] 47)).drew) ∧ Hid (wA.heap[w0.heap.size]? = some (.cells #[.slice none 0 0] 47 (0, 0))) := ⟨_, rfl, hidOf (heap_alloc_new w0 _)⟩
    have PA : Hid (Out w0 wA) := hidOf (by rw [HA.out]; exact ((Out.refl w0).alloc _).drew)
    rw [← HA.out]
    obtain ⟨q, hq⟩ : ∃ q, Hid (q = w0.heap.size) := ⟨_, rfl⟩
    have hqr : Hid (w0.heap.size ≤ q) := hidOf (by rw [hq.out]; exact Nat.le_refl _)
    rw [← hq.out] at hA
    have hqA : Hid (q < wA.heap.size) := hidOf (Array.getElem?_eq_some_iff.1 hA.out).1
    rw [← hq.out]
    refine hKo13.out _ _ ⟨cell_later PA.out cd1, cell_later PA.out c2, cell_later PA.out c5⟩ (fun hHeld13 => ?_)
    try simp only [Act.put, List.setIfInBounds_toArray, List.set_cons_zero, List.set_cons_succ]
    refine wpAnyH_ready (rs := [8]) (by kernel_rfl) (by simp) ?_
    refine (AllReadyH.cons rfl (fun Ko8 hKo8 => ?_) AllReadyH.nil)
    rw [if_pos (by rfl)]
    go_simp
    go_at_call 21
    refine (CC.out _ PA.out).mono ?_
    rintro e wc ⟨ca, cc, rfl, hrc, hoc⟩
    have RC := hidOf hrc
    have Pc := hidOf (Out.trans PA.out hoc)
    have hA2 := hidOf (blk_out hA.out hoc)
    have SA := hidOf (Nat.lt_of_lt_of_le hqA.out hoc.size)
    clear hrc hoc
    refine hKo8.out _ _ ⟨cell_later Pc.out cd1, cell_later Pc.out c2, cell_later Pc.out c5⟩ (fun hHeld8 => ?_)
    try simp only [Act.put, List.setIfInBounds_toArray, List.set_cons_zero, List.set_cons_succ]
    refine wpAnyH_ready (rs := [9]) (by kernel_rfl) (by simp) ?_
    refine (AllReadyH.cons rfl (fun Ko9 hKo9 => ?_) AllReadyH.nil)
    rw [if_pos (by rfl)]
    go_simp
    go_at_call 34
    refine (QC.out _ Pc.out ca cc RC.out).mono ?_
    rintro e w1 ⟨a', c', n', R', rfl, hdr, hmap, ho1⟩
    have DR1 := hidOf hdr
    have MP := hidOf hmap
    have P1 := hidOf (Out.trans Pc.out ho1)
    have PCW : Hid (Out w0 wc) := hidOf Pc.out
    have hA1 := hidOf (blk_out hA2.out ho1)
    have SQ : Hid (q < wc.heap.size) := SA
    clear hdr hmap ho1
    refine hKo9.out _ _ ⟨cell_later P1.out cd1, cell_later P1.out c2, cell_later P1.out c5⟩ (fun hHeld9 => ?_)
    try simp only [Act.put, List.setIfInBounds_toArray, List.set_cons_zero, List.set_cons_succ]
    refine tkLB [10, 11, 12] ?_
    iterate 3 (refine tkLC (v := ?_) rfl rfl (by kernel_rfl) (by kernel_rfl) (by kernel_rfl) (fun _ _ _ h => h) (by rfl) (by assumption) ?_ ?_; rotate_left; (· (intro w hSw; (try dsimp only at hSw); go_simp; (try with_reducible rfl))); simp only [Act.put, List.setIfInBounds_toArray, List.set_cons_zero, List.set_cons_succ])
    refine tkLE ?_
    refine wpAnyH_ready (rs := [14]) (by kernel_rfl) (by simp) ?_
    refine (AllReadyH.cons rfl (fun Ko14 hKo14 => ?_) AllReadyH.nil)
    have zq : w1.frozen? ⟨q, 0, none⟩ = false := froz_B hA1.out 0
    have zc : w1.cell? ⟨q, 0, none⟩ = some (.slice none 0 0) := by rw [cell_B hA1.out] <;> rfl
    rw [if_pos (by rfl)]
    go_simp
    obtain ⟨wS, HS, bS, cS⟩ : ∃ wS, Hid (wS = w1.setCell ⟨q, 0, none⟩ (.slice a' n' c')) ∧ wS.heap[q]? = some (.cells #[.slice a' n' c'] 47 (0, 0)) ∧ Chg (fun b => b = q) w1 wS := ⟨_, rfl, set_B hA1.out 0 _, (Chg.refl (fun b => b = q) w1).setCell rfl _⟩
    rw [← HS.out]
    have PS : Hid (Out w0 wS) := hidOf (Chg.out cS P1.out (fun b hb => by have := hqr.out; omega))
    have BS := hidOf bS
    have nq : ¬ DkT.fp { t with a := a', c := c', n := n', R := R' } d q := fun hk => by
      have hz := hqr.out
      have ho := O0.out.size
      have hsq := SQ.out
      rcases DR1.out.new q hk with e | e
      · have := (HW.out.1.lt e).2; omega
      · omega
    have DRS : Hid (DkR B d m w t wS { t with a := a', c := c', n := n', R := R' }) := hidOf (((((DkR.start HW.out.1).out (O0.out.trans PCW.out)).trans DR1.out)).chgQ cS nq (by have := hqr.out; have := O0.out.size; omega))
    clear cS bS zq zc nq
    refine hKo14.out _ _ ⟨cell_later PS.out cd1, cell_later PS.out c2, cell_later PS.out c5⟩ (fun hHeld14 => ?_)
    try simp only [Act.put, List.setIfInBounds_toArray, List.set_cons_zero, List.set_cons_succ]
    refine tkLB [15] ?_
    iterate 1 (refine tkLC (v := ?_) rfl rfl (by kernel_rfl) (by kernel_rfl) (by kernel_rfl) (fun _ _ _ h => h) (by rfl) (by assumption) ?_ ?_; rotate_left; (· (intro w hSw; (try dsimp only at hSw); go_simp; (try with_reducible rfl))); simp only [Act.put, List.setIfInBounds_toArray, List.set_cons_zero, List.set_cons_succ])
    refine tkLE ?_
    refine wpAnyH_done (by kernel_rfl) ?_ _
    go_upto_region 30 with fail
    refine wp_region_held_drew (S := (fun w' => w'.cell? ⟨d, 0, none⟩ = some (.pointer (some ⟨t.s, 0, none⟩)) ∧ w'.cell? ⟨p, 0, none⟩ = some (.int .i64 which) ∧ w'.cell? ⟨p, 1, none⟩ = some (.int .i64 6) ∧ w'.cell? ⟨p, 2, none⟩ = some (.int .u64 at_) ∧ w'.cell? ⟨p, 3, none⟩ = some (.int .i64 N) ∧ w'.cell? ⟨p, 4, none⟩ = some (.int .u64 x) ∧ w'.cell? ⟨p, 5, none⟩ = some (.slice da k dc))) (by kernel_rfl) ?_ (fun hHeld => ?_)
    · exact ⟨cell_later PS.out.drew cd0, cell_later PS.out.drew c0, cell_later PS.out.drew c1, cell_later PS.out.drew c2, cell_later PS.out.drew c3, cell_later PS.out.drew c4, cell_later PS.out.drew c5⟩
    refine tkLB [0, 1, 2, 3, 4, 5, 6, 7] ?_
    iterate 8 (refine tkLC (v := ?_) rfl rfl (by kernel_rfl) (by kernel_rfl) (by kernel_rfl) (fun _ _ _ h => h) (by rfl) (by assumption) ?_ ?_; rotate_left; (· (intro w hSw; (try dsimp only at hSw); go_simp; (try with_reducible rfl))); simp only [Act.put, List.setIfInBounds_toArray, List.set_cons_zero, List.set_cons_succ])
    refine tkLE ?_
    refine wpAnyH_ready (rs := [8]) (by kernel_rfl) (by simp) ?_
    refine (AllReadyH.cons rfl (fun Ko8 hKo8 => ?_) AllReadyH.nil)
    rw [if_pos (by rfl)]
    go_simp
    go_at_call 23
    refine (LDC.out _ a' c' n' R' (DRS.out.out (Out.refl wS).drew)).mono ?_
    rintro e w2 ⟨g, mm, RR, ba, bc, rfl, hra, hlc, wL, hoL, hcL, hgL, hmL⟩
    have DR2 : Hid (DkR B d m w t w2 { t with a := a', c := c', n := n', R := R', bv := .slice (some ⟨g, 0, none⟩) mm mm, N := (k : Int) }) := hidOf (((DRS.out.out (Out.refl wS).drew).out hoL).lend hcL hgL hlc hmL)
    have hpL : ¬ SL d g p := fun hs => by
      have h6 := (HW.out.1.lt (.inr (.inr (.inl rfl)))).2
      have h7 := O0.out.size
      have h8 := NPS.out
      have h9 := PS.out.size
      have h10 := hoL.size
      rcases hs with e | e
      · rw [hp.out] at e; omega
      · rcases hgL with e2 | e2
        · have := (HW.out.1.bf.lt e2).2; rw [hp.out] at e; omega
        · have h11 : wS.heap.size ≤ wL.heap.size := h10
          omega
    have f0 := hcL.cell (cell_later (Out.trans PS.out.drew hoL) c0) hpL
    have f1 := hcL.cell (cell_later (Out.trans PS.out.drew hoL) c1) hpL
    have f2 := hcL.cell (cell_later (Out.trans PS.out.drew hoL) c2) hpL
    have f3 := hcL.cell (cell_later (Out.trans PS.out.drew hoL) c3) hpL
    have f4 := hcL.cell (cell_later (Out.trans PS.out.drew hoL) c4) hpL
    have f5 := hcL.cell (cell_later (Out.trans PS.out.drew hoL) c5) hpL
    have fd0 : w2.cell? ⟨d, 0, none⟩ = some (.pointer (some ⟨t.s, 0, none⟩)) := (cell_B DR2.out.dk.blk 0).trans rfl
    have hqL : ¬ SL d g q := fun hs => by
      have h6 := (HW.out.1.lt (.inr (.inr (.inl rfl)))).2
      have h7 := O0.out.size
      have h8 := hqr.out
      have h9 := (Array.getElem?_eq_some_iff.1 BS.out).1
      have h11 : wS.heap.size ≤ wL.heap.size := hoL.size
      rcases hs with e | e
      · omega
      · rcases hgL with e2 | e2
        · have := (HW.out.1.bf.lt e2).2; omega
        · omega
    have fq : w2.cell? ⟨q, 0, none⟩ = some (.slice a' n' c') := hcL.cell (cell_later hoL (show wS.drew.cell? _ = _ from (cell_B BS.out 0).trans rfl)) hqL
    have RA2 := hidOf hra
    have LC2 := hidOf hlc
    have HML := hidOf hmL
    have NGP : Hid (¬ p = g) := hidOf (fun e => hpL (.inr e))
    have NG : Hid (¬ q = g) := hidOf (fun e => hqL (.inr e))
    clear hpL hqL hra hlc hoL hcL hgL hmL
    refine hKo8.out _ _ ⟨fd0, f0, f1, f2, f3, f4, f5⟩ (fun hHeld8 => ?_)
    try simp only [Act.put, List.setIfInBounds_toArray, List.set_cons_zero, List.set_cons_succ]
    refine wpAnyH_ready (rs := [9]) (by kernel_rfl) (by simp) ?_
    refine (AllReadyH.cons rfl (fun Ko9 hKo9 => ?_) AllReadyH.nil)
    rw [if_pos (by rfl)]
    go_simp
    go_at_call 35
    refine (MC.out _ a' c' n' R' _ _ DR2.out ba bc RA2.out).mono ?_
    rintro e w3 ⟨v1', v2', X', Y', rfl, hdr2, hpm2, hch2⟩
    have DR3 := hidOf hdr2
    have PM2 := hidOf hpm2
    have LC3 := hidOf (LC2.out.chg hch2 (fun hk => DR2.out.dk.AL _ hk (.inl rfl)) (fun hk => DR2.out.dk.AL _ hk (.inr rfl)))
    have gd0 : w3.cell? ⟨d, 0, none⟩ = some (.pointer (some ⟨t.s, 0, none⟩)) := (cell_B hdr2.dk.blk 0).trans rfl
    have g0 := hch2.cell f0 (NP.out p (by rw [hp.out]; exact Nat.le_refl _))
    have g1 := hch2.cell f1 (NP.out p (by rw [hp.out]; exact Nat.le_refl _))
    have g2 := hch2.cell f2 (NP.out p (by rw [hp.out]; exact Nat.le_refl _))
    have g3 := hch2.cell f3 (NP.out p (by rw [hp.out]; exact Nat.le_refl _))
    have g4 := hch2.cell f4 (NP.out p (by rw [hp.out]; exact Nat.le_refl _))
    have g5 := hch2.cell f5 (NP.out p (by rw [hp.out]; exact Nat.le_refl _))
    have gq := hch2.cell fq (NP.out q (by have := hqr.out; have := O0.out.size; omega))
    clear hdr2 hpm2 hch2
    refine hKo9.out _ _ ⟨gd0, g0, g1, g2, g3, g4, g5⟩ (fun hHeld9 => ?_)
    try simp only [Act.put, List.setIfInBounds_toArray, List.set_cons_zero, List.set_cons_succ]
    refine tkLB [10] ?_
    iterate 1 (refine tkLC (v := ?_) rfl rfl (by kernel_rfl) (by kernel_rfl) (by kernel_rfl) (fun _ _ _ h => h) (by rfl) (by assumption) ?_ ?_; rotate_left; (· (intro w hSw; (try dsimp only at hSw); go_simp; (try with_reducible rfl))); simp only [Act.put, List.setIfInBounds_toArray, List.set_cons_zero, List.set_cons_succ])
    refine tkLE ?_
    refine wpAnyH_done (by kernel_rfl) ?_ _
    have BC := hidOf (backC_any w3.drew d 2 g mm _ l RR (by have h9 := LC3.out; rw [hk.out] at h9; exact h9.drew) B da dc (restKeep HR.out HW.out.1 (DR3.out.out (Out.refl w3).drew)) (by rw [← hk.out]; omega))
    rw [← hk.out] at BC
    go_upto_region 31 with fail
    refine wp_region_held_drew (S := (fun w' => w'.cell? ⟨p, 5, none⟩ = some (.slice da k dc))) (by kernel_rfl) ?_ (fun hHeld => ?_)
    · exact g5
    refine tkLB [0, 1, 2, 3, 4] ?_
    iterate 5 (refine tkLC (v := ?_) rfl rfl (by kernel_rfl) (by kernel_rfl) (by kernel_rfl) (fun _ _ _ h => h) (by rfl) (by assumption) ?_ ?_; rotate_left; (· (intro w hSw; (try dsimp only at hSw); go_simp; (try with_reducible rfl))); simp only [Act.put, List.setIfInBounds_toArray, List.set_cons_zero, List.set_cons_succ])
    refine tkLE ?_
    refine wpAnyH_ready (rs := [5]) (by kernel_rfl) (by simp) ?_
    refine (AllReadyH.cons rfl (fun Ko5 hKo5 => ?_) AllReadyH.nil)
    rw [if_pos (by rfl)]
    go_simp
    go_at_call 24
    refine (BC.out).mono ?_
    rintro e w4 ⟨rfl, ⟨L4, hl4⟩, hc4⟩
    have DR4 := hidOf ((DR3.out.out (Out.refl w3).drew).lend hc4 (.inl rfl) hl4 HML.out)
    have hq4 : ¬ SL d g q := fun hs => by
      have h6 := (HW.out.1.lt (.inr (.inr (.inl rfl)))).2
      have h7 := O0.out.size
      have h8 := hqr.out
      rcases hs with e | e
      · omega
      · exact NG.out e
    have jq := hc4.cell (show w3.drew.cell? _ = _ from gq) hq4
    have hp4 : ¬ SL d g p := fun hs => by
      have h6 := (HW.out.1.lt (.inr (.inr (.inl rfl)))).2
      rcases hs with e | e
      · rw [hp.out] at e; omega
      · exact NGP.out e
    have j5 := hc4.cell (show w3.drew.cell? _ = _ from g5) hp4
    have zd : w4.frozen? ⟨d, 1, none⟩ = false := froz_B DR4.out.dk.blk 1
    have zc : w4.cell? ⟨d, 1, none⟩ = some t.cv := (cell_B DR4.out.dk.blk 1).trans rfl
    clear hc4 hl4 hq4 hp4
    refine hKo5.out _ _ j5 (fun hHeld5 => ?_)
    try simp only [Act.put, List.setIfInBounds_toArray, List.set_cons_zero, List.set_cons_succ]
    refine tkLB [6] ?_
    iterate 1 (refine tkLC (v := ?_) rfl rfl (by kernel_rfl) (by kernel_rfl) (by kernel_rfl) (fun _ _ _ h => h) (by rfl) (by assumption) ?_ ?_; rotate_left; (· (intro w hSw; (try dsimp only at hSw); go_simp; (try with_reducible rfl))); simp only [Act.put, List.setIfInBounds_toArray, List.set_cons_zero, List.set_cons_succ])
    refine tkLE ?_
    refine wpAnyH_done (by kernel_rfl) ?_ _
    go_wp2_with (go_at_call 18; refine (NC.out _ _).mono ?_; rintro e wx ⟨rfl, hx0⟩; subst hx0)
    refine bodyPost_ret (results_tmp3 rfl _ _ _) rfl ?_
    exact ⟨_, _, _, by first | rfl | simp, (DR4.out.setR _).mono (by omega), rfl, (by show (R'.map fdR).Perm _; rw [MP.out]; exact PM2.out), (fun hq hq2 => by show BdP (R'.map fdR); rw [MP.out]; exact BD.out hq hq2), OutS.nil _ _ _ _ _⟩
end Go.Proofs.YtekjfbmebekmeaaGreat
