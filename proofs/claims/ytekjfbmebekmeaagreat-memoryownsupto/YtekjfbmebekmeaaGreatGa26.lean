import Derived.Test.YtekjfbmebekmeaaGreatGa23
namespace Go.Proofs.YtekjfbmebekmeaaGreat
open Go.RowKit
set_option linter.unusedVariables false
set_option linter.unusedSimpArgs false
def NewQ (L : List RI) (n : Nat) (w : World) (e : Ending) (w' : World) : Prop :=
  Out w w' ∧ (¬ okQ (L.map fdI) ∧ e = .returned (.tuple #[.agg #[.slice none 0 0], .int .i64 201]) ∨
  okQ (L.map fdI) ∧ ∃ a' c', ∃ R : List Rg, e = .returned (.tuple #[.agg #[.slice a' n c'], .int .i64 0]) ∧ RLs w.heap.size w' a' c' n R ∧ R.map fdR = L.map fdI)
set_option maxHeartbeats 4000000 in
set_option maxRecDepth 100000 in
theorem refNew_any (w : World) (a : Option Addr) (c : Nat) (L : List RI) (h : InR w a L) (hL : ∀ x ∈ L, x.f < 18446744073709551616 ∧ x.d.length ≤ 140737488355328) (hn : L.length ≤ 4398046511103) :
    Calls Tryz.prog 13 #[.slice a L.length c] w fun e w' => NewQ L L.length w e w' := by
  obtain ⟨n, hN⟩ : ∃ n, Hid (n = L.length) := ⟨_, rfl⟩
  rw [← hN.out] at hn ⊢
  obtain ⟨P, hP⟩ : ∃ P, Hid (P = L.map fdI) := ⟨_, rfl⟩
  have hpl : Hid (P.length = n) := hidOf (by rw [hP.out, List.length_map, hN.out])
  have HI := hidOf h
  have HL := hidOf hL
  have HNN := hidOf hn
  clear h hL
  obtain ⟨p, hp⟩ : ∃ p, Hid (p = w.heap.size) := ⟨_, rfl⟩
  obtain ⟨w0, H0, bp, b1, o0, s0⟩ : ∃ w0, Hid (w0 = (w.alloc (.cells #[.slice none 0 0] 47)).alloc (.cells #[.slice none 0 0] 47)) ∧ w0.heap[p]? = some (.cells #[.slice none 0 0] 47 (0, 0)) ∧ w0.heap[p + 1]? = some (.cells #[.slice none 0 0] 47 (0, 0)) ∧ Out w w0 ∧ w0.heap.size = p + 2 := by
    have s1 : (w.alloc (.cells #[.slice none 0 0] 47)).heap.size = p + 1 := by rw [size_alloc, hp.out]
    refine ⟨_, rfl, ?_, ?_, ((Out.refl w).alloc _).alloc _, by rw [size_alloc, s1]⟩
    · refine blk_out ?_ ((Out.refl _).alloc _)
      rw [hp.out]; exact heap_alloc_new w _
    · rw [← s1]; exact heap_alloc_new _ _
  have O0 := hidOf o0
  have BP := hidOf bp
  have B1 := hidOf b1
  clear o0 s0 bp b1
  go_enter Tryz.func13, Tryz.ntmps13
  go_upto_region 2 with fail
  rw [← hp.out]
  rw [← H0.out]
  go_wp2
  go_loopw [5] (fun kv wr => ∃ (k : Nat) (oa : Option Addr) (oc : Nat) (R : List Rg), kv = .int .i64 (k : Nat) ∧ k ≤ n ∧ Hid (wr.heap[p]? = some (.cells #[.slice none 0 0] 47 (0, 0))) ∧ Hid (wr.heap[p + 1]? = some (.cells #[.slice oa k oc] 47 (0, 0))) ∧ Hid (RLs p wr oa oc k R) ∧ Hid (R.map fdR = P.take k) ∧ Hid (okQ (P.take k)) ∧ Hid (Out w wr)) (fun kv _ => n - (intOf kv).toNat)
  case atStart => exact ⟨0, none, 0, [], rfl, Nat.zero_le _, BP, B1, hidOf ⟨World.ownsRow_nil _ _ _ _, by simp⟩, hidOf (by simp), hidOf (okQ_nil P), O0⟩
  case round =>
    obtain ⟨k, oa, oc, R, rfl, hk, KP, K1, RL, EQ, OK, OR⟩ := hrel
    have cs1 : wr.cell? ⟨p + 1, 0, none⟩ = some (.slice oa k oc) := by rw [cell_B K1.out] <;> rfl
    by_cases hkn : k < n
    · have hlt : (k : Int) < n := by omega
      obtain ⟨x, hx⟩ : ∃ x, L[k]? = some x := ⟨_, List.getElem?_eq_getElem (by rw [← hN.out]; exact hkn)⟩
      obtain ⟨g, o, rfl, hcs⟩ : ∃ g o, a = some ⟨g, o, none⟩ ∧ _ := HI.out.resolve_left (fun e => by rw [e] at hx; simp at hx)
      obtain ⟨q0, q1, q2⟩ := hcs k x hx
      have p0 := cell_later OR.out q0
      have p1 := cell_later OR.out q1
      have hgp : g < p := by
        rw [hp.out]
        by_cases hg : g < w.heap.size
        · exact hg
        · simp [World.cell?, Array.getElem?_eq_none (Nat.le_of_not_lt hg)] at q0
      have hpx : P[k]? = some (fdI x) := by rw [hP.out, List.getElem?_map, hx]; rfl
      have hxm := HL.out _ (List.mem_of_getElem? hx)
      obtain ⟨xf, xa, xc, xd⟩ := x
      obtain ⟨xn, hxn⟩ : ∃ xn, Hid (xn = xd.length) := ⟨_, rfl⟩
      simp only [fdI] at hpx
      simp only at p0 p1 q2 hxm
      have hRk : R.length = k := by have := congrArg List.length EQ.out; rw [List.length_map, List.length_take, hpl.out] at this; omega
      have hRb : ∀ z ∈ R, z.d.length ≤ 140737488355328 ∧ z.f < 18446744073709551616 := fun z hz => by
        have h1 : fdR z ∈ P.take k := by rw [← EQ.out]; exact List.mem_map.2 ⟨z, hz, rfl⟩
        have h2 := List.mem_of_mem_take h1
        rw [hP.out] at h2
        obtain ⟨y, hy, ey⟩ := List.mem_map.1 h2
        have h3 := HL.out y hy
        simp only [fdI, fdR, Prod.mk.injEq] at ey
        rw [ey.1, ey.2] at h3
        exact ⟨h3.2, h3.1⟩
      have ADC : Hid (∀ W, Out wr W → Calls Tryz.prog 20 #[.agg #[.slice oa k oc], .agg #[.int .u64 xf, .slice xa xn xc]] W fun e w' => AddQ oa oc k R xf xd W e w') := hidOf (fun W o => by
        rw [hxn.out]
        exact refAdd_any W p oa oc k R xf xc xa xd (RL.out.out o) hRk hRb (by have := HNN.out; omega) ((q2.out OR.out).out o) hxm.2 hxm.1)
      rw [← hxn.out] at p1
      have HPX := hidOf hpx
      clear hcs q0 q1 q2 hx hxm hRk hRb hpx
      have hps : p + 1 < wr.heap.size := (Array.getElem?_eq_some_iff.1 K1.out).1
      cases hno : noQ (R.map fdR) xf xd.length with
      | true =>
        have ADN : Hid (∀ W, Out wr W → Calls Tryz.prog 20 #[.agg #[.slice oa k oc], .agg #[.int .u64 xf, .slice xa xn xc]] W fun e w' => e = .returned (.tuple #[.agg #[.slice oa k oc], .int .i64 201]) ∧ Out W w') := hidOf (fun W o => (ADC.out W o).mono fun e w' h1 => by
          rcases h1 with ⟨ho, ⟨_, he⟩ | ⟨h2, _⟩⟩
          · exact ⟨he, ho⟩
          · rw [hno] at h2; cases h2)
        have HNO := hidOf hno
        clear hno ADC
        go_upto_region 5 with fail
        refine wp_region_held_drew (S := (fun w' => w'.cell? ⟨p + 1, 0, none⟩ = some (.slice oa k oc) ∧ w'.cell? ⟨g, o + k * 2, none⟩ = some (.int .u64 xf) ∧ w'.cell? ⟨g, o + k * 2 + 1, none⟩ = some (.slice xa xn xc))) (by kernel_rfl) ?_ (fun hHeld => ?_)
        · exact ⟨cs1, p0, p1⟩
        refine tkLB [0, 1, 2, 3, 4] ?_
        iterate 5 (refine tkLC (v := ?_) rfl rfl (by kernel_rfl) (by kernel_rfl) (by kernel_rfl) (fun _ _ _ h => h) (by rfl) (by assumption) ?_ ?_; rotate_left; (· (intro w hSw; (try dsimp only at hSw); go_simp; (try with_reducible rfl))); simp only [Act.put, List.setIfInBounds_toArray, List.set_cons_zero, List.set_cons_succ])
        refine tkLE ?_
        refine wpAnyH_ready (rs := [5, 9]) (by kernel_rfl) (by simp) ?_
        refine (AllReadyH.cons rfl (fun Ko5 hKo5 => ?_) (AllReadyH.cons rfl (fun Ko9 hKo9 => ?_) AllReadyH.nil))
        · rw [if_pos (by rfl)]
          go_simp
          go_at_call 20
          refine (ADN.out _ ((Out.refl wr).drew)).mono ?_
          rintro e w2 ⟨rfl, ho2⟩
          have O2 := hidOf (((Out.refl wr).drew).trans ho2)
          have t1 := cell_later O2.out cs1
          have t2 := cell_later O2.out p0
          have t3 := cell_later O2.out p1
          clear ho2
          refine hKo5.out _ _ ⟨t1, t2, t3⟩ (fun hHeld5 => ?_)
          try simp only [Act.put, List.setIfInBounds_toArray, List.set_cons_zero, List.set_cons_succ]
          refine tkLB [6, 7, 8] ?_
          iterate 3 (refine tkLC (v := ?_) rfl rfl (by kernel_rfl) (by kernel_rfl) (by kernel_rfl) (fun _ _ _ h => h) (by rfl) (by assumption) ?_ ?_; rotate_left; (· (intro w hSw; (try dsimp only at hSw); go_simp; (try with_reducible rfl))); simp only [Act.put, List.setIfInBounds_toArray, List.set_cons_zero, List.set_cons_succ])
          refine tkLE ?_
          refine wpAnyH_ready (rs := [9]) (by kernel_rfl) (by simp) ?_
          refine (AllReadyH.cons rfl (fun Ko9 hKo9 => ?_) AllReadyH.nil)
          rw [if_pos (by rfl)]
          go_simp
          obtain ⟨wA, HA, hA⟩ : ∃ wA, Hid (wA = w2.alloc (.cells #[.slice none 0 0] 47)) ∧ Hid (wA.heap[w2.heap.size]? = some (.cells #[.slice none 0 0] 47 (0, 0))) := ⟨_, rfl, hidOf (heap_alloc_new w2 _)⟩
          have oA2 : Out w2 wA := by rw [HA.out]; exact (Out.refl w2).alloc _
          have OA : Hid (Out wr wA) := hidOf (O2.out.trans oA2)
          rw [← HA.out]
          obtain ⟨q, hq⟩ : ∃ q, Hid (q = w2.heap.size) := ⟨_, rfl⟩
          have hqr : Hid (wr.heap.size ≤ q) := hidOf (by rw [hq.out]; exact O2.out.size)
          have bA := hA
          rw [← hq.out] at bA
          rw [← hq.out]
          refine hKo9.out _ _ ⟨cell_later OA.out cs1, cell_later OA.out p0, cell_later OA.out p1⟩ (fun hHeld9 => ?_)
          try simp only [Act.put, List.setIfInBounds_toArray, List.set_cons_zero, List.set_cons_succ]
          refine wpAnyH_ready (rs := [10]) (by kernel_rfl) (by simp) ?_
          refine (AllReadyH.cons rfl (fun Ko10 hKo10 => ?_) AllReadyH.nil)
          have zq : wA.frozen? ⟨q, 0, none⟩ = false := froz_B bA.out 0
          have zc : wA.cell? ⟨q, 0, none⟩ = some (.slice none 0 0) := by rw [cell_B bA.out] <;> rfl
          rw [if_pos (by rfl)]
          go_simp
          obtain ⟨wS, HS, bS, cS⟩ : ∃ wS, Hid (wS = wA.setCell ⟨q, 0, none⟩ (.slice oa k oc)) ∧ wS.heap[q]? = some (.cells #[.slice oa k oc] 47 (0, 0)) ∧ Chg (fun b => b = q) wA wS := ⟨_, rfl, set_B bA.out 0 _, (Chg.refl (fun b => b = q) wA).setCell rfl _⟩
          rw [← HS.out]
          have OS : Hid (Out wr wS) := hidOf (Chg.out cS OA.out (fun b hb => by have := hqr.out; omega))
          have BS := hidOf bS
          clear cS bS zq zc
          refine hKo10.out _ _ ⟨cell_later OS.out cs1, cell_later OS.out p0, cell_later OS.out p1⟩ (fun hHeld10 => ?_)
          try simp only [Act.put, List.setIfInBounds_toArray, List.set_cons_zero, List.set_cons_succ]
          refine tkLB [11] ?_
          iterate 1 (refine tkLC (v := ?_) rfl rfl (by kernel_rfl) (by kernel_rfl) (by kernel_rfl) (fun _ _ _ h => h) (by rfl) (by assumption) ?_ ?_; rotate_left; (· (intro w hSw; (try dsimp only at hSw); go_simp; (try with_reducible rfl))); simp only [Act.put, List.setIfInBounds_toArray, List.set_cons_zero, List.set_cons_succ])
          refine tkLE ?_
          refine wpAnyH_done (by kernel_rfl) ?_ _
          have KS := hidOf (blk_out KP.out OS.out)
          have zp : wS.frozen? ⟨p, 0, none⟩ = false := froz_B KS.out 0
          have cp0 : wS.cell? ⟨p, 0, none⟩ = some (.slice none 0 0) := by rw [cell_B KS.out] <;> rfl
          have cq : wS.cell? ⟨q, 0, none⟩ = some (.slice oa k oc) := by rw [cell_B BS.out] <;> rfl
          obtain ⟨wT, HT, bT, cT⟩ : ∃ wT, Hid (wT = wS.setCell ⟨p, 0, none⟩ (.slice none 0 0)) ∧ wT.heap[p]? = some (.cells #[.slice none 0 0] 47 (0, 0)) ∧ Chg (fun b => b = p) wS wT := ⟨_, rfl, set_B KS.out 0 _, (Chg.refl (fun b => b = p) wS).setCell rfl _⟩
          have BT := hidOf bT
          have CT := hidOf cT
          clear bT cT
          go_wp2
          rw [← HT.out]
          refine bodyPost_ret (results_cell2 rfl _ _ p 47 _ (0, 0) _ rfl BT.out Tryz.underlying47 rfl (by kernel_rfl)) rfl ?_
          refine ⟨Chg.out CT.out (OR.out.trans OS.out) (fun b hb => by have := hp.out; omega), .inl ⟨?_, rfl⟩⟩
          rw [← hP.out]
          exact okQ_not HPX.out (by rw [← EQ.out]; exact HNO.out)
        · rw [if_pos (by rfl)]
          go_simp
          obtain ⟨wA, HA, hA⟩ : ∃ wA, Hid (wA = (wr.alloc (.cells #[.slice none 0 0] 47)).drew) ∧ Hid (wA.heap[wr.heap.size]? = some (.cells #[.slice none 0 0] 47 (0, 0))) := ⟨_, rfl, hidOf (heap_alloc_new wr _)⟩
          have bA := hA
          have OA : Hid (Out wr wA) := hidOf (by rw [HA.out]; exact ((Out.refl wr).alloc _).drew)
          rw [← HA.out]
          obtain ⟨q, hq⟩ : ∃ q, Hid (q = wr.heap.size) := ⟨_, rfl⟩
          have hqr : Hid (wr.heap.size ≤ q) := hidOf (by rw [hq.out]; exact Nat.le_refl _)
          rw [← hq.out] at bA
          rw [← hq.out]
          refine hKo9.out _ _ ⟨cell_later OA.out cs1, cell_later OA.out p0, cell_later OA.out p1⟩ (fun hHeld9 => ?_)
          try simp only [Act.put, List.setIfInBounds_toArray, List.set_cons_zero, List.set_cons_succ]
          refine wpAnyH_ready (rs := [5]) (by kernel_rfl) (by simp) ?_
          refine (AllReadyH.cons rfl (fun Ko5 hKo5 => ?_) AllReadyH.nil)
          rw [if_pos (by rfl)]
          go_simp
          go_at_call 20
          refine (ADN.out _ (OA.out)).mono ?_
          rintro e w2 ⟨rfl, ho2⟩
          have hoA := ho2
          have O2 := hidOf ((OA.out).trans ho2)
          have t1 := cell_later O2.out cs1
          have t2 := cell_later O2.out p0
          have t3 := cell_later O2.out p1
          clear ho2
          have bA2 := blk_out bA.out (show Out wA w2 from hoA)
          refine hKo5.out _ _ ⟨t1, t2, t3⟩ (fun hHeld5 => ?_)
          try simp only [Act.put, List.setIfInBounds_toArray, List.set_cons_zero, List.set_cons_succ]
          refine tkLB [6, 7, 8] ?_
          iterate 3 (refine tkLC (v := ?_) rfl rfl (by kernel_rfl) (by kernel_rfl) (by kernel_rfl) (fun _ _ _ h => h) (by rfl) (by assumption) ?_ ?_; rotate_left; (· (intro w hSw; (try dsimp only at hSw); go_simp; (try with_reducible rfl))); simp only [Act.put, List.setIfInBounds_toArray, List.set_cons_zero, List.set_cons_succ])
          refine tkLE ?_
          refine wpAnyH_ready (rs := [10]) (by kernel_rfl) (by simp) ?_
          refine (AllReadyH.cons rfl (fun Ko10 hKo10 => ?_) AllReadyH.nil)
          have zq : w2.frozen? ⟨q, 0, none⟩ = false := froz_B bA2 0
          have zc : w2.cell? ⟨q, 0, none⟩ = some (.slice none 0 0) := by rw [cell_B bA2] <;> rfl
          rw [if_pos (by rfl)]
          go_simp
          obtain ⟨wS, HS, bS, cS⟩ : ∃ wS, Hid (wS = w2.setCell ⟨q, 0, none⟩ (.slice oa k oc)) ∧ wS.heap[q]? = some (.cells #[.slice oa k oc] 47 (0, 0)) ∧ Chg (fun b => b = q) w2 wS := ⟨_, rfl, set_B bA2 0 _, (Chg.refl (fun b => b = q) w2).setCell rfl _⟩
          rw [← HS.out]
          have OS : Hid (Out wr wS) := hidOf (Chg.out cS O2.out (fun b hb => by have := hqr.out; omega))
          have BS := hidOf bS
          clear cS bS zq zc
          refine hKo10.out _ _ ⟨cell_later OS.out cs1, cell_later OS.out p0, cell_later OS.out p1⟩ (fun hHeld10 => ?_)
          try simp only [Act.put, List.setIfInBounds_toArray, List.set_cons_zero, List.set_cons_succ]
          refine tkLB [11] ?_
          iterate 1 (refine tkLC (v := ?_) rfl rfl (by kernel_rfl) (by kernel_rfl) (by kernel_rfl) (fun _ _ _ h => h) (by rfl) (by assumption) ?_ ?_; rotate_left; (· (intro w hSw; (try dsimp only at hSw); go_simp; (try with_reducible rfl))); simp only [Act.put, List.setIfInBounds_toArray, List.set_cons_zero, List.set_cons_succ])
          refine tkLE ?_
          refine wpAnyH_done (by kernel_rfl) ?_ _
          have KS := hidOf (blk_out KP.out OS.out)
          have zp : wS.frozen? ⟨p, 0, none⟩ = false := froz_B KS.out 0
          have cp0 : wS.cell? ⟨p, 0, none⟩ = some (.slice none 0 0) := by rw [cell_B KS.out] <;> rfl
          have cq : wS.cell? ⟨q, 0, none⟩ = some (.slice oa k oc) := by rw [cell_B BS.out] <;> rfl
          obtain ⟨wT, HT, bT, cT⟩ : ∃ wT, Hid (wT = wS.setCell ⟨p, 0, none⟩ (.slice none 0 0)) ∧ wT.heap[p]? = some (.cells #[.slice none 0 0] 47 (0, 0)) ∧ Chg (fun b => b = p) wS wT := ⟨_, rfl, set_B KS.out 0 _, (Chg.refl (fun b => b = p) wS).setCell rfl _⟩
          have BT := hidOf bT
          have CT := hidOf cT
          clear bT cT
          go_wp2
          rw [← HT.out]
          refine bodyPost_ret (results_cell2 rfl _ _ p 47 _ (0, 0) _ rfl BT.out Tryz.underlying47 rfl (by kernel_rfl)) rfl ?_
          refine ⟨Chg.out CT.out (OR.out.trans OS.out) (fun b hb => by have := hp.out; omega), .inl ⟨?_, rfl⟩⟩
          rw [← hP.out]
          exact okQ_not HPX.out (by rw [← EQ.out]; exact HNO.out)
      | false =>
        have ADY : Hid (∀ W, Out wr W → Calls Tryz.prog 20 #[.agg #[.slice oa k oc], .agg #[.int .u64 xf, .slice xa xn xc]] W fun e w' => ∃ a' c', ∃ R' : List Rg, e = .returned (.tuple #[.agg #[.slice a' (k + 1 : Nat) c'], .int .i64 0]) ∧ RLs W.heap.size w' a' c' (k + 1) R' ∧ R'.map fdR = R.map fdR ++ [(xf, xd)] ∧ Out W w') := hidOf (fun W o => (ADC.out W o).mono fun e w' h1 => by
          rcases h1 with ⟨ho, ⟨h2, _⟩ | ⟨_, a', c', R', he, hr, hm⟩⟩
          · rw [hno] at h2; cases h2
          · exact ⟨a', c', R', he, hr, hm, ho⟩)
        have HNO := hidOf hno
        clear hno ADC
        go_upto_region 5 with fail
        refine wp_region_held_drew (S := (fun w' => w'.cell? ⟨p + 1, 0, none⟩ = some (.slice oa k oc) ∧ w'.cell? ⟨g, o + k * 2, none⟩ = some (.int .u64 xf) ∧ w'.cell? ⟨g, o + k * 2 + 1, none⟩ = some (.slice xa xn xc))) (by kernel_rfl) ?_ (fun hHeld => ?_)
        · exact ⟨cs1, p0, p1⟩
        refine tkLB [0, 1, 2, 3, 4] ?_
        iterate 5 (refine tkLC (v := ?_) rfl rfl (by kernel_rfl) (by kernel_rfl) (by kernel_rfl) (fun _ _ _ h => h) (by rfl) (by assumption) ?_ ?_; rotate_left; (· (intro w hSw; (try dsimp only at hSw); go_simp; (try with_reducible rfl))); simp only [Act.put, List.setIfInBounds_toArray, List.set_cons_zero, List.set_cons_succ])
        refine tkLE ?_
        refine wpAnyH_ready (rs := [5, 9]) (by kernel_rfl) (by simp) ?_
        refine (AllReadyH.cons rfl (fun Ko5 hKo5 => ?_) (AllReadyH.cons rfl (fun Ko9 hKo9 => ?_) AllReadyH.nil))
        · rw [if_pos (by rfl)]
          go_simp
          go_at_call 20
          refine (ADY.out _ ((Out.refl wr).drew)).mono ?_
          rintro e w2 ⟨a', c', R', rfl, hrl, hmap, ho2⟩
          have RL2 := hidOf hrl
          have MP := hidOf hmap
          clear hrl hmap
          have O2 := hidOf (((Out.refl wr).drew).trans ho2)
          have t1 := cell_later O2.out cs1
          have t2 := cell_later O2.out p0
          have t3 := cell_later O2.out p1
          clear ho2
          refine hKo5.out _ _ ⟨t1, t2, t3⟩ (fun hHeld5 => ?_)
          try simp only [Act.put, List.setIfInBounds_toArray, List.set_cons_zero, List.set_cons_succ]
          refine tkLB [6, 7, 8] ?_
          iterate 3 (refine tkLC (v := ?_) rfl rfl (by kernel_rfl) (by kernel_rfl) (by kernel_rfl) (fun _ _ _ h => h) (by rfl) (by assumption) ?_ ?_; rotate_left; (· (intro w hSw; (try dsimp only at hSw); go_simp; (try with_reducible rfl))); simp only [Act.put, List.setIfInBounds_toArray, List.set_cons_zero, List.set_cons_succ])
          refine tkLE ?_
          refine wpAnyH_ready (rs := [9]) (by kernel_rfl) (by simp) ?_
          refine (AllReadyH.cons rfl (fun Ko9 hKo9 => ?_) AllReadyH.nil)
          rw [if_pos (by rfl)]
          go_simp
          obtain ⟨wA, HA, hA⟩ : ∃ wA, Hid (wA = w2.alloc (.cells #[.slice none 0 0] 47)) ∧ Hid (wA.heap[w2.heap.size]? = some (.cells #[.slice none 0 0] 47 (0, 0))) := ⟨_, rfl, hidOf (heap_alloc_new w2 _)⟩
          have oA2 : Out w2 wA := by rw [HA.out]; exact (Out.refl w2).alloc _
          have OA : Hid (Out wr wA) := hidOf (O2.out.trans oA2)
          rw [← HA.out]
          obtain ⟨q, hq⟩ : ∃ q, Hid (q = w2.heap.size) := ⟨_, rfl⟩
          have hqr : Hid (wr.heap.size ≤ q) := hidOf (by rw [hq.out]; exact O2.out.size)
          have bA := hA
          rw [← hq.out] at bA
          rw [← hq.out]
          refine hKo9.out _ _ ⟨cell_later OA.out cs1, cell_later OA.out p0, cell_later OA.out p1⟩ (fun hHeld9 => ?_)
          try simp only [Act.put, List.setIfInBounds_toArray, List.set_cons_zero, List.set_cons_succ]
          refine wpAnyH_ready (rs := [10]) (by kernel_rfl) (by simp) ?_
          refine (AllReadyH.cons rfl (fun Ko10 hKo10 => ?_) AllReadyH.nil)
          have zq : wA.frozen? ⟨q, 0, none⟩ = false := froz_B bA.out 0
          have zc : wA.cell? ⟨q, 0, none⟩ = some (.slice none 0 0) := by rw [cell_B bA.out] <;> rfl
          rw [if_pos (by rfl)]
          go_simp
          obtain ⟨wS, HS, bS, cS⟩ : ∃ wS, Hid (wS = wA.setCell ⟨q, 0, none⟩ (.slice a' (k + 1 : Nat) c')) ∧ wS.heap[q]? = some (.cells #[.slice a' (k + 1 : Nat) c'] 47 (0, 0)) ∧ Chg (fun b => b = q) wA wS := ⟨_, rfl, set_B bA.out 0 _, (Chg.refl (fun b => b = q) wA).setCell rfl _⟩
          rw [← HS.out]
          have OS : Hid (Out wr wS) := hidOf (Chg.out cS OA.out (fun b hb => by have := hqr.out; omega))
          have BS := hidOf bS
          have RLS : Hid (RLs p wS a' c' (k + 1) R') := hidOf (((RL2.out.out oA2).chgT bA.out cS).base (by show p ≤ wr.heap.size; omega))
          clear cS bS zq zc
          refine hKo10.out _ _ ⟨cell_later OS.out cs1, cell_later OS.out p0, cell_later OS.out p1⟩ (fun hHeld10 => ?_)
          try simp only [Act.put, List.setIfInBounds_toArray, List.set_cons_zero, List.set_cons_succ]
          refine tkLB [11] ?_
          iterate 1 (refine tkLC (v := ?_) rfl rfl (by kernel_rfl) (by kernel_rfl) (by kernel_rfl) (fun _ _ _ h => h) (by rfl) (by assumption) ?_ ?_; rotate_left; (· (intro w hSw; (try dsimp only at hSw); go_simp; (try with_reducible rfl))); simp only [Act.put, List.setIfInBounds_toArray, List.set_cons_zero, List.set_cons_succ])
          refine tkLE ?_
          refine wpAnyH_done (by kernel_rfl) ?_ _
          have KS := hidOf (blk_out K1.out OS.out)
          have KS0 := hidOf (blk_out KP.out OS.out)
          have zp : wS.frozen? ⟨p + 1, 0, none⟩ = false := froz_B KS.out 0
          have cp0 : wS.cell? ⟨p + 1, 0, none⟩ = some (.slice oa k oc) := by rw [cell_B KS.out] <;> rfl
          have cq : wS.cell? ⟨q, 0, none⟩ = some (.slice a' (k + 1 : Nat) c') := by rw [cell_B BS.out] <;> rfl
          obtain ⟨wT, HT, bT, cT⟩ : ∃ wT, Hid (wT = wS.setCell ⟨p + 1, 0, none⟩ (.slice a' (k + 1 : Nat) c')) ∧ wT.heap[p + 1]? = some (.cells #[.slice a' (k + 1 : Nat) c'] 47 (0, 0)) ∧ Chg (fun b => b = p + 1) wS wT := ⟨_, rfl, set_B KS.out 0 _, (Chg.refl (fun b => b = p + 1) wS).setCell rfl _⟩
          have BT := hidOf bT
          have KT0 := hidOf (blk_chg KS0.out cT (by simp))
          have RLT := hidOf (RLS.out.chgT KS.out cT)
          have OT := hidOf (Chg.out cT (OR.out.trans OS.out) (fun b hb => by have := hp.out; omega))
          have EQT : Hid (R'.map fdR = P.take (k + 1)) := hidOf (by rw [MP.out, List.take_add_one, HPX.out, EQ.out]; rfl)
          have OKT : Hid (okQ (P.take (k + 1))) := hidOf (okQ_step OK.out HPX.out (by rw [← EQ.out]; exact HNO.out))
          clear bT cT t1 t2 t3
          go_wp2
          rw [← HT.out]
          go_roundw
          case rel => exact ⟨k + 1, a', c', R', by simp, by omega, KT0, BT, RLT, EQT, OKT, OT⟩
          case measure => simp [intOf]; omega
        · rw [if_pos (by rfl)]
          go_simp
          obtain ⟨wA, HA, hA⟩ : ∃ wA, Hid (wA = (wr.alloc (.cells #[.slice none 0 0] 47)).drew) ∧ Hid (wA.heap[wr.heap.size]? = some (.cells #[.slice none 0 0] 47 (0, 0))) := ⟨_, rfl, hidOf (heap_alloc_new wr _)⟩
          have bA := hA
          have OA : Hid (Out wr wA) := hidOf (by rw [HA.out]; exact ((Out.refl wr).alloc _).drew)
          rw [← HA.out]
          obtain ⟨q, hq⟩ : ∃ q, Hid (q = wr.heap.size) := ⟨_, rfl⟩
          have hqr : Hid (wr.heap.size ≤ q) := hidOf (by rw [hq.out]; exact Nat.le_refl _)
          rw [← hq.out] at bA
          rw [← hq.out]
          refine hKo9.out _ _ ⟨cell_later OA.out cs1, cell_later OA.out p0, cell_later OA.out p1⟩ (fun hHeld9 => ?_)
          try simp only [Act.put, List.setIfInBounds_toArray, List.set_cons_zero, List.set_cons_succ]
          refine wpAnyH_ready (rs := [5]) (by kernel_rfl) (by simp) ?_
          refine (AllReadyH.cons rfl (fun Ko5 hKo5 => ?_) AllReadyH.nil)
          rw [if_pos (by rfl)]
          go_simp
          go_at_call 20
          refine (ADY.out _ (OA.out)).mono ?_
          rintro e w2 ⟨a', c', R', rfl, hrl, hmap, ho2⟩
          have hoA := ho2
          have RL2 := hidOf hrl
          have MP := hidOf hmap
          clear hrl hmap
          have O2 := hidOf ((OA.out).trans ho2)
          have t1 := cell_later O2.out cs1
          have t2 := cell_later O2.out p0
          have t3 := cell_later O2.out p1
          clear ho2
          have bA2 := blk_out bA.out (show Out wA w2 from hoA)
          refine hKo5.out _ _ ⟨t1, t2, t3⟩ (fun hHeld5 => ?_)
          try simp only [Act.put, List.setIfInBounds_toArray, List.set_cons_zero, List.set_cons_succ]
          refine tkLB [6, 7, 8] ?_
          iterate 3 (refine tkLC (v := ?_) rfl rfl (by kernel_rfl) (by kernel_rfl) (by kernel_rfl) (fun _ _ _ h => h) (by rfl) (by assumption) ?_ ?_; rotate_left; (· (intro w hSw; (try dsimp only at hSw); go_simp; (try with_reducible rfl))); simp only [Act.put, List.setIfInBounds_toArray, List.set_cons_zero, List.set_cons_succ])
          refine tkLE ?_
          refine wpAnyH_ready (rs := [10]) (by kernel_rfl) (by simp) ?_
          refine (AllReadyH.cons rfl (fun Ko10 hKo10 => ?_) AllReadyH.nil)
          have zq : w2.frozen? ⟨q, 0, none⟩ = false := froz_B bA2 0
          have zc : w2.cell? ⟨q, 0, none⟩ = some (.slice none 0 0) := by rw [cell_B bA2] <;> rfl
          rw [if_pos (by rfl)]
          go_simp
          obtain ⟨wS, HS, bS, cS⟩ : ∃ wS, Hid (wS = w2.setCell ⟨q, 0, none⟩ (.slice a' (k + 1 : Nat) c')) ∧ wS.heap[q]? = some (.cells #[.slice a' (k + 1 : Nat) c'] 47 (0, 0)) ∧ Chg (fun b => b = q) w2 wS := ⟨_, rfl, set_B bA2 0 _, (Chg.refl (fun b => b = q) w2).setCell rfl _⟩
          rw [← HS.out]
          have OS : Hid (Out wr wS) := hidOf (Chg.out cS O2.out (fun b hb => by have := hqr.out; omega))
          have BS := hidOf bS
          have RLS : Hid (RLs p wS a' c' (k + 1) R') := hidOf (((RL2.out).chgT bA2 cS).base (by have := OA.out.size; omega))
          clear cS bS zq zc
          refine hKo10.out _ _ ⟨cell_later OS.out cs1, cell_later OS.out p0, cell_later OS.out p1⟩ (fun hHeld10 => ?_)
          try simp only [Act.put, List.setIfInBounds_toArray, List.set_cons_zero, List.set_cons_succ]
          refine tkLB [11] ?_
          iterate 1 (refine tkLC (v := ?_) rfl rfl (by kernel_rfl) (by kernel_rfl) (by kernel_rfl) (fun _ _ _ h => h) (by rfl) (by assumption) ?_ ?_; rotate_left; (· (intro w hSw; (try dsimp only at hSw); go_simp; (try with_reducible rfl))); simp only [Act.put, List.setIfInBounds_toArray, List.set_cons_zero, List.set_cons_succ])
          refine tkLE ?_
          refine wpAnyH_done (by kernel_rfl) ?_ _
          have KS := hidOf (blk_out K1.out OS.out)
          have KS0 := hidOf (blk_out KP.out OS.out)
          have zp : wS.frozen? ⟨p + 1, 0, none⟩ = false := froz_B KS.out 0
          have cp0 : wS.cell? ⟨p + 1, 0, none⟩ = some (.slice oa k oc) := by rw [cell_B KS.out] <;> rfl
          have cq : wS.cell? ⟨q, 0, none⟩ = some (.slice a' (k + 1 : Nat) c') := by rw [cell_B BS.out] <;> rfl
          obtain ⟨wT, HT, bT, cT⟩ : ∃ wT, Hid (wT = wS.setCell ⟨p + 1, 0, none⟩ (.slice a' (k + 1 : Nat) c')) ∧ wT.heap[p + 1]? = some (.cells #[.slice a' (k + 1 : Nat) c'] 47 (0, 0)) ∧ Chg (fun b => b = p + 1) wS wT := ⟨_, rfl, set_B KS.out 0 _, (Chg.refl (fun b => b = p + 1) wS).setCell rfl _⟩
          have BT := hidOf bT
          have KT0 := hidOf (blk_chg KS0.out cT (by simp))
          have RLT := hidOf (RLS.out.chgT KS.out cT)
          have OT := hidOf (Chg.out cT (OR.out.trans OS.out) (fun b hb => by have := hp.out; omega))
          have EQT : Hid (R'.map fdR = P.take (k + 1)) := hidOf (by rw [MP.out, List.take_add_one, HPX.out, EQ.out]; rfl)
          have OKT : Hid (okQ (P.take (k + 1))) := hidOf (okQ_step OK.out HPX.out (by rw [← EQ.out]; exact HNO.out))
          clear bT cT t1 t2 t3
          go_wp2
          rw [← HT.out]
          go_roundw
          case rel => exact ⟨k + 1, a', c', R', by simp, by omega, KT0, BT, RLT, EQT, OKT, OT⟩
          case measure => simp [intOf]; omega
    · have hlt : ¬ (k : Int) < n := by omega
      obtain rfl : k = n := by omega
      have zp : wr.frozen? ⟨p, 0, none⟩ = false := froz_B KP.out 0
      have cp0 : wr.cell? ⟨p, 0, none⟩ = some (.slice none 0 0) := by rw [cell_B KP.out] <;> rfl
      have ht : P.take k = P := List.take_of_length_le (by rw [hpl.out]; exact Nat.le_refl _)
      have hEQ := EQ.out
      have hOK := OK.out
      rw [ht] at hEQ hOK
      have HEQ := hidOf hEQ
      have HOK := hidOf hOK
      obtain ⟨wT, HT, bT, cT⟩ : ∃ wT, Hid (wT = wr.setCell ⟨p, 0, none⟩ (.slice oa k oc)) ∧ wT.heap[p]? = some (.cells #[.slice oa k oc] 47 (0, 0)) ∧ Chg (fun b => b = p) wr wT := ⟨_, rfl, set_B KP.out 0 _, (Chg.refl (fun b => b = p) wr).setCell rfl _⟩
      have BT := hidOf bT
      have CT := hidOf cT
      clear bT cT ht hEQ hOK
      go_wp2
      rw [← HT.out]
      refine bodyPost_ret (results_cell2 rfl _ _ p 47 _ (0, 0) _ rfl BT.out Tryz.underlying47 rfl (by kernel_rfl)) rfl ?_
      refine ⟨Chg.out CT.out OR.out (fun b hb => by have := hp.out; omega), .inr ⟨by rw [← hP.out]; exact HOK.out, oa, oc, R, rfl, ?_, by rw [← hP.out]; exact HEQ.out⟩⟩
      rw [← hp.out]
      exact RL.out.chgT KP.out CT.out
end Go.Proofs.YtekjfbmebekmeaaGreat
