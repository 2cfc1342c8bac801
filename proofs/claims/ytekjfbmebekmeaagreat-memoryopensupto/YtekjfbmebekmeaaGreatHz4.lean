import Derived.Test.YtekjfbmebekmeaaGreatHz2
import Derived.Test.YtekjfbmebekmeaaGreatHz3
namespace Go.Proofs.YtekjfbmebekmeaaGreat
open Go.RowKit
set_option linter.unusedVariables false
set_option linter.unusedSimpArgs false
/-- what the document's own New gives -/
def NewQ (L : List RI) (n : Nat) (w : World) (e : Ending) (w' : World) : Prop :=
  Out w w' ∧ (¬ okQ (L.map fdI) ∧ e = .returned (.tuple #[.agg #[.slice none 0 0], .int .i64 201]) ∨
  okQ (L.map fdI) ∧ ∃ a' c', ∃ R : List Rg, e = .returned (.tuple #[.agg #[.slice a' n c'], .int .i64 0]) ∧ RLs w.heap.size w' a' c' n R ∧ R.map fdR = L.map fdI)
set_option maxHeartbeats 4000000 in
set_option maxRecDepth 100000 in
theorem refNew_any (w : World) (a : Option Addr) (c : Nat) (L : List RI) (h : InR w a L) (hL : ∀ x ∈ L, x.f < 18446744073709551616 ∧ x.d.length ≤ 140737488355328) (hn : L.length ≤ 4398046511103) :
    Calls Tryz.prog 13 #[.slice a L.length c] w fun e w' => NewQ L L.length w e w' := by
  obtain ⟨n, hN⟩ : ∃ n, Hid (n = L.length) := ⟨_, rfl⟩
  rw [← hN.out] at hn ⊢
  obtain ⟨P, hP⟩ : ∃ P, Hid (P = L.map fdI) := ⟨_, rfl⟩
  have hpl : Hid (P.length = n) := hidOf (by rw [hP.out, List.length_map, hN.out])
  have HI := hidOf h
  have HL := hidOf hL
  have HNN := hidOf hn
  clear h hL
  obtain ⟨p, hp⟩ : ∃ p, Hid (p = w.heap.size) := ⟨_, rfl⟩
  obtain ⟨w0, H0, bp, b1, o0, s0⟩ : ∃ w0, Hid (w0 = (w.alloc (.cells #[.slice none 0 0] 47)).alloc (.cells #[.slice none 0 0] 47)) ∧ w0.heap[p]? = some (.cells #[.slice none 0 0] 47 (0, 0)) ∧ w0.heap[p + 1]? = some (.cells #[.slice none 0 0] 47 (0, 0)) ∧ Out w w0 ∧ w0.heap.size = p + 2 := by
    have s1 : (w.alloc (.cells #[.slice none 0 0] 47)).heap.size = p + 1 := by rw [size_alloc, hp.out]
    refine ⟨_, rfl, ?_, ?_, ((Out.refl w).alloc _).alloc _, by rw [size_alloc, s1]⟩
    · refine blk_out ?_ ((Out.refl _).alloc _)
      rw [hp.out]; exact heap_alloc_new w _
    · rw [← s1]; exact heap_alloc_new _ _
  have O0 := hidOf o0
  have BP := hidOf bp
  have B1 := hidOf b1
  clear o0 s0 bp b1
  go_enter Tryz.func13, Tryz.ntmps13
  go_upto_region 2 with fail
  rw [← hp.out]
  rw [← H0.out]
  go_wp2
  go_loopw [5] (fun kv wr => ∃ (k : Nat) (oa : Option Addr) (oc : Nat) (R : List Rg), kv = .int .i64 (k : Nat) ∧ k ≤ n ∧ Hid (wr.heap[p]? = some (.cells #[.slice none 0 0] 47 (0, 0))) ∧ Hid (wr.heap[p + 1]? = some (.cells #[.slice oa k oc] 47 (0, 0))) ∧ Hid (RLs p wr oa oc k R) ∧ Hid (R.map fdR = P.take k) ∧ Hid (okQ (P.take k)) ∧ Hid (Out w wr)) (fun kv _ => n - (intOf kv).toNat)
  case atStart => exact ⟨0, none, 0, [], rfl, Nat.zero_le _, BP, B1, hidOf ⟨World.ownsRow_nil _ _ _ _, by simp⟩, hidOf (by simp), hidOf (okQ_nil P), O0⟩
  case round =>
    obtain ⟨k, oa, oc, R, rfl, hk, KP, K1, RL, EQ, OK, OR⟩ := hrel
    have cs1 : wr.cell? ⟨p + 1, 0, none⟩ = some (.slice oa k oc) := by rw [cell_B K1.out] <;> rfl
    by_cases hkn : k < n
    · have hlt : (k : Int) < n := by omega
      obtain ⟨x, hx⟩ : ∃ x, L[k]? = some x := ⟨_, List.getElem?_eq_getElem (by rw [← hN.out]; exact hkn)⟩
      obtain ⟨g, o, rfl, hcs⟩ : ∃ g o, a = some ⟨g, o, none⟩ ∧ _ := HI.out.resolve_left (fun e => by rw [e] at hx; simp at hx)
      obtain ⟨q0, q1, q2⟩ := hcs k x hx
      have p0 := cell_later OR.out q0
      have p1 := cell_later OR.out q1
      have hgp : g < p := by
        rw [hp.out]
        by_cases hg : g < w.heap.size
        · exact hg
        · simp [World.cell?, Array.getElem?_eq_none (Nat.le_of_not_lt hg)] at q0
      have hpx : P[k]? = some (fdI x) := by rw [hP.out, List.getElem?_map, hx]; rfl
      have hxm := HL.out _ (List.mem_of_getElem? hx)
      obtain ⟨xf, xa, xc, xd⟩ := x
      obtain ⟨xn, hxn⟩ : ∃ xn, Hid (xn = xd.length) := ⟨_, rfl⟩
      simp only [fdI] at hpx
      simp only at p0 p1 q2 hxm
      have hRk : R.length = k := by have := congrArg List.length EQ.out; rw [List.length_map, List.length_take, hpl.out] at this; omega
      have hRb : ∀ z ∈ R, z.d.length ≤ 140737488355328 ∧ z.f < 18446744073709551616 := fun z hz => by
        have h1 : fdR z ∈ P.take k := by rw [← EQ.out]; exact List.mem_map.2 ⟨z, hz, rfl⟩
        have h2 := List.mem_of_mem_take h1
        rw [hP.out] at h2
        obtain ⟨y, hy, ey⟩ := List.mem_map.1 h2
        have h3 := HL.out y hy
        simp only [fdI, fdR, Prod.mk.injEq] at ey
        rw [ey.1, ey.2] at h3
        exact ⟨h3.2, h3.1⟩
      have ADC : Hid (∀ W, Out wr W → Calls Tryz.prog 20 #[.agg #[.slice oa k oc], .agg #[.int .u64 xf, .slice xa xn xc]] W fun e w' => AddQ oa oc k R xf xd W e w') := hidOf (fun W o => by
        rw [hxn.out]
        exact refAdd_any W p oa oc k R xf xc xa xd (RL.out.out o) hRk hRb (by have := HNN.out; omega) ((q2.out OR.out).out o) hxm.2 hxm.1)
      rw [← hxn.out] at p1
      have HPX := hidOf hpx
      clear hcs q0 q1 q2 hx hxm hRk hRb hpx
      have hps : p + 1 < wr.heap.size := (Array.getElem?_eq_some_iff.1 K1.out).1
      cases hno : noQ (R.map fdR) xf xd.length with
      | true =>
        have ADN : Hid (∀ W, Out wr W → Calls Tryz.prog 20 #[.agg #[.slice oa k oc], .agg #[.int .u64 xf, .slice xa xn xc]] W fun e w' => e = .returned (.tuple #[.agg #[.slice oa k oc], .int .i64 201]) ∧ Out W w') := hidOf (fun W o => (ADC.out W o).mono fun e w' h1 => by
          rcases h1 with ⟨ho, ⟨_, he⟩ | ⟨h2, _⟩⟩
          · exact ⟨he, ho⟩
          · rw [hno] at h2; cases h2)
        have HNO := hidOf hno
        clear hno ADC
        go_upto_region 5 with fail
        refine wp_region_held_drew (S := (fun w' => w'.cell? ⟨p + 1, 0, none⟩ = some (.slice oa k oc) ∧ w'.cell? ⟨g, o + k * 2, none⟩ = some (.int .u64 xf) ∧ w'.cell? ⟨g, o + k * 2 + 1, none⟩ = some (.slice xa xn xc))) (by kernel_rfl) ?_ (fun hHeld => ?_)
        · exact ⟨cs1, p0, p1⟩
        refine wpAnyH_take (i := 0) (v := ?_) rfl (by kernel_rfl) (by kernel_rfl) (by kernel_rfl) (fun _ _ _ h => h) (Or.inl ⟨by rfl, ?_⟩) (by assumption) ?_
        rotate_left
        · (intro w hSw; (try dsimp only at hSw); go_simp; (try with_reducible rfl))
        show wpAnyH _ _ _ _ _ _ _ (Act.put _ (some 15) _) _
        simp only [Act.put, List.setIfInBounds_toArray, List.set_cons_zero, List.set_cons_succ]
        refine wpAnyH_take (i := 1) (v := ?_) rfl (by kernel_rfl) (by kernel_rfl) (by kernel_rfl) (fun _ _ _ h => h) (Or.inl ⟨by rfl, ?_⟩) (by assumption) ?_
        rotate_left
        · (intro w hSw; (try dsimp only at hSw); go_simp; (try with_reducible rfl))
        show wpAnyH _ _ _ _ _ _ _ (Act.put _ (some 16) _) _
        simp only [Act.put, List.setIfInBounds_toArray, List.set_cons_zero, List.set_cons_succ]
        refine wpAnyH_take (i := 2) (v := ?_) rfl (by kernel_rfl) (by kernel_rfl) (by kernel_rfl) (fun _ _ _ h => h) (Or.inl ⟨by rfl, ?_⟩) (by assumption) ?_
        rotate_left
        · (intro w hSw; (try dsimp only at hSw); go_simp; (try with_reducible rfl))
        show wpAnyH _ _ _ _ _ _ _ (Act.put _ (some 17) _) _
        simp only [Act.put, List.setIfInBounds_toArray, List.set_cons_zero, List.set_cons_succ]
        refine wpAnyH_take (i := 3) (v := ?_) rfl (by kernel_rfl) (by kernel_rfl) (by kernel_rfl) (fun _ _ _ h => h) (Or.inl ⟨by rfl, ?_⟩) (by assumption) ?_
        rotate_left
        · (intro w hSw; (try dsimp only at hSw); go_simp; (try with_reducible rfl))
        show wpAnyH _ _ _ _ _ _ _ (Act.put _ (some 18) _) _
        simp only [Act.put, List.setIfInBounds_toArray, List.set_cons_zero, List.set_cons_succ]
        refine wpAnyH_take (i := 4) (v := ?_) rfl (by kernel_rfl) (by kernel_rfl) (by kernel_rfl) (fun _ _ _ h => h) (Or.inl ⟨by rfl, ?_⟩) (by assumption) ?_
        rotate_left
        · (intro w hSw; (try dsimp only at hSw); go_simp; (try with_reducible rfl))
        show wpAnyH _ _ _ _ _ _ _ (Act.put _ (some 19) _) _
        simp only [Act.put, List.setIfInBounds_toArray, List.set_cons_zero, List.set_cons_succ]
        refine wpAnyH_ready (rs := [5, 9]) (by kernel_rfl) (by simp) ?_
        refine (AllReadyH.cons rfl (fun Ko5 hKo5 => ?_) (AllReadyH.cons rfl (fun Ko9 hKo9 => ?_) AllReadyH.nil))
        · rw [if_pos (by rfl)]
          go_simp
          go_at_call 20
          refine (ADN.out _ ((Out.refl wr).drew)).mono ?_
          rintro e w2 ⟨rfl, ho2⟩
          have O2 := hidOf (((Out.refl wr).drew).trans ho2)
          have t1 := cell_later O2.out cs1
          have t2 := cell_later O2.out p0
          have t3 := cell_later O2.out p1
          clear ho2
          refine hKo5.out _ _ ⟨t1, t2, t3⟩ (fun hHeld5 => ?_)
          try simp only [Act.put, List.setIfInBounds_toArray, List.set_cons_zero, List.set_cons_succ]
          refine wpAnyH_take (i := 6) (v := ?_) rfl (by kernel_rfl) (by kernel_rfl) (by kernel_rfl) (fun _ _ _ h => h) (Or.inl ⟨by rfl, ?_⟩) (by assumption) ?_
          rotate_left
          · (intro w hSw; (try dsimp only at hSw); go_simp; (try with_reducible rfl))
          show wpAnyH _ _ _ _ _ _ _ (Act.put _ (some 14) _) _
          simp only [Act.put, List.setIfInBounds_toArray, List.set_cons_zero, List.set_cons_succ]
          refine wpAnyH_take (i := 7) (v := ?_) rfl (by kernel_rfl) (by kernel_rfl) (by kernel_rfl) (fun _ _ _ h => h) (Or.inl ⟨by rfl, ?_⟩) (by assumption) ?_
          rotate_left
          · (intro w hSw; (try dsimp only at hSw); go_simp; (try with_reducible rfl))
          show wpAnyH _ _ _ _ _ _ _ (Act.put _ (some 21) _) _
          simp only [Act.put, List.setIfInBounds_toArray, List.set_cons_zero, List.set_cons_succ]
          refine wpAnyH_take (i := 8) (v := ?_) rfl (by kernel_rfl) (by kernel_rfl) (by kernel_rfl) (fun _ _ _ h => h) (Or.inl ⟨by rfl, ?_⟩) (by assumption) ?_
          rotate_left
          · (intro w hSw; (try dsimp only at hSw); go_simp; (try with_reducible rfl))
          show wpAnyH _ _ _ _ _ _ _ (Act.put _ (some 22) _) _
          simp only [Act.put, List.setIfInBounds_toArray, List.set_cons_zero, List.set_cons_succ]
          refine wpAnyH_ready (rs := [9]) (by kernel_rfl) (by simp) ?_
          refine (AllReadyH.cons rfl (fun Ko9 hKo9 => ?_) AllReadyH.nil)
          rw [if_pos (by rfl)]
          go_simp
          obtain ⟨wA, HA, hA⟩ : ∃ wA, Hid (wA = w2.alloc (.cells #[.slice none 0 0] 47)) ∧ Hid (wA.heap[w2.heap.size]? = some (.cells #[.slice none 0 0] 47 (0, 0))) := ⟨_, rfl, hidOf (heap_alloc_new w2 _)⟩
          have oA2 : Out w2 wA := by rw [HA.out]; exact (Out.refl w2).alloc _
          have OA : Hid (Out wr wA) := hidOf (O2.out.trans oA2)
          rw [← HA.out]
          obtain ⟨q, hq⟩ : ∃ q, Hid (q = w2.heap.size) := ⟨_, rfl⟩
          have hqr : Hid (wr.heap.size ≤ q) := hidOf (by rw [hq.out]; exact O2.out.size)
          have bA := hA
          rw [← hq.out] at bA
          rw [← hq.out]
          refine hKo9.out _ _ ⟨cell_later OA.out cs1, cell_later OA.out p0, cell_later OA.out p1⟩ (fun hHeld9 => ?_)
          try simp only [Act.put, List.setIfInBounds_toArray, List.set_cons_zero, List.set_cons_succ]
          refine wpAnyH_ready (rs := [10]) (by kernel_rfl) (by simp) ?_
          refine (AllReadyH.cons rfl (fun Ko10 hKo10 => ?_) AllReadyH.nil)
          have zq : wA.frozen? ⟨q, 0, none⟩ = false := froz_B bA.out 0
          have zc : wA.cell? ⟨q, 0, none⟩ = some (.slice none 0 0) := by rw [cell_B bA.out] <;> rfl
          rw [if_pos (by rfl)]
          go_simp
          obtain ⟨wS, HS, bS, cS⟩ : ∃ wS, Hid (wS = wA.setCell ⟨q, 0, none⟩ (.slice oa k oc)) ∧ wS.heap[q]? = some (.cells #[.slice oa k oc] 47 (0, 0)) ∧ Chg (fun b => b = q) wA wS := ⟨_, rfl, set_B bA.out 0 _, (Chg.refl (fun b => b = q) wA).setCell rfl _⟩
          rw [← HS.out]
          have OS : Hid (Out wr wS) := hidOf (Chg.out cS OA.out (fun b hb => by have := hqr.out; omega))
          have BS := hidOf bS
          clear cS bS zq zc
          refine hKo10.out _ _ ⟨cell_later OS.out cs1, cell_later OS.out p0, cell_later OS.out p1⟩ (fun hHeld10 => ?_)
          try simp only [Act.put, List.setIfInBounds_toArray, List.set_cons_zero, List.set_cons_succ]
          refine wpAnyH_take (i := 11) (v := ?_) rfl (by kernel_rfl) (by kernel_rfl) (by kernel_rfl) (fun _ _ _ h => h) (Or.inl ⟨by rfl, ?_⟩) (by assumption) ?_
          rotate_left
          · (intro w hSw; (try dsimp only at hSw); go_simp; (try with_reducible rfl))
          show wpAnyH _ _ _ _ _ _ _ (Act.put _ (some 7) _) _
          simp only [Act.put, List.setIfInBounds_toArray, List.set_cons_zero, List.set_cons_succ]
          refine wpAnyH_done (by kernel_rfl) ?_ _
          have KS := hidOf (blk_out KP.out OS.out)
          have zp : wS.frozen? ⟨p, 0, none⟩ = false := froz_B KS.out 0
          have cp0 : wS.cell? ⟨p, 0, none⟩ = some (.slice none 0 0) := by rw [cell_B KS.out] <;> rfl
          have cq : wS.cell? ⟨q, 0, none⟩ = some (.slice oa k oc) := by rw [cell_B BS.out] <;> rfl
          obtain ⟨wT, HT, bT, cT⟩ : ∃ wT, Hid (wT = wS.setCell ⟨p, 0, none⟩ (.slice none 0 0)) ∧ wT.heap[p]? = some (.cells #[.slice none 0 0] 47 (0, 0)) ∧ Chg (fun b => b = p) wS wT := ⟨_, rfl, set_B KS.out 0 _, (Chg.refl (fun b => b = p) wS).setCell rfl _⟩
          have BT := hidOf bT
          have CT := hidOf cT
          clear bT cT
          go_wp2
          rw [← HT.out]
          refine bodyPost_ret (results_cell2 rfl _ _ p 47 _ (0, 0) _ rfl BT.out Tryz.underlying47 rfl (by kernel_rfl)) rfl ?_
          refine ⟨Chg.out CT.out (OR.out.trans OS.out) (fun b hb => by have := hp.out; omega), .inl ⟨?_, rfl⟩⟩
          rw [← hP.out]
          exact okQ_not HPX.out (by rw [← EQ.out]; exact HNO.out)
        · rw [if_pos (by rfl)]
          go_simp
          obtain ⟨wA, HA, hA⟩ : ∃ wA, Hid (wA = (wr.alloc (.cells #[.slice none 0 0] 47)).drew) ∧ Hid (wA.heap[wr.heap.size]? = some (.cells #[.slice none 0 0] 47 (0, 0))) := ⟨_, rfl, hidOf (heap_alloc_new wr _)⟩
          have bA := hA
          have OA : Hid (Out wr wA) := hidOf (by rw [HA.out]; exact ((Out.refl wr).alloc _).drew)
          rw [← HA.out]
          obtain ⟨q, hq⟩ : ∃ q, Hid (q = wr.heap.size) := ⟨_, rfl⟩
          have hqr : Hid (wr.heap.size ≤ q) := hidOf (by rw [hq.out]; exact Nat.le_refl _)
          rw [← hq.out] at bA
          rw [← hq.out]
          refine hKo9.out _ _ ⟨cell_later OA.out cs1, cell_later OA.out p0, cell_later OA.out p1⟩ (fun hHeld9 => ?_)
          try simp only [Act.put, List.setIfInBounds_toArray, List.set_cons_zero, List.set_cons_succ]
          refine wpAnyH_ready (rs := [5]) (by kernel_rfl) (by simp) ?_
          refine (AllReadyH.cons rfl (fun Ko5 hKo5 => ?_) AllReadyH.nil)
          rw [if_pos (by rfl)]
          go_simp
          go_at_call 20
          refine (ADN.out _ (OA.out)).mono ?_
          rintro e w2 ⟨rfl, ho2⟩
          have hoA := ho2
          have O2 := hidOf ((OA.out).trans ho2)
          have t1 := cell_later O2.out cs1
          have t2 := cell_later O2.out p0
          have t3 := cell_later O2.out p1
          clear ho2
          have bA2 := blk_out bA.out (show Out wA w2 from hoA)
          refine hKo5.out _ _ ⟨t1, t2, t3⟩ (fun hHeld5 => ?_)
          try simp only [Act.put, List.setIfInBounds_toArray, List.set_cons_zero, List.set_cons_succ]
          refine wpAnyH_take (i := 6) (v := ?_) rfl (by kernel_rfl) (by kernel_rfl) (by kernel_rfl) (fun _ _ _ h => h) (Or.inl ⟨by rfl, ?_⟩) (by assumption) ?_
          rotate_left
          · (intro w hSw; (try dsimp only at hSw); go_simp; (try with_reducible rfl))
          show wpAnyH _ _ _ _ _ _ _ (Act.put _ (some 14) _) _
          simp only [Act.put, List.setIfInBounds_toArray, List.set_cons_zero, List.set_cons_succ]
          refine wpAnyH_take (i := 7) (v := ?_) rfl (by kernel_rfl) (by kernel_rfl) (by kernel_rfl) (fun _ _ _ h => h) (Or.inl ⟨by rfl, ?_⟩) (by assumption) ?_
          rotate_left
          · (intro w hSw; (try dsimp only at hSw); go_simp; (try with_reducible rfl))
          show wpAnyH _ _ _ _ _ _ _ (Act.put _ (some 21) _) _
          simp only [Act.put, List.setIfInBounds_toArray, List.set_cons_zero, List.set_cons_succ]
          refine wpAnyH_take (i := 8) (v := ?_) rfl (by kernel_rfl) (by kernel_rfl) (by kernel_rfl) (fun _ _ _ h => h) (Or.inl ⟨by rfl, ?_⟩) (by assumption) ?_
          rotate_left
          · (intro w hSw; (try dsimp only at hSw); go_simp; (try with_reducible rfl))
          show wpAnyH _ _ _ _ _ _ _ (Act.put _ (some 22) _) _
          simp only [Act.put, List.setIfInBounds_toArray, List.set_cons_zero, List.set_cons_succ]
          refine wpAnyH_ready (rs := [10]) (by kernel_rfl) (by simp) ?_
          refine (AllReadyH.cons rfl (fun Ko10 hKo10 => ?_) AllReadyH.nil)
          have zq : w2.frozen? ⟨q, 0, none⟩ = false := froz_B bA2 0
          have zc : w2.cell? ⟨q, 0, none⟩ = some (.slice none 0 0) := by rw [cell_B bA2] <;> rfl
          rw [if_pos (by rfl)]
          go_simp
          obtain ⟨wS, HS, bS, cS⟩ : ∃ wS, Hid (wS = w2.setCell ⟨q, 0, none⟩ (.slice oa k oc)) ∧ wS.heap[q]? = some (.cells #[.slice oa k oc] 47 (0, 0)) ∧ Chg (fun b => b = q) w2 wS := ⟨_, rfl, set_B bA2 0 _, (Chg.refl (fun b => b = q) w2).setCell rfl _⟩
          rw [← HS.out]
          have OS : Hid (Out wr wS) := hidOf (Chg.out cS O2.out (fun b hb => by have := hqr.out; omega))
          have BS := hidOf bS
          clear cS bS zq zc
          refine hKo10.out _ _ ⟨cell_later OS.out cs1, cell_later OS.out p0, cell_later OS.out p1⟩ (fun hHeld10 => ?_)
          try simp only [Act.put, List.setIfInBounds_toArray, List.set_cons_zero, List.set_cons_succ]
          refine wpAnyH_take (i := 11) (v := ?_) rfl (by kernel_rfl) (by kernel_rfl) (by kernel_rfl) (fun _ _ _ h => h) (Or.inl ⟨by rfl, ?_⟩) (by assumption) ?_
          rotate_left
          · (intro w hSw; (try dsimp only at hSw); go_simp; (try with_reducible rfl))
          show wpAnyH _ _ _ _ _ _ _ (Act.put _ (some 7) _) _
          simp only [Act.put, List.setIfInBounds_toArray, List.set_cons_zero, List.set_cons_succ]
          refine wpAnyH_done (by kernel_rfl) ?_ _
          have KS := hidOf (blk_out KP.out OS.out)
          have zp : wS.frozen? ⟨p, 0, none⟩ = false := froz_B KS.out 0
          have cp0 : wS.cell? ⟨p, 0, none⟩ = some (.slice none 0 0) := by rw [cell_B KS.out] <;> rfl
          have cq : wS.cell? ⟨q, 0, none⟩ = some (.slice oa k oc) := by rw [cell_B BS.out] <;> rfl
          obtain ⟨wT, HT, bT, cT⟩ : ∃ wT, Hid (wT = wS.setCell ⟨p, 0, none⟩ (.slice none 0 0)) ∧ wT.heap[p]? = some (.cells #[.slice none 0 0] 47 (0, 0)) ∧ Chg (fun b => b = p) wS wT := ⟨_, rfl, set_B KS.out 0 _, (Chg.refl (fun b => b = p) wS).setCell rfl _⟩
          have BT := hidOf bT
          have CT := hidOf cT
          clear bT cT
          go_wp2
          rw [← HT.out]
          refine bodyPost_ret (results_cell2 rfl _ _ p 47 _ (0, 0) _ rfl BT.out Tryz.underlying47 rfl (by kernel_rfl)) rfl ?_
          refine ⟨Chg.out CT.out (OR.out.trans OS.out) (fun b hb => by have := hp.out; omega), .inl ⟨?_, rfl⟩⟩
          rw [← hP.out]
          exact okQ_not HPX.out (by rw [← EQ.out]; exact HNO.out)
      | false =>
        have ADY : Hid (∀ W, Out wr W → Calls Tryz.prog 20 #[.agg #[.slice oa k oc], .agg #[.int .u64 xf, .slice xa xn xc]] W fun e w' => ∃ a' c', ∃ R' : List Rg, e = .returned (.tuple #[.agg #[.slice a' (k + 1 : Nat) c'], .int .i64 0]) ∧ RLs W.heap.size w' a' c' (k + 1) R' ∧ R'.map fdR = R.map fdR ++ [(xf, xd)] ∧ Out W w') := hidOf (fun W o => (ADC.out W o).mono fun e w' h1 => by
          rcases h1 with ⟨ho, ⟨h2, _⟩ | ⟨_, a', c', R', he, hr, hm⟩⟩
          · rw [hno] at h2; cases h2
          · exact ⟨a', c', R', he, hr, hm, ho⟩)
        have HNO := hidOf hno
        clear hno ADC
        go_upto_region 5 with fail
        refine wp_region_held_drew (S := (fun w' => w'.cell? ⟨p + 1, 0, none⟩ = some (.slice oa k oc) ∧ w'.cell? ⟨g, o + k * 2, none⟩ = some (.int .u64 xf) ∧ w'.cell? ⟨g, o + k * 2 + 1, none⟩ = some (.slice xa xn xc))) (by kernel_rfl) ?_ (fun hHeld => ?_)
        · exact ⟨cs1, p0, p1⟩
        refine wpAnyH_take (i := 0) (v := ?_) rfl (by kernel_rfl) (by kernel_rfl) (by kernel_rfl) (fun _ _ _ h => h) (Or.inl ⟨by rfl, ?_⟩) (by assumption) ?_
        rotate_left
        · (intro w hSw; (try dsimp only at hSw); go_simp; (try with_reducible rfl))
        show wpAnyH _ _ _ _ _ _ _ (Act.put _ (some 15) _) _
        simp only [Act.put, List.setIfInBounds_toArray, List.set_cons_zero, List.set_cons_succ]
        refine wpAnyH_take (i := 1) (v := ?_) rfl (by kernel_rfl) (by kernel_rfl) (by kernel_rfl) (fun _ _ _ h => h) (Or.inl ⟨by rfl, ?_⟩) (by assumption) ?_
        rotate_left
        · (intro w hSw; (try dsimp only at hSw); go_simp; (try with_reducible rfl))
        show wpAnyH _ _ _ _ _ _ _ (Act.put _ (some 16) _) _
        simp only [Act.put, List.setIfInBounds_toArray, List.set_cons_zero, List.set_cons_succ]
        refine wpAnyH_take (i := 2) (v := ?_) rfl (by kernel_rfl) (by kernel_rfl) (by kernel_rfl) (fun _ _ _ h => h) (Or.inl ⟨by rfl, ?_⟩) (by assumption) ?_
        rotate_left
        · (intro w hSw; (try dsimp only at hSw); go_simp; (try with_reducible rfl))
        show wpAnyH _ _ _ _ _ _ _ (Act.put _ (some 17) _) _
        simp only [Act.put, List.setIfInBounds_toArray, List.set_cons_zero, List.set_cons_succ]
        refine wpAnyH_take (i := 3) (v := ?_) rfl (by kernel_rfl) (by kernel_rfl) (by kernel_rfl) (fun _ _ _ h => h) (Or.inl ⟨by rfl, ?_⟩) (by assumption) ?_
        rotate_left
        · (intro w hSw; (try dsimp only at hSw); go_simp; (try with_reducible rfl))
        show wpAnyH _ _ _ _ _ _ _ (Act.put _ (some 18) _) _
        simp only [Act.put, List.setIfInBounds_toArray, List.set_cons_zero, List.set_cons_succ]
        refine wpAnyH_take (i := 4) (v := ?_) rfl (by kernel_rfl) (by kernel_rfl) (by kernel_rfl) (fun _ _ _ h => h) (Or.inl ⟨by rfl, ?_⟩) (by assumption) ?_
        rotate_left
        · (intro w hSw; (try dsimp only at hSw); go_simp; (try with_reducible rfl))
        show wpAnyH _ _ _ _ _ _ _ (Act.put _ (some 19) _) _
        simp only [Act.put, List.setIfInBounds_toArray, List.set_cons_zero, List.set_cons_succ]
        refine wpAnyH_ready (rs := [5, 9]) (by kernel_rfl) (by simp) ?_
        refine (AllReadyH.cons rfl (fun Ko5 hKo5 => ?_) (AllReadyH.cons rfl (fun Ko9 hKo9 => ?_) AllReadyH.nil))
        · rw [if_pos (by rfl)]
          go_simp
          go_at_call 20
          refine (ADY.out _ ((Out.refl wr).drew)).mono ?_
          rintro e w2 ⟨a', c', R', rfl, hrl, hmap, ho2⟩
          have RL2 := hidOf hrl
          have MP := hidOf hmap
          clear hrl hmap
          have O2 := hidOf (((Out.refl wr).drew).trans ho2)
          have t1 := cell_later O2.out cs1
          have t2 := cell_later O2.out p0
          have t3 := cell_later O2.out p1
          clear ho2
          refine hKo5.out _ _ ⟨t1, t2, t3⟩ (fun hHeld5 => ?_)
          try simp only [Act.put, List.setIfInBounds_toArray, List.set_cons_zero, List.set_cons_succ]
          refine wpAnyH_take (i := 6) (v := ?_) rfl (by kernel_rfl) (by kernel_rfl) (by kernel_rfl) (fun _ _ _ h => h) (Or.inl ⟨by rfl, ?_⟩) (by assumption) ?_
          rotate_left
          · (intro w hSw; (try dsimp only at hSw); go_simp; (try with_reducible rfl))
          show wpAnyH _ _ _ _ _ _ _ (Act.put _ (some 14) _) _
          simp only [Act.put, List.setIfInBounds_toArray, List.set_cons_zero, List.set_cons_succ]
          refine wpAnyH_take (i := 7) (v := ?_) rfl (by kernel_rfl) (by kernel_rfl) (by kernel_rfl) (fun _ _ _ h => h) (Or.inl ⟨by rfl, ?_⟩) (by assumption) ?_
          rotate_left
          · (intro w hSw; (try dsimp only at hSw); go_simp; (try with_reducible rfl))
          show wpAnyH _ _ _ _ _ _ _ (Act.put _ (some 21) _) _
          simp only [Act.put, List.setIfInBounds_toArray, List.set_cons_zero, List.set_cons_succ]
          refine wpAnyH_take (i := 8) (v := ?_) rfl (by kernel_rfl) (by kernel_rfl) (by kernel_rfl) (fun _ _ _ h => h) (Or.inl ⟨by rfl, ?_⟩) (by assumption) ?_
          rotate_left
          · (intro w hSw; (try dsimp only at hSw); go_simp; (try with_reducible rfl))
          show wpAnyH _ _ _ _ _ _ _ (Act.put _ (some 22) _) _
          simp only [Act.put, List.setIfInBounds_toArray, List.set_cons_zero, List.set_cons_succ]
          refine wpAnyH_ready (rs := [9]) (by kernel_rfl) (by simp) ?_
          refine (AllReadyH.cons rfl (fun Ko9 hKo9 => ?_) AllReadyH.nil)
          rw [if_pos (by rfl)]
          go_simp
          obtain ⟨wA, HA, hA⟩ : ∃ wA, Hid (wA = w2.alloc (.cells #[.slice none 0 0] 47)) ∧ Hid (wA.heap[w2.heap.size]? = some (.cells #[.slice none 0 0] 47 (0, 0))) := ⟨_, rfl, hidOf (heap_alloc_new w2 _)⟩
          have oA2 : Out w2 wA := by rw [HA.out]; exact (Out.refl w2).alloc _
          have OA : Hid (Out wr wA) := hidOf (O2.out.trans oA2)
          rw [← HA.out]
          obtain ⟨q, hq⟩ : ∃ q, Hid (q = w2.heap.size) := ⟨_, rfl⟩
          have hqr : Hid (wr.heap.size ≤ q) := hidOf (by rw [hq.out]; exact O2.out.size)
          have bA := hA
          rw [← hq.out] at bA
          rw [← hq.out]
          refine hKo9.out _ _ ⟨cell_later OA.out cs1, cell_later OA.out p0, cell_later OA.out p1⟩ (fun hHeld9 => ?_)
          try simp only [Act.put, List.setIfInBounds_toArray, List.set_cons_zero, List.set_cons_succ]
          refine wpAnyH_ready (rs := [10]) (by kernel_rfl) (by simp) ?_
          refine (AllReadyH.cons rfl (fun Ko10 hKo10 => ?_) AllReadyH.nil)
          have zq : wA.frozen? ⟨q, 0, none⟩ = false := froz_B bA.out 0
          have zc : wA.cell? ⟨q, 0, none⟩ = some (.slice none 0 0) := by rw [cell_B bA.out] <;> rfl
          rw [if_pos (by rfl)]
          go_simp
          obtain ⟨wS, HS, bS, cS⟩ : ∃ wS, Hid (wS = wA.setCell ⟨q, 0, none⟩ (.slice a' (k + 1 : Nat) c')) ∧ wS.heap[q]? = some (.cells #[.slice a' (k + 1 : Nat) c'] 47 (0, 0)) ∧ Chg (fun b => b = q) wA wS := ⟨_, rfl, set_B bA.out 0 _, (Chg.refl (fun b => b = q) wA).setCell rfl _⟩
          rw [← HS.out]
          have OS : Hid (Out wr wS) := hidOf (Chg.out cS OA.out (fun b hb => by have := hqr.out; omega))
          have BS := hidOf bS
          have RLS : Hid (RLs p wS a' c' (k + 1) R') := hidOf (((RL2.out.out oA2).chgT bA.out cS).base (by show p ≤ wr.heap.size; omega))
          clear cS bS zq zc
          refine hKo10.out _ _ ⟨cell_later OS.out cs1, cell_later OS.out p0, cell_later OS.out p1⟩ (fun hHeld10 => ?_)
          try simp only [Act.put, List.setIfInBounds_toArray, List.set_cons_zero, List.set_cons_succ]
          refine wpAnyH_take (i := 11) (v := ?_) rfl (by kernel_rfl) (by kernel_rfl) (by kernel_rfl) (fun _ _ _ h => h) (Or.inl ⟨by rfl, ?_⟩) (by assumption) ?_
          rotate_left
          · (intro w hSw; (try dsimp only at hSw); go_simp; (try with_reducible rfl))
          show wpAnyH _ _ _ _ _ _ _ (Act.put _ (some 7) _) _
          simp only [Act.put, List.setIfInBounds_toArray, List.set_cons_zero, List.set_cons_succ]
          refine wpAnyH_done (by kernel_rfl) ?_ _
          have KS := hidOf (blk_out K1.out OS.out)
          have KS0 := hidOf (blk_out KP.out OS.out)
          have zp : wS.frozen? ⟨p + 1, 0, none⟩ = false := froz_B KS.out 0
          have cp0 : wS.cell? ⟨p + 1, 0, none⟩ = some (.slice oa k oc) := by rw [cell_B KS.out] <;> rfl
          have cq : wS.cell? ⟨q, 0, none⟩ = some (.slice a' (k + 1 : Nat) c') := by rw [cell_B BS.out] <;> rfl
          obtain ⟨wT, HT, bT, cT⟩ : ∃ wT, Hid (wT = wS.setCell ⟨p + 1, 0, none⟩ (.slice a' (k + 1 : Nat) c')) ∧ wT.heap[p + 1]? = some (.cells #[.slice a' (k + 1 : Nat) c'] 47 (0, 0)) ∧ Chg (fun b => b = p + 1) wS wT := ⟨_, rfl, set_B KS.out 0 _, (Chg.refl (fun b => b = p + 1) wS).setCell rfl _⟩
          have BT := hidOf bT
          have KT0 := hidOf (blk_chg KS0.out cT (by simp))
          have RLT := hidOf (RLS.out.chgT KS.out cT)
          have OT := hidOf (Chg.out cT (OR.out.trans OS.out) (fun b hb => by have := hp.out; omega))
          have EQT : Hid (R'.map fdR = P.take (k + 1)) := hidOf (by rw [MP.out, List.take_add_one, HPX.out, EQ.out]; rfl)
          have OKT : Hid (okQ (P.take (k + 1))) := hidOf (okQ_step OK.out HPX.out (by rw [← EQ.out]; exact HNO.out))
          clear bT cT t1 t2 t3
          go_wp2
          rw [← HT.out]
          go_roundw
          case rel => exact ⟨k + 1, a', c', R', by simp, by omega, KT0, BT, RLT, EQT, OKT, OT⟩
          case measure => simp [intOf]; omega
        · rw [if_pos (by rfl)]
          go_simp
          obtain ⟨wA, HA, hA⟩ : ∃ wA, Hid (wA = (wr.alloc (.cells #[.slice none 0 0] 47)).drew) ∧ Hid (wA.heap[wr.heap.size]? = some (.cells #[.slice none 0 0] 47 (0, 0))) := ⟨_, rfl, hidOf (heap_alloc_new wr _)⟩
          have bA := hA
          have OA : Hid (Out wr wA) := hidOf (by rw [HA.out]; exact ((Out.refl wr).alloc _).drew)
          rw [← HA.out]
          obtain ⟨q, hq⟩ : ∃ q, Hid (q = wr.heap.size) := ⟨_, rfl⟩
          have hqr : Hid (wr.heap.size ≤ q) := hidOf (by rw [hq.out]; exact Nat.le_refl _)
          rw [← hq.out] at bA
          rw [← hq.out]
          refine hKo9.out _ _ ⟨cell_later OA.out cs1, cell_later OA.out p0, cell_later OA.out p1⟩ (fun hHeld9 => ?_)
          try simp only [Act.put, List.setIfInBounds_toArray, List.set_cons_zero, List.set_cons_succ]
          refine wpAnyH_ready (rs := [5]) (by kernel_rfl) (by simp) ?_
          refine (AllReadyH.cons rfl (fun Ko5 hKo5 => ?_) AllReadyH.nil)
          rw [if_pos (by rfl)]
          go_simp
          go_at_call 20
          refine (ADY.out _ (OA.out)).mono ?_
          rintro e w2 ⟨a', c', R', rfl, hrl, hmap, ho2⟩
          have hoA := ho2
          have RL2 := hidOf hrl
          have MP := hidOf hmap
          clear hrl hmap
          have O2 := hidOf ((OA.out).trans ho2)
          have t1 := cell_later O2.out cs1
          have t2 := cell_later O2.out p0
          have t3 := cell_later O2.out p1
          clear ho2
          have bA2 := blk_out bA.out (show Out wA w2 from hoA)
          refine hKo5.out _ _ ⟨t1, t2, t3⟩ (fun hHeld5 => ?_)
          try simp only [Act.put, List.setIfInBounds_toArray, List.set_cons_zero, List.set_cons_succ]
          refine wpAnyH_take (i := 6) (v := ?_) rfl (by kernel_rfl) (by kernel_rfl) (by kernel_rfl) (fun _ _ _ h => h) (Or.inl ⟨by rfl, ?_⟩) (by assumption) ?_
          rotate_left
          · (intro w hSw; (try dsimp only at hSw); go_simp; (try with_reducible rfl))
          show wpAnyH _ _ _ _ _ _ _ (Act.put _ (some 14) _) _
          simp only [Act.put, List.setIfInBounds_toArray, List.set_cons_zero, List.set_cons_succ]
          refine wpAnyH_take (i := 7) (v := ?_) rfl (by kernel_rfl) (by kernel_rfl) (by kernel_rfl) (fun _ _ _ h => h) (Or.inl ⟨by rfl, ?_⟩) (by assumption) ?_
          rotate_left
          · (intro w hSw; (try dsimp only at hSw); go_simp; (try with_reducible rfl))
          show wpAnyH _ _ _ _ _ _ _ (Act.put _ (some 21) _) _
          simp only [Act.put, List.setIfInBounds_toArray, List.set_cons_zero, List.set_cons_succ]
          refine wpAnyH_take (i := 8) (v := ?_) rfl (by kernel_rfl) (by kernel_rfl) (by kernel_rfl) (fun _ _ _ h => h) (Or.inl ⟨by rfl, ?_⟩) (by assumption) ?_
          rotate_left
          · (intro w hSw; (try dsimp only at hSw); go_simp; (try with_reducible rfl))
          show wpAnyH _ _ _ _ _ _ _ (Act.put _ (some 22) _) _
          simp only [Act.put, List.setIfInBounds_toArray, List.set_cons_zero, List.set_cons_succ]
          refine wpAnyH_ready (rs := [10]) (by kernel_rfl) (by simp) ?_
          refine (AllReadyH.cons rfl (fun Ko10 hKo10 => ?_) AllReadyH.nil)
          have zq : w2.frozen? ⟨q, 0, none⟩ = false := froz_B bA2 0
          have zc : w2.cell? ⟨q, 0, none⟩ = some (.slice none 0 0) := by rw [cell_B bA2] <;> rfl
          rw [if_pos (by rfl)]
          go_simp
          obtain ⟨wS, HS, bS, cS⟩ : ∃ wS, Hid (wS = w2.setCell ⟨q, 0, none⟩ (.slice a' (k + 1 : Nat) c')) ∧ wS.heap[q]? = some (.cells #[.slice a' (k + 1 : Nat) c'] 47 (0, 0)) ∧ Chg (fun b => b = q) w2 wS := ⟨_, rfl, set_B bA2 0 _, (Chg.refl (fun b => b = q) w2).setCell rfl _⟩
          rw [← HS.out]
          have OS : Hid (Out wr wS) := hidOf (Chg.out cS O2.out (fun b hb => by have := hqr.out; omega))
          have BS := hidOf bS
          have RLS : Hid (RLs p wS a' c' (k + 1) R') := hidOf (((RL2.out).chgT bA2 cS).base (by have := OA.out.size; omega))
          clear cS bS zq zc
          refine hKo10.out _ _ ⟨cell_later OS.out cs1, cell_later OS.out p0, cell_later OS.out p1⟩ (fun hHeld10 => ?_)
          try simp only [Act.put, List.setIfInBounds_toArray, List.set_cons_zero, List.set_cons_succ]
          refine wpAnyH_take (i := 11) (v := ?_) rfl (by kernel_rfl) (by kernel_rfl) (by kernel_rfl) (fun _ _ _ h => h) (Or.inl ⟨by rfl, ?_⟩) (by assumption) ?_
          rotate_left
          · (intro w hSw; (try dsimp only at hSw); go_simp; (try with_reducible rfl))
          show wpAnyH _ _ _ _ _ _ _ (Act.put _ (some 7) _) _
          simp only [Act.put, List.setIfInBounds_toArray, List.set_cons_zero, List.set_cons_succ]
          refine wpAnyH_done (by kernel_rfl) ?_ _
          have KS := hidOf (blk_out K1.out OS.out)
          have KS0 := hidOf (blk_out KP.out OS.out)
          have zp : wS.frozen? ⟨p + 1, 0, none⟩ = false := froz_B KS.out 0
          have cp0 : wS.cell? ⟨p + 1, 0, none⟩ = some (.slice oa k oc) := by rw [cell_B KS.out] <;> rfl
          have cq : wS.cell? ⟨q, 0, none⟩ = some (.slice a' (k + 1 : Nat) c') := by rw [cell_B BS.out] <;> rfl
          obtain ⟨wT, HT, bT, cT⟩ : ∃ wT, Hid (wT = wS.setCell ⟨p + 1, 0, none⟩ (.slice a' (k + 1 : Nat) c')) ∧ wT.heap[p + 1]? = some (.cells #[.slice a' (k + 1 : Nat) c'] 47 (0, 0)) ∧ Chg (fun b => b = p + 1) wS wT := ⟨_, rfl, set_B KS.out 0 _, (Chg.refl (fun b => b = p + 1) wS).setCell rfl _⟩
          have BT := hidOf bT
          have KT0 := hidOf (blk_chg KS0.out cT (by simp))
          have RLT := hidOf (RLS.out.chgT KS.out cT)
          have OT := hidOf (Chg.out cT (OR.out.trans OS.out) (fun b hb => by have := hp.out; omega))
          have EQT : Hid (R'.map fdR = P.take (k + 1)) := hidOf (by rw [MP.out, List.take_add_one, HPX.out, EQ.out]; rfl)
          have OKT : Hid (okQ (P.take (k + 1))) := hidOf (okQ_step OK.out HPX.out (by rw [← EQ.out]; exact HNO.out))
          clear bT cT t1 t2 t3
          go_wp2
          rw [← HT.out]
          go_roundw
          case rel => exact ⟨k + 1, a', c', R', by simp, by omega, KT0, BT, RLT, EQT, OKT, OT⟩
          case measure => simp [intOf]; omega
    · have hlt : ¬ (k : Int) < n := by omega
      obtain rfl : k = n := by omega
      have zp : wr.frozen? ⟨p, 0, none⟩ = false := froz_B KP.out 0
      have cp0 : wr.cell? ⟨p, 0, none⟩ = some (.slice none 0 0) := by rw [cell_B KP.out] <;> rfl
      have ht : P.take k = P := List.take_of_length_le (by rw [hpl.out]; exact Nat.le_refl _)
      have hEQ := EQ.out
      have hOK := OK.out
      rw [ht] at hEQ hOK
      have HEQ := hidOf hEQ
      have HOK := hidOf hOK
      obtain ⟨wT, HT, bT, cT⟩ : ∃ wT, Hid (wT = wr.setCell ⟨p, 0, none⟩ (.slice oa k oc)) ∧ wT.heap[p]? = some (.cells #[.slice oa k oc] 47 (0, 0)) ∧ Chg (fun b => b = p) wr wT := ⟨_, rfl, set_B KP.out 0 _, (Chg.refl (fun b => b = p) wr).setCell rfl _⟩
      have BT := hidOf bT
      have CT := hidOf cT
      clear bT cT ht hEQ hOK
      go_wp2
      rw [← HT.out]
      refine bodyPost_ret (results_cell2 rfl _ _ p 47 _ (0, 0) _ rfl BT.out Tryz.underlying47 rfl (by kernel_rfl)) rfl ?_
      refine ⟨Chg.out CT.out OR.out (fun b hb => by have := hp.out; omega), .inr ⟨by rw [← hP.out]; exact HOK.out, oa, oc, R, rfl, ?_, by rw [← hP.out]; exact HEQ.out⟩⟩
      rw [← hp.out]
      exact RL.out.chgT KP.out CT.out
end Go.Proofs.YtekjfbmebekmeaaGreat
namespace Go.Proofs.YtekjfbmebekmeaaGreat
open Go.RowKit
set_option linter.unusedVariables false
set_option linter.unusedSimpArgs false
/-- a region that is lent: what it is, its bytes' block and room -/
structure LQ where
  x : RI
  b : Nat
  c : Nat
def LQ.g (q : LQ) : Rg := ⟨q.x.f, some q.b, q.c, q.x.d⟩
def LQ.u (q : LQ) : Value := .slice (some ⟨q.b, 0, none⟩) (2 * q.x.d.length + 70 : Nat) q.c
def LQ.ri (q : LQ) : RI := ⟨q.x.f, some ⟨q.b, 0, none⟩, q.c, q.x.d⟩
def z0R : Rg := ⟨0, none, 0, []⟩
def mkM (n j : Nat) : Nat × List UInt8 := (n + j, [77])
theorem rowG_rep (N : Nat) : ∀ j, j < N * 2 → (rowG (List.replicate N z0R))[j]? = (csG z0R)[j % 2]? := by
  induction N with
  | zero => intro j h; omega
  | succ N ih =>
    intro j h
    rw [List.replicate_succ, rowG_cons]
    by_cases hj : j < 2
    · rw [List.getElem?_append_left (by simpa [csG] using hj), Nat.mod_eq_of_lt hj]
    · rw [List.getElem?_append_right (by simp [csG]; omega), show (csG z0R).length = 2 from rfl, ih (j - 2) (by omega)]
      congr 1; omega
theorem madeG (N : Nat) : madeCells #[.int .u64 0, .slice none 0 0] (N * 2) = (rowG (List.replicate N z0R)).toArray := by
  apply Array.ext_getElem?
  intro j
  simp only [madeCells, Array.getElem?_map, List.getElem?_toArray]
  by_cases hj : j < N * 2
  · rw [Array.getElem?_range, if_pos hj, rowG_rep N j hj]
    have h5 : j % 2 < 2 := Nat.mod_lt _ (by omega)
    have : ∀ k, k < 2 → some ((#[.int .u64 0, .slice none 0 0] : Array Value)[k]!) = (csG z0R)[k]? := by
      intro k hk
      match k, hk with
        | 0, _ => rfl
        | 1, _ => rfl
    exact this _ h5
  · rw [Array.getElem?_range, if_neg hj]
    have : (rowG (List.replicate N z0R)).length ≤ j := by rw [rowG_len, List.length_replicate]; omega
    rw [List.getElem?_eq_none this]; rfl
theorem run_makeG (n : Nat) (hn : 32 * n ≤ 281474976710656) (w : World) : (Instr.makeSlice 22 (.int .i64 (n : Int)) (.int .i64 (n : Int))).run Tryz.prog w = .ok (.slice (some ⟨w.heap.size, 0, none⟩) n n) (w.alloc (.cells (rowG (List.replicate n z0R)).toArray 36)) := by
  obtain ⟨i0, hi, hz0, hz1, hz2⟩ := info_parts infoR
  have h := run_make (P := Tryz.prog) w 22 36 i0 _ Tryz.underlying22 hi hz0 .i64 .i64 (n : Int) (n : Int) (by omega) (Int.le_refl _) (by rw [hz2]; omega) (by omega)
  rw [hz1] at h
  simp only [Int.toNat_natCast, Value.cells] at h
  rw [madeG] at h
  exact h
theorem infoB8 : (Tryz.prog.info? 29).map (fun i => (i.zero, i.size, i.bytes)) = some (some (.slice none 0 0), 1, 24) := by kernel_rfl
/-- between two rounds of lent -/
structure LnI (w wr : World) (g n i : Nat) (fa : Option Addr) (fc : Nat) (L : List RI) (Q : List LQ) (V : List Rg) : Prop where
  own : wr.ownsRow w.heap.size 36 2 (.slice (some ⟨g, 0, none⟩) (n + 70 : Nat) (n + 70 : Nat)) (n + 70) (rowG (Q.map LQ.g ++ V ++ List.replicate (n + 70 - i) z0R))
  fu : wr.ownsRow w.heap.size 29 1 (.slice fa Q.length fc) Q.length (Q.map LQ.u)
  ow : ∀ q ∈ Q, wr.ownsRow w.heap.size 5 1 q.u (2 * q.x.d.length + 70) ((q.x.d ++ spB q.x.d.length).map byV)
  ri : Q.Pairwise (fun x y => x.b < y.b)
  mr : ∀ z ∈ V, DaI w.heap.size wr z ∧ ∀ q ∈ Q, ∀ b, z.a = some b → q.b < b
  lq : Q.map LQ.x = L.take i
  mv : V.map fdR = (List.range (i - n)).map (mkM n)
  ll : L.length = n
  le : i ≤ n + 70
  out : Out w wr
theorem LnI.upto {w wr wr' : World} {g n i : Nat} {fa : Option Addr} {fc : Nat} {L : List RI} {Q : List LQ} {V : List Rg} (h : LnI w wr g n i fa fc L Q V) (o : Out wr wr') : LnI w wr' g n i fa fc L Q V :=
  ⟨own_out h.own o, own_out h.fu o, fun q hq => own_out (h.ow q hq) o, h.ri, fun z hz => ⟨(h.mr z hz).1.out o, (h.mr z hz).2⟩, h.lq, h.mv, h.ll, h.le, h.out.trans o⟩
theorem LnI.vlen {w wr : World} {g n i : Nat} {fa : Option Addr} {fc : Nat} {L : List RI} {Q : List LQ} {V : List Rg} (h : LnI w wr g n i fa fc L Q V) : V.length = i - n := by
  have := congrArg List.length h.mv
  simpa using this
theorem LnI.qlen {w wr : World} {g n i : Nat} {fa : Option Addr} {fc : Nat} {L : List RI} {Q : List LQ} {V : List Rg} (h : LnI w wr g n i fa fc L Q V) : Q.length = min i n := by
  have := congrArg List.length h.lq
  rw [List.length_map, List.length_take, h.ll] at this
  exact this
theorem set_rep (A : List Rg) (m : Nat) (z : Rg) : (A ++ List.replicate (m + 1) z0R).set A.length z = A ++ [z] ++ List.replicate m z0R := by
  rw [List.set_append_right _ _ (Nat.le_refl _), Nat.sub_self, List.replicate_succ, List.set_cons_zero, List.append_assoc, List.singleton_append]
/-- a region put at the place of the round -/
theorem LnI.own1 {w wr : World} {g n i : Nat} {fa : Option Addr} {fc : Nat} {L : List RI} {Q : List LQ} {V : List Rg} (h : LnI w wr g n i fa fc L Q V) (hi : i < n + 70) (z : Rg) :
    (((wr.setCell ⟨g, i * 2, none⟩ (.int .u64 (z.f : Nat))).setCell ⟨g, i * 2 + 1, none⟩ (daV z)).ownsRow w.heap.size 36 2 (.slice (some ⟨g, 0, none⟩) (n + 70 : Nat) (n + 70 : Nat)) (n + 70) (rowG (Q.map LQ.g ++ V ++ [z] ++ List.replicate (n + 70 - (i + 1)) z0R))) ∧ ∃ cur, wr.heap[g]? = some (.cells cur 36 (0, 0)) := by
  have hl : (Q.map LQ.g ++ V).length = i := by
    have h1 := h.vlen; have h2 := h.qlen; have h3 := h.le
    rw [List.length_append, List.length_map]; omega
  obtain ⟨m, hm⟩ : ∃ m, n + 70 - i = m + 1 := ⟨n + 70 - i - 1, by omega⟩
  have h1 := own_setG h.own (by rw [List.length_append, hl, List.length_replicate]; omega) hi z
  rw [hm] at h1
  have h2 := set_rep (Q.map LQ.g ++ V) m z
  rw [hl] at h2
  rw [h2] at h1
  rw [show n + 70 - (i + 1) = m by omega]
  refine ⟨h1, ?_⟩
  obtain ⟨cur, hg, _⟩ := owns_blk h.own
  exact ⟨_, hg⟩
theorem LnI.keep {w wr wS : World} {g n i : Nat} {fa : Option Addr} {fc : Nat} {L : List RI} {Q : List LQ} {V : List Rg} (h : LnI w wr g n i fa fc L Q V) (o : Chg (fun b => b = g) wr wS) :
    wS.ownsRow w.heap.size 29 1 (.slice fa Q.length fc) Q.length (Q.map LQ.u) ∧ (∀ q ∈ Q, wS.ownsRow w.heap.size 5 1 q.u (2 * q.x.d.length + 70) ((q.x.d ++ spB q.x.d.length).map byV)) ∧ (∀ z ∈ V, DaI w.heap.size wS z ∧ ∀ q ∈ Q, ∀ b, z.a = some b → q.b < b) ∧ Out w wS := by
  obtain ⟨cur, hg, hBg, _⟩ := owns_blk h.own
  exact ⟨own_chg h.fu o (fun b hb e => own_ne h.fu hg (by decide) (by subst e; exact hb)), fun q hq => own_chg (h.ow q hq) o (fun b hb e => own_ne (h.ow q hq) hg (by decide) (by subst e; exact hb)), fun z hz => ⟨(h.mr z hz).1.chg o (fun b hb e => own_ne (h.mr z hz).1 hg (by decide) (by subst e; simp [daV, hb, Value.ownBlock])), (h.mr z hz).2⟩, Chg.out o h.out (fun b e => by subst e; exact hBg)⟩
theorem chg_two (w : World) (g j k : Nat) (u v : Value) : Chg (fun b => b = g) w ((w.setCell ⟨g, j, none⟩ u).setCell ⟨g, k, none⟩ v) := ((Chg.refl (fun b => b = g) w).setCell rfl _).setCell rfl _
/-- a mark behind the regions -/
theorem LnI.stepM {w wr : World} {g n i : Nat} {fa : Option Addr} {fc : Nat} {L : List RI} {Q : List LQ} {V : List Rg} (h : LnI w wr g n i fa fc L Q V) (hn : n ≤ i) (hi : i < n + 70) :
    LnI w (((wr.alloc (.cells #[.int .u8 77] 5)).setCell ⟨g, i * 2, none⟩ (.int .u64 (i : Nat))).setCell ⟨g, i * 2 + 1, none⟩ (.slice (some ⟨wr.heap.size, 0, none⟩) 1 1)) g n (i + 1) fa fc L Q (V ++ [⟨i, some wr.heap.size, 1, [77]⟩]) := by
  have oA : Out wr (wr.alloc (.cells #[.int .u8 77] 5)) := (Out.refl wr).alloc _
  have hA := h.upto oA
  obtain ⟨hown, cur, hg⟩ := hA.own1 hi ⟨i, some wr.heap.size, 1, [77]⟩
  have o := chg_two (wr.alloc (.cells #[.int .u8 77] 5)) g (i * 2) (i * 2 + 1) (.int .u64 (i : Nat)) (.slice (some ⟨wr.heap.size, 0, none⟩) 1 1)
  obtain ⟨hfu, how, hmk, hout⟩ := hA.keep o
  have hgs : g < wr.heap.size := by obtain ⟨cur, hg, _⟩ := owns_blk h.own; exact (Array.getElem?_eq_some_iff.1 hg).1
  have hD : DaI w.heap.size (wr.alloc (.cells #[.int .u8 77] 5)) ⟨i, some wr.heap.size, 1, [77]⟩ := by
    refine ⟨by simp, .inr ⟨wr.heap.size, 1, #[.int .u8 77], rfl, h.out.size, heap_alloc_new wr _, Nat.le_refl _, by simp [maxLen], rfl, rfl⟩⟩
  refine ⟨by rw [← List.append_assoc]; exact hown, hfu, how, h.ri, fun z hz => ?_, ?_, ?_, h.ll, by omega, hout⟩
  · rcases List.mem_append.1 hz with hz | hz
    · exact hmk z hz
    · simp only [List.mem_cons, List.not_mem_nil, or_false] at hz
      subst hz
      refine ⟨hD.chg o (fun b hb e => by simp at hb; omega), fun q hq b hb => ?_⟩
      simp at hb
      subst hb
      exact ((h.ow q hq).lt q.b rfl).2
  · rw [h.lq, List.take_of_length_le (by rw [h.ll]; omega), List.take_of_length_le (by rw [h.ll]; omega)]
  · rw [List.map_append, h.mv, show i + 1 - n = (i - n) + 1 by omega, List.range_succ, List.map_append]
    simp [fdR, mkM]; omega
/-- a region lent, its bytes' list kept -/
theorem LnI.stepQ {w wr : World} {g n i : Nat} {fa : Option Addr} {fc : Nat} {L : List RI} {Q : List LQ} {V : List Rg} (h : LnI w wr g n i fa fc L Q V) (hi : i < n) (hn : n ≤ 1000000000) (x : RI) (hx : L[i]? = some x) (b cap : Nat) (how : wr.ownsRow w.heap.size 5 1 (LQ.u ⟨x, b, cap⟩) (2 * x.d.length + 70) ((x.d ++ spB x.d.length).map byV)) (hb : ∀ q ∈ Q, q.b < b) :
    ∃ wS wB, wS = (wr.setCell ⟨g, i * 2, none⟩ (.int .u64 (x.f : Nat))).setCell ⟨g, i * 2 + 1, none⟩ (.slice (some ⟨b, 0, none⟩) x.d.length cap) ∧ wB = wS.alloc (.cells #[LQ.u ⟨x, b, cap⟩] 29) ∧ Out w wS ∧ ∃ a2 c2 w4, (Builtin.append_ #[39, 39] 39 #[.slice fa Q.length fc, .slice (some ⟨wS.heap.size, 0, none⟩) 1 1]).run Tryz.prog wB = .ok (.slice a2 (Q.length + 1 : Nat) c2) w4 ∧ LnI w w4 g n (i + 1) a2 c2 L (Q ++ [⟨x, b, cap⟩]) V := by
  obtain ⟨i0, hi0, hz0, hz1, hz2⟩ := info_parts infoB8
  have hV : V = [] := List.length_eq_zero_iff.1 (by rw [h.vlen]; omega)
  subst hV
  have hql : Q.length = i := by rw [h.qlen]; omega
  obtain ⟨hown, cur, hg⟩ := h.own1 (by omega) (LQ.g ⟨x, b, cap⟩)
  have o := chg_two wr g (i * 2) (i * 2 + 1) (.int .u64 (x.f : Nat)) (.slice (some ⟨b, 0, none⟩) x.d.length cap)
  obtain ⟨hfu, how2, _, hout⟩ := h.keep o
  have how3 := own_chg how o (fun k hk e => own_ne how hg (by decide) (by subst e; exact hk))
  have hownS : ((wr.setCell ⟨g, i * 2, none⟩ (.int .u64 (x.f : Nat))).setCell ⟨g, i * 2 + 1, none⟩ (.slice (some ⟨b, 0, none⟩) x.d.length cap)).ownsRow w.heap.size 36 2 (.slice (some ⟨g, 0, none⟩) (n + 70 : Nat) (n + 70 : Nat)) (n + 70) (rowG (Q.map LQ.g ++ [] ++ [LQ.g ⟨x, b, cap⟩] ++ List.replicate (n + 70 - (i + 1)) z0R)) := hown
  clear hown
  generalize (wr.setCell ⟨g, i * 2, none⟩ (.int .u64 (x.f : Nat))).setCell ⟨g, i * 2 + 1, none⟩ (.slice (some ⟨b, 0, none⟩) x.d.length cap) = wS at *
  have oB : Out wS (wS.alloc (.cells #[LQ.u ⟨x, b, cap⟩] 29)) := (Out.refl wS).alloc _
  obtain ⟨v2, w2, hr2, hown2, hgr2, hnil2, _⟩ := run_append_own_at (P := Tryz.prog) (ty := 39) (wS.alloc (.cells #[LQ.u ⟨x, b, cap⟩] 29)) w.heap.size 39 29 i0 _ 1 24 Tryz.underlying39 hi0 hz0 hz1 hz2 rfl (by decide) (.slice fa Q.length fc) Q.length (Q.map LQ.u) (own_out hfu oB) ⟨wS.heap.size, 0, none⟩ 1 1 [LQ.u ⟨x, b, cap⟩] rfl (fun j u hj => by rw [add_B, Nat.zero_add]; match j, hj with | 0, hj => cases hj; rw [cell_B (heap_alloc_new wS _)]; rfl) (by intro u hu; simp at hu; subst hu; rfl) (by simp only [maxLen]; omega) (by omega) (hout.trans oB).size
  obtain ⟨a2, c2, rfl, _, _⟩ := own_slice hown2
  have hc2 : Chg (fun k => (Value.slice fa Q.length fc).ownBlock = some k) (wS.alloc (.cells #[LQ.u ⟨x, b, cap⟩] 29)) w2 := Chg.of_grown hgr2 (fun q hq => hq)
  have hfB := own_out hfu oB
  refine ⟨wS, _, rfl, rfl, hout, a2, c2, w2, hr2, ?_, ?_, ?_, ?_, ?_, ?_, ?_, h.ll, by omega, ?_⟩
  · have h9 := own_chg (own_out hownS oB) hc2 (fun k hk e => own_two hfB (own_out hownS oB) (by decide) e hk)
    rw [List.append_nil] at h9
    rw [List.map_append, List.append_nil]
    exact h9
  · rw [List.length_append, List.map_append]; exact hown2
  · intro q hq
    rcases List.mem_append.1 hq with hq | hq
    · exact own_chg (own_out (how2 q hq) oB) hc2 (fun k hk e => own_two hfB (own_out (how2 q hq) oB) (by decide) e hk)
    · simp only [List.mem_cons, List.not_mem_nil, or_false] at hq
      subst hq
      exact own_chg (own_out how3 oB) hc2 (fun k hk e => own_two hfB (own_out how3 oB) (by decide) e hk)
  · refine List.pairwise_append.2 ⟨h.ri, List.pairwise_singleton _ _, fun q hq y hy => ?_⟩
    simp only [List.mem_cons, List.not_mem_nil, or_false] at hy
    subst hy; exact hb q hq
  · simp
  · rw [List.map_append, h.lq, List.take_add_one, hx]; rfl
  · rw [show i + 1 - n = 0 by omega]; rfl
  · exact Chg.out hc2 (hout.trans oB) (fun k hk => (hfB.lt k hk).1)
end Go.Proofs.YtekjfbmebekmeaaGreat
