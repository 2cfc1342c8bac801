import Derived.Test.YtekjfbmebekmeaaGreatGa21
namespace Go.Proofs.YtekjfbmebekmeaaGreat
open Go.RowKit
set_option linter.unusedVariables false
set_option linter.unusedSimpArgs false
theorem DaI.rest {B : Nat} {w : World} {x : Rg} (h : DaI B w x) : RestA w (x.a.map fun b => ⟨b, 0, none⟩) x.d := by
  by_cases hl : x.d = []
  · exact .inl hl
  · unfold DaI at h
    obtain ⟨b, k, j, _, _⟩ := h.form (List.length_pos_iff.2 hl)
    rw [daV] at j
    simp only [Value.slice.injEq] at j
    rw [daV, j.1, j.2.2] at h
    exact .inr ⟨⟨b, 0, none⟩, j.1, fun k u hk => by rw [add_B, Nat.zero_add]; exact (own_cellK h hk).1⟩
def dnB (R : List Rg) : Prop := R.Pairwise (fun x y => ∀ k, x.a = some k → y.a ≠ some k)
theorem dn_snoc {R : List Rg} {x : Rg} {N : Nat} (h : dnB R) (h1 : ∀ y ∈ R, ∀ k, y.a = some k → k < N) (h2 : ∀ k, x.a = some k → N ≤ k) : dnB (R ++ [x]) :=
  List.pairwise_append.2 ⟨h, List.pairwise_singleton _ _, fun y hy z hz k hk hc => by
    simp only [List.mem_cons, List.not_mem_nil, or_false] at hz
    subst hz
    have := h1 y hy k hk; have := h2 k hc; omega⟩
def CopE (R : List Rg) (n : Nat) (w : World) (e : Ending) (w' : World) : Prop := ∃ a' c', ∃ R' : List Rg, e = .returned (.agg #[.slice a' n c']) ∧ RLs w.heap.size w' a' c' n R' ∧ R'.map fdR = R.map fdR ∧ Out w w' ∧ dnB R'
set_option maxHeartbeats 4000000 in
set_option maxRecDepth 100000 in
theorem refCopy_any (w : World) (B0 : Nat) (a : Option Addr) (c n : Nat) (R : List Rg) (h : RLs B0 w a c n R) (hRn : R.length = n) (hb : ∀ z ∈ R, z.d.length ≤ 140737488355328) (hn : n ≤ 4398046511104) :
    Calls Tryz.prog 47 #[.agg #[.slice a n c]] w fun e w' => CopE R n w e w' := by
  have HI := hidOf h
  have HB0 := hidOf hb
  have HRN := hidOf hRn
  clear h hb hRn
  obtain ⟨p, hp⟩ : ∃ p, Hid (p = w.heap.size) := ⟨_, rfl⟩
  obtain ⟨w0, H0, bp, b1, b2, o0, s0⟩ : ∃ w0, Hid (w0 = ((w.alloc (.cells #[.slice a n c] 47)).alloc (.cells #[.slice none 0 0] 47)).alloc (.cells #[.slice none 0 0] 47)) ∧ w0.heap[p]? = some (.cells #[.slice a n c] 47 (0, 0)) ∧ w0.heap[p + 1]? = some (.cells #[.slice none 0 0] 47 (0, 0)) ∧ w0.heap[p + 2]? = some (.cells #[.slice none 0 0] 47 (0, 0)) ∧ Out w w0 ∧ w0.heap.size = p + 3 := by
    have s1 : (w.alloc (.cells #[.slice a n c] 47)).heap.size = p + 1 := by rw [size_alloc, hp.out]
    have s2 : ((w.alloc (.cells #[.slice a n c] 47)).alloc (.cells #[.slice none 0 0] 47)).heap.size = p + 2 := by rw [size_alloc, s1]
    refine ⟨_, rfl, ?_, ?_, ?_, (((Out.refl w).alloc _).alloc _).alloc _, by rw [size_alloc, s2]⟩
    · refine blk_out (blk_out ?_ ((Out.refl _).alloc _)) ((Out.refl _).alloc _)
      rw [hp.out]; exact heap_alloc_new w _
    · refine blk_out ?_ ((Out.refl _).alloc _)
      rw [← s1]; exact heap_alloc_new _ _
    · rw [← s2]; exact heap_alloc_new _ _
  have O0 := hidOf o0
  have S0 := hidOf s0
  have BP := hidOf bp
  have B1 := hidOf b1
  have B2 := hidOf b2
  clear o0 s0 bp b1 b2
  go_enter Tryz.func47, Tryz.ntmps47
  go_upto_region 2 with fail
  rw [← hp.out]
  rw [← H0.out]
  go_wp2
  go_loopw [4] (fun kv wr => ∃ (k : Nat) (oa : Option Addr) (oc : Nat) (R' : List Rg), kv = .int .i64 (k : Nat) ∧ k ≤ n ∧ Hid (wr.heap[p]? = some (.cells #[.slice a n c] 47 (0, 0))) ∧ Hid (wr.heap[p + 1]? = some (.cells #[.slice none 0 0] 47 (0, 0))) ∧ Hid (wr.heap[p + 2]? = some (.cells #[.slice oa k oc] 47 (0, 0))) ∧ Hid (RLs (p + 3) wr oa oc k R') ∧ Hid (R'.map fdR = (R.take k).map fdR) ∧ Hid (Out w wr) ∧ Hid (dnB R')) (fun kv _ => n - (intOf kv).toNat)
  case atStart => exact ⟨0, none, 0, [], rfl, Nat.zero_le _, BP, B1, B2, hidOf ⟨World.ownsRow_nil _ _ _ _, by simp⟩, hidOf (by simp), O0, hidOf List.Pairwise.nil⟩
  case round =>
    obtain ⟨k, oa, oc, R', rfl, hk, KP, M1, K2, RL, EQ, OR, DN⟩ := hrel
    have cp : wr.cell? ⟨p, 0, none⟩ = some (.slice a n c) := by rw [cell_B KP.out]; rfl
    have cc : wr.cell? ⟨p + 2, 0, none⟩ = some (.slice oa k oc) := by rw [cell_B K2.out]; rfl
    by_cases hkn : k < n
    · have hlt : (k : Int) < n := by omega
      obtain ⟨z, hz⟩ : ∃ z, R[k]? = some z := ⟨_, List.getElem?_eq_getElem (by rw [HRN.out]; exact hkn)⟩
      have hown := (HI.out.out OR.out).own
      obtain ⟨g, cc2, ee, _, _⟩ := hown.form (by omega)
      simp only [Value.slice.injEq] at ee
      obtain ⟨rfl, _, rfl⟩ := ee
      obtain ⟨q0, q1⟩ := rowG_get hz
      have r0 := (own_cellK hown q0).1
      have r1 := (own_cellK hown q1).1
      have HZ := hidOf hz
      have hzb := HB0.out z (List.mem_of_getElem? hz)
      have CPA := hidOf (copied_any wr.drew (z.a.map fun b => ⟨b, 0, none⟩) z.f z.c z.d ((HI.out.da z (List.mem_of_getElem? hz)).rest.out OR.out.drew) hzb)
      have hgp : g < p := by
        have := (HI.out.own.lt g rfl).2
        rw [hp.out]; exact this
      rw [daV] at r1
      obtain ⟨zf, hzf⟩ : ∃ zf, Hid (zf = z.f) := ⟨_, rfl⟩
      obtain ⟨zl, hzl⟩ : ∃ zl, Hid (zl = z.d.length) := ⟨_, rfl⟩
      obtain ⟨zc, hzc⟩ : ∃ zc, Hid (zc = z.c) := ⟨_, rfl⟩
      obtain ⟨za, hza⟩ : ∃ za : Option Addr, Hid (za = z.a.map fun b => ⟨b, 0, none⟩) := ⟨_, rfl⟩
      rw [← hzf.out, ← hzl.out, ← hzc.out, ← hza.out] at CPA
      rw [← hzf.out] at r0
      rw [← hzl.out, ← hzc.out, ← hza.out] at r1
      clear hown q0 q1 hz hzb
      go_upto_region 5 with fail
      refine wp_region_held_drew (S := (fun w' => w'.cell? ⟨p, 0, none⟩ = some (.slice (some ⟨g, 0, none⟩) n c) ∧ w'.cell? ⟨g, k * 2, none⟩ = some (.int .u64 zf) ∧ w'.cell? ⟨g, k * 2 + 1, none⟩ = some (.slice za zl zc) ∧ (w'.cell? ⟨p + 2, 0, none⟩ = some (.slice oa k oc) ∨ ∃ v, w'.cell? ⟨p + 2, 0, none⟩ = some v))) (by kernel_rfl) ?_ (fun hHeld => ?_)
      · exact ⟨cp, r0, r1, .inl cc⟩
      refine wpAnyH_take (i := 0) (v := ?_) rfl (by kernel_rfl) (by kernel_rfl) (by kernel_rfl) (fun _ _ _ h => h) (Or.inl ⟨by rfl, ?_⟩) (by assumption) ?_
      rotate_left
      · (intro w hSw; (try dsimp only at hSw); go_simp; (try with_reducible rfl))
      show wpAnyH _ _ _ _ _ _ _ (Act.put _ (some 12) _) _
      simp only [Act.put, List.setIfInBounds_toArray, List.set_cons_zero, List.set_cons_succ]
      refine wpAnyH_take (i := 2) (v := ?_) rfl (by kernel_rfl) (by kernel_rfl) (by kernel_rfl) (fun _ _ _ h => h) (Or.inl ⟨by rfl, ?_⟩) (by assumption) ?_
      rotate_left
      · (intro w hSw; (try dsimp only at hSw); go_simp; (try with_reducible rfl))
      show wpAnyH _ _ _ _ _ _ _ (Act.put _ (some 14) _) _
      simp only [Act.put, List.setIfInBounds_toArray, List.set_cons_zero, List.set_cons_succ]
      refine wpAnyH_take (i := 3) (v := ?_) rfl (by kernel_rfl) (by kernel_rfl) (by kernel_rfl) (fun _ _ _ h => h) (Or.inl ⟨by rfl, ?_⟩) (by assumption) ?_
      rotate_left
      · (intro w hSw; (try dsimp only at hSw); go_simp; (try with_reducible rfl))
      show wpAnyH _ _ _ _ _ _ _ (Act.put _ (some 15) _) _
      simp only [Act.put, List.setIfInBounds_toArray, List.set_cons_zero, List.set_cons_succ]
      refine wpAnyH_take (i := 4) (v := ?_) rfl (by kernel_rfl) (by kernel_rfl) (by kernel_rfl) (fun _ _ _ h => h) (Or.inl ⟨by rfl, ?_⟩) (by assumption) ?_
      rotate_left
      · (intro w hSw; (try dsimp only at hSw); go_simp; (try with_reducible rfl))
      show wpAnyH _ _ _ _ _ _ _ (Act.put _ (some 16) _) _
      simp only [Act.put, List.setIfInBounds_toArray, List.set_cons_zero, List.set_cons_succ]
      refine wpAnyH_take (i := 5) (v := ?_) rfl (by kernel_rfl) (by kernel_rfl) (by kernel_rfl) (fun _ _ _ h => h) (Or.inl ⟨by rfl, ?_⟩) (by assumption) ?_
      rotate_left
      · (intro w hSw; (try dsimp only at hSw); go_simp; (try with_reducible rfl))
      show wpAnyH _ _ _ _ _ _ _ (Act.put _ (some 17) _) _
      simp only [Act.put, List.setIfInBounds_toArray, List.set_cons_zero, List.set_cons_succ]
      refine wpAnyH_take (i := 6) (v := ?_) rfl (by kernel_rfl) (by kernel_rfl) (by kernel_rfl) (fun _ _ _ h => h) (Or.inl ⟨by rfl, ?_⟩) (by assumption) ?_
      rotate_left
      · (intro w hSw; (try dsimp only at hSw); go_simp; (try with_reducible rfl))
      show wpAnyH _ _ _ _ _ _ _ (Act.put _ (some 18) _) _
      simp only [Act.put, List.setIfInBounds_toArray, List.set_cons_zero, List.set_cons_succ]
      refine wpAnyH_ready (rs := [1, 7]) (by kernel_rfl) (by simp) ?_
      refine (AllReadyH.cons rfl (fun K1 hK1 => ?_) (AllReadyH.cons rfl (fun K7 hK7 => ?_) AllReadyH.nil))
      · rw [if_pos (by rfl)]
        go_simp
        refine hK1.out _ _ ⟨cp, r0, r1, .inl cc⟩ (fun hHeld1 => ?_)
        try simp only [Act.put, List.setIfInBounds_toArray, List.set_cons_zero, List.set_cons_succ]
        refine wpAnyH_ready (rs := [7]) (by kernel_rfl) (by simp) ?_
        refine (AllReadyH.cons rfl (fun K7 hK7 => ?_) AllReadyH.nil)
        rw [if_pos (by rfl)]
        go_simp
        go_at_call 48
        refine (CPA.out).mono ?_
        rintro e w1 ⟨x, hxf, hxd, rfl, hdx, ho1⟩
        have O1 := hidOf ho1
        have HXF := hidOf hxf
        have HXD := hidOf hxd
        have HDX := hidOf hdx
        have t0 := cell_later ho1 (show wr.drew.cell? _ = _ from cp)
        have t1 := cell_later ho1 (show wr.drew.cell? _ = _ from cc)
        have t2 := cell_later ho1 (show wr.drew.cell? _ = _ from r0)
        have t3 := cell_later ho1 (show wr.drew.cell? _ = _ from r1)
        clear hxf hxd hdx ho1
        obtain ⟨xa, hxa⟩ : ∃ xa : Option Addr, Hid (xa = x.a.map fun b => ⟨b, 0, none⟩) := ⟨_, rfl⟩
        rw [← hxa.out]
        obtain ⟨wB, HB, u0, u1, oB, sB⟩ := box_two w1 (.int .u64 (x.f : Nat)) (.slice xa x.d.length x.c) 36
        have OB := hidOf oB
        have oRB : Out wr wB := ((Out.refl wr).drew.trans O1.out).trans oB
        have hsz : p + 3 ≤ wr.heap.size := (Array.getElem?_eq_some_iff.1 K2.out).1
        have hszB := oRB.size
        obtain ⟨a2, c2, w2, hap, hrl, hc2⟩ := RLs.push (RL.out.out oRB) (by omega) (by omega) w1.heap.size x xa hxa.out u0 u1 (DaI.out (own_base HDX.out (by show p + 3 ≤ wr.heap.size; exact hsz)) oB)
        have hS2 : ∀ b, (Value.slice oa k oc).ownBlock = some b → p + 3 ≤ b := fun b hb => (RL.out.own.lt b hb).1
        have v0 := cell_later oB t0
        have v1 := cell_later oB t1
        have v2 := cell_later oB t2
        have v3 := cell_later oB t3
        have y0 := hc2.cell v0 (fun hq => by have := hS2 _ hq; simp only at this; omega)
        have y1 := hc2.cell v1 (fun hq => by have := hS2 _ hq; simp only at this; omega)
        have y2 := hc2.cell v2 (fun hq => by have := hS2 _ hq; simp only at this; omega)
        have y3 := hc2.cell v3 (fun hq => by have := hS2 _ hq; simp only at this; omega)
        have k2 := blk_chg (blk_out K2.out oRB) hc2 (fun hq => by have := hS2 _ hq; omega)
        have k1 := blk_chg (blk_out M1.out oRB) hc2 (fun hq => by have := hS2 _ hq; omega)
        have k0 := blk_chg (blk_out KP.out oRB) hc2 (fun hq => by have := hS2 _ hq; omega)
        have z2 : w2.frozen? ⟨p + 2, 0, none⟩ = false := froz_B k2 0
        obtain ⟨wS, HS, bS, cS⟩ : ∃ wS, Hid (wS = w2.setCell ⟨p + 2, 0, none⟩ (.slice a2 (k + 1) c2)) ∧ wS.heap[p + 2]? = some (.cells #[.slice a2 (k + 1) c2] 47 (0, 0)) ∧ Chg (fun b => b = p + 2) w2 wS := ⟨_, rfl, set_B k2 0 _, (Chg.refl (fun b => b = p + 2) w2).setCell rfl _⟩
        have e0 := cS.cell y0 (by simp)
        have e2 := cS.cell y2 (by show ¬ g = p + 2; omega)
        have e3 := cS.cell y3 (by show ¬ g = p + 2; omega)
        have e1 : wS.cell? ⟨p + 2, 0, none⟩ = some (.slice a2 (k + 1) c2) := by rw [cell_B bS]; rfl
        have KDN : Hid (dnB (R' ++ [x])) := hidOf (dn_snoc DN.out (fun y hy k hk => (DaI.blk (RL.out.da y hy) hk).2) (fun k hk => (DaI.blk HDX.out hk).1))
        have HAP := hidOf hap
        have KS0 := hidOf (blk_chg k0 cS (by simp))
        have KS1 := hidOf (blk_chg k1 cS (by simp))
        have KS2 := hidOf bS
        have KRL := hidOf (hrl.chg cS (fun b hb hq => by omega))
        have KO := hidOf (Chg.out cS (Chg.out hc2 (OR.out.trans oRB) (fun b hb => by have := hS2 b hb; have := hp.out; omega)) (fun b hb => by have := hp.out; omega))
        clear hap hrl hc2 bS cS k0 k1 k2 oRB oB sB u0 u1 hS2
        refine hK7.out _ _ ⟨t0, t2, t3, .inl t1⟩ (fun hHeld7 => ?_)
        try simp only [Act.put, List.setIfInBounds_toArray, List.set_cons_zero, List.set_cons_succ]
        refine wpAnyH_ready (rs := [8]) (by kernel_rfl) (by simp) ?_
        refine (AllReadyH.cons rfl (fun K8 hK8 => ?_) AllReadyH.nil)
        rw [if_pos (by rfl)]
        go_simp
        rw [← HB.out]
        refine hK8.out _ _ ⟨v0, v2, v3, .inl v1⟩ (fun hHeld8 => ?_)
        try simp only [Act.put, List.setIfInBounds_toArray, List.set_cons_zero, List.set_cons_succ]
        refine wpAnyH_ready (rs := [9]) (by kernel_rfl) (by simp) ?_
        refine (AllReadyH.cons rfl (fun K9 hK9 => ?_) AllReadyH.nil)
        rw [if_pos (by rfl)]
        refine Lib.wp_append_run _ (.tmp 13) (.tmp 20) 22 22 rfl _ _ (by simp [Act.eval, Act.put]) (by simp [Act.eval, Act.put]) _ _ (HAP.out _) ?_
        refine hK9.out _ _ ⟨y0, y2, y3, .inl y1⟩ (fun hHeld9 => ?_)
        simp only [Act.put, List.setIfInBounds_toArray, List.set_cons_zero, List.set_cons_succ]
        refine wpAnyH_take (i := 10) (v := ?_) rfl (by kernel_rfl) (by kernel_rfl) (by kernel_rfl) (fun _ _ _ h => h) (Or.inl ⟨by rfl, ?_⟩) (by assumption) ?_
        rotate_left
        · (intro w hSw; (try dsimp only at hSw); go_simp; (try with_reducible rfl))
        show wpAnyH _ _ _ _ _ _ _ (Act.put _ (some 22) _) _
        simp only [Act.put, List.setIfInBounds_toArray, List.set_cons_zero, List.set_cons_succ]
        refine wpAnyH_ready (rs := [11]) (by kernel_rfl) (by simp) ?_
        refine (AllReadyH.cons rfl (fun K11 hK11 => ?_) AllReadyH.nil)
        rw [if_pos (by rfl)]
        go_simp
        rw [← HS.out]
        refine hK11.out _ _ ⟨e0, e2, e3, .inr ⟨_, e1⟩⟩ (fun hHeld11 => ?_)
        try simp only [Act.put, List.setIfInBounds_toArray, List.set_cons_zero, List.set_cons_succ]
        refine wpAnyH_done (by kernel_rfl) ?_ _
        go_wp2
        go_roundw
        case rel =>
          refine ⟨k + 1, a2, c2, R' ++ [x], by simp, by omega, KS0, KS1, KS2, KRL, hidOf ?_, KO, KDN⟩
          rw [List.map_append, EQ.out, List.take_add_one, HZ.out, List.map_append]
          simp [fdR, HXF.out, HXD.out, hzf.out]
        case measure => simp [intOf]; omega
      · rw [if_pos (by rfl)]
        go_simp
        go_at_call 48
        refine (CPA.out).mono ?_
        rintro e w1 ⟨x, hxf, hxd, rfl, hdx, ho1⟩
        have O1 := hidOf ho1
        have HXF := hidOf hxf
        have HXD := hidOf hxd
        have HDX := hidOf hdx
        have t0 := cell_later ho1 (show wr.drew.cell? _ = _ from cp)
        have t1 := cell_later ho1 (show wr.drew.cell? _ = _ from cc)
        have t2 := cell_later ho1 (show wr.drew.cell? _ = _ from r0)
        have t3 := cell_later ho1 (show wr.drew.cell? _ = _ from r1)
        clear hxf hxd hdx ho1
        obtain ⟨xa, hxa⟩ : ∃ xa : Option Addr, Hid (xa = x.a.map fun b => ⟨b, 0, none⟩) := ⟨_, rfl⟩
        rw [← hxa.out]
        obtain ⟨wB, HB, u0, u1, oB, sB⟩ := box_two w1 (.int .u64 (x.f : Nat)) (.slice xa x.d.length x.c) 36
        have OB := hidOf oB
        have oRB : Out wr wB := ((Out.refl wr).drew.trans O1.out).trans oB
        have hsz : p + 3 ≤ wr.heap.size := (Array.getElem?_eq_some_iff.1 K2.out).1
        have hszB := oRB.size
        obtain ⟨a2, c2, w2, hap, hrl, hc2⟩ := RLs.push (RL.out.out oRB) (by omega) (by omega) w1.heap.size x xa hxa.out u0 u1 (DaI.out (own_base HDX.out (by show p + 3 ≤ wr.heap.size; exact hsz)) oB)
        have hS2 : ∀ b, (Value.slice oa k oc).ownBlock = some b → p + 3 ≤ b := fun b hb => (RL.out.own.lt b hb).1
        have v0 := cell_later oB t0
        have v1 := cell_later oB t1
        have v2 := cell_later oB t2
        have v3 := cell_later oB t3
        have y0 := hc2.cell v0 (fun hq => by have := hS2 _ hq; simp only at this; omega)
        have y1 := hc2.cell v1 (fun hq => by have := hS2 _ hq; simp only at this; omega)
        have y2 := hc2.cell v2 (fun hq => by have := hS2 _ hq; simp only at this; omega)
        have y3 := hc2.cell v3 (fun hq => by have := hS2 _ hq; simp only at this; omega)
        have k2 := blk_chg (blk_out K2.out oRB) hc2 (fun hq => by have := hS2 _ hq; omega)
        have k1 := blk_chg (blk_out M1.out oRB) hc2 (fun hq => by have := hS2 _ hq; omega)
        have k0 := blk_chg (blk_out KP.out oRB) hc2 (fun hq => by have := hS2 _ hq; omega)
        have z2 : w2.frozen? ⟨p + 2, 0, none⟩ = false := froz_B k2 0
        obtain ⟨wS, HS, bS, cS⟩ : ∃ wS, Hid (wS = w2.setCell ⟨p + 2, 0, none⟩ (.slice a2 (k + 1) c2)) ∧ wS.heap[p + 2]? = some (.cells #[.slice a2 (k + 1) c2] 47 (0, 0)) ∧ Chg (fun b => b = p + 2) w2 wS := ⟨_, rfl, set_B k2 0 _, (Chg.refl (fun b => b = p + 2) w2).setCell rfl _⟩
        have e0 := cS.cell y0 (by simp)
        have e2 := cS.cell y2 (by show ¬ g = p + 2; omega)
        have e3 := cS.cell y3 (by show ¬ g = p + 2; omega)
        have e1 : wS.cell? ⟨p + 2, 0, none⟩ = some (.slice a2 (k + 1) c2) := by rw [cell_B bS]; rfl
        have KDN : Hid (dnB (R' ++ [x])) := hidOf (dn_snoc DN.out (fun y hy k hk => (DaI.blk (RL.out.da y hy) hk).2) (fun k hk => (DaI.blk HDX.out hk).1))
        have HAP := hidOf hap
        have KS0 := hidOf (blk_chg k0 cS (by simp))
        have KS1 := hidOf (blk_chg k1 cS (by simp))
        have KS2 := hidOf bS
        have KRL := hidOf (hrl.chg cS (fun b hb hq => by omega))
        have KO := hidOf (Chg.out cS (Chg.out hc2 (OR.out.trans oRB) (fun b hb => by have := hS2 b hb; have := hp.out; omega)) (fun b hb => by have := hp.out; omega))
        clear hap hrl hc2 bS cS k0 k1 k2 oRB oB sB u0 u1 hS2
        refine hK7.out _ _ ⟨t0, t2, t3, .inl t1⟩ (fun hHeld7 => ?_)
        try simp only [Act.put, List.setIfInBounds_toArray, List.set_cons_zero, List.set_cons_succ]
        refine wpAnyH_ready (rs := [1, 8]) (by kernel_rfl) (by simp) ?_
        refine (AllReadyH.cons rfl (fun K1 hK1 => ?_) (AllReadyH.cons rfl (fun K8 hK8 => ?_) AllReadyH.nil))
        · rw [if_pos (by rfl)]
          go_simp
          refine hK1.out _ _ ⟨t0, t2, t3, .inl t1⟩ (fun hHeld1 => ?_)
          try simp only [Act.put, List.setIfInBounds_toArray, List.set_cons_zero, List.set_cons_succ]
          refine wpAnyH_ready (rs := [8]) (by kernel_rfl) (by simp) ?_
          refine (AllReadyH.cons rfl (fun K8 hK8 => ?_) AllReadyH.nil)
          rw [if_pos (by rfl)]
          go_simp
          rw [← HB.out]
          refine hK8.out _ _ ⟨v0, v2, v3, .inl v1⟩ (fun hHeld8 => ?_)
          try simp only [Act.put, List.setIfInBounds_toArray, List.set_cons_zero, List.set_cons_succ]
          refine wpAnyH_ready (rs := [9]) (by kernel_rfl) (by simp) ?_
          refine (AllReadyH.cons rfl (fun K9 hK9 => ?_) AllReadyH.nil)
          rw [if_pos (by rfl)]
          refine Lib.wp_append_run _ (.tmp 13) (.tmp 20) 22 22 rfl _ _ (by simp [Act.eval, Act.put]) (by simp [Act.eval, Act.put]) _ _ (HAP.out _) ?_
          refine hK9.out _ _ ⟨y0, y2, y3, .inl y1⟩ (fun hHeld9 => ?_)
          simp only [Act.put, List.setIfInBounds_toArray, List.set_cons_zero, List.set_cons_succ]
          refine wpAnyH_take (i := 10) (v := ?_) rfl (by kernel_rfl) (by kernel_rfl) (by kernel_rfl) (fun _ _ _ h => h) (Or.inl ⟨by rfl, ?_⟩) (by assumption) ?_
          rotate_left
          · (intro w hSw; (try dsimp only at hSw); go_simp; (try with_reducible rfl))
          show wpAnyH _ _ _ _ _ _ _ (Act.put _ (some 22) _) _
          simp only [Act.put, List.setIfInBounds_toArray, List.set_cons_zero, List.set_cons_succ]
          refine wpAnyH_ready (rs := [11]) (by kernel_rfl) (by simp) ?_
          refine (AllReadyH.cons rfl (fun K11 hK11 => ?_) AllReadyH.nil)
          rw [if_pos (by rfl)]
          go_simp
          rw [← HS.out]
          refine hK11.out _ _ ⟨e0, e2, e3, .inr ⟨_, e1⟩⟩ (fun hHeld11 => ?_)
          try simp only [Act.put, List.setIfInBounds_toArray, List.set_cons_zero, List.set_cons_succ]
          refine wpAnyH_done (by kernel_rfl) ?_ _
          go_wp2
          go_roundw
          case rel =>
            refine ⟨k + 1, a2, c2, R' ++ [x], by simp, by omega, KS0, KS1, KS2, KRL, hidOf ?_, KO, KDN⟩
            rw [List.map_append, EQ.out, List.take_add_one, HZ.out, List.map_append]
            simp [fdR, HXF.out, HXD.out, hzf.out]
          case measure => simp [intOf]; omega
        · rw [if_pos (by rfl)]
          go_simp
          rw [← HB.out]
          refine hK8.out _ _ ⟨v0, v2, v3, .inl v1⟩ (fun hHeld8 => ?_)
          try simp only [Act.put, List.setIfInBounds_toArray, List.set_cons_zero, List.set_cons_succ]
          refine wpAnyH_ready (rs := [1]) (by kernel_rfl) (by simp) ?_
          refine (AllReadyH.cons rfl (fun K1 hK1 => ?_) AllReadyH.nil)
          rw [if_pos (by rfl)]
          go_simp
          refine hK1.out _ _ ⟨v0, v2, v3, .inl v1⟩ (fun hHeld1 => ?_)
          try simp only [Act.put, List.setIfInBounds_toArray, List.set_cons_zero, List.set_cons_succ]
          refine wpAnyH_ready (rs := [9]) (by kernel_rfl) (by simp) ?_
          refine (AllReadyH.cons rfl (fun K9 hK9 => ?_) AllReadyH.nil)
          rw [if_pos (by rfl)]
          refine Lib.wp_append_run _ (.tmp 13) (.tmp 20) 22 22 rfl _ _ (by simp [Act.eval, Act.put]) (by simp [Act.eval, Act.put]) _ _ (HAP.out _) ?_
          refine hK9.out _ _ ⟨y0, y2, y3, .inl y1⟩ (fun hHeld9 => ?_)
          simp only [Act.put, List.setIfInBounds_toArray, List.set_cons_zero, List.set_cons_succ]
          refine wpAnyH_take (i := 10) (v := ?_) rfl (by kernel_rfl) (by kernel_rfl) (by kernel_rfl) (fun _ _ _ h => h) (Or.inl ⟨by rfl, ?_⟩) (by assumption) ?_
          rotate_left
          · (intro w hSw; (try dsimp only at hSw); go_simp; (try with_reducible rfl))
          show wpAnyH _ _ _ _ _ _ _ (Act.put _ (some 22) _) _
          simp only [Act.put, List.setIfInBounds_toArray, List.set_cons_zero, List.set_cons_succ]
          refine wpAnyH_ready (rs := [11]) (by kernel_rfl) (by simp) ?_
          refine (AllReadyH.cons rfl (fun K11 hK11 => ?_) AllReadyH.nil)
          rw [if_pos (by rfl)]
          go_simp
          rw [← HS.out]
          refine hK11.out _ _ ⟨e0, e2, e3, .inr ⟨_, e1⟩⟩ (fun hHeld11 => ?_)
          try simp only [Act.put, List.setIfInBounds_toArray, List.set_cons_zero, List.set_cons_succ]
          refine wpAnyH_done (by kernel_rfl) ?_ _
          go_wp2
          go_roundw
          case rel =>
            refine ⟨k + 1, a2, c2, R' ++ [x], by simp, by omega, KS0, KS1, KS2, KRL, hidOf ?_, KO, KDN⟩
            rw [List.map_append, EQ.out, List.take_add_one, HZ.out, List.map_append]
            simp [fdR, HXF.out, HXD.out, hzf.out]
          case measure => simp [intOf]; omega
    · have hlt : ¬ (k : Int) < n := by omega
      obtain rfl : n = k := by omega
      have z1 : wr.frozen? ⟨p + 1, 0, none⟩ = false := froz_B M1.out 0
      have c1 : wr.cell? ⟨p + 1, 0, none⟩ = some (.slice none 0 0) := by rw [cell_B M1.out] <;> rfl
      have ht : R.take n = R := by rw [← HRN.out]; exact List.take_length
      have heq := EQ.out
      rw [ht] at heq
      obtain ⟨wS, HS, bS, cS⟩ : ∃ wS, Hid (wS = wr.setCell ⟨p + 1, 0, none⟩ (.slice oa n oc)) ∧ wS.heap[p + 1]? = some (.cells #[.slice oa n oc] 47 (0, 0)) ∧ Chg (fun b => b = p + 1) wr wS := ⟨_, rfl, set_B M1.out 0 _, (Chg.refl (fun b => b = p + 1) wr).setCell rfl _⟩
      have BS := hidOf bS
      have CS := hidOf cS
      have HEQ := hidOf heq
      clear bS cS heq
      go_wp2
      rw [← HS.out]
      refine bodyPost_ret (results_cell_row rfl _ _ (p + 1) 47 _ (0, 0) _ rfl BS.out Tryz.underlying47 rfl (by kernel_rfl)) rfl ?_
      exact ⟨oa, oc, R', rfl, (RL.out.chg CS.out (fun b hb hq => by omega)).base (by have := hp.out; omega), HEQ.out, Chg.out CS.out OR.out (fun b hb => by have := hp.out; omega), DN.out⟩
end Go.Proofs.YtekjfbmebekmeaaGreat
