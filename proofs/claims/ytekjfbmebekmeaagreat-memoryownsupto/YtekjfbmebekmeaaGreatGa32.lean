import Derived.Test.YtekjfbmebekmeaaGreatGa31
namespace Go.Proofs.YtekjfbmebekmeaaGreat
open Go.RowKit
set_option linter.unusedVariables false
set_option linter.unusedSimpArgs false
def RemE (a : Option Addr) (c n : Nat) (R : List Rg) (f : Nat) (w : World) (e : Ending) (w' : World) : Prop :=
  Out w w' ∧ (((RemQ (R.map fdR) f).1 = R.map fdR ∧ e = .returned (.tuple #[.agg #[.slice a n c], .int .i64 (RemQ (R.map fdR) f).2])) ∨
  ∃ a' c' n', ∃ R' : List Rg, e = .returned (.tuple #[.agg #[.slice a' n' c'], .int .i64 (RemQ (R.map fdR) f).2]) ∧ RLs w.heap.size w' a' c' n' R' ∧ R'.length = n' ∧ R'.map fdR = (RemQ (R.map fdR) f).1)
set_option maxHeartbeats 8000000 in
set_option maxRecDepth 100000 in
theorem refRemove_any (w : World) (B0 : Nat) (a : Option Addr) (c n : Nat) (R : List Rg) (f : Nat) (h : RLs B0 w a c n R) (hRn : R.length = n) (hb : ∀ z ∈ R, z.d.length ≤ 140737488355328 ∧ z.f < 18446744073709551616) (hn : n ≤ 4398046511103) (hf : f < 18446744073709551616) :
    Calls Tryz.prog 25 #[.agg #[.slice a n c], .int .u64 f] w fun e w' => RemE a c n R f w e w' := by
  obtain ⟨P, hP⟩ : ∃ P, Hid (P = R.map fdR) := ⟨_, rfl⟩
  have hpl : Hid (P.length = n) := hidOf (by rw [hP.out, List.length_map, hRn])
  have HI := hidOf h
  have HB0 := hidOf hb
  have HRN := hidOf hRn
  have HNN := hidOf hn
  have Q0C := hidOf (fun (W : World) (z : Rg) (hz : z ∈ R) (o : Out w W) => copied_any W (z.a.map fun b => ⟨b, 0, none⟩) z.f z.c z.d ((h.da z hz).rest.out o) (hb z hz).1)
  clear h hb hRn
  obtain ⟨p, hp⟩ : ∃ p, Hid (p = w.heap.size) := ⟨_, rfl⟩
  obtain ⟨w0, H0, bp, b1, b2, o0⟩ : ∃ w0, Hid (w0 = ((w.alloc (.cells #[.slice a n c] 47)).alloc (.cells #[.slice none 0 0] 47)).alloc (.cells #[.slice none 0 0] 47)) ∧ w0.heap[p]? = some (.cells #[.slice a n c] 47 (0, 0)) ∧ w0.heap[p + 1]? = some (.cells #[.slice none 0 0] 47 (0, 0)) ∧ w0.heap[p + 2]? = some (.cells #[.slice none 0 0] 47 (0, 0)) ∧ Out w w0 := by
    have s1 : (w.alloc (.cells #[.slice a n c] 47)).heap.size = p + 1 := by rw [size_alloc, hp.out]
    have s2 : ((w.alloc (.cells #[.slice a n c] 47)).alloc (.cells #[.slice none 0 0] 47)).heap.size = p + 2 := by rw [size_alloc, s1]
    refine ⟨_, rfl, ?_, ?_, ?_, (((Out.refl w).alloc _).alloc _).alloc _⟩
    · refine blk_out (blk_out ?_ ((Out.refl _).alloc _)) ((Out.refl _).alloc _)
      rw [hp.out]; exact heap_alloc_new w _
    · refine blk_out ?_ ((Out.refl _).alloc _)
      rw [← s1]; exact heap_alloc_new _ _
    · rw [← s2]; exact heap_alloc_new _ _
  have O0 := hidOf o0
  have BP := hidOf bp
  have B1 := hidOf b1
  have B2 := hidOf b2
  clear o0 bp b1 b2
  go_enter Tryz.func25, Tryz.ntmps25
  go_upto_region 2 with fail
  rw [← hp.out]
  rw [← H0.out]
  go_wp2
  go_loopw [7, 8] (fun ev kv wr => ∃ (k m : Nat) (oa : Option Addr) (oc : Nat) (E : Int) (R' : List Rg), ev = .int .i64 E ∧ kv = .int .i64 (k : Nat) ∧ k ≤ n ∧ Hid (E = if (P.take k).any (fun q => q.1 == f) then 0 else 201) ∧ Hid (wr.heap[p]? = some (.cells #[.slice a n c] 47 (0, 0))) ∧ Hid (wr.heap[p + 1]? = some (.cells #[.slice none 0 0] 47 (0, 0))) ∧ Hid (wr.heap[p + 2]? = some (.cells #[.slice oa m oc] 47 (0, 0))) ∧ Hid (RLs (p + 3) wr oa oc m R') ∧ Hid (R'.length = m ∧ m ≤ k) ∧ Hid (R'.map fdR = (P.take k).filter (fun q => !(q.1 == f))) ∧ Hid (Out w wr)) (fun _ kv _ => n - (intOf kv).toNat)
  case atStart => exact ⟨0, 0, none, 0, 201, [], rfl, rfl, Nat.zero_le _, hidOf (by simp), BP, B1, B2, hidOf ⟨World.ownsRow_nil _ _ _ _, by simp⟩, hidOf ⟨rfl, Nat.le_refl _⟩, hidOf (by simp), O0⟩
  case round =>
    obtain ⟨k, m, oa, oc, E, R', rfl, rfl, hk, HE, KP, M1, K2, RL, HM, EQ, OR⟩ := hrel
    have cp : wr.cell? ⟨p, 0, none⟩ = some (.slice a n c) := (cell_B KP.out 0).trans rfl
    have cc : wr.cell? ⟨p + 2, 0, none⟩ = some (.slice oa m oc) := (cell_B K2.out 0).trans rfl
    by_cases hkn : k < n
    · have hlt : (k : Int) < n := by omega
      obtain ⟨z, hz⟩ : ∃ z, R[k]? = some z := ⟨_, List.getElem?_eq_getElem (by rw [HRN.out]; exact hkn)⟩
      have hPz : P[k]? = some (fdR z) := by rw [hP.out, List.getElem?_map, hz]; rfl
      have hown := (HI.out.out OR.out).own
      obtain ⟨g, cc2, ee, _, _⟩ := hown.form (by omega)
      simp only [Value.slice.injEq] at ee
      obtain ⟨rfl, _, rfl⟩ := ee
      obtain ⟨q0, q1⟩ := rowG_get hz
      have r0 := (own_cellK hown q0).1
      have r1 := (own_cellK hown q1).1
      have HZ := hidOf hz
      have HPZ := hidOf hPz
      have CPA := hidOf (Q0C.out wr.drew z (List.mem_of_getElem? hz) OR.out.drew)
      have hgp : g < p := by
        have := (HI.out.own.lt g rfl).2
        rw [hp.out]; exact this
      rw [daV] at r1
      obtain ⟨zf, hzf⟩ : ∃ zf, Hid (zf = z.f) := ⟨_, rfl⟩
      obtain ⟨zl, hzl⟩ : ∃ zl, Hid (zl = z.d.length) := ⟨_, rfl⟩
      obtain ⟨zc, hzc⟩ : ∃ zc, Hid (zc = z.c) := ⟨_, rfl⟩
      obtain ⟨za, hza⟩ : ∃ za : Option Addr, Hid (za = z.a.map fun b => ⟨b, 0, none⟩) := ⟨_, rfl⟩
      rw [← hzf.out, ← hzl.out, ← hzc.out, ← hza.out] at CPA
      rw [← hzf.out] at r0
      rw [← hzl.out, ← hzc.out, ← hza.out] at r1
      clear hown q0 q1 hz hPz
      by_cases heq : zf = f
      · have heqI : (zf : Int) = f := by omega
        have heqb : ((zf : Int) == f) = true := by rw [heqI]; simp
        have NE : Hid ((0 : Int) = if (P.take (k + 1)).any (fun q => q.1 == f) then 0 else 201) := hidOf (by
          rw [List.take_add_one, HPZ.out, List.any_append]
          have : (fdR z).1 = f := by show z.f = f; rw [← hzf.out]; exact heq
          simp [this])
        have NQ : Hid (R'.map fdR = (P.take (k + 1)).filter (fun q => !(q.1 == f))) := hidOf (by
          rw [EQ.out, List.take_add_one, HPZ.out, List.filter_append]
          have : (fdR z).1 = f := by show z.f = f; rw [← hzf.out]; exact heq
          simp [this])
        clear heq heqI
        go_wp2
        go_roundw
        case rel => exact ⟨k + 1, m, oa, oc, 0, R', by first | rfl | simp, by simp, by omega, NE, KP, M1, K2, RL, hidOf ⟨HM.out.1, by have := HM.out.2; omega⟩, NQ, OR⟩
        case measure => simp [intOf]; omega
      · have heqI : ¬ ((zf : Int) = f) := by omega
        have heqb : ((zf : Int) == f) = false := by rw [beq_eq_false_iff_ne]; exact heqI
        have hfz : ((fdR z).1 == f) = false := by rw [beq_eq_false_iff_ne]; show ¬ z.f = f; rw [← hzf.out]; exact heq
        have NE : Hid (E = if (P.take (k + 1)).any (fun q => q.1 == f) then 0 else 201) := hidOf (by
          rw [List.take_add_one, HPZ.out, List.any_append, HE.out]
          simp only [Option.toList, List.any_cons, List.any_nil, hfz, Bool.or_false])
        have HFZ := hidOf hfz
        clear heq hfz
        go_upto_region 8 with fail
        refine wp_region_held_drew (S := (fun w' => w'.cell? ⟨p, 0, none⟩ = some (.slice (some ⟨g, 0, none⟩) n c) ∧ w'.cell? ⟨g, k * 2, none⟩ = some (.int .u64 zf) ∧ w'.cell? ⟨g, k * 2 + 1, none⟩ = some (.slice za zl zc) ∧ (w'.cell? ⟨p + 2, 0, none⟩ = some (.slice oa m oc) ∨ ∃ v, w'.cell? ⟨p + 2, 0, none⟩ = some v))) (by kernel_rfl) ?_ (fun hHeld => ?_)
        · exact ⟨cp, r0, r1, .inl cc⟩
        refine tkLB [0, 2, 3, 4, 5, 6] ?_
        iterate 6 (refine tkLC (v := ?_) rfl rfl (by kernel_rfl) (by kernel_rfl) (by kernel_rfl) (fun _ _ _ h => h) (by rfl) (by assumption) ?_ ?_; rotate_left; (· (intro w hSw; (try dsimp only at hSw); go_simp; (try with_reducible rfl))); simp only [Act.put, List.setIfInBounds_toArray, List.set_cons_zero, List.set_cons_succ])
        refine tkLE ?_
        refine wpAnyH_ready (rs := [1, 7]) (by kernel_rfl) (by simp) ?_
        refine (AllReadyH.cons rfl (fun Ko1 hKo1 => ?_) (AllReadyH.cons rfl (fun Ko7 hKo7 => ?_) AllReadyH.nil))
        · rw [if_pos (by rfl)]
          go_simp
          refine hKo1.out _ _ ⟨cp, r0, r1, .inl cc⟩ (fun hHeld1 => ?_)
          try simp only [Act.put, List.setIfInBounds_toArray, List.set_cons_zero, List.set_cons_succ]
          refine wpAnyH_ready (rs := [7]) (by kernel_rfl) (by simp) ?_
          refine (AllReadyH.cons rfl (fun Ko7 hKo7 => ?_) AllReadyH.nil)
          rw [if_pos (by rfl)]
          go_simp
          go_at_call 48
          refine (CPA.out).mono ?_
          rintro e w1 ⟨x, hxf, hxd, rfl, hdx, ho1⟩
          have O1 := hidOf ho1
          have HXF := hidOf hxf
          have HXD := hidOf hxd
          have HDX := hidOf hdx
          have t0 := cell_later ho1 (show wr.drew.cell? _ = _ from cp)
          have t1 := cell_later ho1 (show wr.drew.cell? _ = _ from cc)
          have t2 := cell_later ho1 (show wr.drew.cell? _ = _ from r0)
          have t3 := cell_later ho1 (show wr.drew.cell? _ = _ from r1)
          clear hxf hxd hdx ho1
          obtain ⟨xa, hxa⟩ : ∃ xa : Option Addr, Hid (xa = x.a.map fun b => ⟨b, 0, none⟩) := ⟨_, rfl⟩
          rw [← hxa.out]
          obtain ⟨wB, HB, u0, u1, oB, sB⟩ := box_two w1 (.int .u64 (x.f : Nat)) (.slice xa x.d.length x.c) 36
          have OB := hidOf oB
          have oRB : Out wr wB := ((Out.refl wr).drew.trans O1.out).trans oB
          have hsz : p + 3 ≤ wr.heap.size := (Array.getElem?_eq_some_iff.1 K2.out).1
          have hszB := oRB.size
          obtain ⟨a2, c2, w2, hap, hrl, hc2⟩ := RLs.push (RL.out.out oRB) (by have := HNN.out; have := HM.out.2; omega) (by omega) w1.heap.size x xa hxa.out u0 u1 (DaI.out (own_base HDX.out (by show p + 3 ≤ wr.heap.size; exact hsz)) oB)
          have hS2 : ∀ b, (Value.slice oa m oc).ownBlock = some b → p + 3 ≤ b := fun b hb => (RL.out.own.lt b hb).1
          have v0 := cell_later oB t0
          have v1 := cell_later oB t1
          have v2 := cell_later oB t2
          have v3 := cell_later oB t3
          have y0 := hc2.cell v0 (fun hq => by have := hS2 _ hq; simp only at this; omega)
          have y1 := hc2.cell v1 (fun hq => by have := hS2 _ hq; simp only at this; omega)
          have y2 := hc2.cell v2 (fun hq => by have := hS2 _ hq; simp only at this; omega)
          have y3 := hc2.cell v3 (fun hq => by have := hS2 _ hq; simp only at this; omega)
          have k2 := blk_chg (blk_out K2.out oRB) hc2 (fun hq => by have := hS2 _ hq; omega)
          have k1 := blk_chg (blk_out M1.out oRB) hc2 (fun hq => by have := hS2 _ hq; omega)
          have k0 := blk_chg (blk_out KP.out oRB) hc2 (fun hq => by have := hS2 _ hq; omega)
          have z2 : w2.frozen? ⟨p + 2, 0, none⟩ = false := froz_B k2 0
          obtain ⟨wS, HS, bS, cS⟩ : ∃ wS, Hid (wS = w2.setCell ⟨p + 2, 0, none⟩ (.slice a2 (m + 1) c2)) ∧ wS.heap[p + 2]? = some (.cells #[.slice a2 (m + 1) c2] 47 (0, 0)) ∧ Chg (fun b => b = p + 2) w2 wS := ⟨_, rfl, set_B k2 0 _, (Chg.refl (fun b => b = p + 2) w2).setCell rfl _⟩
          have e0 := cS.cell y0 (by simp)
          have e2 := cS.cell y2 (by show ¬ g = p + 2; omega)
          have e3 := cS.cell y3 (by show ¬ g = p + 2; omega)
          have e1 : wS.cell? ⟨p + 2, 0, none⟩ = some (.slice a2 (m + 1) c2) := by rw [cell_B bS]; rfl
          have HAP := hidOf hap
          have KS0 := hidOf (blk_chg k0 cS (by simp))
          have KS1 := hidOf (blk_chg k1 cS (by simp))
          have KS2 := hidOf bS
          have KRL := hidOf (hrl.chg cS (fun b hb hq => by omega))
          have KO := hidOf (Chg.out cS (Chg.out hc2 (OR.out.trans oRB) (fun b hb => by have := hS2 b hb; have := hp.out; omega)) (fun b hb => by have := hp.out; omega))
          clear hap hrl hc2 bS cS k0 k1 k2 oRB oB sB u0 u1 hS2
          refine hKo7.out _ _ ⟨t0, t2, t3, .inl t1⟩ (fun hHeld7 => ?_)
          try simp only [Act.put, List.setIfInBounds_toArray, List.set_cons_zero, List.set_cons_succ]
          refine wpAnyH_ready (rs := [8]) (by kernel_rfl) (by simp) ?_
          refine (AllReadyH.cons rfl (fun Ko8 hKo8 => ?_) AllReadyH.nil)
          rw [if_pos (by rfl)]
          go_simp
          rw [← HB.out]
          refine hKo8.out _ _ ⟨v0, v2, v3, .inl v1⟩ (fun hHeld8 => ?_)
          try simp only [Act.put, List.setIfInBounds_toArray, List.set_cons_zero, List.set_cons_succ]
          refine wpAnyH_ready (rs := [9]) (by kernel_rfl) (by simp) ?_
          refine (AllReadyH.cons rfl (fun Ko9 hKo9 => ?_) AllReadyH.nil)
          rw [if_pos (by rfl)]
          refine Lib.wp_append_run _ (.tmp 25) (.tmp 32) 22 22 rfl _ _ (by simp [Act.eval, Act.put]) (by simp [Act.eval, Act.put]) _ _ (HAP.out _) ?_
          refine hKo9.out _ _ ⟨y0, y2, y3, .inl y1⟩ (fun hHeld9 => ?_)
          try simp only [Act.put, List.setIfInBounds_toArray, List.set_cons_zero, List.set_cons_succ]
          refine tkLB [10] ?_
          iterate 1 (refine tkLC (v := ?_) rfl rfl (by kernel_rfl) (by kernel_rfl) (by kernel_rfl) (fun _ _ _ h => h) (by rfl) (by assumption) ?_ ?_; rotate_left; (· (intro w hSw; (try dsimp only at hSw); go_simp; (try with_reducible rfl))); simp only [Act.put, List.setIfInBounds_toArray, List.set_cons_zero, List.set_cons_succ])
          refine tkLE ?_
          refine wpAnyH_ready (rs := [11]) (by kernel_rfl) (by simp) ?_
          refine (AllReadyH.cons rfl (fun Ko11 hKo11 => ?_) AllReadyH.nil)
          rw [if_pos (by rfl)]
          go_simp
          rw [← HS.out]
          refine hKo11.out _ _ ⟨e0, e2, e3, .inr ⟨_, e1⟩⟩ (fun hHeld11 => ?_)
          try simp only [Act.put, List.setIfInBounds_toArray, List.set_cons_zero, List.set_cons_succ]
          refine wpAnyH_done (by kernel_rfl) ?_ _
          clear t0 t1 t2 t3 v0 v1 v2 v3 y0 y1 y2 y3 e0 e1 e2 e3 cp cc r0 r1
          go_wp2
          go_roundw
          case rel =>
            refine ⟨k + 1, m + 1, a2, c2, E, R' ++ [x], by first | rfl | simp, by simp, by omega, NE, KS0, KS1, KS2, KRL, hidOf ⟨by rw [List.length_append, HM.out.1]; rfl, by have := HM.out.2; omega⟩, hidOf ?_, KO⟩
            rw [List.map_append, EQ.out, List.take_add_one, HPZ.out, List.filter_append]
            have h9 := HFZ.out
            simp only [Option.toList, List.filter_cons, h9, Bool.not_false, if_true, List.filter_nil]
            simp [fdR, HXF.out, HXD.out, hzf.out]
          case measure => simp [intOf]; omega
        · rw [if_pos (by rfl)]
          go_simp
          go_at_call 48
          refine (CPA.out).mono ?_
          rintro e w1 ⟨x, hxf, hxd, rfl, hdx, ho1⟩
          have O1 := hidOf ho1
          have HXF := hidOf hxf
          have HXD := hidOf hxd
          have HDX := hidOf hdx
          have t0 := cell_later ho1 (show wr.drew.cell? _ = _ from cp)
          have t1 := cell_later ho1 (show wr.drew.cell? _ = _ from cc)
          have t2 := cell_later ho1 (show wr.drew.cell? _ = _ from r0)
          have t3 := cell_later ho1 (show wr.drew.cell? _ = _ from r1)
          clear hxf hxd hdx ho1
          obtain ⟨xa, hxa⟩ : ∃ xa : Option Addr, Hid (xa = x.a.map fun b => ⟨b, 0, none⟩) := ⟨_, rfl⟩
          rw [← hxa.out]
          obtain ⟨wB, HB, u0, u1, oB, sB⟩ := box_two w1 (.int .u64 (x.f : Nat)) (.slice xa x.d.length x.c) 36
          have OB := hidOf oB
          have oRB : Out wr wB := ((Out.refl wr).drew.trans O1.out).trans oB
          have hsz : p + 3 ≤ wr.heap.size := (Array.getElem?_eq_some_iff.1 K2.out).1
          have hszB := oRB.size
          obtain ⟨a2, c2, w2, hap, hrl, hc2⟩ := RLs.push (RL.out.out oRB) (by have := HNN.out; have := HM.out.2; omega) (by omega) w1.heap.size x xa hxa.out u0 u1 (DaI.out (own_base HDX.out (by show p + 3 ≤ wr.heap.size; exact hsz)) oB)
          have hS2 : ∀ b, (Value.slice oa m oc).ownBlock = some b → p + 3 ≤ b := fun b hb => (RL.out.own.lt b hb).1
          have v0 := cell_later oB t0
          have v1 := cell_later oB t1
          have v2 := cell_later oB t2
          have v3 := cell_later oB t3
          have y0 := hc2.cell v0 (fun hq => by have := hS2 _ hq; simp only at this; omega)
          have y1 := hc2.cell v1 (fun hq => by have := hS2 _ hq; simp only at this; omega)
          have y2 := hc2.cell v2 (fun hq => by have := hS2 _ hq; simp only at this; omega)
          have y3 := hc2.cell v3 (fun hq => by have := hS2 _ hq; simp only at this; omega)
          have k2 := blk_chg (blk_out K2.out oRB) hc2 (fun hq => by have := hS2 _ hq; omega)
          have k1 := blk_chg (blk_out M1.out oRB) hc2 (fun hq => by have := hS2 _ hq; omega)
          have k0 := blk_chg (blk_out KP.out oRB) hc2 (fun hq => by have := hS2 _ hq; omega)
          have z2 : w2.frozen? ⟨p + 2, 0, none⟩ = false := froz_B k2 0
          obtain ⟨wS, HS, bS, cS⟩ : ∃ wS, Hid (wS = w2.setCell ⟨p + 2, 0, none⟩ (.slice a2 (m + 1) c2)) ∧ wS.heap[p + 2]? = some (.cells #[.slice a2 (m + 1) c2] 47 (0, 0)) ∧ Chg (fun b => b = p + 2) w2 wS := ⟨_, rfl, set_B k2 0 _, (Chg.refl (fun b => b = p + 2) w2).setCell rfl _⟩
          have e0 := cS.cell y0 (by simp)
          have e2 := cS.cell y2 (by show ¬ g = p + 2; omega)
          have e3 := cS.cell y3 (by show ¬ g = p + 2; omega)
          have e1 : wS.cell? ⟨p + 2, 0, none⟩ = some (.slice a2 (m + 1) c2) := by rw [cell_B bS]; rfl
          have HAP := hidOf hap
          have KS0 := hidOf (blk_chg k0 cS (by simp))
          have KS1 := hidOf (blk_chg k1 cS (by simp))
          have KS2 := hidOf bS
          have KRL := hidOf (hrl.chg cS (fun b hb hq => by omega))
          have KO := hidOf (Chg.out cS (Chg.out hc2 (OR.out.trans oRB) (fun b hb => by have := hS2 b hb; have := hp.out; omega)) (fun b hb => by have := hp.out; omega))
          clear hap hrl hc2 bS cS k0 k1 k2 oRB oB sB u0 u1 hS2
          refine hKo7.out _ _ ⟨t0, t2, t3, .inl t1⟩ (fun hHeld7 => ?_)
          try simp only [Act.put, List.setIfInBounds_toArray, List.set_cons_zero, List.set_cons_succ]
          refine wpAnyH_ready (rs := [1, 8]) (by kernel_rfl) (by simp) ?_
          refine (AllReadyH.cons rfl (fun Ko1 hKo1 => ?_) (AllReadyH.cons rfl (fun Ko8 hKo8 => ?_) AllReadyH.nil))
          · rw [if_pos (by rfl)]
            go_simp
            refine hKo1.out _ _ ⟨t0, t2, t3, .inl t1⟩ (fun hHeld1 => ?_)
            try simp only [Act.put, List.setIfInBounds_toArray, List.set_cons_zero, List.set_cons_succ]
            refine wpAnyH_ready (rs := [8]) (by kernel_rfl) (by simp) ?_
            refine (AllReadyH.cons rfl (fun Ko8 hKo8 => ?_) AllReadyH.nil)
            rw [if_pos (by rfl)]
            go_simp
            rw [← HB.out]
            refine hKo8.out _ _ ⟨v0, v2, v3, .inl v1⟩ (fun hHeld8 => ?_)
            try simp only [Act.put, List.setIfInBounds_toArray, List.set_cons_zero, List.set_cons_succ]
            refine wpAnyH_ready (rs := [9]) (by kernel_rfl) (by simp) ?_
            refine (AllReadyH.cons rfl (fun Ko9 hKo9 => ?_) AllReadyH.nil)
            rw [if_pos (by rfl)]
            refine Lib.wp_append_run _ (.tmp 25) (.tmp 32) 22 22 rfl _ _ (by simp [Act.eval, Act.put]) (by simp [Act.eval, Act.put]) _ _ (HAP.out _) ?_
            refine hKo9.out _ _ ⟨y0, y2, y3, .inl y1⟩ (fun hHeld9 => ?_)
            try simp only [Act.put, List.setIfInBounds_toArray, List.set_cons_zero, List.set_cons_succ]
            refine tkLB [10] ?_
            iterate 1 (refine tkLC (v := ?_) rfl rfl (by kernel_rfl) (by kernel_rfl) (by kernel_rfl) (fun _ _ _ h => h) (by rfl) (by assumption) ?_ ?_; rotate_left; (· (intro w hSw; (try dsimp only at hSw); go_simp; (try with_reducible rfl))); simp only [Act.put, List.setIfInBounds_toArray, List.set_cons_zero, List.set_cons_succ])
            refine tkLE ?_
            refine wpAnyH_ready (rs := [11]) (by kernel_rfl) (by simp) ?_
            refine (AllReadyH.cons rfl (fun Ko11 hKo11 => ?_) AllReadyH.nil)
            rw [if_pos (by rfl)]
            go_simp
            rw [← HS.out]
            refine hKo11.out _ _ ⟨e0, e2, e3, .inr ⟨_, e1⟩⟩ (fun hHeld11 => ?_)
            try simp only [Act.put, List.setIfInBounds_toArray, List.set_cons_zero, List.set_cons_succ]
            refine wpAnyH_done (by kernel_rfl) ?_ _
            clear t0 t1 t2 t3 v0 v1 v2 v3 y0 y1 y2 y3 e0 e1 e2 e3 cp cc r0 r1
            go_wp2
            go_roundw
            case rel =>
              refine ⟨k + 1, m + 1, a2, c2, E, R' ++ [x], by first | rfl | simp, by simp, by omega, NE, KS0, KS1, KS2, KRL, hidOf ⟨by rw [List.length_append, HM.out.1]; rfl, by have := HM.out.2; omega⟩, hidOf ?_, KO⟩
              rw [List.map_append, EQ.out, List.take_add_one, HPZ.out, List.filter_append]
              have h9 := HFZ.out
              simp only [Option.toList, List.filter_cons, h9, Bool.not_false, if_true, List.filter_nil]
              simp [fdR, HXF.out, HXD.out, hzf.out]
            case measure => simp [intOf]; omega
          · rw [if_pos (by rfl)]
            go_simp
            rw [← HB.out]
            refine hKo8.out _ _ ⟨v0, v2, v3, .inl v1⟩ (fun hHeld8 => ?_)
            try simp only [Act.put, List.setIfInBounds_toArray, List.set_cons_zero, List.set_cons_succ]
            refine wpAnyH_ready (rs := [1]) (by kernel_rfl) (by simp) ?_
            refine (AllReadyH.cons rfl (fun Ko1 hKo1 => ?_) AllReadyH.nil)
            rw [if_pos (by rfl)]
            go_simp
            refine hKo1.out _ _ ⟨v0, v2, v3, .inl v1⟩ (fun hHeld1 => ?_)
            try simp only [Act.put, List.setIfInBounds_toArray, List.set_cons_zero, List.set_cons_succ]
            refine wpAnyH_ready (rs := [9]) (by kernel_rfl) (by simp) ?_
            refine (AllReadyH.cons rfl (fun Ko9 hKo9 => ?_) AllReadyH.nil)
            rw [if_pos (by rfl)]
            refine Lib.wp_append_run _ (.tmp 25) (.tmp 32) 22 22 rfl _ _ (by simp [Act.eval, Act.put]) (by simp [Act.eval, Act.put]) _ _ (HAP.out _) ?_
            refine hKo9.out _ _ ⟨y0, y2, y3, .inl y1⟩ (fun hHeld9 => ?_)
            try simp only [Act.put, List.setIfInBounds_toArray, List.set_cons_zero, List.set_cons_succ]
            refine tkLB [10] ?_
            iterate 1 (refine tkLC (v := ?_) rfl rfl (by kernel_rfl) (by kernel_rfl) (by kernel_rfl) (fun _ _ _ h => h) (by rfl) (by assumption) ?_ ?_; rotate_left; (· (intro w hSw; (try dsimp only at hSw); go_simp; (try with_reducible rfl))); simp only [Act.put, List.setIfInBounds_toArray, List.set_cons_zero, List.set_cons_succ])
            refine tkLE ?_
            refine wpAnyH_ready (rs := [11]) (by kernel_rfl) (by simp) ?_
            refine (AllReadyH.cons rfl (fun Ko11 hKo11 => ?_) AllReadyH.nil)
            rw [if_pos (by rfl)]
            go_simp
            rw [← HS.out]
            refine hKo11.out _ _ ⟨e0, e2, e3, .inr ⟨_, e1⟩⟩ (fun hHeld11 => ?_)
            try simp only [Act.put, List.setIfInBounds_toArray, List.set_cons_zero, List.set_cons_succ]
            refine wpAnyH_done (by kernel_rfl) ?_ _
            clear t0 t1 t2 t3 v0 v1 v2 v3 y0 y1 y2 y3 e0 e1 e2 e3 cp cc r0 r1
            go_wp2
            go_roundw
            case rel =>
              refine ⟨k + 1, m + 1, a2, c2, E, R' ++ [x], by first | rfl | simp, by simp, by omega, NE, KS0, KS1, KS2, KRL, hidOf ⟨by rw [List.length_append, HM.out.1]; rfl, by have := HM.out.2; omega⟩, hidOf ?_, KO⟩
              rw [List.map_append, EQ.out, List.take_add_one, HPZ.out, List.filter_append]
              have h9 := HFZ.out
              simp only [Option.toList, List.filter_cons, h9, Bool.not_false, if_true, List.filter_nil]
              simp [fdR, HXF.out, HXD.out, hzf.out]
            case measure => simp [intOf]; omega
    · have hlt : ¬ (k : Int) < n := by omega
      obtain rfl : k = n := by omega
      have ht : P.take k = P := List.take_of_length_le (by rw [hpl.out]; exact Nat.le_refl _)
      have hE := HE.out
      have hQ := EQ.out
      rw [ht] at hE hQ
      have HQ2 := hidOf hQ
      have c1 : wr.cell? ⟨p + 1, 0, none⟩ = some (.slice none 0 0) := (cell_B M1.out 0).trans rfl
      have z1 : wr.frozen? ⟨p + 1, 0, none⟩ = false := froz_B M1.out 0
      cases hany : P.any (fun q => q.1 == f) with
      | true =>
        rw [hany, if_pos rfl] at hE
        subst hE
        have HR : Hid (RemQ P f = (P.filter (fun q => !(q.1 == f)), 0)) := hidOf (by simp [RemQ, hany])
        obtain ⟨wT, HT, bT, cT⟩ : ∃ wT, Hid (wT = wr.setCell ⟨p + 1, 0, none⟩ (.slice oa m oc)) ∧ wT.heap[p + 1]? = some (.cells #[.slice oa m oc] 47 (0, 0)) ∧ Chg (fun b => b = p + 1) wr wT := ⟨_, rfl, set_B M1.out 0 _, (Chg.refl (fun b => b = p + 1) wr).setCell rfl _⟩
        have BT := hidOf bT
        have CT := hidOf cT
        clear bT cT hQ ht hany
        go_wp2
        rw [← HT.out]
        refine bodyPost_ret (results_cell2 rfl _ _ (p + 1) 47 _ (0, 0) _ rfl BT.out Tryz.underlying47 rfl (by kernel_rfl)) rfl ?_
        unfold RemE
        rw [← hP.out, HR.out]
        exact ⟨Chg.out CT.out OR.out (fun b hb => by have := hp.out; omega), .inr ⟨oa, oc, m, R', rfl, (RL.out.chgT M1.out CT.out).base (by have := hp.out; omega), HM.out.1, HQ2.out⟩⟩
      | false =>
        rw [hany] at hE
        simp only [Bool.false_eq_true, if_false] at hE
        subst hE
        have HR : Hid (RemQ P f = (P, 201)) := hidOf (by simp [RemQ, hany])
        obtain ⟨wT, HT, bT, cT⟩ : ∃ wT, Hid (wT = wr.setCell ⟨p + 1, 0, none⟩ (.slice a k c)) ∧ wT.heap[p + 1]? = some (.cells #[.slice a k c] 47 (0, 0)) ∧ Chg (fun b => b = p + 1) wr wT := ⟨_, rfl, set_B M1.out 0 _, (Chg.refl (fun b => b = p + 1) wr).setCell rfl _⟩
        have BT := hidOf bT
        have CT := hidOf cT
        clear bT cT hQ ht hany
        go_wp2
        rw [← HT.out]
        refine bodyPost_ret (results_cell2 rfl _ _ (p + 1) 47 _ (0, 0) _ rfl BT.out Tryz.underlying47 rfl (by kernel_rfl)) rfl ?_
        unfold RemE
        rw [← hP.out, HR.out]
        exact ⟨Chg.out CT.out OR.out (fun b hb => by have := hp.out; omega), .inl ⟨rfl, rfl⟩⟩
end Go.Proofs.YtekjfbmebekmeaaGreat
