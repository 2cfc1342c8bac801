import Derived.Test.YtekjfbmebekmeaaGreatGa22
namespace Go.Proofs.YtekjfbmebekmeaaGreat
open Go.RowKit
set_option linter.unusedVariables false
set_option linter.unusedSimpArgs false
theorem own_ne {w : World} {B k n : Nat} {e t : TypeId} {v : Value} {xs : List Value} (h : w.ownsRow B e k v n xs) {q : Nat} {cs : Array Value} (hq : w.heap[q]? = some (.cells cs t (0, 0))) (hne : ¬ t = e) : v.ownBlock ≠ some q := fun hc => by
  rcases h.2 with ⟨rfl, _⟩ | ⟨g, c1, cu, rfl, _, hg, _⟩
  · cases hc
  · simp [Value.ownBlock] at hc
    subst hc
    rw [hg] at hq
    simp at hq
    exact hne hq.2.symm
theorem RLs.chgT {B q : Nat} {w w' : World} {a : Option Addr} {c n : Nat} {R : List Rg} {cs : Array Value} (h : RLs B w a c n R) (hq : w.heap[q]? = some (.cells cs 47 (0, 0))) (o : Chg (fun b => b = q) w w') : RLs B w' a c n R :=
  ⟨own_chg h.own o (fun b hb e => own_ne h.own hq (by decide) (by subst e; exact hb)), fun z hz => (h.da z hz).chg o (fun b hb e => own_ne (h.da z hz) hq (by decide) (by subst e; simp [daV, hb, Value.ownBlock]))⟩
def AddQ (a : Option Addr) (c n : Nat) (R : List Rg) (f : Nat) (d : List UInt8) (w : World) (e : Ending) (w' : World) : Prop :=
  Out w w' ∧ (noQ (R.map fdR) f d.length = true ∧ e = .returned (.tuple #[.agg #[.slice a n c], .int .i64 201]) ∨
  noQ (R.map fdR) f d.length = false ∧ ∃ a' c', ∃ R' : List Rg, e = .returned (.tuple #[.agg #[.slice a' (n + 1 : Nat) c'], .int .i64 0]) ∧ RLs w.heap.size w' a' c' (n + 1) R' ∧ R'.map fdR = R.map fdR ++ [(f, d)])
set_option maxHeartbeats 4000000 in
set_option maxRecDepth 100000 in
theorem refAdd_any (w : World) (B0 : Nat) (a : Option Addr) (c n : Nat) (R : List Rg) (f rc : Nat) (ra : Option Addr) (rd : List UInt8) (h : RLs B0 w a c n R) (hRn : R.length = n) (hb : ∀ z ∈ R, z.d.length ≤ 140737488355328 ∧ z.f < 18446744073709551616) (hn : n < 4398046511104) (hr : RestA w ra rd) (hd : rd.length ≤ 140737488355328) (hf : f < 18446744073709551616) :
    Calls Tryz.prog 20 #[.agg #[.slice a n c], .agg #[.int .u64 f, .slice ra rd.length rc]] w fun e w' => AddQ a c n R f rd w e w' := by
  obtain ⟨m, hm⟩ : ∃ m, Hid (m = rd.length) := ⟨_, rfl⟩
  obtain ⟨P, hP⟩ : ∃ P, Hid (P = R.map fdR) := ⟨_, rfl⟩
  obtain ⟨p, hp⟩ : ∃ p, Hid (p = w.heap.size) := ⟨_, rfl⟩
  have hpl : Hid (P.length = n) := hidOf (by rw [hP.out, List.length_map, hRn])
  have HI := hidOf h
  have HB0 := hidOf hb
  have HRN := hidOf hRn
  have HR := hidOf hr
  have HD := hidOf hd
  rw [← hm.out] at hd ⊢
  have HM := hidOf hd
  have HF := hidOf hf
  have HNN := hidOf hn
  have M0C := hidOf (fun W => refMay_any W f m rc ra HM.out HF.out)
  have Q0C := hidOf (fun W (o : Out w W) => copied_any W ra f rc rd (HR.out.out o) HD.out)
  rw [← hm.out] at Q0C
  clear h hb hRn hr hd
  obtain ⟨w0, H0, bp, b1, b2, o0, s0⟩ : ∃ w0, Hid (w0 = ((w.alloc (.cells #[.slice a n c] 47)).alloc (.cells #[.int .u64 f, .slice ra m rc] 36)).alloc (.cells #[.slice none 0 0] 47)) ∧ w0.heap[p]? = some (.cells #[.slice a n c] 47 (0, 0)) ∧ w0.heap[p + 1]? = some (.cells #[.int .u64 f, .slice ra m rc] 36 (0, 0)) ∧ w0.heap[p + 2]? = some (.cells #[.slice none 0 0] 47 (0, 0)) ∧ Out w w0 ∧ w0.heap.size = p + 3 := by
    have s1 : (w.alloc (.cells #[.slice a n c] 47)).heap.size = p + 1 := by rw [size_alloc, hp.out]
    have s2 : ((w.alloc (.cells #[.slice a n c] 47)).alloc (.cells #[.int .u64 f, .slice ra m rc] 36)).heap.size = p + 2 := by rw [size_alloc, s1]
    refine ⟨_, rfl, ?_, ?_, ?_, (((Out.refl w).alloc _).alloc _).alloc _, by rw [size_alloc, s2]⟩
    · refine blk_out (blk_out ?_ ((Out.refl _).alloc _)) ((Out.refl _).alloc _)
      rw [hp.out]; exact heap_alloc_new w _
    · refine blk_out ?_ ((Out.refl _).alloc _)
      rw [← s1]; exact heap_alloc_new _ _
    · rw [← s2]; exact heap_alloc_new _ _
  have O0 := hidOf o0
  have S0 := hidOf s0
  have BP := hidOf bp
  have B1 := hidOf b1
  have B2 := hidOf b2
  have cb0 : w0.cell? ⟨p + 1, 0, none⟩ = some (.int .u64 f) := by rw [cell_B B1.out] <;> rfl
  have cb1 : w0.cell? ⟨p + 1, 1, none⟩ = some (.slice ra m rc) := by rw [cell_B B1.out] <;> rfl
  clear o0 s0 bp b1 b2
  go_enter Tryz.func20, Tryz.ntmps20
  go_upto_region 1 with fail
  rw [← hp.out]
  rw [← H0.out]
  go_upto_region 2 with (go_at_call 45; refine (M0C.out _).mono ?_; rintro e w1 ⟨rfl, ho1⟩; have O1 := hidOf (O0.out.trans ho1); have BP1 := hidOf (blk_out BP.out ho1); have B11 := hidOf (blk_out B1.out ho1); have B21 := hidOf (blk_out B2.out ho1); clear ho1)
  have S1 : Hid (p + 3 ≤ w1.heap.size) := hidOf ((Array.getElem?_eq_some_iff.1 B21.out).1)
  clear cb0 cb1
  go_wp2
  go_loopw [6, 7] (fun ov kv wr => ∃ (k : Nat) (b : Bool), ov = .bool b ∧ kv = .int .i64 (k : Nat) ∧ k ≤ n ∧ Hid (b = !noQ (P.take k) f m) ∧ Hid (Out w1 wr)) (fun _ kv _ => n - (intOf kv).toNat)
  case atStart => exact ⟨0, _, rfl, rfl, Nat.zero_le _, hidOf (by simp [noQ]), hidOf (Out.refl _)⟩
  case round =>
    obtain ⟨k, b, rfl, rfl, hk, HBB, OR⟩ := hrel
    have KP := hidOf (blk_out BP1.out OR.out)
    have K1 := hidOf (blk_out B11.out OR.out)
    have K2 := hidOf (blk_out B21.out OR.out)
    have cp : wr.cell? ⟨p, 0, none⟩ = some (.slice a n c) := by rw [cell_B KP.out] <;> rfl
    have cr0 : wr.cell? ⟨p + 1, 0, none⟩ = some (.int .u64 f) := by rw [cell_B K1.out] <;> rfl
    have cr1 : wr.cell? ⟨p + 1, 1, none⟩ = some (.slice ra m rc) := by rw [cell_B K1.out] <;> rfl
    have OW := hidOf (O1.out.trans OR.out)
    cases b with
    | false =>
      have hno : noQ P f m = true := by
        have h1 : noQ (P.take k) f m = true := by have := HBB.out; simpa using this
        unfold noQ at h1 ⊢
        rw [Bool.or_eq_true] at h1 ⊢
        exact h1.imp id (fun h2 => by rw [List.any_eq_true] at h2 ⊢; obtain ⟨x, hx, e⟩ := h2; exact ⟨x, List.mem_of_mem_take hx, e⟩)
      have HNO := hidOf hno
      obtain ⟨wS, HS, bS, cS⟩ : ∃ wS, Hid (wS = wr.setCell ⟨p + 2, 0, none⟩ (.slice a n c)) ∧ wS.heap[p + 2]? = some (.cells #[.slice a n c] 47 (0, 0)) ∧ Chg (fun b => b = p + 2) wr wS := ⟨_, rfl, set_B K2.out 0 _, (Chg.refl (fun b => b = p + 2) wr).setCell rfl _⟩
      have BS := hidOf bS
      have CS := hidOf cS
      have z2 : wr.frozen? ⟨p + 2, 0, none⟩ = false := froz_B K2.out 0
      have c2 : wr.cell? ⟨p + 2, 0, none⟩ = some (.slice none 0 0) := by rw [cell_B K2.out] <;> rfl
      clear bS cS hno
      go_wp2
      rw [← HS.out]
      refine bodyPost_ret (results_cell2 rfl _ _ (p + 2) 47 _ (0, 0) _ rfl BS.out Tryz.underlying47 rfl (by kernel_rfl)) rfl ?_
      exact ⟨Chg.out CS.out OW.out (fun b hb => by have := hp.out; omega), .inl ⟨by rw [← hP.out, ← hm.out]; exact HNO.out, rfl⟩⟩
    | true =>
      have hyes : noQ (P.take k) f m = false := by have := HBB.out; simpa using this
      have HYES := hidOf hyes
      clear hyes
      by_cases hkn : k < n
      · have hlt : (k : Int) < n := by omega
        obtain ⟨z, hz⟩ : ∃ z, R[k]? = some z := ⟨_, List.getElem?_eq_getElem (by rw [HRN.out]; exact hkn)⟩
        have hown := (HI.out.out OW.out).own
        obtain ⟨g, cc2, ee, _, _⟩ := hown.form (by omega)
        simp only [Value.slice.injEq] at ee
        obtain ⟨rfl, _, rfl⟩ := ee
        obtain ⟨q0, q1⟩ := rowG_get hz
        have r0 := (own_cellK hown q0).1
        have r1 := (own_cellK hown q1).1
        have HZ := hidOf hz
        have hzb := HB0.out z (List.mem_of_getElem? hz)
        rw [daV] at r1
        obtain ⟨zf, hzf⟩ : ∃ zf, Hid (zf = z.f) := ⟨_, rfl⟩
        obtain ⟨zl, hzl⟩ : ∃ zl, Hid (zl = z.d.length) := ⟨_, rfl⟩
        obtain ⟨zc, hzc⟩ : ∃ zc, Hid (zc = z.c) := ⟨_, rfl⟩
        obtain ⟨za, hza⟩ : ∃ za : Option Addr, Hid (za = z.a.map fun b => ⟨b, 0, none⟩) := ⟨_, rfl⟩
        rw [← hzf.out] at r0 hzb
        rw [← hzl.out] at hzb
        rw [← hzl.out, ← hzc.out, ← hza.out] at r1
        have CLC := hidOf (refClash_any wr.drew zf zl zc f m rc za ra hzb.2 HF.out hzb.1 HM.out)
        clear hown q0 q1 hz hzb
        go_upto_region 5 with fail
        refine wp_region_held_drew (S := (fun w' => w'.cell? ⟨p, 0, none⟩ = some (.slice (some ⟨g, 0, none⟩) n c) ∧ w'.cell? ⟨g, k * 2, none⟩ = some (.int .u64 zf) ∧ w'.cell? ⟨g, k * 2 + 1, none⟩ = some (.slice za zl zc) ∧ w'.cell? ⟨p + 1, 0, none⟩ = some (.int .u64 f) ∧ w'.cell? ⟨p + 1, 1, none⟩ = some (.slice ra m rc))) (by kernel_rfl) ?_ (fun hHeld => ?_)
        · exact ⟨cp, r0, r1, cr0, cr1⟩
        refine tkLB [0, 1, 2, 3, 4, 5] ?_
        iterate 6 (refine tkLC (v := ?_) rfl rfl (by kernel_rfl) (by kernel_rfl) (by kernel_rfl) (fun _ _ _ h => h) (by rfl) (by assumption) ?_ ?_; rotate_left; (· (intro w hSw; (try dsimp only at hSw); go_simp; (try with_reducible rfl))); simp only [Act.put, List.setIfInBounds_toArray, List.set_cons_zero, List.set_cons_succ])
        refine tkLE ?_
        refine wpAnyH_ready (rs := [6]) (by kernel_rfl) (by simp) ?_
        refine (AllReadyH.cons rfl (fun Ko6 hKo6 => ?_) AllReadyH.nil)
        rw [if_pos (by rfl)]
        go_simp
        go_at_call 46
        refine (CLC.out).mono ?_
        rintro e w2 ⟨rfl, ho2⟩
        have O2 := hidOf ho2
        have t0 := cell_later ho2 (show wr.drew.cell? _ = _ from cp)
        have t1 := cell_later ho2 (show wr.drew.cell? _ = _ from r0)
        have t2 := cell_later ho2 (show wr.drew.cell? _ = _ from r1)
        have t3 := cell_later ho2 (show wr.drew.cell? _ = _ from cr0)
        have t4 := cell_later ho2 (show wr.drew.cell? _ = _ from cr1)
        clear ho2
        refine hKo6.out _ _ ⟨t0, t1, t2, t3, t4⟩ (fun hHeld6 => ?_)
        try simp only [Act.put, List.setIfInBounds_toArray, List.set_cons_zero, List.set_cons_succ]
        refine tkLB [7, 8] ?_
        iterate 2 (refine tkLC (v := ?_) rfl rfl (by kernel_rfl) (by kernel_rfl) (by kernel_rfl) (fun _ _ _ h => h) (by rfl) (by assumption) ?_ ?_; rotate_left; (· (intro w hSw; (try dsimp only at hSw); go_simp; (try with_reducible rfl))); simp only [Act.put, List.setIfInBounds_toArray, List.set_cons_zero, List.set_cons_succ])
        refine tkLE ?_
        refine wpAnyH_done (by kernel_rfl) ?_ _
        go_wp2
        go_roundw
        case rel =>
          refine ⟨k + 1, !cl1 zf zl f m, by first | rfl | simp, by simp, by omega, hidOf ?_, hidOf (OR.out.trans ((Out.refl wr).drew.trans O2.out))⟩
          have hz2 : P[k]? = some (zf, z.d) := by rw [hP.out, List.getElem?_map, HZ.out, hzf.out]; rfl
          have h1 := HYES.out
          unfold noQ at h1 ⊢
          rw [Bool.or_eq_false_iff] at h1
          rw [List.take_add_one, hz2, List.any_append, h1.1, h1.2]
          simp [hzl.out]
        case measure => simp [intOf]; omega
      · have hlt : ¬ (k : Int) < n := by omega
        obtain rfl : k = n := by omega
        have hno : noQ P f m = false := by have h1 := HYES.out; rwa [List.take_of_length_le (by rw [hpl.out]; exact Nat.le_refl _)] at h1
        have HNO := hidOf hno
        have CC := hidOf (refCopy_any wr B0 a c k R (HI.out.out OW.out) HRN.out (fun z hz => (HB0.out z hz).1) (by have := HNN.out; omega))
        have z2 : wr.frozen? ⟨p + 2, 0, none⟩ = false := froz_B K2.out 0
        clear hno
        go_upto_region 8 with fail
        go_upto_region 9 with (go_at_call 47; refine CC.out.mono ?_; rintro e w2 ⟨a', c', R', rfl, hrl, hmap, ho2, -⟩; have RL2 := hidOf hrl; have MP := hidOf hmap; have O2 := hidOf ho2; clear hrl hmap)
        obtain ⟨q, hq⟩ : ∃ q, Hid (q = w2.heap.size) := ⟨_, rfl⟩
        obtain ⟨wB, HB, bB, oB, sB⟩ : ∃ wB, Hid (wB = w2.alloc (.cells #[.slice a' k c'] 47)) ∧ wB.heap[q]? = some (.cells #[.slice a' k c'] 47 (0, 0)) ∧ Out w2 wB ∧ wB.heap.size = q + 1 := ⟨_, rfl, by rw [hq.out]; exact heap_alloc_new w2 _, (Out.refl w2).alloc _, by rw [size_alloc, hq.out]⟩
        rw [← hq.out]
        rw [← HB.out]
        have OB := hidOf oB
        have SB := hidOf sB
        have BQ := hidOf bB
        have hqp : p + 3 ≤ q := by have h1 := O2.out.size; have h2 := OR.out.size; have h3 := S1.out; have h4 := hq.out; omega
        have oRB : Out wr wB := O2.out.trans OB.out
        have ORB := hidOf oRB
        have cq : wB.cell? ⟨q, 0, none⟩ = some (.slice a' k c') := by rw [cell_B BQ.out] <;> rfl
        have d0 : wB.cell? ⟨p + 1, 0, none⟩ = some (.int .u64 f) := cell_later oRB cr0
        have d1 : wB.cell? ⟨p + 1, 1, none⟩ = some (.slice ra m rc) := cell_later oRB cr1
        have KB2 := hidOf (blk_out K2.out oRB)
        have RLB := hidOf (RL2.out.out OB.out)
        have CPA := hidOf (Q0C.out wB.drew ((OW.out.trans oRB).drew))
        clear oB sB bB oRB cr0 cr1 cp ho2 z2
        go_upto_region 9 with fail
        refine wp_region_held_drew (S := (fun w' => w'.cell? ⟨p + 1, 0, none⟩ = some (.int .u64 f) ∧ w'.cell? ⟨p + 1, 1, none⟩ = some (.slice ra m rc) ∧ (w'.cell? ⟨q, 0, none⟩ = some (.slice a' k c') ∨ ∃ v, w'.cell? ⟨q, 0, none⟩ = some v))) (by kernel_rfl) ?_ (fun hHeld => ?_)
        · exact ⟨d0, d1, .inl cq⟩
        refine tkLB [0, 2] ?_
        iterate 2 (refine tkLC (v := ?_) rfl rfl (by kernel_rfl) (by kernel_rfl) (by kernel_rfl) (fun _ _ _ h => h) (by rfl) (by assumption) ?_ ?_; rotate_left; (· (intro w hSw; (try dsimp only at hSw); go_simp; (try with_reducible rfl))); simp only [Act.put, List.setIfInBounds_toArray, List.set_cons_zero, List.set_cons_succ])
        refine tkLE ?_
        refine wpAnyH_ready (rs := [1, 3]) (by kernel_rfl) (by simp) ?_
        refine (AllReadyH.cons rfl (fun Ko1 hKo1 => ?_) (AllReadyH.cons rfl (fun Ko3 hKo3 => ?_) AllReadyH.nil))
        · rw [if_pos (by rfl)]
          go_simp
          refine hKo1.out _ _ ⟨d0, d1, .inl cq⟩ (fun hHeld1 => ?_)
          try simp only [Act.put, List.setIfInBounds_toArray, List.set_cons_zero, List.set_cons_succ]
          refine wpAnyH_ready (rs := [3]) (by kernel_rfl) (by simp) ?_
          refine (AllReadyH.cons rfl (fun Ko3 hKo3 => ?_) AllReadyH.nil)
          rw [if_pos (by rfl)]
          go_simp
          go_at_call 48
          refine (CPA.out).mono ?_
          rintro e w3 ⟨x, hxf, hxd, rfl, hdx, ho3⟩
          have O3 := hidOf ho3
          have HXF := hidOf hxf
          have HXD := hidOf hxd
          have HDX := hidOf hdx
          have t1 := cell_later ho3 (show wB.drew.cell? _ = _ from cq)
          have t2 := cell_later ho3 (show wB.drew.cell? _ = _ from d0)
          have t3 := cell_later ho3 (show wB.drew.cell? _ = _ from d1)
          clear hxf hxd hdx ho3
          have hxm : Hid (x.d.length = m) := hidOf (by rw [HXD.out, hm.out])
          have hxf2 : Hid (x.f = f) := HXF
          obtain ⟨xa, hxa⟩ : ∃ xa : Option Addr, Hid (xa = x.a.map fun b => ⟨b, 0, none⟩) := ⟨_, rfl⟩
          rw [← hxa.out]
          obtain ⟨wC, HC, u0, u1, oC, sC⟩ := box_two w3 (.int .u64 (x.f : Nat)) (.slice xa x.d.length x.c) 36
          have OC := hidOf oC
          have oBC : Out wB wC := ((Out.refl wB).drew.trans O3.out).trans oC
          have hszC := oBC.size
          have hszR := ORB.out.size
          have hszB : wB.heap.size = q + 1 := SB.out
          obtain ⟨a2, c2, w4, hap, hrl, hc2⟩ := RLs.push (RLB.out.out oBC) (by have := HNN.out; omega) (by omega) w3.heap.size x xa hxa.out u0 u1 (DaI.out (own_base HDX.out (by show wr.heap.size ≤ wB.heap.size; exact hszR)) oC)
          have bq3 := blk_out BQ.out oBC
          have hSq : ∀ b, (Value.slice a' k c').ownBlock = some b → wr.heap.size ≤ b ∧ b ≠ q := fun b hb => ⟨((RLB.out.out oBC).own.lt b hb).1, fun e => own_ne (RLB.out.out oBC).own bq3 (by decide) (by subst e; exact hb)⟩
          have v1 := cell_later oC t1
          have v2 := cell_later oC t2
          have v3 := cell_later oC t3
          have hp1 : p + 1 < wr.heap.size := (Array.getElem?_eq_some_iff.1 K1.out).1
          have hp2 : p + 2 < wr.heap.size := (Array.getElem?_eq_some_iff.1 K2.out).1
          have y1 := hc2.cell v1 (fun hq => (hSq _ hq).2 rfl)
          have y2 := hc2.cell v2 (fun hq => by have := (hSq _ hq).1; simp only at this; omega)
          have y3 := hc2.cell v3 (fun hq => by have := (hSq _ hq).1; simp only at this; omega)
          have bq4 := blk_chg bq3 hc2 (fun hq => (hSq _ hq).2 rfl)
          have k2 := blk_chg (blk_out KB2.out oBC) hc2 (fun hq => by have := (hSq _ hq).1; omega)
          have z4 : w4.frozen? ⟨q, 0, none⟩ = false := froz_B bq4 0
          obtain ⟨wS, HS, bS, cS⟩ : ∃ wS, Hid (wS = w4.setCell ⟨q, 0, none⟩ (.slice a2 (k + 1) c2)) ∧ wS.heap[q]? = some (.cells #[.slice a2 (k + 1) c2] 47 (0, 0)) ∧ Chg (fun b => b = q) w4 wS := ⟨_, rfl, set_B bq4 0 _, (Chg.refl (fun b => b = q) w4).setCell rfl _⟩
          have e2 := cS.cell y2 (by show ¬ p + 1 = q; omega)
          have e3 := cS.cell y3 (by show ¬ p + 1 = q; omega)
          have e1 : wS.cell? ⟨q, 0, none⟩ = some (.slice a2 (k + 1) c2) := by rw [cell_B bS]; rfl
          have HAP := hidOf hap
          have KS2 := hidOf (blk_chg k2 cS (by show ¬ p + 2 = q; omega))
          have KRL := hidOf (hrl.chgT bq4 cS)
          have KO := hidOf (Chg.out cS (Chg.out hc2 (OW.out.trans (ORB.out.trans oBC)) (fun b hb => by have := (hSq b hb).1; have := hp.out; omega)) (fun b hb => by have := hp.out; omega))
          clear hap hrl hc2 bS cS k2 oBC oC sC u0 u1 hSq bq3 bq4
          refine hKo3.out _ _ ⟨t2, t3, .inl t1⟩ (fun hHeld3 => ?_)
          try simp only [Act.put, List.setIfInBounds_toArray, List.set_cons_zero, List.set_cons_succ]
          refine wpAnyH_ready (rs := [4]) (by kernel_rfl) (by simp) ?_
          refine (AllReadyH.cons rfl (fun Ko4 hKo4 => ?_) AllReadyH.nil)
          rw [if_pos (by rfl)]
          go_simp
          rw [← HC.out]
          refine hKo4.out _ _ ⟨v2, v3, .inl v1⟩ (fun hHeld4 => ?_)
          try simp only [Act.put, List.setIfInBounds_toArray, List.set_cons_zero, List.set_cons_succ]
          refine wpAnyH_ready (rs := [5]) (by kernel_rfl) (by simp) ?_
          refine (AllReadyH.cons rfl (fun Ko5 hKo5 => ?_) AllReadyH.nil)
          rw [if_pos (by rfl)]
          refine Lib.wp_append_run _ (.tmp 35) (.tmp 38) 22 22 rfl _ _ (by simp [Act.eval, Act.put]) (by simp [Act.eval, Act.put]) _ _ (HAP.out _) ?_
          refine hKo5.out _ _ ⟨y2, y3, .inl y1⟩ (fun hHeld5 => ?_)
          try simp only [Act.put, List.setIfInBounds_toArray, List.set_cons_zero, List.set_cons_succ]
          refine tkLB [6] ?_
          iterate 1 (refine tkLC (v := ?_) rfl rfl (by kernel_rfl) (by kernel_rfl) (by kernel_rfl) (fun _ _ _ h => h) (by rfl) (by assumption) ?_ ?_; rotate_left; (· (intro w hSw; (try dsimp only at hSw); go_simp; (try with_reducible rfl))); simp only [Act.put, List.setIfInBounds_toArray, List.set_cons_zero, List.set_cons_succ])
          refine tkLE ?_
          refine wpAnyH_ready (rs := [7]) (by kernel_rfl) (by simp) ?_
          refine (AllReadyH.cons rfl (fun Ko7 hKo7 => ?_) AllReadyH.nil)
          rw [if_pos (by rfl)]
          go_simp
          rw [← HS.out]
          refine hKo7.out _ _ ⟨e2, e3, .inr ⟨_, e1⟩⟩ (fun hHeld7 => ?_)
          try simp only [Act.put, List.setIfInBounds_toArray, List.set_cons_zero, List.set_cons_succ]
          refine wpAnyH_done (by kernel_rfl) ?_ _
          have f1 : wS.cell? ⟨q, 0, none⟩ = some (.slice a2 (k + 1) c2) := e1
          have zS2 : wS.frozen? ⟨p + 2, 0, none⟩ = false := froz_B KS2.out 0
          have cS2 : wS.cell? ⟨p + 2, 0, none⟩ = some (.slice none 0 0) := by rw [cell_B KS2.out] <;> rfl
          obtain ⟨wT, HT, bT, cT⟩ : ∃ wT, Hid (wT = wS.setCell ⟨p + 2, 0, none⟩ (.slice a2 (k + 1) c2)) ∧ wT.heap[p + 2]? = some (.cells #[.slice a2 (k + 1) c2] 47 (0, 0)) ∧ Chg (fun b => b = p + 2) wS wT := ⟨_, rfl, set_B KS2.out 0 _, (Chg.refl (fun b => b = p + 2) wS).setCell rfl _⟩
          have BT := hidOf bT
          have CT := hidOf cT
          clear bT cT t1 t2 t3 v1 v2 v3 y1 y2 y3 e2 e3 d0 d1 cq
          go_wp2
          rw [← HT.out]
          refine bodyPost_ret (results_cell2 rfl _ _ (p + 2) 47 _ (0, 0) _ rfl BT.out Tryz.underlying47 rfl (by kernel_rfl)) rfl ?_
          refine ⟨Chg.out CT.out KO.out (fun b hb => by have := hp.out; omega), .inr ⟨by rw [← hP.out, ← hm.out]; exact HNO.out, a2, c2, R' ++ [x], rfl, ?_, ?_⟩⟩
          · exact (KRL.out.chgT KS2.out CT.out).base (OW.out.size)
          · rw [List.map_append, MP.out]
            simp [fdR, HXF.out, HXD.out]
        · rw [if_pos (by rfl)]
          go_simp
          go_at_call 48
          refine (CPA.out).mono ?_
          rintro e w3 ⟨x, hxf, hxd, rfl, hdx, ho3⟩
          have O3 := hidOf ho3
          have HXF := hidOf hxf
          have HXD := hidOf hxd
          have HDX := hidOf hdx
          have t1 := cell_later ho3 (show wB.drew.cell? _ = _ from cq)
          have t2 := cell_later ho3 (show wB.drew.cell? _ = _ from d0)
          have t3 := cell_later ho3 (show wB.drew.cell? _ = _ from d1)
          clear hxf hxd hdx ho3
          have hxm : Hid (x.d.length = m) := hidOf (by rw [HXD.out, hm.out])
          have hxf2 : Hid (x.f = f) := HXF
          obtain ⟨xa, hxa⟩ : ∃ xa : Option Addr, Hid (xa = x.a.map fun b => ⟨b, 0, none⟩) := ⟨_, rfl⟩
          rw [← hxa.out]
          obtain ⟨wC, HC, u0, u1, oC, sC⟩ := box_two w3 (.int .u64 (x.f : Nat)) (.slice xa x.d.length x.c) 36
          have OC := hidOf oC
          have oBC : Out wB wC := ((Out.refl wB).drew.trans O3.out).trans oC
          have hszC := oBC.size
          have hszR := ORB.out.size
          have hszB : wB.heap.size = q + 1 := SB.out
          obtain ⟨a2, c2, w4, hap, hrl, hc2⟩ := RLs.push (RLB.out.out oBC) (by have := HNN.out; omega) (by omega) w3.heap.size x xa hxa.out u0 u1 (DaI.out (own_base HDX.out (by show wr.heap.size ≤ wB.heap.size; exact hszR)) oC)
          have bq3 := blk_out BQ.out oBC
          have hSq : ∀ b, (Value.slice a' k c').ownBlock = some b → wr.heap.size ≤ b ∧ b ≠ q := fun b hb => ⟨((RLB.out.out oBC).own.lt b hb).1, fun e => own_ne (RLB.out.out oBC).own bq3 (by decide) (by subst e; exact hb)⟩
          have v1 := cell_later oC t1
          have v2 := cell_later oC t2
          have v3 := cell_later oC t3
          have hp1 : p + 1 < wr.heap.size := (Array.getElem?_eq_some_iff.1 K1.out).1
          have hp2 : p + 2 < wr.heap.size := (Array.getElem?_eq_some_iff.1 K2.out).1
          have y1 := hc2.cell v1 (fun hq => (hSq _ hq).2 rfl)
          have y2 := hc2.cell v2 (fun hq => by have := (hSq _ hq).1; simp only at this; omega)
          have y3 := hc2.cell v3 (fun hq => by have := (hSq _ hq).1; simp only at this; omega)
          have bq4 := blk_chg bq3 hc2 (fun hq => (hSq _ hq).2 rfl)
          have k2 := blk_chg (blk_out KB2.out oBC) hc2 (fun hq => by have := (hSq _ hq).1; omega)
          have z4 : w4.frozen? ⟨q, 0, none⟩ = false := froz_B bq4 0
          obtain ⟨wS, HS, bS, cS⟩ : ∃ wS, Hid (wS = w4.setCell ⟨q, 0, none⟩ (.slice a2 (k + 1) c2)) ∧ wS.heap[q]? = some (.cells #[.slice a2 (k + 1) c2] 47 (0, 0)) ∧ Chg (fun b => b = q) w4 wS := ⟨_, rfl, set_B bq4 0 _, (Chg.refl (fun b => b = q) w4).setCell rfl _⟩
          have e2 := cS.cell y2 (by show ¬ p + 1 = q; omega)
          have e3 := cS.cell y3 (by show ¬ p + 1 = q; omega)
          have e1 : wS.cell? ⟨q, 0, none⟩ = some (.slice a2 (k + 1) c2) := by rw [cell_B bS]; rfl
          have HAP := hidOf hap
          have KS2 := hidOf (blk_chg k2 cS (by show ¬ p + 2 = q; omega))
          have KRL := hidOf (hrl.chgT bq4 cS)
          have KO := hidOf (Chg.out cS (Chg.out hc2 (OW.out.trans (ORB.out.trans oBC)) (fun b hb => by have := (hSq b hb).1; have := hp.out; omega)) (fun b hb => by have := hp.out; omega))
          clear hap hrl hc2 bS cS k2 oBC oC sC u0 u1 hSq bq3 bq4
          refine hKo3.out _ _ ⟨t2, t3, .inl t1⟩ (fun hHeld3 => ?_)
          try simp only [Act.put, List.setIfInBounds_toArray, List.set_cons_zero, List.set_cons_succ]
          refine wpAnyH_ready (rs := [1, 4]) (by kernel_rfl) (by simp) ?_
          refine (AllReadyH.cons rfl (fun Ko1 hKo1 => ?_) (AllReadyH.cons rfl (fun Ko4 hKo4 => ?_) AllReadyH.nil))
          · rw [if_pos (by rfl)]
            go_simp
            refine hKo1.out _ _ ⟨t2, t3, .inl t1⟩ (fun hHeld1 => ?_)
            try simp only [Act.put, List.setIfInBounds_toArray, List.set_cons_zero, List.set_cons_succ]
            refine wpAnyH_ready (rs := [4]) (by kernel_rfl) (by simp) ?_
            refine (AllReadyH.cons rfl (fun Ko4 hKo4 => ?_) AllReadyH.nil)
            rw [if_pos (by rfl)]
            go_simp
            rw [← HC.out]
            refine hKo4.out _ _ ⟨v2, v3, .inl v1⟩ (fun hHeld4 => ?_)
            try simp only [Act.put, List.setIfInBounds_toArray, List.set_cons_zero, List.set_cons_succ]
            refine wpAnyH_ready (rs := [5]) (by kernel_rfl) (by simp) ?_
            refine (AllReadyH.cons rfl (fun Ko5 hKo5 => ?_) AllReadyH.nil)
            rw [if_pos (by rfl)]
            refine Lib.wp_append_run _ (.tmp 35) (.tmp 38) 22 22 rfl _ _ (by simp [Act.eval, Act.put]) (by simp [Act.eval, Act.put]) _ _ (HAP.out _) ?_
            refine hKo5.out _ _ ⟨y2, y3, .inl y1⟩ (fun hHeld5 => ?_)
            try simp only [Act.put, List.setIfInBounds_toArray, List.set_cons_zero, List.set_cons_succ]
            refine tkLB [6] ?_
            iterate 1 (refine tkLC (v := ?_) rfl rfl (by kernel_rfl) (by kernel_rfl) (by kernel_rfl) (fun _ _ _ h => h) (by rfl) (by assumption) ?_ ?_; rotate_left; (· (intro w hSw; (try dsimp only at hSw); go_simp; (try with_reducible rfl))); simp only [Act.put, List.setIfInBounds_toArray, List.set_cons_zero, List.set_cons_succ])
            refine tkLE ?_
            refine wpAnyH_ready (rs := [7]) (by kernel_rfl) (by simp) ?_
            refine (AllReadyH.cons rfl (fun Ko7 hKo7 => ?_) AllReadyH.nil)
            rw [if_pos (by rfl)]
            go_simp
            rw [← HS.out]
            refine hKo7.out _ _ ⟨e2, e3, .inr ⟨_, e1⟩⟩ (fun hHeld7 => ?_)
            try simp only [Act.put, List.setIfInBounds_toArray, List.set_cons_zero, List.set_cons_succ]
            refine wpAnyH_done (by kernel_rfl) ?_ _
            have f1 : wS.cell? ⟨q, 0, none⟩ = some (.slice a2 (k + 1) c2) := e1
            have zS2 : wS.frozen? ⟨p + 2, 0, none⟩ = false := froz_B KS2.out 0
            have cS2 : wS.cell? ⟨p + 2, 0, none⟩ = some (.slice none 0 0) := by rw [cell_B KS2.out] <;> rfl
            obtain ⟨wT, HT, bT, cT⟩ : ∃ wT, Hid (wT = wS.setCell ⟨p + 2, 0, none⟩ (.slice a2 (k + 1) c2)) ∧ wT.heap[p + 2]? = some (.cells #[.slice a2 (k + 1) c2] 47 (0, 0)) ∧ Chg (fun b => b = p + 2) wS wT := ⟨_, rfl, set_B KS2.out 0 _, (Chg.refl (fun b => b = p + 2) wS).setCell rfl _⟩
            have BT := hidOf bT
            have CT := hidOf cT
            clear bT cT t1 t2 t3 v1 v2 v3 y1 y2 y3 e2 e3 d0 d1 cq
            go_wp2
            rw [← HT.out]
            refine bodyPost_ret (results_cell2 rfl _ _ (p + 2) 47 _ (0, 0) _ rfl BT.out Tryz.underlying47 rfl (by kernel_rfl)) rfl ?_
            refine ⟨Chg.out CT.out KO.out (fun b hb => by have := hp.out; omega), .inr ⟨by rw [← hP.out, ← hm.out]; exact HNO.out, a2, c2, R' ++ [x], rfl, ?_, ?_⟩⟩
            · exact (KRL.out.chgT KS2.out CT.out).base (OW.out.size)
            · rw [List.map_append, MP.out]
              simp [fdR, HXF.out, HXD.out]
          · rw [if_pos (by rfl)]
            go_simp
            rw [← HC.out]
            refine hKo4.out _ _ ⟨v2, v3, .inl v1⟩ (fun hHeld4 => ?_)
            try simp only [Act.put, List.setIfInBounds_toArray, List.set_cons_zero, List.set_cons_succ]
            refine wpAnyH_ready (rs := [1]) (by kernel_rfl) (by simp) ?_
            refine (AllReadyH.cons rfl (fun Ko1 hKo1 => ?_) AllReadyH.nil)
            rw [if_pos (by rfl)]
            go_simp
            refine hKo1.out _ _ ⟨v2, v3, .inl v1⟩ (fun hHeld1 => ?_)
            try simp only [Act.put, List.setIfInBounds_toArray, List.set_cons_zero, List.set_cons_succ]
            refine wpAnyH_ready (rs := [5]) (by kernel_rfl) (by simp) ?_
            refine (AllReadyH.cons rfl (fun Ko5 hKo5 => ?_) AllReadyH.nil)
            rw [if_pos (by rfl)]
            refine Lib.wp_append_run _ (.tmp 35) (.tmp 38) 22 22 rfl _ _ (by simp [Act.eval, Act.put]) (by simp [Act.eval, Act.put]) _ _ (HAP.out _) ?_
            refine hKo5.out _ _ ⟨y2, y3, .inl y1⟩ (fun hHeld5 => ?_)
            try simp only [Act.put, List.setIfInBounds_toArray, List.set_cons_zero, List.set_cons_succ]
            refine tkLB [6] ?_
            iterate 1 (refine tkLC (v := ?_) rfl rfl (by kernel_rfl) (by kernel_rfl) (by kernel_rfl) (fun _ _ _ h => h) (by rfl) (by assumption) ?_ ?_; rotate_left; (· (intro w hSw; (try dsimp only at hSw); go_simp; (try with_reducible rfl))); simp only [Act.put, List.setIfInBounds_toArray, List.set_cons_zero, List.set_cons_succ])
            refine tkLE ?_
            refine wpAnyH_ready (rs := [7]) (by kernel_rfl) (by simp) ?_
            refine (AllReadyH.cons rfl (fun Ko7 hKo7 => ?_) AllReadyH.nil)
            rw [if_pos (by rfl)]
            go_simp
            rw [← HS.out]
            refine hKo7.out _ _ ⟨e2, e3, .inr ⟨_, e1⟩⟩ (fun hHeld7 => ?_)
            try simp only [Act.put, List.setIfInBounds_toArray, List.set_cons_zero, List.set_cons_succ]
            refine wpAnyH_done (by kernel_rfl) ?_ _
            have f1 : wS.cell? ⟨q, 0, none⟩ = some (.slice a2 (k + 1) c2) := e1
            have zS2 : wS.frozen? ⟨p + 2, 0, none⟩ = false := froz_B KS2.out 0
            have cS2 : wS.cell? ⟨p + 2, 0, none⟩ = some (.slice none 0 0) := by rw [cell_B KS2.out] <;> rfl
            obtain ⟨wT, HT, bT, cT⟩ : ∃ wT, Hid (wT = wS.setCell ⟨p + 2, 0, none⟩ (.slice a2 (k + 1) c2)) ∧ wT.heap[p + 2]? = some (.cells #[.slice a2 (k + 1) c2] 47 (0, 0)) ∧ Chg (fun b => b = p + 2) wS wT := ⟨_, rfl, set_B KS2.out 0 _, (Chg.refl (fun b => b = p + 2) wS).setCell rfl _⟩
            have BT := hidOf bT
            have CT := hidOf cT
            clear bT cT t1 t2 t3 v1 v2 v3 y1 y2 y3 e2 e3 d0 d1 cq
            go_wp2
            rw [← HT.out]
            refine bodyPost_ret (results_cell2 rfl _ _ (p + 2) 47 _ (0, 0) _ rfl BT.out Tryz.underlying47 rfl (by kernel_rfl)) rfl ?_
            refine ⟨Chg.out CT.out KO.out (fun b hb => by have := hp.out; omega), .inr ⟨by rw [← hP.out, ← hm.out]; exact HNO.out, a2, c2, R' ++ [x], rfl, ?_, ?_⟩⟩
            · exact (KRL.out.chgT KS2.out CT.out).base (OW.out.size)
            · rw [List.map_append, MP.out]
              simp [fdR, HXF.out, HXD.out]
end Go.Proofs.YtekjfbmebekmeaaGreat
