import Derived.Test.YtekjfbmebekmeaaGreatGa18
import Derived.Shelf.SlSortCmp.NoneTotal
namespace Go.Proofs.YtekjfbmebekmeaaGreat
open Go.RowKit
set_option linter.unusedVariables false
set_option linter.unusedSimpArgs false
def fdR (z : Rg) : Nat × List UInt8 := (z.f, z.d)
theorem sort_none (w : World) (p : Option Addr) (c : Nat) (fv : Value) : Calls Tryz.prog 71 #[.slice p 0 c, fv] w fun e w' => e = .returned (.tuple #[]) ∧ w' = w := Go.Proofs.AnyF.slices_SortFunc_none Tryz.sortR p c fv w
theorem own_setG {w : World} {B g c n k : Nat} {L : List Rg} (h : w.ownsRow B 36 2 (.slice (some ⟨g, 0, none⟩) n c) n (rowG L)) (hl : L.length = n) (hk : k < n) (z : Rg) : ((w.setCell ⟨g, k * 2, none⟩ (.int .u64 (z.f : Nat))).setCell ⟨g, k * 2 + 1, none⟩ (daV z)).ownsRow B 36 2 (.slice (some ⟨g, 0, none⟩) n c) n (rowG (L.set k z)) := by
  obtain ⟨cur, hg, hB, hnc, hcm, hcl, hct, hxl⟩ := owns_blk h
  have h2 := set_B (set_B hg (k * 2) (.int .u64 (z.f : Nat))) (k * 2 + 1) (daV z)
  rw [List.setIfInBounds_toArray, List.setIfInBounds_toArray] at h2
  refine blk_owns h2 hB hnc hcm (by rw [List.length_set, List.length_set, hcl]) ?_
  rw [List.take_set, List.take_set, hct]
  obtain ⟨x, hx⟩ : ∃ x, L[k]? = some x := ⟨_, List.getElem?_eq_getElem (by omega)⟩
  have hlt : (rowG (L.take k)).length = k * 2 := by rw [rowG_len, List.length_take, Nat.min_eq_left (by omega)]
  rw [set_split hx]
  conv => lhs; rw [at_split hx]
  rw [rowG_app, rowG_cons, rowG_app, rowG_cons]
  rw [List.set_append_right _ _ (by omega), hlt, Nat.sub_self]
  rw [List.set_append_right _ _ (by omega), hlt, show k * 2 + 1 - k * 2 = 1 by omega]
  rfl
theorem SpOk.dif {F E : List Rg} (h : SpOk F E) : (F ++ E).Pairwise (fun x y => x.f ≠ y.f) :=
  List.pairwise_append.2 ⟨h.sf.imp (fun {a b} hab => by omega), h.se.imp (fun {a b} hab => by omega), fun x hx y hy => h.ne x hx y hy⟩
theorem strict_of {R F : List Rg} (hs : R.Pairwise (fun x y => x.f ≤ y.f)) (hp : (R.map fdR).Perm (F.map fdR)) (hd : F.Pairwise (fun x y => x.f ≠ y.f)) : Srt R := by
  have h1 : (R.map Rg.f).Perm (F.map Rg.f) := by
    have := hp.map Prod.fst
    simpa [List.map_map, Function.comp_def, fdR] using this
  have h2 : (F.map Rg.f).Nodup := List.pairwise_map.2 hd
  have h3 : (R.map Rg.f).Nodup := h1.nodup_iff.2 h2
  have h4 : R.Pairwise (fun x y => x.f ≠ y.f) := List.pairwise_map.1 h3
  exact (List.Pairwise.and hs h4).imp (fun {a b} hab => by omega)
set_option maxHeartbeats 2000000 in
set_option maxRecDepth 100000 in
theorem RegionsD_any (w : World) (B s : Nat) (v1 v2 : Value) (X Y : List Rw) (m : Nat) (h : SpD B w s v1 v2 X Y m) (hm : m ≤ 4398046511104) :
    Calls Tryz.prog 37 #[.pointer (some ⟨s, 0, none⟩)] w fun e w' => ∃ a' c', ∃ R : List Rg, e = .returned (.tuple #[.slice a' R.length c', .int .i64 0]) ∧ w'.ownsRow w.heap.size 36 2 (.slice a' R.length c') R.length (rowG R) ∧ (∀ z ∈ R, DaI w.heap.size w' z) ∧ (R.map fdR).Perm ((flat X ++ flat Y).map fdR) ∧ Srt R ∧ R.Pairwise (fun x y => ∀ b, x.a = some b → y.a ≠ some b) ∧ Out w w' := by
  have hnm := h.nm
  rw [List.length_append] at hnm
  have A1 := hidOf (fun W (o : Out w W) => all_any W B s 0 v1 X (h.out o).sp.fil (h.out o).sp.c1 h.sp.nX (by omega))
  have A2 := hidOf (fun W (o : Out w W) => all_any W B s 1 v2 Y (h.out o).sp.emp (h.out o).sp.c2 h.sp.nY (by omega))
  have HDIF := hidOf h.ok.dif
  have HDA := hidOf h.da
  have HLE := hidOf h.le
  clear h
  generalize flat X = F1 at *
  generalize flat Y = F2 at *
  obtain ⟨n1, hn1⟩ : ∃ n1, Hid (n1 = F1.length) := ⟨_, rfl⟩
  obtain ⟨n2, hn2⟩ : ∃ n2, Hid (n2 = F2.length) := ⟨_, rfl⟩
  rw [← hn1.out] at A1 hnm
  rw [← hn2.out] at A2 hnm
  go_enter Tryz.func37, Tryz.ntmps37
  go_upto_region 3 with fail
  refine wp_region_held_drew (S := fun _ => True) (by kernel_rfl) ?_ (fun hHeld => ?_)
  · exact trivial
  refine wpAnyH_take (i := 0) (v := ?_) rfl (by kernel_rfl) (by kernel_rfl) (by kernel_rfl) (fun _ _ _ h => h) (Or.inl ⟨by rfl, ?_⟩) (by assumption) ?_
  rotate_left
  · (intro w hSw; (try dsimp only at hSw); go_simp; (try with_reducible rfl))
  show wpAnyH _ _ _ _ _ _ _ (Act.put _ (some 9) _) _
  simp only [Act.put, List.setIfInBounds_toArray, List.set_cons_zero, List.set_cons_succ]
  refine wpAnyH_take (i := 1) (v := ?_) rfl (by kernel_rfl) (by kernel_rfl) (by kernel_rfl) (fun _ _ _ h => h) (Or.inl ⟨by rfl, ?_⟩) (by assumption) ?_
  rotate_left
  · (intro w hSw; (try dsimp only at hSw); go_simp; (try with_reducible rfl))
  show wpAnyH _ _ _ _ _ _ _ (Act.put _ (some 10) _) _
  simp only [Act.put, List.setIfInBounds_toArray, List.set_cons_zero, List.set_cons_succ]
  refine wpAnyH_take (i := 2) (v := ?_) rfl (by kernel_rfl) (by kernel_rfl) (by kernel_rfl) (fun _ _ _ h => h) (Or.inl ⟨by rfl, ?_⟩) (by assumption) ?_
  rotate_left
  · (intro w hSw; (try dsimp only at hSw); go_simp; (try with_reducible rfl))
  show wpAnyH _ _ _ _ _ _ _ (Act.put _ (some 11) _) _
  simp only [Act.put, List.setIfInBounds_toArray, List.set_cons_zero, List.set_cons_succ]
  refine wpAnyH_take (i := 4) (v := ?_) rfl (by kernel_rfl) (by kernel_rfl) (by kernel_rfl) (fun _ _ _ h => h) (Or.inl ⟨by rfl, ?_⟩) (by assumption) ?_
  rotate_left
  · (intro w hSw; (try dsimp only at hSw); go_simp; (try with_reducible rfl))
  show wpAnyH _ _ _ _ _ _ _ (Act.put _ (some 13) _) _
  simp only [Act.put, List.setIfInBounds_toArray, List.set_cons_zero, List.set_cons_succ]
  refine wpAnyH_take (i := 5) (v := ?_) rfl (by kernel_rfl) (by kernel_rfl) (by kernel_rfl) (fun _ _ _ h => h) (Or.inl ⟨by rfl, ?_⟩) (by assumption) ?_
  rotate_left
  · (intro w hSw; (try dsimp only at hSw); go_simp; (try with_reducible rfl))
  show wpAnyH _ _ _ _ _ _ _ (Act.put _ (some 14) _) _
  simp only [Act.put, List.setIfInBounds_toArray, List.set_cons_zero, List.set_cons_succ]
  refine wpAnyH_take (i := 6) (v := ?_) rfl (by kernel_rfl) (by kernel_rfl) (by kernel_rfl) (fun _ _ _ h => h) (Or.inl ⟨by rfl, ?_⟩) (by assumption) ?_
  rotate_left
  · (intro w hSw; (try dsimp only at hSw); go_simp; (try with_reducible rfl))
  show wpAnyH _ _ _ _ _ _ _ (Act.put _ (some 15) _) _
  simp only [Act.put, List.setIfInBounds_toArray, List.set_cons_zero, List.set_cons_succ]
  refine wpAnyH_ready (rs := [3]) (by kernel_rfl) (by simp) ?_
  refine (AllReadyH.cons rfl (fun K3 hK3 => ?_) AllReadyH.nil)
  rw [if_pos (by rfl)]
  go_simp
  go_at_call 70
  refine (A1.out _ (Out.refl w).drew).mono ?_
  rintro e w1 ⟨a1, c1, rfl, hown1, ho1⟩
  have HO1 := hidOf hown1
  have O1 := hidOf ((Out.refl w).drew.trans ho1)
  clear hown1 ho1
  refine hK3.out _ _ trivial (fun hHeld3 => ?_)
  refine wpAnyH_ready (rs := [7]) (by kernel_rfl) (by simp) ?_
  refine (AllReadyH.cons rfl (fun K7 hK7 => ?_) AllReadyH.nil)
  rw [if_pos (by rfl)]
  go_simp
  go_at_call 70
  refine (A2.out _ O1.out).mono ?_
  rintro e w2 ⟨a2, c2, rfl, hown2, ho2⟩
  have HO2 := hidOf hown2
  have O12 := hidOf ho2
  have O2 := hidOf (O1.out.trans ho2)
  clear hown2 ho2
  obtain ⟨wC, HC, k0, k1, oC, _⟩ := box_two w2 (.slice a1 n1 c1) (.slice a2 n2 c2) 22
  have OC := hidOf oC
  clear oC
  refine hK7.out _ _ trivial (fun hHeld7 => ?_)
  refine wpAnyH_ready (rs := [8]) (by kernel_rfl) (by simp) ?_
  refine (AllReadyH.cons rfl (fun K8 hK8 => ?_) AllReadyH.nil)
  rw [if_pos (by rfl)]
  go_simp
  rw [← HC.out]
  refine hK8.out _ _ trivial (fun hHeld8 => ?_)
  have hsrc : ∀ (a9 : Option Addr) (c9 n9 : Nat) (F9 : List Rg) (B9 : Nat) (W9 : World), W9.ownsRow B9 36 2 (.slice a9 n9 c9) n9 (rowG F9) → SrcG W9 a9 F9 := fun a9 c9 n9 F9 B9 W9 h9 => by
    have h8 := h9.1
    rw [rowG_len] at h8
    rcases h9.2 with ⟨e, h0⟩ | ⟨g, cap, cur, e, _⟩
    · left; exact List.eq_nil_of_length_eq_zero (by omega)
    · simp only [Value.slice.injEq] at e
      obtain ⟨rfl, _, rfl⟩ := e
      right; exact ⟨⟨g, 0, none⟩, rfl, fun j u hj => by rw [add_B, Nat.zero_add]; exact (own_cellK h9 hj).1⟩
  have CONC := concat_any wC (some ⟨w2.heap.size, 0, none⟩) 2 [⟨a1, c1, F1⟩, ⟨a2, c2, F2⟩] (.inr ⟨w2.heap.size, 0, rfl, fun i x hx => by
    match i, hx with
    | 0, hx => cases hx; exact ⟨by rw [← hn1.out]; exact k0, hsrc _ _ _ _ _ _ (own_out (own_out HO1.out O12.out) OC.out)⟩
    | 1, hx => cases hx; exact ⟨by rw [← hn2.out]; exact k1, hsrc _ _ _ _ _ _ (own_out HO2.out OC.out)⟩
    | j + 2, hx => simp at hx⟩) (by simp) (by simp [conV]; rw [← hn1.out, ← hn2.out]; omega)
  have hcv : conV [(⟨a1, c1, F1⟩ : VI), ⟨a2, c2, F2⟩] = F1 ++ F2 := by simp [conV]
  rw [hcv, List.length_append, ← hn1.out, ← hn2.out] at CONC
  have CN := hidOf CONC
  clear CONC hcv hsrc k0 k1
  refine wpAnyH_ready (rs := [9]) (by kernel_rfl) (by simp) ?_
  refine (AllReadyH.cons rfl (fun K9 hK9 => ?_) AllReadyH.nil)
  rw [if_pos (by rfl)]
  go_simp
  go_at_call 69
  refine (CN.out).mono ?_
  rintro e w3 ⟨a3, c3, rfl, hown3, ho3⟩
  have O3 := hidOf ((O2.out.trans OC.out).trans ho3)
  have HO3 := hidOf (own_base hown3 (O2.out.trans OC.out).size)
  clear hown3 ho3
  refine hK9.out _ _ trivial (fun hHeld9 => ?_)
  refine wpAnyH_take (i := 10) (v := ?_) rfl (by kernel_rfl) (by kernel_rfl) (by kernel_rfl) (fun _ _ _ h => h) (Or.inl ⟨by rfl, ?_⟩) (by assumption) ?_
  rotate_left
  · (intro w hSw; (try dsimp only at hSw); go_simp; (try with_reducible rfl))
  show wpAnyH _ _ _ _ _ _ _ (Act.put _ (some 4) _) _
  simp only [Act.put, List.setIfInBounds_toArray, List.set_cons_zero, List.set_cons_succ]
  refine wpAnyH_done (by kernel_rfl) ?_ _
  generalize hFe : F1 ++ F2 = F at *
  have hFl : Hid (F.length = n1 + n2) := hidOf (by rw [← hFe, List.length_append, hn1.out, hn2.out])
  obtain ⟨N, hN⟩ : ∃ N, N = n1 + n2 := ⟨_, rfl⟩
  rw [← hN] at HO3 hFl hnm
  have HFE := hidOf hFe
  clear hFe
  go_upto_region 4 with fail
  rw [← hN]
  clear hN
  go_wp2
  go_loopw [21] (fun kv wr => ∃ (k : Nat) (Cp : List Rg), kv = .int .i64 (k : Nat) ∧ k ≤ N ∧ Hid (wr.ownsRow w.heap.size 36 2 (.slice a3 N c3) N (rowG (Cp ++ F.drop k))) ∧ Hid (Cp.length = k) ∧ Hid (Cp.map fdR = (F.take k).map fdR) ∧ Hid (∀ z ∈ Cp, DaI w.heap.size wr z) ∧ Hid (Cp.Pairwise (fun x y => ∀ b, x.a = some b → y.a ≠ some b)) ∧ Hid (Out w wr)) (fun kv _ => N - (intOf kv).toNat)
  case atStart => exact ⟨0, [], rfl, Nat.zero_le _, HO3, hidOf rfl, hidOf rfl, hidOf (by simp), hidOf List.Pairwise.nil, O3⟩
  case round =>
    obtain ⟨k, Cp, rfl, hk, OWN, CL, CE, CD, DN, OR⟩ := hrel
    by_cases hkn : k < N
    · have hlt : (k : Int) < N := by omega
      obtain ⟨x, hx⟩ : ∃ x, F[k]? = some x := ⟨_, List.getElem?_eq_getElem (by rw [hFl.out]; exact hkn)⟩
      have hxm := List.mem_of_getElem? hx
      obtain ⟨ga, ca, e, _, _⟩ := OWN.out.form (by omega)
      simp only [Value.slice.injEq] at e
      obtain ⟨rfl, _, rfl⟩ := e
      have hgx : (Cp ++ F.drop k)[k]? = some x := by rw [List.getElem?_append_right (by rw [CL.out]; exact Nat.le_refl _), CL.out, Nat.sub_self, List.getElem?_drop, Nat.add_zero]; exact hx
      obtain ⟨g0, g1⟩ := rowG_get hgx
      have p0 := own_cellK OWN.out g0
      have p1 := own_cellK OWN.out g1
      have hda := HDA.out x hxm
      have hle := HLE.out x hxm
      have hres : RestA w (x.a.map fun b => ⟨b, 0, none⟩) x.d := by
        unfold DaI daV at hda
        cases hxa : x.a with
        | none =>
          left
          rw [hxa] at hda
          rcases hda.2 with ⟨_, h0⟩ | ⟨g, cap, cur, e, _⟩
          · exact List.eq_nil_of_length_eq_zero h0
          · cases e
        | some b =>
          right
          rw [hxa] at hda
          exact ⟨⟨b, 0, none⟩, rfl, fun j u hj => by rw [add_B, Nat.zero_add]; exact (own_cellK hda hj).1⟩
      obtain ⟨xa, hxa⟩ : ∃ xa : Option Addr, Hid (xa = x.a.map fun b => ⟨b, 0, none⟩) := ⟨_, rfl⟩
      obtain ⟨xn, hxn⟩ : ∃ xn, Hid (xn = x.d.length) := ⟨_, rfl⟩
      obtain ⟨xf, hxf⟩ : ∃ xf, Hid (xf = x.f) := ⟨_, rfl⟩
      obtain ⟨xc, hxc⟩ : ∃ xc, Hid (xc = x.c) := ⟨_, rfl⟩
      have q0 : wr.cell? ⟨ga, k * 2, none⟩ = some (.int .u64 xf) := by rw [hxf.out]; exact p0.1
      have q1 : wr.cell? ⟨ga, k * 2 + 1, none⟩ = some (.slice xa xn xc) := by rw [hxa.out, hxn.out, hxc.out]; exact p1.1
      rw [← hxa.out] at hres
      have CC := hidOf (fun W (o : Out w W) => copyOf_any W xa xf xc x.d (hres.out o) hle)
      rw [← hxn.out] at CC
      obtain ⟨wB, HB, b0, b1, oB, _⟩ := box_two wr (.int .u64 xf) (.slice xa xn xc) 36
      have OB := hidOf oB
      have HX := hidOf hx
      clear g0 g1 hgx hx hxm hda hle hres p0 p1
      go_upto_region 7 with fail
      rw [← HB.out]
      have ownB := own_out OWN.out oB
      have r0 := cell_later oB q0
      have r1 := cell_later oB q1
      go_upto_region 8 with (go_at_call 51; refine (CC.out _ (OR.out.trans OB.out)).mono ?_; rintro e w1 ⟨z, hzf, hzd, rfl, hza, ho1⟩; have own1 := own_out ownB ho1; have s0 := cell_later ho1 r0; have s1 := cell_later ho1 r1; have hbz : ∃ cu : List Value, w1.heap[ga]? = some (.cells cu.toArray 36 (0, 0)) := (by obtain ⟨cu, h9, _⟩ := owns_blk own1; exact ⟨cu, h9⟩); obtain ⟨cu, hcu⟩ := hbz; have t0 : w1.frozen? ⟨ga, k * 2, none⟩ = false := froz_B hcu _; have t1 : w1.frozen? ⟨ga, k * 2 + 1, none⟩ = false := froz_B hcu _; have ZF := hidOf hzf; have ZD := hidOf hzd; have ZA := hidOf hza; have O1 := hidOf ho1; have OW1 := hidOf own1; clear hzf hzd hza ho1 own1 hcu)
      go_wp2
      go_roundw
      case rel =>
        have hll : (Cp ++ F.drop k).length = N := by rw [List.length_append, List.length_drop, CL.out, hFl.out]; omega
        have hown := own_setG OW1.out hll hkn z
        have hset : (Cp ++ F.drop k).set k z = (Cp ++ [z]) ++ F.drop (k + 1) := by
          rw [List.set_append_right _ _ (by rw [CL.out]; exact Nat.le_refl _), CL.out, Nat.sub_self]
          have hd : F.drop k = x :: F.drop (k + 1) := by
            have h1 := (List.getElem?_eq_some_iff.1 HX.out)
            obtain ⟨h1, h2⟩ := h1
            rw [List.drop_eq_getElem_cons h1, h2]
          rw [hd]; simp
        rw [hset] at hown
        have hc : Chg (fun b => b = ga) w1 ((w1.setCell ⟨ga, k * 2, none⟩ (.int .u64 (z.f : Nat))).setCell ⟨ga, k * 2 + 1, none⟩ (daV z)) := ((Chg.refl (fun b => b = ga) w1).setCell rfl _).setCell rfl _
        have hgaw := (OWN.out.lt ga rfl).1
        have oR1 : Out w w1 := (OR.out.trans OB.out).trans O1.out
        refine ⟨k + 1, Cp ++ [z], by simp, by omega, hidOf hown, hidOf (by rw [List.length_append, CL.out]; rfl), hidOf ?_, hidOf (fun y hy => ?_), hidOf (List.pairwise_append.2 ⟨DN.out, List.pairwise_singleton _ _, fun x0 hx0 y0 hy0 b hb hb2 => (by
          simp only [List.mem_cons, List.not_mem_nil, or_false] at hy0
          subst hy0
          have e1 := (DaI.blk (CD.out x0 hx0) hb).2
          have e2 := (DaI.blk ZA.out hb2).1
          have e3 := OB.out.size
          omega)⟩), hidOf (Chg.out hc oR1 (fun b hb => by subst hb; exact hgaw))⟩
        · rw [List.map_append, CE.out, List.take_add_one, HX.out, List.map_append]
          simp [fdR, ZF.out, ZD.out, hxf.out]
        · rcases List.mem_append.1 hy with hy | hy
          · have h9 := (CD.out y hy).out (OB.out.trans O1.out)
            exact h9.chg hc (fun b hb e => own_two OW1.out h9 (by decide) (b := b) (by rw [e]; rfl) (by simp [daV, hb, Value.ownBlock]))
          · simp only [List.mem_cons, List.not_mem_nil, or_false] at hy
            subst hy
            have h9 : DaI w.heap.size w1 y := own_base ZA.out (OR.out.trans OB.out).size
            exact h9.chg hc (fun b hb e => own_two OW1.out h9 (by decide) (b := b) (by rw [e]; rfl) (by simp [daV, hb, Value.ownBlock]))
      case measure => simp [intOf]; omega
    · have hlt : ¬ (k : Int) < N := by omega
      obtain rfl : N = k := by omega
      have hdr : F.drop N = [] := List.drop_eq_nil_of_le (by rw [hFl.out]; exact Nat.le_refl _)
      have htk : F.take N = F := by rw [← hFl.out]; exact List.take_length
      have hown := OWN.out
      have hce := CE.out
      rw [hdr, List.append_nil] at hown
      rw [htk] at hce
      have HOW := hidOf hown
      have HCE := hidOf hce
      clear hdr htk hown hce
      by_cases hN0 : N = 0
      · subst hN0
        have hCp : Cp = [] := List.eq_nil_of_length_eq_zero CL.out
        subst hCp
        have SN := hidOf (fun W fv => sort_none W a3 c3 fv)
        go_wp2_with (go_at_call 71; refine (SN.out _ _).mono ?_; rintro e w8 ⟨rfl, hw8⟩; have hw8 := hw8.symm; subst hw8)
        refine bodyPost_ret (results_tmp2 rfl _ _ _) rfl ?_
        refine ⟨a3, c3, [], rfl, HOW.out, by simp, ?_, List.Pairwise.nil, List.Pairwise.nil, OR.out⟩
        rw [HFE.out, ← HCE.out]
      · obtain ⟨ga, ca, e, _, _⟩ := HOW.out.form (by omega)
        simp only [Value.slice.injEq] at e
        obtain ⟨rfl, _, rfl⟩ := e
        have SA := hidOf (sort_any _ w.heap.size ga N c3 Cp CL.out HOW.out (by omega))
        go_wp2_with (go_at_call 71; refine SA.out.mono ?_; rintro e w8 ⟨rfl, R', hp, hs, ho, hc⟩; have HP := hidOf hp; have HS := hidOf hs; have HO8 := hidOf ho; have HC8 := hidOf hc; clear hp hs ho hc)
        refine bodyPost_ret (results_tmp2 rfl _ _ _) rfl ?_
        have hl : R'.length = N := by rw [HP.out.length_eq, CL.out]
        have hpm : (R'.map fdR).Perm (F.map fdR) := by rw [← HCE.out]; exact HP.out.map _
        refine ⟨some ⟨ga, 0, none⟩, c3, R', by rw [hl]; rfl, by rw [hl]; exact HO8.out, fun z hz => ?_, by rw [HFE.out]; exact hpm, strict_of HS.out hpm HDIF.out, HP.out.symm.pairwise DN.out (fun {x y} hxy b hb hb2 => hxy b hb2 hb), Chg.out HC8.out OR.out (fun b hb => by subst hb; exact (HOW.out.lt _ rfl).1)⟩
        have h9 := CD.out z (HP.out.mem_iff.1 hz)
        exact h9.chg HC8.out (fun b hb e => own_two HOW.out h9 (by decide) (b := b) (by rw [e]; rfl) (by simp [daV, hb, Value.ownBlock]))
end Go.Proofs.YtekjfbmebekmeaaGreat
