import Derived.Test.YtekjfbmebekmeaaGreatGc12
namespace Go.Proofs.YtekjfbmebekmeaaGreat
open Go.RowKit
set_option linter.unusedVariables false
set_option linter.unusedSimpArgs false
theorem own_two {w : World} {B1 B2 k1 k2 n1 n2 : Nat} {E1 E2 : TypeId} {v1 v2 : Value} {x1 x2 : List Value} (h1 : w.ownsRow B1 E1 k1 v1 n1 x1) (h2 : w.ownsRow B2 E2 k2 v2 n2 x2) (hne : ¬ E1 = E2) {b : Nat} (hb : v1.ownBlock = some b) : v2.ownBlock ≠ some b := fun hc => by
  rcases h1.2 with ⟨rfl, _⟩ | ⟨g1, c1, cu1, rfl, _, hg1, _⟩
  · cases hb
  · rcases h2.2 with ⟨rfl, _⟩ | ⟨g2, c2, cu2, rfl, _, hg2, _⟩
    · cases hc
    · simp [Value.ownBlock] at hb hc
      subst hb; subst hc
      rw [hg1] at hg2
      simp at hg2
      exact hne hg2.2
/-- bytes put behind an empty list -/
theorem append_void8 (w : World) (a : Option Addr) (c : Nat) (d : List UInt8) (h : RestA w a d) (hd : d.length ≤ 140737488355328) :
    ∃ g' c' W1, (∀ ty, (Builtin.append_ #[29, 29] ty #[.slice (some ⟨w.heap.size, 0, none⟩) 0 0, .slice a d.length c]).run Tryz.prog (w.alloc (.cells #[] 5)) = .ok (.slice (some ⟨g', 0, none⟩) d.length c') W1) ∧ W1.ownsRow w.heap.size 5 1 (.slice (some ⟨g', 0, none⟩) d.length c') d.length (d.map byV) ∧ Out w W1 := by
  obtain ⟨i0, hi0, hz0, hz1, hz2⟩ := info_parts info8
  rcases h with rfl | ⟨ad, rfl, hsrc⟩
  · refine ⟨w.heap.size, 0, _, fun ty => ?_, owns_void w _ 1 _ (Nat.le_refl _), (Out.refl w).alloc _⟩
    cases a <;> simp [Builtin.append_, run_underlying Tryz.underlying29, sizeOf, typeInfo, hi0, Builtin.lenOf, Builtin.firstCells, loadCells, loadCellsFrom, storeCells]
  · obtain ⟨v, W1, hr, hown, hgr, hnil, _⟩ := run_append_own_at (P := Tryz.prog) (w.alloc (.cells #[] 5)) w.heap.size 29 29 5 i0 _ 1 1 Tryz.underlying29 hi0 hz0 hz1 hz2 rfl (by decide) (.slice (some ⟨w.heap.size, 0, none⟩) 0 0) 0 [] (owns_void w _ 1 _ (Nat.le_refl _)) ad d.length c (d.map byV) (by simp) (fun j u hj => cell_later ((Out.refl w).alloc _) (hsrc j u hj)) (byV_one d) (by unfold maxLen; omega) (by omega) (by rw [size_alloc]; omega)
    rw [Nat.zero_add, List.nil_append] at hown
    obtain ⟨a2, c2, rfl, ha2, _⟩ := own_slice hown
    have ho : Out w W1 := Chg.out (S := fun b => b = w.heap.size) (Chg.of_grown hgr (fun k hk => by simp [Value.ownBlock] at hk; exact hk.symm)) ((Out.refl w).alloc _) (fun k hk => by omega)
    rcases ha2 with rfl | ⟨g, rfl⟩
    · have h2 : d.length = 0 ∧ c2 = 0 := by
        rcases hown.2 with ⟨e, h0⟩ | ⟨g, cap, cur, e, _⟩
        · simp at e; exact ⟨h0, e.2⟩
        · simp at e
      have h3 := hnil.1 (by rw [h2.1, h2.2])
      cases h3.1
    · exact ⟨g, c2, W1, fun ty => hr, hown, ho⟩
set_option maxHeartbeats 2000000 in
theorem copyB_any (w : World) (a : Option Addr) (c : Nat) (d : List UInt8) (h : RestA w a d) (hd : d.length ≤ 140737488355328) :
    Calls Tryz.prog 21 #[.slice a d.length c] w fun e w' => ∃ g' c', e = .returned (.slice (some ⟨g', 0, none⟩) d.length c') ∧ w'.ownsRow w.heap.size 5 1 (.slice (some ⟨g', 0, none⟩) d.length c') d.length (d.map byV) ∧ Out w w' := by
  obtain ⟨g', c', W1, hap, hown, ho⟩ := append_void8 w a c d h hd
  obtain ⟨n, hn⟩ : ∃ n, Hid (n = d.length) := ⟨_, rfl⟩
  rw [← hn.out] at hap hown ⊢
  have HAP := hidOf hap
  have HOW := hidOf hown
  have HO := hidOf ho
  clear hap hown ho h hd
  go_enter Tryz.func21, Tryz.ntmps21
  go_wp2_with (at_builtin; refine Lib.wpList_append_run _ rfl _ _ _ _ rfl _ _ rfl rfl _ _ (HAP.out _) ?_)
  go_ret
  exact ⟨g', c', rfl, HOW.out, HO.out⟩
/-- a region as one that is handed in -/
def Rg.ri (x : Rg) : RI := ⟨x.f, x.a.map fun b => ⟨b, 0, none⟩, x.c, x.d⟩
set_option maxHeartbeats 2000000 in
set_option maxRecDepth 100000 in
theorem copyR_any (w : World) (a : Option Addr) (c : Nat) (L : List RI) (h : InR w a L) (hL : ∀ x ∈ L, x.d.length ≤ 140737488355328) (hn : L.length ≤ 4398046511104) :
    Calls Tryz.prog 14 #[.slice a L.length c] w fun e w' => ∃ a' c', ∃ R : List Rg, e = .returned (.slice a' L.length c') ∧ w'.ownsRow w.heap.size 36 2 (.slice a' L.length c') L.length (rowG R) ∧ (∀ z ∈ R, DaI w.heap.size w' z) ∧ R.map (fun z => (z.f, z.d)) = L.map (fun x => (x.f, x.d)) ∧ Out w w' := by
  obtain ⟨i0, hi0, hz0, hz1, hz2⟩ := info_parts infoR
  obtain ⟨n, hN⟩ : ∃ n, Hid (n = L.length) := ⟨_, rfl⟩
  rw [← hN.out] at hn ⊢
  have HI := hidOf h
  have HL := hidOf hL
  clear h hL
  go_enter Tryz.func14, Tryz.ntmps14
  go_wp2
  go_loopw [3, 4] (fun ov kv wr => ∃ (k : Nat) (oa : Option Addr) (oc : Nat) (R : List Rg), ov = .slice oa k oc ∧ kv = .int .i64 (k : Nat) ∧ k ≤ n ∧ Hid (wr.ownsRow w.heap.size 36 2 (.slice oa k oc) k (rowG R)) ∧ Hid (∀ z ∈ R, DaI w.heap.size wr z) ∧ Hid (R.map (fun z => (z.f, z.d)) = (L.take k).map (fun x => (x.f, x.d))) ∧ Hid (Out w wr)) (fun _ kv _ => n - (intOf kv).toNat)
  case atStart => exact ⟨0, none, 0, [], rfl, rfl, Nat.zero_le _, hidOf (World.ownsRow_nil _ _ _ _), hidOf (by simp), hidOf (by simp), hidOf (Out.refl w)⟩
  case round =>
    obtain ⟨k, oa, oc, R, rfl, rfl, hk, OWN, DA, EQ, OR⟩ := hrel
    by_cases hkn : k < n
    · have hlt : (k : Int) < n := by omega
      obtain ⟨x, hx⟩ : ∃ x, L[k]? = some x := ⟨_, List.getElem?_eq_getElem (by rw [← hN.out]; exact hkn)⟩
      obtain ⟨g, o, rfl, hcs⟩ : ∃ g o, a = some ⟨g, o, none⟩ ∧ _ := HI.out.resolve_left (fun e => by rw [e] at hx; simp at hx)
      obtain ⟨q0, q1, q2⟩ := hcs k x hx
      have p0 := cell_later OR.out q0
      have p1 := cell_later OR.out q1
      obtain ⟨xf, xa, xc, xd⟩ := x
      obtain ⟨xn, hxn⟩ : ∃ xn, Hid (xn = xd.length) := ⟨_, rfl⟩
      have hxm := HL.out _ (List.mem_of_getElem? hx)
      simp only at p0 p1 q2 hxm
      have CB := hidOf (copyB_any wr.drew xa xc xd (q2.out (OR.out.drew)) hxm)
      rw [← hxn.out] at p1 CB
      have HX := hidOf hx
      clear hcs q0 q1 q2 hx hxm
      go_upto_region 5 with fail
      refine wp_region_held_drew (S := fun w' => w'.cell? ⟨g, o + k * 2, none⟩ = some (.int .u64 xf) ∧ w'.cell? ⟨g, o + k * 2 + 1, none⟩ = some (.slice xa xn xc)) (by kernel_rfl) ?_ (fun hHeld => ?_)
      · exact ⟨p0, p1⟩
      refine wpAnyH_take (i := 0) (v := ?_) rfl (by kernel_rfl) (by kernel_rfl) (by kernel_rfl) (fun _ _ _ h => h) (Or.inl ⟨by rfl, ?_⟩) (by assumption) ?_
      rotate_left
      · (intro w hSw; (try dsimp only at hSw); go_simp; (try with_reducible rfl))
      show wpAnyH _ _ _ _ _ _ _ (Act.put _ (some 11) _) _
      simp only [Act.put, List.setIfInBounds_toArray, List.set_cons_zero, List.set_cons_succ]
      refine wpAnyH_take (i := 1) (v := ?_) rfl (by kernel_rfl) (by kernel_rfl) (by kernel_rfl) (fun _ _ _ h => h) (Or.inl ⟨by rfl, ?_⟩) (by assumption) ?_
      rotate_left
      · (intro w hSw; (try dsimp only at hSw); go_simp; (try with_reducible rfl))
      show wpAnyH _ _ _ _ _ _ _ (Act.put _ (some 12) _) _
      simp only [Act.put, List.setIfInBounds_toArray, List.set_cons_zero, List.set_cons_succ]
      refine wpAnyH_take (i := 2) (v := ?_) rfl (by kernel_rfl) (by kernel_rfl) (by kernel_rfl) (fun _ _ _ h => h) (Or.inl ⟨by rfl, ?_⟩) (by assumption) ?_
      rotate_left
      · (intro w hSw; (try dsimp only at hSw); go_simp; (try with_reducible rfl))
      show wpAnyH _ _ _ _ _ _ _ (Act.put _ (some 13) _) _
      simp only [Act.put, List.setIfInBounds_toArray, List.set_cons_zero, List.set_cons_succ]
      refine wpAnyH_take (i := 3) (v := ?_) rfl (by kernel_rfl) (by kernel_rfl) (by kernel_rfl) (fun _ _ _ h => h) (Or.inl ⟨by rfl, ?_⟩) (by assumption) ?_
      rotate_left
      · (intro w hSw; (try dsimp only at hSw); go_simp; (try with_reducible rfl))
      show wpAnyH _ _ _ _ _ _ _ (Act.put _ (some 14) _) _
      simp only [Act.put, List.setIfInBounds_toArray, List.set_cons_zero, List.set_cons_succ]
      refine wpAnyH_take (i := 4) (v := ?_) rfl (by kernel_rfl) (by kernel_rfl) (by kernel_rfl) (fun _ _ _ h => h) (Or.inl ⟨by rfl, ?_⟩) (by assumption) ?_
      rotate_left
      · (intro w hSw; (try dsimp only at hSw); go_simp; (try with_reducible rfl))
      show wpAnyH _ _ _ _ _ _ _ (Act.put _ (some 15) _) _
      simp only [Act.put, List.setIfInBounds_toArray, List.set_cons_zero, List.set_cons_succ]
      refine wpAnyH_take (i := 5) (v := ?_) rfl (by kernel_rfl) (by kernel_rfl) (by kernel_rfl) (fun _ _ _ h => h) (Or.inl ⟨by rfl, ?_⟩) (by assumption) ?_
      rotate_left
      · (intro w hSw; (try dsimp only at hSw); go_simp; (try with_reducible rfl))
      show wpAnyH _ _ _ _ _ _ _ (Act.put _ (some 16) _) _
      simp only [Act.put, List.setIfInBounds_toArray, List.set_cons_zero, List.set_cons_succ]
      refine wpAnyH_take (i := 6) (v := ?_) rfl (by kernel_rfl) (by kernel_rfl) (by kernel_rfl) (fun _ _ _ h => h) (Or.inl ⟨by rfl, ?_⟩) (by assumption) ?_
      rotate_left
      · (intro w hSw; (try dsimp only at hSw); go_simp; (try with_reducible rfl))
      show wpAnyH _ _ _ _ _ _ _ (Act.put _ (some 17) _) _
      simp only [Act.put, List.setIfInBounds_toArray, List.set_cons_zero, List.set_cons_succ]
      refine wpAnyH_take (i := 7) (v := ?_) rfl (by kernel_rfl) (by kernel_rfl) (by kernel_rfl) (fun _ _ _ h => h) (Or.inl ⟨by rfl, ?_⟩) (by assumption) ?_
      rotate_left
      · (intro w hSw; (try dsimp only at hSw); go_simp; (try with_reducible rfl))
      show wpAnyH _ _ _ _ _ _ _ (Act.put _ (some 18) _) _
      simp only [Act.put, List.setIfInBounds_toArray, List.set_cons_zero, List.set_cons_succ]
      refine wpAnyH_take (i := 8) (v := ?_) rfl (by kernel_rfl) (by kernel_rfl) (by kernel_rfl) (fun _ _ _ h => h) (Or.inl ⟨by rfl, ?_⟩) (by assumption) ?_
      rotate_left
      · (intro w hSw; (try dsimp only at hSw); go_simp; (try with_reducible rfl))
      show wpAnyH _ _ _ _ _ _ _ (Act.put _ (some 19) _) _
      simp only [Act.put, List.setIfInBounds_toArray, List.set_cons_zero, List.set_cons_succ]
      refine wpAnyH_take (i := 9) (v := ?_) rfl (by kernel_rfl) (by kernel_rfl) (by kernel_rfl) (fun _ _ _ h => h) (Or.inl ⟨by rfl, ?_⟩) (by assumption) ?_
      rotate_left
      · (intro w hSw; (try dsimp only at hSw); go_simp; (try with_reducible rfl))
      show wpAnyH _ _ _ _ _ _ _ (Act.put _ (some 20) _) _
      simp only [Act.put, List.setIfInBounds_toArray, List.set_cons_zero, List.set_cons_succ]
      refine wpAnyH_take (i := 10) (v := ?_) rfl (by kernel_rfl) (by kernel_rfl) (by kernel_rfl) (fun _ _ _ h => h) (Or.inl ⟨by rfl, ?_⟩) (by assumption) ?_
      rotate_left
      · (intro w hSw; (try dsimp only at hSw); go_simp; (try with_reducible rfl))
      show wpAnyH _ _ _ _ _ _ _ (Act.put _ (some 21) _) _
      simp only [Act.put, List.setIfInBounds_toArray, List.set_cons_zero, List.set_cons_succ]
      refine wpAnyH_ready (rs := [11]) (by kernel_rfl) (by simp) ?_
      refine (AllReadyH.cons rfl (fun K11 hK11 => ?_) AllReadyH.nil)
      · rw [if_pos (by rfl)]
        go_simp
        go_at_call 21
        refine (CB.out).mono ?_
        rintro e w1 ⟨g1, c1, rfl, hown1, ho1⟩
        have O1 := hidOf ho1
        have OW1 := hidOf hown1
        have s10 := cell_later ho1 (show wr.drew.cell? _ = _ from p0)
        have s11 := cell_later ho1 (show wr.drew.cell? _ = _ from p1)
        obtain ⟨wB, HB, b0, b1, oB, sB⟩ := box_two w1 (.int .u64 xf) (.slice (some ⟨g1, 0, none⟩) xn c1) 36
        have OB := hidOf oB
        have s20 := cell_later oB s10
        have s21 := cell_later oB s11
        have oRB : Out wr wB := ((Out.refl wr).drew.trans ho1).trans oB
        have hBw : w.heap.size ≤ wB.heap.size := (OR.out.trans oRB).size
        obtain ⟨v2, w2, hr2, hown2, hgr2, hnil2, _⟩ := run_append_own_at (P := Tryz.prog) wB w.heap.size 22 22 36 i0 _ 2 32 Tryz.underlying22 hi0 hz0 hz1 hz2 rfl (by decide) (.slice oa k oc) k (rowG R) (own_out OWN.out oRB) ⟨w1.heap.size, 0, none⟩ 1 1 [.int .u64 xf, .slice (some ⟨g1, 0, none⟩) xn c1] rfl (fun j u hj => by rw [add_B, Nat.zero_add]; match j, hj with | 0, hj => cases hj; exact b0 | 1, hj => cases hj; exact b1) (by intro u hu; simp at hu; rcases hu with rfl | rfl <;> rfl) (by unfold maxLen; omega) (by omega) hBw
        have hr2b : ∀ ty, (Builtin.append_ #[22, 22] ty #[.slice oa k oc, .slice (some ⟨w1.heap.size, 0, none⟩) 1 1]).run Tryz.prog wB = .ok v2 w2 := fun ty => hr2
        obtain ⟨a2, c2, rfl, _, _⟩ := own_slice hown2
        have HR2 := hidOf hr2b
        have HO2 := hidOf hown2
        have hc2 : Chg (fun b => (Value.slice oa k oc).ownBlock = some b) wB w2 := Chg.of_grown hgr2 (fun q hq => hq)
        have C2 := hidOf hc2
        have hout2 : Out w w2 := Chg.out hc2 (OR.out.trans oRB) (fun q hq => (OWN.out.lt q hq).1)
        have HO := hidOf hout2
        have ORB := hidOf oRB
        have hgw : g < w.heap.size := by
          rcases HI.out with e | ⟨g9, o9, e, h9⟩
          · have h8 := HX.out; rw [e] at h8; simp at h8
          · simp only [Option.some.injEq, Addr.mk.injEq] at e; obtain ⟨rfl, _⟩ := e; exact World.block_lt_of_cell? w _ (h9 k _ HX.out).1
        have s30 : w2.cell? ⟨g, o + k * 2, none⟩ = some (.int .u64 xf) := hc2.cell s20 (fun hq => by have := (OWN.out.lt _ hq).1; simp only at this; omega)
        have s31 : w2.cell? ⟨g, o + k * 2 + 1, none⟩ = some (.slice xa xn xc) := hc2.cell s21 (fun hq => by have := (OWN.out.lt _ hq).1; simp only at this; omega)
        clear ho1 hown1 oB sB hr2 hr2b hown2 hgr2 hnil2 hc2 hout2 oRB b0 b1
        refine hK11.out _ _ ⟨s10, s11⟩ (fun hHeld11 => ?_)
        refine wpAnyH_take (i := 12) (v := ?_) rfl (by kernel_rfl) (by kernel_rfl) (by kernel_rfl) (fun _ _ _ h => h) (Or.inl ⟨by rfl, ?_⟩) (by assumption) ?_
        rotate_left
        · (intro w hSw; (try dsimp only at hSw); go_simp; (try with_reducible rfl))
        show wpAnyH _ _ _ _ _ _ _ (Act.put _ (some 23) _) _
        simp only [Act.put, List.setIfInBounds_toArray, List.set_cons_zero, List.set_cons_succ]
        refine wpAnyH_ready (rs := [13]) (by kernel_rfl) (by simp) ?_
        refine (AllReadyH.cons rfl (fun K13 hK13 => ?_) AllReadyH.nil)
        · rw [if_pos (by rfl)]
          go_simp
          rw [← HB.out]
          refine hK13.out _ _ ⟨s20, s21⟩ (fun hHeld13 => ?_)
          refine wpAnyH_ready (rs := [14]) (by kernel_rfl) (by simp) ?_
          refine (AllReadyH.cons rfl (fun K14 hK14 => ?_) AllReadyH.nil)
          · rw [if_pos (by rfl)]
            refine Lib.wp_append_run _ (.tmp 11) (.tmp 24) 22 22 rfl _ _ (by simp [Act.eval, Act.put]) (by simp [Act.eval, Act.put]) _ _ (HR2.out _) ?_
            refine hK14.out _ _ ⟨s30, s31⟩ (fun hHeld14 => ?_)
            simp only [Act.put, List.setIfInBounds_toArray, List.set_cons_zero, List.set_cons_succ]
            refine wpAnyH_take (i := 15) (v := ?_) rfl (by kernel_rfl) (by kernel_rfl) (by kernel_rfl) (fun _ _ _ h => h) (Or.inl ⟨by rfl, ?_⟩) (by assumption) ?_
            rotate_left
            · (intro w hSw; (try dsimp only at hSw); go_simp; (try with_reducible rfl))
            show wpAnyH _ _ _ _ _ _ _ (Act.put _ (some 3) _) _
            simp only [Act.put, List.setIfInBounds_toArray, List.set_cons_zero, List.set_cons_succ]
            refine wpAnyH_done (by kernel_rfl) ?_ _
            go_wp2
            go_roundw
            case rel =>
              have e1 : rowG R ++ [.int .u64 xf, .slice (some ⟨g1, 0, none⟩) xn c1] = rowG (R ++ [⟨xf, some g1, c1, xd⟩]) := by rw [rowG_app, rowG_cons, csG, daV, hxn.out]; rfl
              have hown := HO2.out
              rw [e1] at hown
              refine ⟨k + 1, a2, c2, R ++ [⟨xf, some g1, c1, xd⟩], rfl, by simp, by omega, hidOf hown, hidOf (fun z hz => ?_), hidOf ?_, HO⟩
              · rcases List.mem_append.1 hz with hz | hz
                · exact ((DA.out z hz).out ORB.out).chg C2.out (fun b hb hq => own_two (own_out OWN.out ORB.out) ((DA.out z hz).out ORB.out) (by decide) hq (by simp [daV, hb, Value.ownBlock]))
                · simp only [List.mem_cons, List.not_mem_nil, or_false] at hz
                  subst hz
                  have h9 : DaI w.heap.size w1 ⟨xf, some g1, c1, xd⟩ := by
                    have := own_base (B := w.heap.size) OW1.out (OR.out.drew).size
                    rw [hxn.out] at this
                    exact this
                  exact (DaI.out h9 OB.out).chg C2.out (fun b hb hq => own_two (own_out OWN.out ORB.out) (DaI.out h9 OB.out) (by decide) hq (by have h7 : some g1 = some b := hb; simpa [daV, Value.ownBlock] using h7))
              · rw [List.map_append, EQ.out, List.take_add_one, HX.out, List.map_append]; rfl
            case measure => simp [intOf]; omega
    · have hlt : ¬ (k : Int) < n := by omega
      obtain rfl : n = k := by omega
      go_wp2
      go_ret
      have et : L.take n = L := by rw [hN.out]; exact List.take_length
      have heq := EQ.out
      rw [et] at heq
      first | exact ⟨oa, oc, R, rfl, OWN.out, DA.out, heq, OR.out⟩ | exact ⟨oa, oc, rfl, R, OWN.out, DA.out, heq, OR.out⟩
end Go.Proofs.YtekjfbmebekmeaaGreat
