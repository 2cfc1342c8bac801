import Derived.Test.YtekjfbmebekmeaaGreatGa09
import Derived.Lib.ConvBytes
import Derived.Laws.BytesString
namespace Go.Proofs.YtekjfbmebekmeaaGreat
open Go.RowKit
set_option linter.unusedVariables false
set_option linter.unusedSimpArgs false
theorem own_two {w : World} {B1 B2 k1 k2 n1 n2 : Nat} {E1 E2 : TypeId} {v1 v2 : Value} {x1 x2 : List Value} (h1 : w.ownsRow B1 E1 k1 v1 n1 x1) (h2 : w.ownsRow B2 E2 k2 v2 n2 x2) (hne : ¬ E1 = E2) {b : Nat} (hb : v1.ownBlock = some b) : v2.ownBlock ≠ some b := fun hc => by
  rcases h1.2 with ⟨rfl, _⟩ | ⟨g1, c1, cu1, rfl, _, hg1, _⟩
  · cases hb
  · rcases h2.2 with ⟨rfl, _⟩ | ⟨g2, c2, cu2, rfl, _, hg2, _⟩
    · cases hc
    · simp [Value.ownBlock] at hb hc
      subst hb; subst hc
      rw [hg1] at hg2
      simp at hg2
      exact hne hg2.2
theorem append_void8 (w : World) (a : Option Addr) (c : Nat) (d : List UInt8) (h : RestA w a d) (hd : d.length ≤ 140737488355328) :
    ∃ g' c' W1, (∀ ty, (Builtin.append_ #[29, 29] ty #[.slice (some ⟨w.heap.size, 0, none⟩) 0 0, .slice a d.length c]).run Tryz.prog (w.alloc (.cells #[] 5)) = .ok (.slice (some ⟨g', 0, none⟩) d.length c') W1) ∧ W1.ownsRow w.heap.size 5 1 (.slice (some ⟨g', 0, none⟩) d.length c') d.length (d.map byV) ∧ Out w W1 := by
  obtain ⟨i0, hi0, hz0, hz1, hz2⟩ := info_parts info8
  rcases h with rfl | ⟨ad, rfl, hsrc⟩
  · refine ⟨w.heap.size, 0, _, fun ty => ?_, owns_void w _ 1 _ (Nat.le_refl _), (Out.refl w).alloc _⟩
    cases a <;> simp [Builtin.append_, run_underlying Tryz.underlying29, sizeOf, typeInfo, hi0, Builtin.lenOf, Builtin.firstCells, loadCells, loadCellsFrom, storeCells]
  · obtain ⟨v, W1, hr, hown, hgr, hnil, _⟩ := run_append_own_at (P := Tryz.prog) (w.alloc (.cells #[] 5)) w.heap.size 29 29 5 i0 _ 1 1 Tryz.underlying29 hi0 hz0 hz1 hz2 rfl (by decide) (.slice (some ⟨w.heap.size, 0, none⟩) 0 0) 0 [] (owns_void w _ 1 _ (Nat.le_refl _)) ad d.length c (d.map byV) (by simp) (fun j u hj => cell_later ((Out.refl w).alloc _) (hsrc j u hj)) (byV_one d) (by unfold maxLen; omega) (by omega) (by rw [size_alloc]; omega)
    rw [Nat.zero_add, List.nil_append] at hown
    obtain ⟨a2, c2, rfl, ha2, _⟩ := own_slice hown
    have ho : Out w W1 := Chg.out (S := fun b => b = w.heap.size) (Chg.of_grown hgr (fun k hk => by simp [Value.ownBlock] at hk; exact hk.symm)) ((Out.refl w).alloc _) (fun k hk => by omega)
    rcases ha2 with rfl | ⟨g, rfl⟩
    · have h2 : d.length = 0 ∧ c2 = 0 := by
        rcases hown.2 with ⟨e, h0⟩ | ⟨g, cap, cur, e, _⟩
        · simp at e; exact ⟨h0, e.2⟩
        · simp at e
      have h3 := hnil.1 (by rw [h2.1, h2.2])
      cases h3.1
    · exact ⟨g, c2, W1, fun ty => hr, hown, ho⟩
set_option maxHeartbeats 2000000 in
theorem copyB_any (w : World) (a : Option Addr) (c : Nat) (d : List UInt8) (h : RestA w a d) (hd : d.length ≤ 140737488355328) :
    Calls Tryz.prog 21 #[.slice a d.length c] w fun e w' => ∃ g' c', e = .returned (.slice (some ⟨g', 0, none⟩) d.length c') ∧ w'.ownsRow w.heap.size 5 1 (.slice (some ⟨g', 0, none⟩) d.length c') d.length (d.map byV) ∧ Out w w' := by
  obtain ⟨g', c', W1, hap, hown, ho⟩ := append_void8 w a c d h hd
  obtain ⟨n, hn⟩ : ∃ n, Hid (n = d.length) := ⟨_, rfl⟩
  rw [← hn.out] at hap hown ⊢
  have HAP := hidOf hap
  have HOW := hidOf hown
  have HO := hidOf ho
  clear hap hown ho h hd
  go_enter Tryz.func21, Tryz.ntmps21
  go_wp2_with (at_builtin; refine Lib.wpList_append_run _ rfl _ _ _ _ rfl _ _ rfl rfl _ _ (HAP.out _) ?_)
  go_ret
  exact ⟨g', c', rfl, HOW.out, HO.out⟩
def Rg.ri (x : Rg) : RI := ⟨x.f, x.a.map fun b => ⟨b, 0, none⟩, x.c, x.d⟩
set_option maxHeartbeats 2000000 in
set_option maxRecDepth 100000 in
theorem copyR_any (w : World) (a : Option Addr) (c : Nat) (L : List RI) (h : InR w a L) (hL : ∀ x ∈ L, x.d.length ≤ 140737488355328) (hn : L.length ≤ 4398046511104) :
    Calls Tryz.prog 14 #[.slice a L.length c] w fun e w' => ∃ a' c', ∃ R : List Rg, e = .returned (.slice a' L.length c') ∧ w'.ownsRow w.heap.size 36 2 (.slice a' L.length c') L.length (rowG R) ∧ (∀ z ∈ R, DaI w.heap.size w' z) ∧ R.map (fun z => (z.f, z.d)) = L.map (fun x => (x.f, x.d)) ∧ Out w w' := by
  obtain ⟨i0, hi0, hz0, hz1, hz2⟩ := info_parts infoR
  obtain ⟨n, hN⟩ : ∃ n, Hid (n = L.length) := ⟨_, rfl⟩
  rw [← hN.out] at hn ⊢
  have HI := hidOf h
  have HL := hidOf hL
  clear h hL
  go_enter Tryz.func14, Tryz.ntmps14
  go_wp2
  go_loopw [3, 4] (fun ov kv wr => ∃ (k : Nat) (oa : Option Addr) (oc : Nat) (R : List Rg), ov = .slice oa k oc ∧ kv = .int .i64 (k : Nat) ∧ k ≤ n ∧ Hid (wr.ownsRow w.heap.size 36 2 (.slice oa k oc) k (rowG R)) ∧ Hid (∀ z ∈ R, DaI w.heap.size wr z) ∧ Hid (R.map (fun z => (z.f, z.d)) = (L.take k).map (fun x => (x.f, x.d))) ∧ Hid (Out w wr)) (fun _ kv _ => n - (intOf kv).toNat)
  case atStart => exact ⟨0, none, 0, [], rfl, rfl, Nat.zero_le _, hidOf (World.ownsRow_nil _ _ _ _), hidOf (by simp), hidOf (by simp), hidOf (Out.refl w)⟩
  case round =>
    obtain ⟨k, oa, oc, R, rfl, rfl, hk, OWN, DA, EQ, OR⟩ := hrel
    by_cases hkn : k < n
    · have hlt : (k : Int) < n := by omega
      obtain ⟨x, hx⟩ : ∃ x, L[k]? = some x := ⟨_, List.getElem?_eq_getElem (by rw [← hN.out]; exact hkn)⟩
      obtain ⟨g, o, rfl, hcs⟩ : ∃ g o, a = some ⟨g, o, none⟩ ∧ _ := HI.out.resolve_left (fun e => by rw [e] at hx; simp at hx)
      obtain ⟨q0, q1, q2⟩ := hcs k x hx
      have p0 := cell_later OR.out q0
      have p1 := cell_later OR.out q1
      obtain ⟨xf, xa, xc, xd⟩ := x
      obtain ⟨xn, hxn⟩ : ∃ xn, Hid (xn = xd.length) := ⟨_, rfl⟩
      have hxm := HL.out _ (List.mem_of_getElem? hx)
      simp only at p0 p1 q2 hxm
      have CB := hidOf (copyB_any wr.drew xa xc xd (q2.out (OR.out.drew)) hxm)
      rw [← hxn.out] at p1 CB
      have HX := hidOf hx
      clear hcs q0 q1 q2 hx hxm
      go_upto_region 5 with fail
      refine wp_region_held_drew (S := fun w' => w'.cell? ⟨g, o + k * 2, none⟩ = some (.int .u64 xf) ∧ w'.cell? ⟨g, o + k * 2 + 1, none⟩ = some (.slice xa xn xc)) (by kernel_rfl) ?_ (fun hHeld => ?_)
      · exact ⟨p0, p1⟩
      refine wpAnyH_take (i := 0) (v := ?_) rfl (by kernel_rfl) (by kernel_rfl) (by kernel_rfl) (fun _ _ _ h => h) (Or.inl ⟨by rfl, ?_⟩) (by assumption) ?_
      rotate_left
      · (intro w hSw; (try dsimp only at hSw); go_simp; (try with_reducible rfl))
      show wpAnyH _ _ _ _ _ _ _ (Act.put _ (some 11) _) _
      simp only [Act.put, List.setIfInBounds_toArray, List.set_cons_zero, List.set_cons_succ]
      refine wpAnyH_take (i := 1) (v := ?_) rfl (by kernel_rfl) (by kernel_rfl) (by kernel_rfl) (fun _ _ _ h => h) (Or.inl ⟨by rfl, ?_⟩) (by assumption) ?_
      rotate_left
      · (intro w hSw; (try dsimp only at hSw); go_simp; (try with_reducible rfl))
      show wpAnyH _ _ _ _ _ _ _ (Act.put _ (some 12) _) _
      simp only [Act.put, List.setIfInBounds_toArray, List.set_cons_zero, List.set_cons_succ]
      refine wpAnyH_take (i := 2) (v := ?_) rfl (by kernel_rfl) (by kernel_rfl) (by kernel_rfl) (fun _ _ _ h => h) (Or.inl ⟨by rfl, ?_⟩) (by assumption) ?_
      rotate_left
      · (intro w hSw; (try dsimp only at hSw); go_simp; (try with_reducible rfl))
      show wpAnyH _ _ _ _ _ _ _ (Act.put _ (some 13) _) _
      simp only [Act.put, List.setIfInBounds_toArray, List.set_cons_zero, List.set_cons_succ]
      refine wpAnyH_take (i := 3) (v := ?_) rfl (by kernel_rfl) (by kernel_rfl) (by kernel_rfl) (fun _ _ _ h => h) (Or.inl ⟨by rfl, ?_⟩) (by assumption) ?_
      rotate_left
      · (intro w hSw; (try dsimp only at hSw); go_simp; (try with_reducible rfl))
      show wpAnyH _ _ _ _ _ _ _ (Act.put _ (some 14) _) _
      simp only [Act.put, List.setIfInBounds_toArray, List.set_cons_zero, List.set_cons_succ]
      refine wpAnyH_take (i := 4) (v := ?_) rfl (by kernel_rfl) (by kernel_rfl) (by kernel_rfl) (fun _ _ _ h => h) (Or.inl ⟨by rfl, ?_⟩) (by assumption) ?_
      rotate_left
      · (intro w hSw; (try dsimp only at hSw); go_simp; (try with_reducible rfl))
      show wpAnyH _ _ _ _ _ _ _ (Act.put _ (some 15) _) _
      simp only [Act.put, List.setIfInBounds_toArray, List.set_cons_zero, List.set_cons_succ]
      refine wpAnyH_take (i := 5) (v := ?_) rfl (by kernel_rfl) (by kernel_rfl) (by kernel_rfl) (fun _ _ _ h => h) (Or.inl ⟨by rfl, ?_⟩) (by assumption) ?_
      rotate_left
      · (intro w hSw; (try dsimp only at hSw); go_simp; (try with_reducible rfl))
      show wpAnyH _ _ _ _ _ _ _ (Act.put _ (some 16) _) _
      simp only [Act.put, List.setIfInBounds_toArray, List.set_cons_zero, List.set_cons_succ]
      refine wpAnyH_take (i := 6) (v := ?_) rfl (by kernel_rfl) (by kernel_rfl) (by kernel_rfl) (fun _ _ _ h => h) (Or.inl ⟨by rfl, ?_⟩) (by assumption) ?_
      rotate_left
      · (intro w hSw; (try dsimp only at hSw); go_simp; (try with_reducible rfl))
      show wpAnyH _ _ _ _ _ _ _ (Act.put _ (some 17) _) _
      simp only [Act.put, List.setIfInBounds_toArray, List.set_cons_zero, List.set_cons_succ]
      refine wpAnyH_take (i := 7) (v := ?_) rfl (by kernel_rfl) (by kernel_rfl) (by kernel_rfl) (fun _ _ _ h => h) (Or.inl ⟨by rfl, ?_⟩) (by assumption) ?_
      rotate_left
      · (intro w hSw; (try dsimp only at hSw); go_simp; (try with_reducible rfl))
      show wpAnyH _ _ _ _ _ _ _ (Act.put _ (some 18) _) _
      simp only [Act.put, List.setIfInBounds_toArray, List.set_cons_zero, List.set_cons_succ]
      refine wpAnyH_take (i := 8) (v := ?_) rfl (by kernel_rfl) (by kernel_rfl) (by kernel_rfl) (fun _ _ _ h => h) (Or.inl ⟨by rfl, ?_⟩) (by assumption) ?_
      rotate_left
      · (intro w hSw; (try dsimp only at hSw); go_simp; (try with_reducible rfl))
      show wpAnyH _ _ _ _ _ _ _ (Act.put _ (some 19) _) _
      simp only [Act.put, List.setIfInBounds_toArray, List.set_cons_zero, List.set_cons_succ]
      refine wpAnyH_take (i := 9) (v := ?_) rfl (by kernel_rfl) (by kernel_rfl) (by kernel_rfl) (fun _ _ _ h => h) (Or.inl ⟨by rfl, ?_⟩) (by assumption) ?_
      rotate_left
      · (intro w hSw; (try dsimp only at hSw); go_simp; (try with_reducible rfl))
      show wpAnyH _ _ _ _ _ _ _ (Act.put _ (some 20) _) _
      simp only [Act.put, List.setIfInBounds_toArray, List.set_cons_zero, List.set_cons_succ]
      refine wpAnyH_take (i := 10) (v := ?_) rfl (by kernel_rfl) (by kernel_rfl) (by kernel_rfl) (fun _ _ _ h => h) (Or.inl ⟨by rfl, ?_⟩) (by assumption) ?_
      rotate_left
      · (intro w hSw; (try dsimp only at hSw); go_simp; (try with_reducible rfl))
      show wpAnyH _ _ _ _ _ _ _ (Act.put _ (some 21) _) _
      simp only [Act.put, List.setIfInBounds_toArray, List.set_cons_zero, List.set_cons_succ]
      refine wpAnyH_ready (rs := [11]) (by kernel_rfl) (by simp) ?_
      refine (AllReadyH.cons rfl (fun K11 hK11 => ?_) AllReadyH.nil)
      · rw [if_pos (by rfl)]
        go_simp
        go_at_call 21
        refine (CB.out).mono ?_
        rintro e w1 ⟨g1, c1, rfl, hown1, ho1⟩
        have O1 := hidOf ho1
        have OW1 := hidOf hown1
        have s10 := cell_later ho1 (show wr.drew.cell? _ = _ from p0)
        have s11 := cell_later ho1 (show wr.drew.cell? _ = _ from p1)
        obtain ⟨wB, HB, b0, b1, oB, sB⟩ := box_two w1 (.int .u64 xf) (.slice (some ⟨g1, 0, none⟩) xn c1) 36
        have OB := hidOf oB
        have s20 := cell_later oB s10
        have s21 := cell_later oB s11
        have oRB : Out wr wB := ((Out.refl wr).drew.trans ho1).trans oB
        have hBw : w.heap.size ≤ wB.heap.size := (OR.out.trans oRB).size
        obtain ⟨v2, w2, hr2, hown2, hgr2, hnil2, _⟩ := run_append_own_at (P := Tryz.prog) wB w.heap.size 22 22 36 i0 _ 2 32 Tryz.underlying22 hi0 hz0 hz1 hz2 rfl (by decide) (.slice oa k oc) k (rowG R) (own_out OWN.out oRB) ⟨w1.heap.size, 0, none⟩ 1 1 [.int .u64 xf, .slice (some ⟨g1, 0, none⟩) xn c1] rfl (fun j u hj => by rw [add_B, Nat.zero_add]; match j, hj with | 0, hj => cases hj; exact b0 | 1, hj => cases hj; exact b1) (by intro u hu; simp at hu; rcases hu with rfl | rfl <;> rfl) (by unfold maxLen; omega) (by omega) hBw
        have hr2b : ∀ ty, (Builtin.append_ #[22, 22] ty #[.slice oa k oc, .slice (some ⟨w1.heap.size, 0, none⟩) 1 1]).run Tryz.prog wB = .ok v2 w2 := fun ty => hr2
        obtain ⟨a2, c2, rfl, _, _⟩ := own_slice hown2
        have HR2 := hidOf hr2b
        have HO2 := hidOf hown2
        have hc2 : Chg (fun b => (Value.slice oa k oc).ownBlock = some b) wB w2 := Chg.of_grown hgr2 (fun q hq => hq)
        have C2 := hidOf hc2
        have hout2 : Out w w2 := Chg.out hc2 (OR.out.trans oRB) (fun q hq => (OWN.out.lt q hq).1)
        have HO := hidOf hout2
        have ORB := hidOf oRB
        have hgw : g < w.heap.size := by
          rcases HI.out with e | ⟨g9, o9, e, h9⟩
          · have h8 := HX.out; rw [e] at h8; simp at h8
          · simp only [Option.some.injEq, Addr.mk.injEq] at e; obtain ⟨rfl, _⟩ := e; exact World.block_lt_of_cell? w _ (h9 k _ HX.out).1
        have s30 : w2.cell? ⟨g, o + k * 2, none⟩ = some (.int .u64 xf) := hc2.cell s20 (fun hq => by have := (OWN.out.lt _ hq).1; simp only at this; omega)
        have s31 : w2.cell? ⟨g, o + k * 2 + 1, none⟩ = some (.slice xa xn xc) := hc2.cell s21 (fun hq => by have := (OWN.out.lt _ hq).1; simp only at this; omega)
        clear ho1 hown1 oB sB hr2 hr2b hown2 hgr2 hnil2 hc2 hout2 oRB b0 b1
        refine hK11.out _ _ ⟨s10, s11⟩ (fun hHeld11 => ?_)
        refine wpAnyH_take (i := 12) (v := ?_) rfl (by kernel_rfl) (by kernel_rfl) (by kernel_rfl) (fun _ _ _ h => h) (Or.inl ⟨by rfl, ?_⟩) (by assumption) ?_
        rotate_left
        · (intro w hSw; (try dsimp only at hSw); go_simp; (try with_reducible rfl))
        show wpAnyH _ _ _ _ _ _ _ (Act.put _ (some 23) _) _
        simp only [Act.put, List.setIfInBounds_toArray, List.set_cons_zero, List.set_cons_succ]
        refine wpAnyH_ready (rs := [13]) (by kernel_rfl) (by simp) ?_
        refine (AllReadyH.cons rfl (fun K13 hK13 => ?_) AllReadyH.nil)
        · rw [if_pos (by rfl)]
          go_simp
          rw [← HB.out]
          refine hK13.out _ _ ⟨s20, s21⟩ (fun hHeld13 => ?_)
          refine wpAnyH_ready (rs := [14]) (by kernel_rfl) (by simp) ?_
          refine (AllReadyH.cons rfl (fun K14 hK14 => ?_) AllReadyH.nil)
          · rw [if_pos (by rfl)]
            refine Lib.wp_append_run _ (.tmp 11) (.tmp 24) 22 22 rfl _ _ (by simp [Act.eval, Act.put]) (by simp [Act.eval, Act.put]) _ _ (HR2.out _) ?_
            refine hK14.out _ _ ⟨s30, s31⟩ (fun hHeld14 => ?_)
            simp only [Act.put, List.setIfInBounds_toArray, List.set_cons_zero, List.set_cons_succ]
            refine wpAnyH_take (i := 15) (v := ?_) rfl (by kernel_rfl) (by kernel_rfl) (by kernel_rfl) (fun _ _ _ h => h) (Or.inl ⟨by rfl, ?_⟩) (by assumption) ?_
            rotate_left
            · (intro w hSw; (try dsimp only at hSw); go_simp; (try with_reducible rfl))
            show wpAnyH _ _ _ _ _ _ _ (Act.put _ (some 3) _) _
            simp only [Act.put, List.setIfInBounds_toArray, List.set_cons_zero, List.set_cons_succ]
            refine wpAnyH_done (by kernel_rfl) ?_ _
            go_wp2
            go_roundw
            case rel =>
              have e1 : rowG R ++ [.int .u64 xf, .slice (some ⟨g1, 0, none⟩) xn c1] = rowG (R ++ [⟨xf, some g1, c1, xd⟩]) := by rw [rowG_app, rowG_cons, csG, daV, hxn.out]; rfl
              have hown := HO2.out
              rw [e1] at hown
              refine ⟨k + 1, a2, c2, R ++ [⟨xf, some g1, c1, xd⟩], rfl, by simp, by omega, hidOf hown, hidOf (fun z hz => ?_), hidOf ?_, HO⟩
              · rcases List.mem_append.1 hz with hz | hz
                · exact ((DA.out z hz).out ORB.out).chg C2.out (fun b hb hq => own_two (own_out OWN.out ORB.out) ((DA.out z hz).out ORB.out) (by decide) hq (by simp [daV, hb, Value.ownBlock]))
                · simp only [List.mem_cons, List.not_mem_nil, or_false] at hz
                  subst hz
                  have h9 : DaI w.heap.size w1 ⟨xf, some g1, c1, xd⟩ := by
                    have := own_base (B := w.heap.size) OW1.out (OR.out.drew).size
                    rw [hxn.out] at this
                    exact this
                  exact (DaI.out h9 OB.out).chg C2.out (fun b hb hq => own_two (own_out OWN.out ORB.out) (DaI.out h9 OB.out) (by decide) hq (by have h7 : some g1 = some b := hb; simpa [daV, Value.ownBlock] using h7))
              · rw [List.map_append, EQ.out, List.take_add_one, HX.out, List.map_append]; rfl
            case measure => simp [intOf]; omega
    · have hlt : ¬ (k : Int) < n := by omega
      obtain rfl : n = k := by omega
      go_wp2
      go_ret
      have et : L.take n = L := by rw [hN.out]; exact List.take_length
      have heq := EQ.out
      rw [et] at heq
      first | exact ⟨oa, oc, R, rfl, OWN.out, DA.out, heq, OR.out⟩ | exact ⟨oa, oc, rfl, R, OWN.out, DA.out, heq, OR.out⟩
theorem owns_chg {B size : Nat} {S : Nat → Prop} {w w' : World} {e : TypeId} {v : Value} {n : Nat} {xs : List Value} (h : w.ownsRow B e size v n xs) (hs : ∀ k, v.ownBlock = some k → ¬ S k) (c : Chg S w w') : w'.ownsRow B e size v n xs := own_chg h c hs
theorem news_new (w : World) (cs : Array Value) (t : TypeId) (b : Nat) (hb : b = w.heap.size) : ∀ j u, cs.toList[j]? = some u → (w.alloc (.cells cs t)).cell? ((⟨b, 0, none⟩ : Addr).add j) = some u := by
  intro j u hu
  rw [WideShapes.add_plain, Nat.zero_add, cell_fresh _ _ _ _ _ hb]
  simpa using hu
theorem own_kind {B s n : Nat} {w : World} {e t : TypeId} {v : Value} {xs : List Value} {b : Nat} {cs : Array Value} {fr : Nat × Nat} (h : w.ownsRow B e s v n xs) (hb : w.heap[b]? = some (.cells cs t fr)) (hne : ¬ e = t) : ¬ v.ownBlock = some b := fun hv => by
  rcases h.2 with ⟨hx, _⟩ | ⟨g, cap, cur, hx, _, hg, _⟩
  · rw [hx] at hv; cases hv
  · rw [hx] at hv
    simp [Value.ownBlock] at hv
    subst hv
    rw [hb] at hg; simp at hg; exact hne hg.2.1.symm
theorem own_cells {B s n : Nat} {w : World} {e : TypeId} {v : Value} {xs : List Value} {b : Nat} (h : w.ownsRow B e s v n xs) (hb : v.ownBlock = some b) : B ≤ b ∧ ∃ cs fr, w.heap[b]? = some (.cells cs e fr) := by
  rcases h.2 with ⟨hx, _⟩ | ⟨g, cap, cur, hx, hB, hg, _⟩
  · rw [hx] at hb; cases hb
  · rw [hx] at hb
    simp [Value.ownBlock] at hb
    subst hb
    exact ⟨hB, cur, _, hg⟩
end Go.Proofs.YtekjfbmebekmeaaGreat
namespace Go.Proofs.YtekjfbmebekmeaaGreat.Bo
open Go.RowKit
set_option linter.unusedVariables false
set_option linter.unusedSimpArgs false
def gB (B : List Int) (k : Nat) : Int := B.getD k 0
def Byts (B : List Int) : Prop := ∀ k, 0 ≤ gB B k ∧ gB B k < 256
theorem gB_take (B : List Int) (m k : Nat) (h : k < m) : gB (B.take m) k = gB B k := by
  simp [gB, List.getD, List.getElem?_take, h]
theorem gB_out (B : List Int) (k : Nat) (h : B.length ≤ k) : gB B k = 0 := by
  simp [gB, List.getD, List.getElem?_eq_none h]
theorem Byts.take {B : List Int} (h : Byts B) (m : Nat) : Byts (B.take m) := fun k => by
  by_cases g : k < m
  · rw [gB_take _ _ _ g]; exact h k
  · rw [gB_out _ _ (by simp; omega)]; omega
def BytA (w : World) (a : Option Addr) (B : List Int) : Prop :=
  B = [] ∨ ∃ b off, a = some ⟨b, off, none⟩ ∧ ∀ k, k < B.length → w.cell? ⟨b, off + k, none⟩ = some (.int .u8 (gB B k))
theorem BytA.out {w w' : World} {a : Option Addr} {B : List Int} (h : BytA w a B) (o : Out w w') : BytA w' a B := by
  rcases h with h | ⟨b, off, rfl, h⟩
  · exact .inl h
  · exact .inr ⟨b, off, rfl, fun k hk => cell_later o (h k hk)⟩
theorem info8 : (Tryz.prog.info? 5).map (fun i => (i.zero, i.size, i.bytes)) = some (some (.int .u8 0), 1, 1) := by kernel_rfl
def bV (B : List Int) : List Value := B.map (Value.int .u8)
theorem owns_row {w : World} {B g n : Nat} {e : TypeId} {f : Nat → Value} {xs : List Value} (h : w.rowIs g e n f) (hB : B ≤ g) (hn : n ≤ maxLen) (hx : xs.length = n) (hf : ∀ j, j < n → xs[j]? = some (f j)) : w.ownsRow B e 1 (.slice (some ⟨g, 0, none⟩) n n) n xs := by
  obtain ⟨c, hb, hs, hc⟩ := h
  refine ⟨by omega, .inr ⟨g, n, c, rfl, hB, hb, Nat.le_refl _, hn, by omega, ?_⟩⟩
  apply List.ext_getElem?
  intro j
  rw [Nat.mul_one, List.getElem?_take]
  by_cases hj : j < n
  · rw [if_pos hj, hf j hj, ← hc j hj]; simp
  · rw [if_neg hj, List.getElem?_eq_none (by omega)]
def OwnB (w w' : World) (v : Value) (B : List Int) : Prop := w'.ownsRow w.heap.size 5 1 v B.length (bV B)
theorem cell_at {w : World} {p : Nat} {cs : Array Value} {t : TypeId} (h : w.heap[p]? = some (.cells cs t (0, 0))) (j : Nat) : w.cell? ⟨p, j, none⟩ = cs[j]? := by simp [World.cell?, h]
theorem frozen_at {w : World} {p : Nat} {cs : Array Value} {t : TypeId} (h : w.heap[p]? = some (.cells cs t (0, 0))) (j : Nat) : w.frozen? ⟨p, j, none⟩ = false := by simp [World.frozen?, h]
theorem set_at {w : World} {p : Nat} {cs : Array Value} {t : TypeId} (h : w.heap[p]? = some (.cells cs t (0, 0))) (j : Nat) (u : Value) : (w.setCell ⟨p, j, none⟩ u).heap[p]? = some (.cells (cs.setIfInBounds j u) t (0, 0)) := by
  simp [World.setCell, Array.getElem?_modify, h]
theorem owns_out {B size : Nat} {w w' : World} {e : TypeId} {v : Value} {n : Nat} {xs : List Value} (h : w.ownsRow B e size v n xs) (o : Out w w') : w'.ownsRow B e size v n xs := owns_chg (S := fun _ => False) h (fun _ _ h => h) (Chg.of_out o)
theorem owns_voidBk (w : World) (B size : Nat) (e : TypeId) (hB : B ≤ w.heap.size) : (w.alloc (.cells #[] e)).ownsRow B e size (.slice (some ⟨w.heap.size, 0, none⟩) 0 0) 0 [] :=
  ⟨by simp, .inr ⟨w.heap.size, 0, #[], rfl, hB, by show (w.heap.push _)[w.heap.size]? = _; simp, by omega, by simp [maxLen], by simp, by simp⟩⟩
theorem drewN_twice (w : World) (a b : Nat) : (w.drewN a).drewN b = w.drewN (a + b) := by
  simp only [World.drewN, Nat.add_assoc]
theorem bV_one (B : List Int) : ∀ u ∈ bV B, u.oneCell' = true := by
  intro u hu
  obtain ⟨z, -, rfl⟩ := List.mem_map.1 hu
  rfl
theorem bV_get {B : List Int} {j : Nat} {u : Value} (h : (bV B)[j]? = some u) : j < B.length ∧ u = .int .u8 (gB B j) := by
  rw [bV, List.getElem?_map] at h
  obtain ⟨z, hz, rfl⟩ := Option.map_eq_some_iff.1 h
  exact ⟨(List.getElem?_eq_some_iff.1 hz).1, by simp [gB, List.getD, hz]⟩
theorem copyB (w : World) (a : Option Addr) (n cap : Nat) (B : List Int) (hn : B.length = n) (hi : BytA w a B) (hm : n ≤ 3518437208883) : Calls Tryz.prog 21 #[.slice a n cap] w fun e w' => ∃ v, e = .returned v ∧ OwnB w w' v B ∧ Out w w' := by
  obtain ⟨i0, hi0, hz0, hz1, hz2⟩ := info_parts info8
  cases a with
  | none =>
    obtain rfl : B = [] := by
      rcases hi with h | ⟨b, off, h, _⟩
      · exact h
      · cases h
    obtain rfl : n = 0 := by simpa using hn.symm
    go_enter Tryz.func21, Tryz.ntmps21
    go_wp2
    go_ret
    exact ⟨_, rfl, owns_voidBk w _ _ _ (Nat.le_refl _), Out.alloc (Out.refl _) _⟩
  | some ad =>
    have hcells : ∀ j u, (bV B)[j]? = some u → (w.alloc (.cells #[] 5)).cell? (ad.add j) = some u := by
      intro j u hu
      obtain ⟨hj, rfl⟩ := bV_get hu
      rcases hi with rfl | ⟨b, off, h, hc⟩
      · simp at hj
      · cases h
        rw [WideShapes.add_plain]
        exact cell_later ((Out.refl w).alloc _) (hc j hj)
    subst hn
    go_enter Tryz.func21, Tryz.ntmps21
    go_wp2_with (first | (at_builtin; go_loud (refine wpList_append_own _ rfl (.tmp 3) (.tmp 4) 29 rfl w.heap.size 5 i0 _ 1 1 Tryz.underlying29 hi0 hz0 hz1 hz2 rfl (by decide) _ 0 [] rfl (owns_voidBk w _ _ _ (Nat.le_refl _)) ad B.length cap (bV B) rfl (by simp [bV]) hcells (bV_one B) (by simp only [maxLen]; omega) (by omega) (by rw [size_alloc]; omega) ?_); intro v1 w1 hown1 hgrow1 _))
    go_ret
    refine ⟨_, rfl, by simpa [OwnB] using hown1, ?_⟩
    exact Chg.out (S := fun k => k = w.heap.size) (Chg.of_grown hgrow1 (fun k h => (Option.some.inj h).symm)) ((Out.refl w).alloc _) (fun k hk => by omega)
theorem owns_bytA {w : World} {B : Nat} {v : Value} {L : List Int} (h : w.ownsRow B 5 1 v L.length (bV L)) : ∃ a cap, v = .slice a L.length cap ∧ BytA w a L ∧ L.length ≤ cap := by
  rcases h.2 with ⟨rfl, h0⟩ | ⟨g, cap, cur, rfl, hb, hg, hn, hm, hs, ht⟩
  · obtain rfl : L = [] := List.length_eq_zero_iff.1 h0
    exact ⟨none, 0, rfl, .inl rfl, Nat.le_refl _⟩
  · refine ⟨_, cap, rfl, .inr ⟨g, 0, rfl, fun k hk => ?_⟩, hn⟩
    have e1 : (bV L)[k]? = some (.int .u8 (gB L k)) := by simp [bV, gB, List.getD, List.getElem?_eq_getElem hk]
    rw [← ht, List.getElem?_take, if_pos (by omega)] at e1
    rw [cell_at hg, Nat.zero_add]; simpa using e1
def strB (B : List Int) : ByteArray := B.foldl (fun r n => r.push (UInt8.ofNat n.toNat)) ByteArray.empty
theorem conv_bytes (w : World) (a : Option Addr) (n cap : Nat) (B : List Int) (hn : B.length = n) (h : BytA w a B) : (convert 29 9 (.slice a n cap)).run Tryz.prog w = .ok (.string (strB B)) w := by
  rw [run_convert_bytes_string w 29 9 5 a n cap Tryz.underlying29 Tryz.underlying5 Tryz.underlying9]
  subst hn
  cases a with
  | none =>
    obtain rfl : B = [] := by
      rcases h with h | ⟨b, off, h, _⟩
      · exact h
      · cases h
    rfl
  | some ad =>
    refine run_bytesToString w ad B.length cap B ?_
    have hl : B.length = (bV B).length := by simp [bV]
    rw [hl]
    refine run_loadCells_list w ad (bV B) (fun j u hu => ?_)
    obtain ⟨hj, rfl⟩ := bV_get hu
    rcases h with rfl | ⟨b, off, h, hc⟩
    · simp at hj
    · cases h
      rw [WideShapes.add_plain]
      exact hc j hj
def AppAt (w w' : World) (e : TypeId) (v v' : Value) (n m : Nat) (news : List Value) : Prop :=
  (∃ g cap cur, v = .slice (some ⟨g, 0, none⟩) n cap ∧ v' = .slice (some ⟨g, 0, none⟩) (n + m) cap ∧ n + m ≤ cap ∧ w.heap[g]? = some (.cells cur e (0, 0)) ∧
    w'.heap[g]? = some (.cells (cur.toList.take n ++ news ++ cur.toList.drop (n + m)).toArray e (0, 0))) ∨
  ((∃ cap', v' = .slice (some ⟨w.heap.size, 0, none⟩) (n + m) cap') ∧ ∀ k, k < w.heap.size → w'.heap[k]? = w.heap[k]?)
theorem run_append_two {P : Program} {w : World} (base : Nat) (t ty e : TypeId) (i : TypeInfo) (z : Value) (bytes : Nat) (ht : P.underlying t = some (.slice e)) (hi : P.info? e = some i) (hz : i.zero = some z)
    (hsize : i.size = 1) (hby : i.bytes = bytes) (hzs : z.cells.size = 1)
    (v : Value) (n : Nat) (xs : List Value) (hown : w.ownsRow base e 1 v n xs)
    (a : Addr) (m c : Nat) (news : List Value) (hm : 0 < m) (hl : news.length = m) (hnews : ∀ j u, news[j]? = some u → w.cell? (a.add j) = some u) (h1 : ∀ u ∈ news, u.oneCell' = true)
    (hbytes : (n + m) * bytes ≤ 140737488355328) (h47 : n + m ≤ 140737488355328) (hbase : base ≤ w.heap.size) :
    ∃ v' w', (Builtin.append_ #[t, t] ty #[v, .slice (some a) m c]).run P w = .ok v' w' ∧ w'.ownsRow base e 1 v' (n + m) (xs ++ news) ∧ w.grownBy w' v.ownBlock ∧ AppAt w w' e v v' n m news := by
  have hl1 : news.length = m * 1 := by omega
  obtain ⟨v', w', hr, ho, hg, -⟩ := run_append_own (P := P) w base t ty e i z 1 bytes ht hi hz hsize hby hzs (by omega) v n xs hown a m c news hl1 hnews h1 (by simp only [maxLen]; omega) hbytes hbase
  refine ⟨v', w', hr, ho, hg, ?_⟩
  subst hby
  have hl2 : news.length = m * i.size := by rw [hsize]; omega
  rcases hown.2 with ⟨rfl, rfl⟩ | ⟨g, cap, cur, rfl, hbg, hgh, hnc, hcm, hcs, htake⟩
  · have hr2 := run_append_nil (P := P) w t ty e i z ht hi hz a m c news hl2 hnews hm (by omega) (by simp only [Nat.zero_add] at hbytes; omega)
    rw [hr] at hr2
    injection hr2 with e1 e2
    subst e1 e2
    exact .inr ⟨⟨grownCap w m 0 e, by simp⟩, fun k hk => Below.heap_alloc w.drew _ k hk⟩
  · by_cases hroom : n + m ≤ cap
    · have hr2 := run_append_room (P := P) w t ty e i ht hi g n cap cur hgh a m c news hl2 hnews h1 hroom (by rw [hsize]; omega)
      rw [hr] at hr2
      injection hr2 with e1 e2
      subst e1 e2
      refine .inl ⟨g, cap, cur, rfl, rfl, hroom, hgh, ?_⟩
      rw [setRow_heap w g cur _ e _ hgh, hsize, hl]
      simp
    · have holds : ∀ j u, xs[j]? = some u → w.cell? ((⟨g, 0, none⟩ : Addr).add j) = some u := hown.cells (g := g) rfl
      have hr2 := run_append_grow (P := P) w t ty e i z ht hi hz ⟨g, 0, none⟩ n cap xs (by rw [hsize]; exact hown.1) holds a m c news hl2 hnews (by omega) (by omega) (growslice_fits (by omega) hbytes)
      rw [hr] at hr2
      injection hr2 with e1 e2
      subst e1 e2
      exact .inr ⟨⟨_, rfl⟩, fun k hk => Below.heap_alloc w.drew _ k hk⟩
theorem wpList_append_two {P : Program} {w : World} {ops : Array Oper} {rest : List Oper} {o : Oper} {a : Act} {Q : Exit → Act → World → Prop} (hgd : o.guard = none) (s x : Operand) (t : TypeId)
    (ho : o.op = .call { callee := .builtin .append, args := #[s, x], argTypes := #[t, t] })
    (base : Nat) (e : TypeId) (i : TypeInfo) (z : Value) (bytes : Nat) (ht : P.underlying t = some (.slice e)) (hi : P.info? e = some i) (hz : i.zero = some z)
    (hsize : i.size = 1) (hby : i.bytes = bytes) (hzs : z.cells.size = 1)
    (v : Value) (n : Nat) (xs : List Value) (hs : a.eval s = v) (hown : w.ownsRow base e 1 v n xs)
    (ad : Addr) (m c : Nat) (news : List Value) (hm : 0 < m) (hx : a.eval x = .slice (some ad) m c) (hl : news.length = m) (hnews : ∀ j u, news[j]? = some u → w.cell? (ad.add j) = some u) (h1 : ∀ u ∈ news, u.oneCell' = true)
    (hbytes : (n + m) * bytes ≤ 140737488355328) (h47 : n + m ≤ 140737488355328) (hbase : base ≤ w.heap.size)
    (h : ∀ v' w', w'.ownsRow base e 1 v' (n + m) (xs ++ news) → w.grownBy w' v.ownBlock → AppAt w w' e v v' n m news → wpList P ops Q rest (a.put o.dst v') w') : wpList P ops Q (o :: rest) a w := by
  refine wpList_plain hgd fun K hK => ?_
  obtain ⟨v', w', hr, h2, h3, h4⟩ := run_append_two (P := P) (w := w) base t o.type e i z bytes ht hi hz hsize hby hzs v n xs hown ad m c news hm hl hnews h1 hbytes h47 hbase
  unfold Oper.wp execOp
  simp only [ho, resolve, invoke, builtin, Sem.run_bind, Sem.run_pure, Result.andThen_ok, List.map_toArray, List.map_cons, List.map_nil, hs, hx, hr]
  exact hK _ _ (h v' w' h2 h3 h4)
theorem ownsRow_block_lt {B : Nat} {w : World} {e : TypeId} {v : Value} {n : Nat} {xs : List Value} (h : w.ownsRow B e 1 v n xs) {k : Nat} (hk : v.ownBlock = some k) : k < w.heap.size ∧ B ≤ k ∧ ∃ cur, w.heap[k]? = some (.cells cur e (0, 0)) := by
  rcases h.2 with ⟨rfl, -⟩ | ⟨g, cap, cur, rfl, hb, hg, rest⟩
  · simp [Value.ownBlock] at hk
  · simp only [Value.ownBlock, Option.some.injEq] at hk
    subst hk
    exact ⟨(Array.getElem?_eq_some_iff.1 hg).1, hb, cur, hg⟩
theorem apart_types {B B' : Nat} {w : World} {e e' : TypeId} {v v' : Value} {n n' : Nat} {xs xs' : List Value} (h : w.ownsRow B e 1 v n xs) (h' : w.ownsRow B' e' 1 v' n' xs') (hee : e ≠ e') {k : Nat} (hk : v.ownBlock = some k) : v'.ownBlock ≠ some k := by
  intro hk'
  obtain ⟨-, -, c1, h1⟩ := ownsRow_block_lt h hk
  obtain ⟨-, -, c2, h2⟩ := ownsRow_block_lt h' hk'
  rw [h1] at h2
  injection h2 with h2
  injection h2 with _ h2
  exact hee h2
theorem AppAt.block {w w' : World} {e : TypeId} {v v' : Value} {n m : Nat} {news : List Value} (h : AppAt w w' e v v' n m news) : ∀ k, v'.ownBlock = some k → v.ownBlock = some k ∨ k = w.heap.size := by
  intro k hk
  rcases h with ⟨g, cap, cur, rfl, rfl, -⟩ | ⟨⟨cap, rfl⟩, -⟩
  · exact .inl hk
  · exact .inr (Option.some.inj hk).symm
theorem AppAt.slice {w w' : World} {e : TypeId} {v v' : Value} {n m : Nat} {news : List Value} (h : AppAt w w' e v v' n m news) : ∃ a k c, v' = .slice a k c := by
  rcases h with ⟨g, cap, cur, rfl, rfl, -⟩ | ⟨⟨cap, rfl⟩, -⟩
  · exact ⟨_, _, _, rfl⟩
  · exact ⟨_, _, _, rfl⟩
theorem owns_grown {B n : Nat} {w w' : World} {e : TypeId} {v : Value} {xs : List Value} {row : Option Nat} (h : w.ownsRow B e 1 v n xs) (hg : w.grownBy w' row) (ha : ∀ k, v.ownBlock = some k → row ≠ some k) : w'.ownsRow B e 1 v n xs :=
  owns_chg (S := fun k => row = some k) h ha (Chg.of_grown hg (fun _ h => h))
theorem setCell_self {w : World} {b j : Nat} {cs : Array Value} {t : TypeId} {fr : Nat × Nat} {u : Value} (h : w.heap[b]? = some (.cells cs t fr)) (hj : cs[j]? = some u) : w.setCell ⟨b, j, none⟩ u = w := by
  have hh : (w.setCell ⟨b, j, none⟩ u).heap = w.heap := by
    apply Array.ext_getElem?
    intro k
    by_cases hk : k = b
    · subst hk
      have hset : cs.setIfInBounds j u = cs := by
        apply Array.ext_getElem?
        intro x
        rw [Array.getElem?_setIfInBounds]
        by_cases hx : j = x
        · subst hx; simp [hj]; exact (Array.getElem?_eq_some_iff.1 hj).1
        · rw [if_neg hx]
      simp [World.setCell, Array.getElem?_modify, h, hset]
    · exact Below.heap_setCell w ⟨b, j, none⟩ u k hk
  cases w
  simp only [World.setCell] at hh ⊢
  simp only [hh]
theorem owns_alloc {B size n : Nat} {w : World} {e : TypeId} {v : Value} {xs : List Value} (h : w.ownsRow B e size v n xs) (o : Obj) : (w.alloc o).ownsRow B e size v n xs := owns_out h ((Out.refl w).alloc o)
theorem owns_setCell {B n : Nat} {w : World} {e : TypeId} {v : Value} {xs : List Value} {a : Addr} {u : Value} (h : w.ownsRow B e 1 v n xs) (ha : v.ownBlock ≠ some a.block) : (w.setCell a u).ownsRow B e 1 v n xs :=
  owns_chg (S := fun k => k = a.block) h (fun k hk e => ha (e ▸ hk)) (Chg.setCell (S := fun k => k = a.block) (p := a) (Chg.refl _ _) rfl u)
theorem two_rows {w : World} {B n : Nat} {u v : Value} {xs ys : List Value} {e : TypeId} (h1 : w.ownsRow B e 1 u n xs) (h2 : w.ownsRow B e 1 v n ys) : (∃ a c, u = .slice a 0 c ∧ n = 0) ∨ ∃ g1 g2 c1 c2, u = .slice (some ⟨g1, 0, none⟩) n c1 ∧ v = .slice (some ⟨g2, 0, none⟩) n c2 := by
  rcases h1.2 with ⟨rfl, rfl⟩ | ⟨g1, c1, cur1, rfl, -⟩
  · exact .inl ⟨_, _, rfl, rfl⟩
  · rcases h2.2 with ⟨rfl, rfl⟩ | ⟨g2, c2, cur2, rfl, -⟩
    · exact .inl ⟨_, _, rfl, rfl⟩
    · exact .inr ⟨_, _, _, _, rfl, rfl⟩
theorem one_row (w : World) (u : Value) (t : TypeId) : ∀ j x, [u][j]? = some x → (w.alloc (.cells #[u] t)).cell? ((⟨w.heap.size, 0, none⟩ : Addr).add j) = some x :=
  news_new w #[u] t w.heap.size rfl
end Go.Proofs.YtekjfbmebekmeaaGreat.Bo
