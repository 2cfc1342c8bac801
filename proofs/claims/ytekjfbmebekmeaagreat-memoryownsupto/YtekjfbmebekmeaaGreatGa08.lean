import Derived.Test.YtekjfbmebekmeaaGreatGa07
namespace Go.Proofs.YtekjfbmebekmeaaGreat
open Go.RowKit
set_option linter.unusedVariables false
set_option linter.unusedSimpArgs false
theorem ShE.trans {B s o : Nat} {cs : Array Value} {t : TypeId} {w w1 w2 : World} {v v1 v2 : Value} {X X1 X2 : List Rw} (h1 : ShE B s o cs t w w1 v X v1 X1) (h2 : ShE B s o (cs.setIfInBounds o v1) t w1 w2 v1 X1 v2 X2) : ShE B s o cs t w w2 v X v2 X2 where
  sh := h2.sh
  blk := by rw [h2.blk]; simp
  chg := h1.chg.trans h2.chg (fun k hk hl => by
    rcases hk with hk | hk
    · exact .inl hk
    · rcases h1.fp k hk with h | h
      · exact .inr h
      · omega)
  fp := fun k hk => by
    rcases h2.fp k hk with h | h
    · exact h1.fp k h
    · exact .inr (Nat.le_trans h1.chg.size h)
set_option maxHeartbeats 4000000 in
set_option maxRecDepth 100000 in
theorem add_any (w : World) (B s o : Nat) (cs : Array Value) (t : TypeId) (v : Value) (X : List Rw) (r : Rg) (h : Sh B w v X) (hb : w.heap[s]? = some (.cells cs t (0, 0))) (hcs : cs[o]? = some v) (hs : ¬ fpS v X s) (hBs : B ≤ s) (hN : (X.length + 1) * 24 ≤ 140737488355328) (hsrt : Srt (flat X)) (h128 : ∀ z ∈ X, z.L.length ≤ 128) :
    Calls Tryz.prog 53 #[.pointer (some ⟨s, o, none⟩), .agg #[.int .u64 (r.f : Nat), .slice (r.a.map fun b => ⟨b, 0, none⟩) r.d.length r.c]] w fun e w' => (∃ q, e = .returned q) ∧ ∃ v' X', ShE B s o cs t w w' v X v' X' ∧ InsP (flat X) r (flat X') ∧ ∀ z ∈ X', z.L.length ≤ 128 := by
  obtain ⟨rf, hrf⟩ : ∃ rf, Hid (rf = r.f) := ⟨_, rfl⟩
  obtain ⟨ra, hra⟩ : ∃ ra : Option Addr, Hid (ra = r.a.map fun b => ⟨b, 0, none⟩) := ⟨_, rfl⟩
  obtain ⟨rn, hrn⟩ : ∃ rn, Hid (rn = r.d.length) := ⟨_, rfl⟩
  obtain ⟨rc, hrc⟩ : ∃ rc, Hid (rc = r.c) := ⟨_, rfl⟩
  have hcsr : csG r = [.int .u64 rf, .slice ra rn rc] := by rw [csG, daV, hrf.out, hra.out, hrn.out, hrc.out]
  have HCSR := hidOf hcsr
  rw [← hrf.out, ← hra.out, ← hrn.out, ← hrc.out]
  obtain ⟨wA, HA, cA0, cA1, oA, sA⟩ := box_two w (.int .u64 rf) (.slice ra rn rc) 36
  have OA := hidOf oA
  have SA := hidOf sA
  have hcs0 : wA.cell? ⟨s, o, none⟩ = some v := cell_later oA (by rw [cell_B hb]; exact hcs)
  have hfs0 : wA.frozen? ⟨s, o, none⟩ = false := froz_B (blk_out hb oA) o
  have hwl := (Array.getElem?_eq_some_iff.1 hb).1
  have H := hidOf h
  have HB := hidOf hb
  have HS := hidOf hs
  have HCS := hidOf hcs
  have HL := hidOf h128
  have HSR := hidOf hsrt
  have HNN := hidOf hN
  by_cases hX : X = []
  · subst hX
    obtain ⟨va, vc, rfl, _, _⟩ := own_slice h.own
    have hcs2 : ∀ O1 O2, ((wA.alloc O1).alloc O2).cell? ⟨s, o, none⟩ = some (.slice va 0 vc) := fun O1 O2 => cell_later (((Out.refl wA).alloc _).alloc _) hcs0
    have hfs2 : ∀ O1 O2, ((wA.alloc O1).alloc O2).frozen? ⟨s, o, none⟩ = false := fun O1 O2 => froz_B (blk_out hb ((oA.alloc O1).alloc O2)) o
    clear h hb hs hcs h128 hsrt hN hcsr oA sA
    simp only [List.length_nil] at hcs0
    go_enter Tryz.func53, Tryz.ntmps53
    go_upto_region 1 with fail
    rw [← HA.out]
    go_wp2
    refine bodyPost_ret (results_none rfl _ _ _) rfl ?_
    have hq1 : wA.heap.size = w.heap.size + 1 := SA.out
    obtain ⟨W2, hW2⟩ : ∃ W2, W2 = (wA.alloc (.cells #[.int .u64 rf, .slice ra rn rc] 36)).alloc (.cells #[.slice (some ⟨wA.heap.size, 0, none⟩) 1 1] 22) := ⟨_, rfl⟩
    have oW : Out w W2 := by rw [hW2]; exact (OA.out.alloc _).alloc _
    have k1 : W2.heap[wA.heap.size]? = some (.cells [.int .u64 rf, .slice ra rn rc].toArray 36 (0, 0)) := by rw [hW2]; exact blk_out (heap_alloc_new wA _) ((Out.refl _).alloc _)
    have k2 : W2.heap[wA.heap.size + 1]? = some (.cells [.slice (some ⟨wA.heap.size, 0, none⟩) 1 1].toArray 22 (0, 0)) := by rw [hW2, ← size_alloc wA (.cells #[.int .u64 rf, .slice ra rn rc] 36)]; exact heap_alloc_new _ _
    rw [← hW2]
    have hBw : B ≤ w.heap.size := Nat.le_trans hBs (Nat.le_of_lt hwl)
    have sh2 : Sh B W2 (.slice (some ⟨wA.heap.size + 1, 0, none⟩) 1 1) [⟨wA.heap.size, 1, [r]⟩] := by
      refine ⟨(show W2.ownsRow B 22 1 (.slice (some ⟨wA.heap.size + 1, 0, none⟩) 1 1) 1 [.slice (some ⟨wA.heap.size, 0, none⟩) 1 1] from blk_owns k2 (by omega) (Nat.le_refl _) (by decide) rfl rfl), fun z hz => ?_, fun z hz => ?_, fun z hz => ?_, List.pairwise_singleton _ _, fun z hz => ?_⟩
      · simp at hz; subst hz
        have k3 : W2.ownsRow B 36 2 (.slice (some ⟨wA.heap.size, 0, none⟩) 1 1) 1 (rowG [r]) := blk_owns k1 (by omega) (Nat.le_refl _) (by decide) rfl (by show List.take 2 _ = csG r ++ []; rw [HCSR.out]; rfl)
        exact k3
      · simp at hz; subst hz; simp
      · simp at hz; subst hz; simp
      · simp at hz; subst hz; simp [Value.ownBlock]
    have hfp : ∀ k, fpS (.slice (some ⟨wA.heap.size + 1, 0, none⟩) 1 1) [⟨wA.heap.size, 1, [r]⟩] k → w.heap.size ≤ k := fun k hk => by
      rcases hk with hk | ⟨z, hz, rfl⟩
      · simp [Value.ownBlock] at hk; omega
      · simp at hz; subst hz; show w.heap.size ≤ wA.heap.size; omega
    refine ⟨⟨_, rfl⟩, _, _, ⟨sh2.keep (Chg.setCell (S := fun k => k = s) (Chg.refl _ W2) (p := ⟨s, o, none⟩) rfl _) (fun k hk e => by subst e; have := hfp _ hk; omega), set_B (blk_out HB.out oW) o _, Chg.setCell (p := ⟨s, o, none⟩) (Chg.of_out oW) (.inl rfl) _, fun k hk => .inr (hfp k hk)⟩, ⟨[], [], rfl, rfl, by simp, by simp⟩, fun z hz => ?_⟩
    simp at hz; subst hz; simp
  · have P1 := hidOf (place_any wA B s o v X rf (h.out oA) hcs0 hsrt (by omega))
    clear h hb hs hcs h128 hsrt hN hcsr oA sA
    obtain ⟨va, vc, rfl, _, hpos⟩ := own_slice H.out.own
    have hXl : 0 < X.length := List.length_pos_iff.2 hX
    obtain ⟨gR, rfl⟩ := hpos hXl
    obtain ⟨N, hNe⟩ : ∃ N, Hid (N = X.length) := ⟨_, rfl⟩
    rw [← hNe.out] at hcs0 hXl
    have hNz : ¬ ((N : Int) = 0) := by omega
    have HXne := hidOf hX
    clear hX hpos
    go_enter Tryz.func53, Tryz.ntmps53
    go_upto_region 1 with fail
    rw [← HA.out]
    go_upto_region 4 with (go_at_call 80; refine P1.out.mono ?_; rintro e w1 ⟨r0, k0, rfl, hp, ho1⟩; have PL := hidOf hp; have O1 := hidOf ho1; clear hp ho1)
    obtain ⟨row, i, x, hmx, hki, hx, hil, hins⟩ := plIs_ins r (by rw [← hrf.out]; exact PL.out) HXne.out H.out.ne HSR.out
    obtain ⟨g, c, L⟩ := x
    simp only at hil
    obtain ⟨gR', cR', e, hr, hrf0, hgx⟩ := H.out.at_ hx
    simp only [Value.slice.injEq, Option.some.injEq, Addr.mk.injEq] at e
    obtain ⟨⟨rfl, _⟩, _, rfl⟩ := e
    simp only at hr hgx
    have hxm := List.mem_of_getElem? hx
    have own0 : w.ownsRow B 36 2 (.slice (some ⟨g, 0, none⟩) L.length c) L.length (rowG L) := H.out.rows _ hxm
    have hn0 : 0 < L.length := List.length_pos_iff.2 (H.out.ne _ hxm)
    have hL8 : L.length ≤ 128 := HL.out _ hxm
    have hgw : g < w.heap.size := (own0.lt g rfl).2
    have hgRw : gR < w.heap.size := (H.out.own.lt gR rfl).2
    obtain ⟨n, hn⟩ : ∃ n, Hid (n = L.length) := ⟨_, rfl⟩
    rw [← hn.out] at hr hn0 hL8 hil own0
    have hmx2 : (if r0 < 0 then 0 else r0) = (row : Int) := by split <;> omega
    have hk0 : k0 = (i : Int) - 1 := by omega
    subst hk0
    have hwk : IntKind.i64.wrap ((i : Int) - 1 + 1) = (i : Int) := by rw [IntKind.wrap_i64]; omega
    have hwi : IntKind.i64.wrap (i : Int) = (i : Int) := by rw [IntKind.wrap_i64]; omega
    have hrowI : (row : Int) < (N : Int) := by have := (List.getElem?_eq_some_iff.1 hx).1; rw [hNe.out]; omega
    have ow := OA.out.trans O1.out
    have hsg : s ≠ g := fun e => HS.out (.inr ⟨_, hxm, e.symm⟩)
    have hsR : s ≠ gR := fun e => HS.out (.inl (by rw [e]; rfl))
    have hbg : w.heap.size ≠ g := by omega
    have hbR : w.heap.size ≠ gR := by omega
    have hs1 := cell_later O1.out hcs0
    have b0 := cell_later O1.out cA0
    have b1 := cell_later O1.out cA1
    have hr1 := cell_later ow hr
    have hf1 : w1.frozen? ⟨gR, row, none⟩ = false := by rw [World.frozen?_of_block (ow.block gR hgRw)]; exact hrf0
    obtain ⟨wB, HwB, bB, oB⟩ : ∃ wB, Hid (wB = w1.drew.alloc (.cells #[.int .u64 rf, .slice ra rn rc] 36)) ∧ wB.heap[w1.heap.size]? = some (.cells [.int .u64 rf, .slice ra rn rc].toArray 36 (0, 0)) ∧ Out w1.drew wB := ⟨_, rfl, heap_alloc_new w1.drew _, (Out.refl _).alloc _⟩
    have OB := hidOf oB
    have hs2 := cell_later oB (show w1.drew.cell? ⟨s, o, none⟩ = _ from hs1)
    have b02 := cell_later oB (show w1.drew.cell? ⟨w.heap.size, 0, none⟩ = _ from b0)
    have b12 := cell_later oB (show w1.drew.cell? ⟨w.heap.size, 1, none⟩ = _ from b1)
    have hr2 := cell_later oB (show w1.drew.cell? ⟨gR, row, none⟩ = _ from hr1)
    have hf2 : wB.frozen? ⟨gR, row, none⟩ = false := by rw [World.frozen?_of_block (oB.block gR (Nat.lt_of_lt_of_le hgRw ow.size))]; exact hf1
    have hr1d : w1.drew.cell? ⟨gR, row, none⟩ = some (.slice (some ⟨g, 0, none⟩) n c) := hr1
    have ownB := own_out own0 (ow.drew.trans oB)
    have INS := hidOf (insertR_any wB B g n c i w1.heap.size (rowG L) [.int .u64 rf, .slice ra rn rc] ownB hn0 hil bB rfl (by have := ow.size; omega) (rowG_one L) (by intro u hu; simp at hu; rcases hu with rfl | rfl <;> rfl) (by omega))
    have SR := hidOf (fun (w2 : World) (y : Rw) (cw : Chg (fun b => b = g) wB w2) ow2 hg2 hne2 hle2 => Sh.setRow (w1 := w2) (H.out.out (ow.drew.trans oB)) hx y cw ow2 hg2 hne2 hle2)
    have HX := hidOf hx
    have HINS := hidOf hins
    have OW := hidOf (ow.drew.trans oB)
    clear oB ownB hx hins hr hxm own0 hmx hki
    go_upto_region 5 with fail
    refine wp_region_held_drew (S := (fun w' => w'.cell? ⟨s, o, none⟩ = some (.slice (some ⟨gR, 0, none⟩) N vc) ∧ w'.cell? ⟨w.heap.size, 0, none⟩ = some (.int .u64 rf) ∧ w'.cell? ⟨w.heap.size, 1, none⟩ = some (.slice ra rn rc))) (by kernel_rfl) ?_ (fun hHeld => ?_)
    · exact ⟨hs1, b0, b1⟩
    refine tkLB [0, 1, 2, 3, 4, 5, 6, 7, 8, 9, 10, 12, 13, 14] ?_
    iterate 14 (refine tkLC (v := ?_) rfl rfl (by kernel_rfl) (by kernel_rfl) (by kernel_rfl) (fun _ _ _ h => h) (by rfl) (by assumption) ?_ ?_; rotate_left; (· (intro w hSw; (try dsimp only at hSw); go_simp; (try with_reducible rfl))); simp only [Act.put, List.setIfInBounds_toArray, List.set_cons_zero, List.set_cons_succ])
    refine tkLE ?_
    refine wpAnyH_ready (rs := [11, 15]) (by kernel_rfl) (by simp) ?_
    refine (AllReadyH.cons rfl (fun K11 hK11 => ?_) (AllReadyH.cons rfl (fun K15 hK15 => ?_) AllReadyH.nil))
    · rw [if_pos (by rfl)]
      go_simp
      refine hK11.out _ _ (by assumption) (fun hHeld11 => ?_)
      refine wpAnyH_ready (rs := [15]) (by kernel_rfl) (by simp) ?_
      refine (AllReadyH.cons rfl (fun K15 hK15 => ?_) AllReadyH.nil)
      · rw [if_pos (by rfl)]
        go_simp
        first | rw [← HwB.out] | (change K15 _ (w1.drew.alloc _); rw [← HwB.out])
        refine hK15.out _ _ ⟨hs2, b02, b12⟩ (fun hHeld15 => ?_)
        refine wpAnyH_ready (rs := [16]) (by kernel_rfl) (by simp) ?_
        refine (AllReadyH.cons rfl (fun K16 hK16 => ?_) AllReadyH.nil)
        · rw [if_pos (by rfl)]
          go_simp
          go_at_call 81
          refine (INS.out).mono ?_
          rintro e w2 ⟨g2, c2, rfl, hown2, hc2, hg2⟩
          have C2 := hidOf hc2
          have hs3 := hc2.cell hs2 hsg
          have b03 := hc2.cell b02 hbg
          have b13 := hc2.cell b12 hbg
          have hr3 := hc2.cell hr2 hgx
          have hf3 : w2.frozen? ⟨gR, row, none⟩ = false := by rw [World.frozen?_of_block (hc2.block gR (World.block_lt_of_cell? wB ⟨gR, row, none⟩ hr2) hgx)]; exact hf2
          have hLl : (L.take i ++ r :: L.drop i).length = n + 1 := by rw [List.length_append, List.length_cons, List.length_take, List.length_drop, ← hn.out]; omega
          have e2 : rwV ⟨g2, c2, L.take i ++ r :: L.drop i⟩ = .slice (some ⟨g2, 0, none⟩) (n + 1) c2 := by show Value.slice _ (L.take i ++ r :: L.drop i).length _ = _; rw [hLl]
          have e3 : (rowG L).take (i * 2) ++ ([.int .u64 rf, .slice ra rn rc] ++ (rowG L).drop (i * 2)) = rowG (L.take i ++ r :: L.drop i) := by rw [rowG_app, rowG_cons, rowG_take L i (by rw [← hn.out]; exact hil), rowG_drop L i (by rw [← hn.out]; exact hil), HCSR.out]
          rw [e3] at hown2
          obtain ⟨sh3, c3⟩ := SR.out w2 ⟨g2, c2, L.take i ++ r :: L.drop i⟩ hc2 (by rw [e2]; show w2.ownsRow B 36 2 _ (L.take i ++ r :: L.drop i).length _; rw [hLl]; exact hown2) hg2 (by intro e; have e9 : L.take i ++ r :: L.drop i = [] := e; rw [e9] at hLl; simp at hLl) (by show (L.take i ++ r :: L.drop i).length ≤ 129; rw [hLl]; omega)
          rw [e2] at sh3 c3
          obtain ⟨w3, H3, SH3, C3⟩ : ∃ w3, Hid (w3 = w2.setCell ⟨gR, row, none⟩ (.slice (some ⟨g2, 0, none⟩) (n + 1) c2)) ∧ Hid (Sh B w3 (.slice (some ⟨gR, 0, none⟩) X.length vc) (X.set row ⟨g2, c2, L.take i ++ r :: L.drop i⟩)) ∧ Hid (Chg (fun b => b = gR ∨ b = g) wB w3) := ⟨_, rfl, sh3, c3⟩
          have G2 := hidOf hg2
          have E3L := hidOf hLl
          clear hg2 hLl e2 e3 sh3 c3 hown2 hc2
          refine hK16.out _ _ ⟨hs3, b03, b13⟩ (fun hHeld16 => ?_)
          refine tkLB [17] ?_
          iterate 1 (refine tkLC (v := ?_) rfl rfl (by kernel_rfl) (by kernel_rfl) (by kernel_rfl) (fun _ _ _ h => h) (by rfl) (by assumption) ?_ ?_; rotate_left; (· (intro w hSw; (try dsimp only at hSw); go_simp; (try with_reducible rfl))); simp only [Act.put, List.setIfInBounds_toArray, List.set_cons_zero, List.set_cons_succ])
          refine tkLE ?_
          refine wpAnyH_ready (rs := [18]) (by kernel_rfl) (by simp) ?_
          refine (AllReadyH.cons rfl (fun K18 hK18 => ?_) AllReadyH.nil)
          · rw [if_pos (by rfl)]
            go_simp
            rw [← H3.out]
            refine hK18.out _ _ ⟨C3.out.cell hs2 (by simp [hsg, hsR]), C3.out.cell b02 (by simp [hbg, hbR]), C3.out.cell b12 (by simp [hbg, hbR])⟩ (fun hHeld18 => ?_)
            refine wpAnyH_done (by kernel_rfl) ?_ _
            have hs4 : w3.cell? ⟨s, o, none⟩ = some (.slice (some ⟨gR, 0, none⟩) N vc) := C3.out.cell hs2 (by simp [hsg, hsR])
            have hr4 : w3.cell? ⟨gR, row, none⟩ = some (.slice (some ⟨g2, 0, none⟩) (n + 1) c2) := by
              rw [H3.out]
              obtain ⟨cu, hcu⟩ : ∃ cu, w2.heap[gR]? = some (.cells cu 22 (0, 0)) := by
                obtain ⟨cu, h9, _⟩ := owns_blk (own_out (B := B) H.out.own OW.out)
                exact ⟨_, blk_chg h9 C2.out hgx⟩
              rw [cell_B (set_B hcu row _)]
              have hlt : row < cu.size := by
                rw [cell_B hcu] at hr3
                exact (Array.getElem?_eq_some_iff.1 hr3).1
              simp [hlt]
            have hb4 := blk_chg (blk_out HB.out OW.out) C3.out (by simp [hsg, hsR])
            have hx3 : (X.set row ⟨g2, c2, L.take i ++ r :: L.drop i⟩)[row]? = some ⟨g2, c2, L.take i ++ r :: L.drop i⟩ := by rw [List.getElem?_set_self (List.getElem?_eq_some_iff.1 HX.out).1]
            have hXsl : (X.set row ⟨g2, c2, L.take i ++ r :: L.drop i⟩).length = X.length := List.length_set
            have sE : ShE B s o cs t w w3 (.slice (some ⟨gR, 0, none⟩) X.length vc) X (.slice (some ⟨gR, 0, none⟩) X.length vc) (X.set row ⟨g2, c2, L.take i ++ r :: L.drop i⟩) := by
              refine ⟨SH3.out, ?_, ?_, fun k hk => ?_⟩
              · rw [hb4]
                have ho := (Array.getElem?_eq_some_iff.1 HCS.out)
                obtain ⟨ho1, ho2⟩ := ho
                congr 2
                apply Array.ext_getElem?
                intro q
                rw [Array.getElem?_setIfInBounds]
                by_cases hq : o = q
                · subst hq; rw [if_pos rfl, if_pos ho1]; exact HCS.out
                · rw [if_neg hq]
              · exact (Chg.of_out OW.out).trans C3.out (fun b hb _ => by
                  rcases hb with rfl | rfl
                  · exact .inr (.inl rfl)
                  · exact .inr (.inr ⟨_, List.mem_of_getElem? HX.out, rfl⟩))
              · rcases hk with hk | ⟨z, hz, rfl⟩
                · exact .inl (.inl hk)
                · rcases mem_set hz with rfl | ⟨j, hj, hz⟩
                  · rcases G2.out with e | e
                    · left; right; exact ⟨_, List.mem_of_getElem? HX.out, e.symm⟩
                    · right; exact Nat.le_trans OW.out.size e
                  · exact .inl (.inr ⟨z, List.mem_of_getElem? hz, rfl⟩)
            have hsm : ∀ j z, j ≠ row → (X.set row ⟨g2, c2, L.take i ++ r :: L.drop i⟩)[j]? = some z → z.L.length ≤ 128 := fun j z hj hz => by
              rw [List.getElem?_set_ne (fun e => hj e.symm)] at hz
              exact HL.out z (List.mem_of_getElem? hz)
            have hIP := HINS.out ⟨g2, c2, L.take i ++ r :: L.drop i⟩ rfl
            have SE := hidOf sE
            have HSM := hidOf hsm
            have HIP := hidOf hIP
            have HX3 := hidOf hx3
            have HB4 := hidOf hb4
            by_cases hbig : n + 1 ≤ 128
            · have hbI : ¬ ((128 : Int) < (n : Int) + 1) := by omega
              clear sE hsm hIP hx3 hb4
              go_wp2
              go_end0
              refine ⟨⟨_, rfl⟩, _, _, SE.out, HIP.out, fun z hz => ?_⟩
              obtain ⟨j, hj, e⟩ := List.getElem_of_mem hz
              have hz2 : (X.set row ⟨g2, c2, L.take i ++ r :: L.drop i⟩)[j]? = some z := by rw [← e]; exact List.getElem?_eq_getElem hj
              by_cases hjr : j = row
              · subst hjr
                rw [HX3.out] at hz2
                cases hz2
                show (L.take i ++ r :: L.drop i).length ≤ 128
                rw [E3L.out]; exact hbig
              · exact HSM.out j z hjr hz2
            · have hbI : (128 : Int) < (n : Int) + 1 := by omega
              have SPC := hidOf (split_any w3 B s o (cs.setIfInBounds o (.slice (some ⟨gR, 0, none⟩) X.length vc)) t (.slice (some ⟨gR, 0, none⟩) X.length vc) (X.set row ⟨g2, c2, L.take i ++ r :: L.drop i⟩) row ⟨g2, c2, L.take i ++ r :: L.drop i⟩ SH3.out sE.blk (by
                have ho := (Array.getElem?_eq_some_iff.1 HCS.out).1
                rw [Array.getElem?_setIfInBounds, if_pos rfl, if_pos ho]) (fun hk => by
                  rcases sE.fp s hk with h1 | h1
                  · exact HS.out h1
                  · omega) hBs hx3 (by show 2 ≤ (L.take i ++ r :: L.drop i).length; rw [E3L.out]; omega) (by rw [hXsl]; exact HNN.out))
              clear sE hsm hIP hx3 hb4
              go_wp2_with (go_at_call 82; refine SPC.out.mono ?_; rintro e w5 ⟨⟨q, rfl⟩, v5, X5, se5, hf5, hz5⟩; have SE5 := hidOf se5; have HF5 := hidOf hf5; have HZ5 := hidOf hz5; clear se5 hf5 hz5)
              go_end0
              refine ⟨⟨_, rfl⟩, v5, X5, SE.out.trans SE5.out, by rw [HF5.out]; exact HIP.out, fun z hz => ?_⟩
              rcases HZ5.out z hz with ⟨j, hj, e⟩ | e
              · exact HSM.out j z hj e
              · have e9 : z.L.length * 2 ≤ (L.take i ++ r :: L.drop i).length + 1 := e
                rw [E3L.out] at e9; omega
    · rw [if_pos (by rfl)]
      go_simp
      first | rw [← HwB.out] | (change K15 _ (w1.drew.alloc _); rw [← HwB.out])
      refine hK15.out _ _ ⟨hs2, b02, b12⟩ (fun hHeld15 => ?_)
      refine wpAnyH_ready (rs := [11]) (by kernel_rfl) (by simp) ?_
      refine (AllReadyH.cons rfl (fun K11 hK11 => ?_) AllReadyH.nil)
      · rw [if_pos (by rfl)]
        go_simp
        refine hK11.out _ _ (by assumption) (fun hHeld11 => ?_)
        refine wpAnyH_ready (rs := [16]) (by kernel_rfl) (by simp) ?_
        refine (AllReadyH.cons rfl (fun K16 hK16 => ?_) AllReadyH.nil)
        · rw [if_pos (by rfl)]
          go_simp
          go_at_call 81
          refine (INS.out).mono ?_
          rintro e w2 ⟨g2, c2, rfl, hown2, hc2, hg2⟩
          have C2 := hidOf hc2
          have hs3 := hc2.cell hs2 hsg
          have b03 := hc2.cell b02 hbg
          have b13 := hc2.cell b12 hbg
          have hr3 := hc2.cell hr2 hgx
          have hf3 : w2.frozen? ⟨gR, row, none⟩ = false := by rw [World.frozen?_of_block (hc2.block gR (World.block_lt_of_cell? wB ⟨gR, row, none⟩ hr2) hgx)]; exact hf2
          have hLl : (L.take i ++ r :: L.drop i).length = n + 1 := by rw [List.length_append, List.length_cons, List.length_take, List.length_drop, ← hn.out]; omega
          have e2 : rwV ⟨g2, c2, L.take i ++ r :: L.drop i⟩ = .slice (some ⟨g2, 0, none⟩) (n + 1) c2 := by show Value.slice _ (L.take i ++ r :: L.drop i).length _ = _; rw [hLl]
          have e3 : (rowG L).take (i * 2) ++ ([.int .u64 rf, .slice ra rn rc] ++ (rowG L).drop (i * 2)) = rowG (L.take i ++ r :: L.drop i) := by rw [rowG_app, rowG_cons, rowG_take L i (by rw [← hn.out]; exact hil), rowG_drop L i (by rw [← hn.out]; exact hil), HCSR.out]
          rw [e3] at hown2
          obtain ⟨sh3, c3⟩ := SR.out w2 ⟨g2, c2, L.take i ++ r :: L.drop i⟩ hc2 (by rw [e2]; show w2.ownsRow B 36 2 _ (L.take i ++ r :: L.drop i).length _; rw [hLl]; exact hown2) hg2 (by intro e; have e9 : L.take i ++ r :: L.drop i = [] := e; rw [e9] at hLl; simp at hLl) (by show (L.take i ++ r :: L.drop i).length ≤ 129; rw [hLl]; omega)
          rw [e2] at sh3 c3
          obtain ⟨w3, H3, SH3, C3⟩ : ∃ w3, Hid (w3 = w2.setCell ⟨gR, row, none⟩ (.slice (some ⟨g2, 0, none⟩) (n + 1) c2)) ∧ Hid (Sh B w3 (.slice (some ⟨gR, 0, none⟩) X.length vc) (X.set row ⟨g2, c2, L.take i ++ r :: L.drop i⟩)) ∧ Hid (Chg (fun b => b = gR ∨ b = g) wB w3) := ⟨_, rfl, sh3, c3⟩
          have G2 := hidOf hg2
          have E3L := hidOf hLl
          clear hg2 hLl e2 e3 sh3 c3 hown2 hc2
          refine hK16.out _ _ ⟨hs3, b03, b13⟩ (fun hHeld16 => ?_)
          refine tkLB [17] ?_
          iterate 1 (refine tkLC (v := ?_) rfl rfl (by kernel_rfl) (by kernel_rfl) (by kernel_rfl) (fun _ _ _ h => h) (by rfl) (by assumption) ?_ ?_; rotate_left; (· (intro w hSw; (try dsimp only at hSw); go_simp; (try with_reducible rfl))); simp only [Act.put, List.setIfInBounds_toArray, List.set_cons_zero, List.set_cons_succ])
          refine tkLE ?_
          refine wpAnyH_ready (rs := [18]) (by kernel_rfl) (by simp) ?_
          refine (AllReadyH.cons rfl (fun K18 hK18 => ?_) AllReadyH.nil)
          · rw [if_pos (by rfl)]
            go_simp
            rw [← H3.out]
            refine hK18.out _ _ ⟨C3.out.cell hs2 (by simp [hsg, hsR]), C3.out.cell b02 (by simp [hbg, hbR]), C3.out.cell b12 (by simp [hbg, hbR])⟩ (fun hHeld18 => ?_)
            refine wpAnyH_done (by kernel_rfl) ?_ _
            have hs4 : w3.cell? ⟨s, o, none⟩ = some (.slice (some ⟨gR, 0, none⟩) N vc) := C3.out.cell hs2 (by simp [hsg, hsR])
            have hr4 : w3.cell? ⟨gR, row, none⟩ = some (.slice (some ⟨g2, 0, none⟩) (n + 1) c2) := by
              rw [H3.out]
              obtain ⟨cu, hcu⟩ : ∃ cu, w2.heap[gR]? = some (.cells cu 22 (0, 0)) := by
                obtain ⟨cu, h9, _⟩ := owns_blk (own_out (B := B) H.out.own OW.out)
                exact ⟨_, blk_chg h9 C2.out hgx⟩
              rw [cell_B (set_B hcu row _)]
              have hlt : row < cu.size := by
                rw [cell_B hcu] at hr3
                exact (Array.getElem?_eq_some_iff.1 hr3).1
              simp [hlt]
            have hb4 := blk_chg (blk_out HB.out OW.out) C3.out (by simp [hsg, hsR])
            have hx3 : (X.set row ⟨g2, c2, L.take i ++ r :: L.drop i⟩)[row]? = some ⟨g2, c2, L.take i ++ r :: L.drop i⟩ := by rw [List.getElem?_set_self (List.getElem?_eq_some_iff.1 HX.out).1]
            have hXsl : (X.set row ⟨g2, c2, L.take i ++ r :: L.drop i⟩).length = X.length := List.length_set
            have sE : ShE B s o cs t w w3 (.slice (some ⟨gR, 0, none⟩) X.length vc) X (.slice (some ⟨gR, 0, none⟩) X.length vc) (X.set row ⟨g2, c2, L.take i ++ r :: L.drop i⟩) := by
              refine ⟨SH3.out, ?_, ?_, fun k hk => ?_⟩
              · rw [hb4]
                have ho := (Array.getElem?_eq_some_iff.1 HCS.out)
                obtain ⟨ho1, ho2⟩ := ho
                congr 2
                apply Array.ext_getElem?
                intro q
                rw [Array.getElem?_setIfInBounds]
                by_cases hq : o = q
                · subst hq; rw [if_pos rfl, if_pos ho1]; exact HCS.out
                · rw [if_neg hq]
              · exact (Chg.of_out OW.out).trans C3.out (fun b hb _ => by
                  rcases hb with rfl | rfl
                  · exact .inr (.inl rfl)
                  · exact .inr (.inr ⟨_, List.mem_of_getElem? HX.out, rfl⟩))
              · rcases hk with hk | ⟨z, hz, rfl⟩
                · exact .inl (.inl hk)
                · rcases mem_set hz with rfl | ⟨j, hj, hz⟩
                  · rcases G2.out with e | e
                    · left; right; exact ⟨_, List.mem_of_getElem? HX.out, e.symm⟩
                    · right; exact Nat.le_trans OW.out.size e
                  · exact .inl (.inr ⟨z, List.mem_of_getElem? hz, rfl⟩)
            have hsm : ∀ j z, j ≠ row → (X.set row ⟨g2, c2, L.take i ++ r :: L.drop i⟩)[j]? = some z → z.L.length ≤ 128 := fun j z hj hz => by
              rw [List.getElem?_set_ne (fun e => hj e.symm)] at hz
              exact HL.out z (List.mem_of_getElem? hz)
            have hIP := HINS.out ⟨g2, c2, L.take i ++ r :: L.drop i⟩ rfl
            have SE := hidOf sE
            have HSM := hidOf hsm
            have HIP := hidOf hIP
            have HX3 := hidOf hx3
            have HB4 := hidOf hb4
            by_cases hbig : n + 1 ≤ 128
            · have hbI : ¬ ((128 : Int) < (n : Int) + 1) := by omega
              clear sE hsm hIP hx3 hb4
              go_wp2
              go_end0
              refine ⟨⟨_, rfl⟩, _, _, SE.out, HIP.out, fun z hz => ?_⟩
              obtain ⟨j, hj, e⟩ := List.getElem_of_mem hz
              have hz2 : (X.set row ⟨g2, c2, L.take i ++ r :: L.drop i⟩)[j]? = some z := by rw [← e]; exact List.getElem?_eq_getElem hj
              by_cases hjr : j = row
              · subst hjr
                rw [HX3.out] at hz2
                cases hz2
                show (L.take i ++ r :: L.drop i).length ≤ 128
                rw [E3L.out]; exact hbig
              · exact HSM.out j z hjr hz2
            · have hbI : (128 : Int) < (n : Int) + 1 := by omega
              have SPC := hidOf (split_any w3 B s o (cs.setIfInBounds o (.slice (some ⟨gR, 0, none⟩) X.length vc)) t (.slice (some ⟨gR, 0, none⟩) X.length vc) (X.set row ⟨g2, c2, L.take i ++ r :: L.drop i⟩) row ⟨g2, c2, L.take i ++ r :: L.drop i⟩ SH3.out sE.blk (by
                have ho := (Array.getElem?_eq_some_iff.1 HCS.out).1
                rw [Array.getElem?_setIfInBounds, if_pos rfl, if_pos ho]) (fun hk => by
                  rcases sE.fp s hk with h1 | h1
                  · exact HS.out h1
                  · omega) hBs hx3 (by show 2 ≤ (L.take i ++ r :: L.drop i).length; rw [E3L.out]; omega) (by rw [hXsl]; exact HNN.out))
              clear sE hsm hIP hx3 hb4
              go_wp2_with (go_at_call 82; refine SPC.out.mono ?_; rintro e w5 ⟨⟨q, rfl⟩, v5, X5, se5, hf5, hz5⟩; have SE5 := hidOf se5; have HF5 := hidOf hf5; have HZ5 := hidOf hz5; clear se5 hf5 hz5)
              go_end0
              refine ⟨⟨_, rfl⟩, v5, X5, SE.out.trans SE5.out, by rw [HF5.out]; exact HIP.out, fun z hz => ?_⟩
              rcases HZ5.out z hz with ⟨j, hj, e⟩ | e
              · exact HSM.out j z hj e
              · have e9 : z.L.length * 2 ≤ (L.take i ++ r :: L.drop i).length + 1 := e
                rw [E3L.out] at e9; omega
end Go.Proofs.YtekjfbmebekmeaaGreat
