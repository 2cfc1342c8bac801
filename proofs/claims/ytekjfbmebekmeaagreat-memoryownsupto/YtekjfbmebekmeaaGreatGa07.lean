import Derived.Test.YtekjfbmebekmeaaGreatGa06
namespace Go.Proofs.YtekjfbmebekmeaaGreat
open Go.RowKit
set_option linter.unusedVariables false
set_option linter.unusedSimpArgs false
theorem own_base {w : World} {B B' k n : Nat} {E : TypeId} {v : Value} {xs : List Value} (h : w.ownsRow B' E k v n xs) (hb : B ≤ B') : w.ownsRow B E k v n xs := ⟨h.1, h.2.imp id (fun ⟨g, cap, cur, e, h1, r⟩ => ⟨g, cap, cur, e, Nat.le_trans hb h1, r⟩)⟩
structure ShE (B s o : Nat) (cs : Array Value) (t : TypeId) (w w' : World) (v : Value) (X : List Rw) (v' : Value) (X' : List Rw) : Prop where
  sh : Sh B w' v' X'
  blk : w'.heap[s]? = some (.cells (cs.setIfInBounds o v') t (0, 0))
  chg : Chg (fun k => k = s ∨ fpS v X k) w w'
  fp : ∀ k, fpS v' X' k → fpS v X k ∨ w.heap.size ≤ k
set_option maxHeartbeats 4000000 in
set_option maxRecDepth 100000 in
theorem split_any (w : World) (B s o : Nat) (cs : Array Value) (t : TypeId) (v : Value) (X : List Rw) (row : Nat) (x : Rw) (h : Sh B w v X) (hb : w.heap[s]? = some (.cells cs t (0, 0))) (hcs : cs[o]? = some v) (hs : ¬ fpS v X s) (hBs : B ≤ s) (hx : X[row]? = some x) (h2 : 2 ≤ x.L.length) (hN : (X.length + 1) * 24 ≤ 140737488355328) :
    Calls Tryz.prog 82 #[.pointer (some ⟨s, o, none⟩), .int .i64 (row : Nat)] w fun e w' => (∃ q, e = .returned q) ∧ ∃ v' X', ShE B s o cs t w w' v X v' X' ∧ flat X' = flat X ∧ ∀ z ∈ X', (∃ j, j ≠ row ∧ X[j]? = some z) ∨ z.L.length * 2 ≤ x.L.length + 1 := by
  obtain ⟨gR, cR, rfl, hr, hrf, hgx⟩ := h.at_ hx
  have hxm := List.mem_of_getElem? hx
  have hrow := (List.getElem?_eq_some_iff.1 hx).1
  obtain ⟨g, c, L⟩ := x
  simp only at hr hgx h2
  have hL9 : L.length ≤ 129 := h.le _ hxm
  have own0 : w.ownsRow B 36 2 (.slice (some ⟨g, 0, none⟩) L.length c) L.length (rowG L) := h.rows _ hxm
  obtain ⟨n, hn⟩ : ∃ n, Hid (n = L.length) := ⟨_, rfl⟩
  rw [← hn.out] at hr h2 hL9 own0
  obtain ⟨m, hm⟩ : ∃ m, Hid (m = n / 2) := ⟨_, rfl⟩
  have hm1 : 0 < m := by have := hm.out; omega
  have hm2 : m < n := by have := hm.out; omega
  obtain ⟨cur, hcg, hBg, hnc, hcm, hcl, hct, hcn⟩ := owns_blk own0
  have hcs0 : w.cell? ⟨s, o, none⟩ = some (.slice (some ⟨gR, 0, none⟩) X.length cR) := by rw [cell_B hb]; exact hcs
  obtain ⟨N, hNN⟩ : ∃ N, Hid (N = X.length) := ⟨_, rfl⟩
  have hrowI : (row : Int) < (N : Int) := by rw [hNN.out]; omega
  have hNI : (N + 1) * 24 ≤ 140737488355328 := by rw [hNN.out]; exact hN
  rw [← hNN.out] at hcs0
  have ho8 : o < cs.size := (Array.getElem?_eq_some_iff.1 hcs).1
  have hsg : s ≠ g := fun e => hs (.inr ⟨_, hxm, e.symm⟩)
  have hsR : s ≠ gR := fun e => hs (.inl (by rw [e]; rfl))
  have HQ : Hid (((n : Int)).tdiv 2 = (m : Int)) := hidOf (by rw [Int.tdiv_eq_ediv_of_nonneg (by omega)]; have := hm.out; omega)
  have HQ2 : Hid (((n : Int)) / 2 = (m : Int)) := hidOf (by have := hm.out; omega)
  have hq1 := HQ.out
  have hq2 := HQ2.out
  have hwm : IntKind.i64.wrap (m : Int) = (m : Int) := by rw [IntKind.wrap_i64]; omega
  have hmn : (m : Int) ≤ (n : Int) := by omega
  have hcm0 : ¬ (c = m) := by omega
  have CLO := hidOf (clone_any w g (m * 2) (n - m) (c - m) ((rowG L).drop (m * 2)) (by omega) (by rw [List.length_drop, hcn]; omega) (fun j u hj => (own_cellK own0 (j := m * 2 + j) (by rwa [List.getElem?_drop] at hj)).1) (fun u hu => rowG_one L u (List.mem_of_mem_drop hu)) (by omega))
  have H := hidOf h
  have HB := hidOf hb
  have HX := hidOf hx
  have HS := hidOf hs
  have HCS := hidOf hcs
  have OWN := hidOf own0
  clear h hb hx hs hcs own0 hcg hcl hct hcn hrow hxm hN
  go_enter Tryz.func82, Tryz.ntmps82
  go_upto_region 3 with (go_at_call 107; refine CLO.out.mono ?_; rintro e w1 ⟨g2, c2, rfl, hown, ho1⟩; have HO := hidOf hown; have O1 := hidOf ho1; clear hown ho1)
  have own1 := own_out OWN.out O1.out
  have DEL1 := hidOf (delete_any w1.drew B g n c m (rowG L) own1 hm2 (rowG_one L))
  have hs1 := cell_later O1.out hcs0
  have hr1 := cell_later O1.out hr
  have hf1 : w1.frozen? ⟨gR, row, none⟩ = false := by rw [World.frozen?_of_block (O1.out.block gR (World.block_lt_of_cell? w ⟨gR, row, none⟩ hr))]; exact hrf
  have hl1 : (L.take m).length = m := by rw [List.length_take, ← hn.out]; omega
  have hl2 : (L.drop m).length = n - m := by rw [List.length_drop, ← hn.out]
  have H1 := H.out.out (O1.out.drew)
  have SR := hidOf (fun w2 (cw : Chg (fun b => b = g) w1.drew w2) ow => Sh.setRow H1 HX.out ⟨g, c, L.take m⟩ cw ow (.inl rfl) (by intro e; have e2 : L.take m = [] := e; rw [e2] at hl1; simp at hl1; omega) (by show (L.take m).length ≤ 129; rw [hl1]; omega))
  refine wp_region_held_drew (S := fun w' => w'.cell? ⟨s, o, none⟩ = some (.slice (some ⟨gR, 0, none⟩) N cR)) (by kernel_rfl) ?_ (fun hHeld => ?_)
  · exact hs1
  refine wpAnyH_take (i := 0) (v := ?_) rfl (by kernel_rfl) (by kernel_rfl) (by kernel_rfl) (fun _ _ _ h => h) (Or.inl ⟨by rfl, ?_⟩) (by assumption) ?_
  rotate_left
  · (intro w hSw; (try dsimp only at hSw); go_simp; (try with_reducible rfl))
  show wpAnyH _ _ _ _ _ _ _ (Act.put _ (some 21) _) _
  simp only [Act.put, List.setIfInBounds_toArray, List.set_cons_zero, List.set_cons_succ]
  refine wpAnyH_take (i := 1) (v := ?_) rfl (by kernel_rfl) (by kernel_rfl) (by kernel_rfl) (fun _ _ _ h => h) (Or.inl ⟨by rfl, ?_⟩) (by assumption) ?_
  rotate_left
  · (intro w hSw; (try dsimp only at hSw); go_simp; (try with_reducible rfl))
  show wpAnyH _ _ _ _ _ _ _ (Act.put _ (some 22) _) _
  simp only [Act.put, List.setIfInBounds_toArray, List.set_cons_zero, List.set_cons_succ]
  refine wpAnyH_take (i := 2) (v := ?_) rfl (by kernel_rfl) (by kernel_rfl) (by kernel_rfl) (fun _ _ _ h => h) (Or.inl ⟨by rfl, ?_⟩) (by assumption) ?_
  rotate_left
  · (intro w hSw; (try dsimp only at hSw); go_simp; (try with_reducible rfl))
  show wpAnyH _ _ _ _ _ _ _ (Act.put _ (some 23) _) _
  simp only [Act.put, List.setIfInBounds_toArray, List.set_cons_zero, List.set_cons_succ]
  refine wpAnyH_take (i := 3) (v := ?_) rfl (by kernel_rfl) (by kernel_rfl) (by kernel_rfl) (fun _ _ _ h => h) (Or.inl ⟨by rfl, ?_⟩) (by assumption) ?_
  rotate_left
  · (intro w hSw; (try dsimp only at hSw); go_simp; (try with_reducible rfl))
  show wpAnyH _ _ _ _ _ _ _ (Act.put _ (some 24) _) _
  simp only [Act.put, List.setIfInBounds_toArray, List.set_cons_zero, List.set_cons_succ]
  refine wpAnyH_take (i := 4) (v := ?_) rfl (by kernel_rfl) (by kernel_rfl) (by kernel_rfl) (fun _ _ _ h => h) (Or.inl ⟨by rfl, ?_⟩) (by assumption) ?_
  rotate_left
  · (intro w hSw; (try dsimp only at hSw); go_simp; (try with_reducible rfl))
  show wpAnyH _ _ _ _ _ _ _ (Act.put _ (some 25) _) _
  simp only [Act.put, List.setIfInBounds_toArray, List.set_cons_zero, List.set_cons_succ]
  refine wpAnyH_take (i := 5) (v := ?_) rfl (by kernel_rfl) (by kernel_rfl) (by kernel_rfl) (fun _ _ _ h => h) (Or.inl ⟨by rfl, ?_⟩) (by assumption) ?_
  rotate_left
  · (intro w hSw; (try dsimp only at hSw); go_simp; (try with_reducible rfl))
  show wpAnyH _ _ _ _ _ _ _ (Act.put _ (some 26) _) _
  simp only [Act.put, List.setIfInBounds_toArray, List.set_cons_zero, List.set_cons_succ]
  refine wpAnyH_take (i := 6) (v := ?_) rfl (by kernel_rfl) (by kernel_rfl) (by kernel_rfl) (fun _ _ _ h => h) (Or.inl ⟨by rfl, ?_⟩) (by assumption) ?_
  rotate_left
  · (intro w hSw; (try dsimp only at hSw); go_simp; (try with_reducible rfl))
  show wpAnyH _ _ _ _ _ _ _ (Act.put _ (some 27) _) _
  simp only [Act.put, List.setIfInBounds_toArray, List.set_cons_zero, List.set_cons_succ]
  refine wpAnyH_take (i := 7) (v := ?_) rfl (by kernel_rfl) (by kernel_rfl) (by kernel_rfl) (fun _ _ _ h => h) (Or.inl ⟨by rfl, ?_⟩) (by assumption) ?_
  rotate_left
  · (intro w hSw; (try dsimp only at hSw); go_simp; (try with_reducible rfl))
  show wpAnyH _ _ _ _ _ _ _ (Act.put _ (some 28) _) _
  simp only [Act.put, List.setIfInBounds_toArray, List.set_cons_zero, List.set_cons_succ]
  refine wpAnyH_take (i := 8) (v := ?_) rfl (by kernel_rfl) (by kernel_rfl) (by kernel_rfl) (fun _ _ _ h => h) (Or.inl ⟨by rfl, ?_⟩) (by assumption) ?_
  rotate_left
  · (intro w hSw; (try dsimp only at hSw); go_simp; (try with_reducible rfl))
  show wpAnyH _ _ _ _ _ _ _ (Act.put _ (some 29) _) _
  simp only [Act.put, List.setIfInBounds_toArray, List.set_cons_zero, List.set_cons_succ]
  refine wpAnyH_ready (rs := [9]) (by kernel_rfl) (by simp) ?_
  refine (AllReadyH.cons rfl (fun K9 hK9 => ?_) AllReadyH.nil)
  · rw [if_pos (by rfl)]
    go_simp
    go_at_call 83
    refine (DEL1.out).mono ?_
    rintro e w2 ⟨rfl, hown2, hc2⟩
    have c2s : w2.cell? ⟨s, o, none⟩ = some (.slice (some ⟨gR, 0, none⟩) N cR) := hc2.cell (show w1.drew.cell? ⟨s, o, none⟩ = _ from hs1) hsg
    have c2r := hc2.cell (show w1.drew.cell? ⟨gR, row, none⟩ = _ from hr1) hgx
    have f2r : w2.frozen? ⟨gR, row, none⟩ = false := by rw [World.frozen?_of_block (hc2.block gR (World.block_lt_of_cell? w1 ⟨gR, row, none⟩ hr1) hgx)]; exact hf1
    obtain ⟨w3, H3, sh3, c3⟩ : ∃ w3, Hid (w3 = w2.setCell ⟨gR, row, none⟩ (.slice (some ⟨g, 0, none⟩) m c)) ∧ Sh B w3 (.slice (some ⟨gR, 0, none⟩) X.length cR) (X.set row ⟨g, c, L.take m⟩) ∧ Chg (fun b => b = gR ∨ b = g) w1.drew w3 := by
      have hh := SR.out w2 hc2 (by rw [rowG_take L m (by rw [← hn.out]; omega)] at hown2; show w2.ownsRow B 36 2 (.slice (some ⟨g, 0, none⟩) (L.take m).length c) (L.take m).length (rowG (L.take m)); rw [hl1]; exact hown2)
      have e : rwV ⟨g, c, L.take m⟩ = .slice (some ⟨g, 0, none⟩) m c := by show Value.slice _ (L.take m).length _ = _; rw [hl1]
      rw [e] at hh
      exact ⟨_, rfl, hh.1, hh.2⟩
    have SH3 := hidOf sh3
    have C3 := hidOf c3
    clear sh3 c3 hown2 hc2
    refine hK9.out _ _ c2s (fun hHeld9 => ?_)
    refine wpAnyH_take (i := 10) (v := ?_) rfl (by kernel_rfl) (by kernel_rfl) (by kernel_rfl) (fun _ _ _ h => h) (Or.inl ⟨by rfl, ?_⟩) (by assumption) ?_
    rotate_left
    · (intro w hSw; (try dsimp only at hSw); go_simp; (try with_reducible rfl))
    show wpAnyH _ _ _ _ _ _ _ (Act.put _ (some 31) _) _
    simp only [Act.put, List.setIfInBounds_toArray, List.set_cons_zero, List.set_cons_succ]
    refine wpAnyH_ready (rs := [11]) (by kernel_rfl) (by simp) ?_
    refine (AllReadyH.cons rfl (fun K11 hK11 => ?_) AllReadyH.nil)
    · rw [if_pos (by rfl)]
      go_simp
      rw [← H3.out]
      refine hK11.out _ _ (C3.out.cell (show w1.drew.cell? ⟨s, o, none⟩ = _ from hs1) (by simp [hsg, hsR])) (fun hHeld11 => ?_)
      refine wpAnyH_done (by kernel_rfl) ?_ _
      have hs3 : w3.cell? ⟨s, o, none⟩ = some (.slice (some ⟨gR, 0, none⟩) N cR) := C3.out.cell (show w1.drew.cell? ⟨s, o, none⟩ = _ from hs1) (by simp [hsg, hsR])
      obtain ⟨wA, HA, bA, oA⟩ : ∃ wA, Hid (wA = w3.alloc (.cells #[.slice (some ⟨g2, 0, none⟩) (n - m) c2] 22)) ∧ wA.heap[w3.heap.size]? = some (.cells #[.slice (some ⟨g2, 0, none⟩) (n - m) c2] 22 (0, 0)) ∧ Out w3 wA := ⟨_, rfl, heap_alloc_new _ _, (Out.refl _).alloc _⟩
      have OA := hidOf oA
      have hSA := SH3.out.out oA
      have hgR3 : gR < w3.heap.size := (SH3.out.own.lt gR rfl).2
      have hXl : (X.set row ⟨g, c, L.take m⟩).length = N := by rw [List.length_set, hNN.out]
      have ownR := hSA.own
      rw [hXl, ← hNN.out] at ownR
      have INS0 := insertW_any wA B gR N cR (row + 1) w3.heap.size ((X.set row ⟨g, c, L.take m⟩).map rwV) [.slice (some ⟨g2, 0, none⟩) (n - m) c2] ownR (by omega) (by omega) bA rfl (by omega) (rwV_one _) (by intro u hu; simp at hu; subst hu; rfl) hNI
      rw [show ((row + 1 : Nat) : Int) = (row : Int) + 1 by omega] at INS0
      have INS := hidOf INS0
      have BA := hidOf bA
      have HOR := hidOf ownR
      clear INS0 bA oA hSA ownR DEL1 SR H1 own1
      have hb3 := hidOf (blk_chg (blk_out HB.out O1.out.drew) C3.out (by simp [hsg, hsR]))
      go_wp2_with (go_at_call 108; rw [← HA.out]; refine INS.out.mono ?_; rintro e w4 ⟨g', c', rfl, hown4, hc4, hg4⟩; have b4 := blk_chg (blk_out hb3.out OA.out) hc4 hsR; have c4s : w4.cell? ⟨s, o, none⟩ = some (.slice (some ⟨gR, 0, none⟩) N cR) := hc4.cell (cell_later OA.out hs3) hsR; have f4s : w4.frozen? ⟨s, o, none⟩ = false := froz_B b4 o; have B4 := hidOf b4; have O4 := hidOf hown4; have C4 := hidOf hc4; have G4 := hidOf hg4; clear hown4 hc4 hg4 b4)
      go_end0
      have hlX := HX.out
      have e0 : (X.set row ⟨g, c, L.take m⟩).take (row + 1) = X.take row ++ [⟨g, c, L.take m⟩] := by
        have hrl := (List.getElem?_eq_some_iff.1 hlX).1
        rw [set_split hlX, List.take_append, List.length_take, Nat.min_eq_left (by omega), List.take_of_length_le (by rw [List.length_take]; omega), show row + 1 - row = 1 by omega]
        rfl
      have e1 : (X.set row ⟨g, c, L.take m⟩).drop (row + 1) = X.drop (row + 1) := by
        have hrl := (List.getElem?_eq_some_iff.1 hlX).1
        rw [set_split hlX, List.drop_append, List.length_take, Nat.min_eq_left (by omega), List.drop_eq_nil_of_le (by rw [List.length_take]; omega), show row + 1 - row = 1 by omega]
        rfl
      have hXl2 : row + 1 ≤ (X.set row ⟨g, c, L.take m⟩).length := by rw [hXl]; omega
      have hmemX : ∀ z, z ∈ X.set row ⟨g, c, L.take m⟩ → z.g < w.heap.size := fun z hz => by
        rcases mem_set hz with rfl | ⟨j, _, hz⟩
        · exact ((H.out.rows _ (List.mem_of_getElem? hlX)).lt g rfl).2
        · exact ((H.out.rows z (List.mem_of_getElem? hz)).lt z.g rfl).2
      have hg2w : w.heap.size ≤ g2 := (HO.out.lt g2 rfl).1
      have hgRw : gR < w.heap.size := (H.out.own.lt gR rfl).2
      have oy3 : w3.ownsRow B 36 2 (rwV ⟨g2, c2, L.drop m⟩) (L.drop m).length (rowG (L.drop m)) := by
        have h9 := own_base (B := B) HO.out (Nat.le_trans (H.out.own.lt gR rfl).1 (Nat.le_of_lt hgRw))
        rw [rowG_drop L m (by rw [← hn.out]; omega)] at h9
        have h8 := own_chg (show w1.drew.ownsRow _ _ _ _ _ _ from own_out h9 (Out.refl w1).drew) C3.out (fun b hb => by simp [Value.ownBlock] at hb; subst hb; have := ((H.out.rows _ (List.mem_of_getElem? hlX)).lt g rfl).2; simp; omega)
        show w3.ownsRow B 36 2 (.slice (some ⟨g2, 0, none⟩) (L.drop m).length c2) (L.drop m).length _
        rw [hl2]; exact h8
      have e5 : [Value.slice (some ⟨g2, 0, none⟩) (n - m) c2] = [rwV ⟨g2, c2, L.drop m⟩] := by show _ = [Value.slice _ (L.drop m).length _]; rw [hl2]
      have ho4 := O4.out
      rw [e5] at ho4
      simp only [Nat.mul_one] at ho4
      have sh4 := Sh.insRow (row := row + 1) (w1 := w4) (v' := .slice (some ⟨g', 0, none⟩) (N + 1) c') (SH3.out.out OA.out) ⟨g2, c2, L.drop m⟩ (own_out oy3 OA.out) (fun x hx => by have := hmemX x hx; show x.g ≠ g2; omega) (by simp [Value.ownBlock]; omega) (by intro e; have e2 : L.drop m = [] := e; rw [e2] at hl2; simp at hl2; omega) (by show (L.drop m).length ≤ 129; rw [hl2]; omega)
        (C4.out.mono (fun b hb _ => by subst hb; rfl)) (by rw [hXl]; exact ho4) (by
          rcases G4.out with e | e
          · left; rw [e]; rfl
          · right; intro k hk; simp [Value.ownBlock] at hk; omega) hXl2
      rw [e0, e1] at sh4
      have hfp : ∀ k, fpS (.slice (some ⟨g', 0, none⟩) (N + 1) c') (X.take row ++ [⟨g, c, L.take m⟩] ++ ⟨g2, c2, L.drop m⟩ :: X.drop (row + 1)) k → fpS (.slice (some ⟨gR, 0, none⟩) X.length cR) X k ∨ w.heap.size ≤ k := fun k hk => by
        rcases hk with hk | ⟨z, hz, rfl⟩
        · simp [Value.ownBlock] at hk
          subst hk
          rcases G4.out with e | e
          · left; left; rw [e]; rfl
          · right
            have h1 := OA.out.size
            have h2 := C3.out.size
            have h3 := O1.out.size
            have h4 : w1.drew.heap.size = w1.heap.size := rfl
            omega
        · simp only [List.mem_append, List.mem_cons, List.not_mem_nil, or_false] at hz
          rcases hz with (hz | hz) | hz | hz
          · exact .inl (.inr ⟨z, List.mem_of_mem_take hz, rfl⟩)
          · exact .inl (.inr ⟨_, List.mem_of_getElem? hlX, by rw [hz]⟩)
          · right; rw [hz]; exact hg2w
          · exact .inl (.inr ⟨z, List.mem_of_mem_drop hz, rfl⟩)
      have hsn : ¬ fpS (.slice (some ⟨g', 0, none⟩) (N + 1) c') (X.take row ++ [⟨g, c, L.take m⟩] ++ ⟨g2, c2, L.drop m⟩ :: X.drop (row + 1)) s := fun hk => by
        rcases hfp s hk with h1 | h1
        · exact HS.out h1
        · have := (Array.getElem?_eq_some_iff.1 HB.out).1; omega
      refine ⟨⟨_, rfl⟩, _, _, ⟨sh4.keep (Chg.setCell (S := fun k => k = s) (Chg.refl _ w4) (p := ⟨s, o, none⟩) rfl _) (fun k hk e => by subst e; exact hsn hk), set_B B4.out o _, ?_, hfp⟩, ?_, fun z hz => ?_⟩
      · have k1 : Chg (fun k => k = s ∨ fpS (.slice (some ⟨gR, 0, none⟩) X.length cR) X k) w w1 := Chg.of_out O1.out
        have k2 := k1.drew.trans (T := fun b => b = gR ∨ b = g) C3.out (fun b hb _ => by
          rcases hb with rfl | rfl
          · exact .inr (.inl rfl)
          · exact .inr (.inr ⟨_, List.mem_of_getElem? hlX, rfl⟩))
        have k3 := k2.trans (T := fun _ => False) (Chg.of_out OA.out) (fun _ hx _ => hx.elim)
        have k4 := k3.trans C4.out (fun b hb _ => by subst hb; exact .inr (.inl rfl))
        exact Chg.setCell (p := ⟨s, o, none⟩) k4 (.inl rfl) _
      · rw [flat_app, flat_app, flat_cons]
        conv => rhs; rw [at_split hlX]
        rw [flat_app, flat_cons]
        simp only [flat, List.flatMap_cons, List.flatMap_nil, List.append_nil, List.append_assoc]
        rw [← List.append_assoc (L.take m), List.take_append_drop]
      · simp only [List.mem_append, List.mem_cons, List.not_mem_nil, or_false] at hz
        have hrl := (List.getElem?_eq_some_iff.1 hlX).1
        rcases hz with (hz | hz) | hz | hz
        · obtain ⟨j, hj, e⟩ := List.getElem_of_mem hz
          rw [List.length_take] at hj
          refine .inl ⟨j, by omega, ?_⟩
          rw [← e, List.getElem_take]; exact List.getElem?_eq_getElem (by omega)
        · right; rw [hz]; show (L.take m).length * 2 ≤ L.length + 1; rw [hl1, ← hn.out]; have := hm.out; omega
        · right; rw [hz]; show (L.drop m).length * 2 ≤ L.length + 1; rw [hl2, ← hn.out]; have := hm.out; omega
        · obtain ⟨j, hj, e⟩ := List.getElem_of_mem hz
          rw [List.length_drop] at hj
          refine .inl ⟨row + 1 + j, by omega, ?_⟩
          rw [← e, List.getElem_drop]; exact List.getElem?_eq_getElem (by omega)
end Go.Proofs.YtekjfbmebekmeaaGreat
