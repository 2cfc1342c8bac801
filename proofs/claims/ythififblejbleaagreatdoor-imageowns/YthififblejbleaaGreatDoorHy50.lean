import Derived.Test.YthififblejbleaaGreatDoorHy45
import Derived.Test.YthififblejbleaaGreatDoorHy47
import Derived.Test.YthififblejbleaaGreatDoorHy49
import Derived.Test.YthififblejbleaaGreatDoorHy43
namespace Go.Proofs.YthififblejbleaaGreatDoor
open Go.RowKit
set_option linter.unusedVariables false
set_option linter.unusedSimpArgs false
theorem td_len17 {l : List UInt8} {N : List (List UInt8)} : ∀ (j p nx : Nat) (E : List Td) (ny : Nat), tdR l N j p nx = .ok (E, ny) → ∀ x ∈ E, x.nm.length ≤ (byP N).length
  | 0, p, nx, E, ny, h => by simp [tdR] at h; obtain ⟨rfl, _⟩ := h; simp
  | j + 1, p, nx, E, ny, h => by
    cases hn : nmT N nx (g4 l p) with
    | none => rw [td_n hn] at h; cases h
    | some y =>
      obtain ⟨x, nz⟩ := y
      rw [td_ok hn] at h
      cases hr : tdR l N j (p + 20) nz with
      | error q => rw [hr] at h; cases h
      | ok z =>
        obtain ⟨E', ny'⟩ := z
        rw [hr] at h
        simp only [Except.map, Except.ok.injEq, Prod.mk.injEq] at h
        obtain ⟨rfl, rfl⟩ := h
        intro y hy
        rcases List.mem_cons.1 hy with rfl | hy
        · exact (nmT_pos hn).2.2
        · exact td_len17 j (p + 20) nz E' ny' hr y hy
theorem BtA.rest17 {w : World} {g go : Nat} {l : List UInt8} (h : BtA w g go l) (hg : g < w.heap.size) : RestAt w.heap.size w (some ⟨g, go, none⟩) l := .inr ⟨g, go, hg, rfl, h⟩
set_option maxRecDepth 8000 in
set_option maxHeartbeats 8000000 in
theorem refRead_some (w : World) (g go n c : Nat) (l : List UInt8) (hl : l.length = n) (hnc : n ≤ c) (hb : BtA w g go l) (hg : g < w.heap.size) (hn : n ≤ 281474976710656) : Calls Tryz.prog 6 #[.slice (some ⟨g, go, none⟩) n c] w (RdE l w) := by
  obtain ⟨w2, hw2⟩ : ∃ x, Hid (x = (w.alloc (.cells #[.slice none 0 0, .slice none 0 0, .slice none 0 0, .int .i64 0] 26)).alloc (.cells #[.slice (some ⟨g, go, none⟩) n c, .int .i64 0, .int .i64 0, .int .i64 0, .int .i64 0, .slice none 0 0, .slice none 0 0, .int .i64 0] 81)) := ⟨_, rfl⟩
  obtain ⟨p, hp⟩ : ∃ p, Hid (p = w.heap.size + 1) := ⟨_, rfl⟩
  have hpw : w.heap.size < p := by rw [hp.out]; omega
  have O2 : Hid (Out w w2) := hidOf (by rw [hw2.out]; exact Out.alloc (Out.alloc (Out.refl _) _) _)
  have szw2 : w2.heap.size = p + 1 := by rw [hw2.out, size_alloc, size_alloc, hp.out]
  have BQ : Hid (w2.heap[w.heap.size]? = some (.cells #[.slice none 0 0, .slice none 0 0, .slice none 0 0, .int .i64 0] 26 (0, 0))) := hidOf (by rw [hw2.out]; exact ((Out.alloc (Out.refl (w.alloc _)) _).block w.heap.size (by rw [size_alloc]; omega)).trans (heap_alloc_new w _))
  have R2 : Hid (RgA w2 p (.slice (some ⟨g, go, none⟩) n c) 0 0 0 0 (.slice none 0 0) (.slice none 0 0) 0) := hidOf (by
    have := heap_alloc_new (w.alloc (.cells #[.slice none 0 0, .slice none 0 0, .slice none 0 0, .int .i64 0] 26)) (.cells #[.slice (some ⟨g, go, none⟩) n c, .int .i64 0, .int .i64 0, .int .i64 0, .int .i64 0, .slice none 0 0, .slice none 0 0, .int .i64 0] 81)
    rw [size_alloc, ← hw2.out, ← hp.out] at this; exact this)
  have OX : Hid (∀ wx, Chg (fun k => k = p) w2 wx → Out w wx) := hidOf fun wx cx => Chg.out cx O2.out (fun k hk => by omega)
  have hgp : ¬ g = p := by omega
  have HL := hidOf hl
  have HB := hidOf hb
  have B2 := hidOf (hb.outI O2.out)
  have CH := hidOf (head_any w2 p g go n c l hl hnc B2.out hgp hn R2.out)
  have hg2 : g < w2.heap.size := by omega
  clear hl hb
  cases hh : hdF l with
  | some q =>
    have CH' : Hid (Calls Tryz.prog 25 #[.pointer (some ⟨p, 0, none⟩)] w2 fun e w' => e = .returned (.int .i64 (q : Nat)) ∧ Chg (fun k => k = p) w2 w') := hidOf (CH.out.mono (fun e w' h => by
      obtain ⟨h1, ⟨q', h2, h3⟩ | ⟨h2, _⟩⟩ := h
      · rw [hh] at h2; cases h2; exact ⟨h3, h1⟩
      · rw [hh] at h2; cases h2))
    have HP : Hid (pasR l = .error q) := hidOf (by unfold pasR; rw [hh])
    have a1 : ¬ (q : Int) < 0 := by omega
    have a2 : (0 : Int) ≤ q := by omega
    clear hh CH
    go_enter Tryz.func6, Tryz.ntmps6
    go_upto_region 2 with fail
    rw [← hw2.out, ← hp.out]
    go_upto_region 3 with (go_at_call 25; refine CH'.out.mono ?_; rintro e w3 ⟨rfl, k3⟩; have K3 := hidOf k3; clear k3)
    have b5 := hidOf ((K3.out.block w.heap.size (by rw [szw2]; omega) (by omega)).trans BQ.out)
    have z0 : World.cell? w3 ⟨w.heap.size, 0, none⟩ = some (.slice none 0 0) := by rw [cell_atL b5.out]; rfl
    have z1 : World.cell? w3 ⟨w.heap.size, 1, none⟩ = some (.slice none 0 0) := by rw [cell_atL b5.out]; rfl
    have z2 : World.cell? w3 ⟨w.heap.size, 2, none⟩ = some (.slice none 0 0) := by rw [cell_atL b5.out]; rfl
    have z3 : World.cell? w3 ⟨w.heap.size, 3, none⟩ = some (.int .i64 0) := by rw [cell_atL b5.out]; rfl
    have g0 := frozen_atL b5.out 0
    have g1' := frozen_atL b5.out 1
    have g2 := frozen_atL b5.out 2
    have g3 := frozen_atL b5.out 3
    have OX5 := hidOf (OX.out _ K3.out)
    go_wp2
    refine bodyPost_ret (results_cell3 rfl _ _ w.heap.size 26 _ (0, 0) _ rfl (blk_set (blk_set (blk_set (blk_set b5.out _ _) _ _) _ _) _ _) Tryz.underlying26 rfl (by kernel_rfl)) rfl ?_
    have hr := rd_bad HP.out
    refine ⟨(((OX5.out.setCell (Nat.le_refl _) _).setCell (Nat.le_refl _) _ |>.setCell (Nat.le_refl _) _).setCell (Nat.le_refl _) _), none, 0, none, 0, none, 0, ?_, ?_, ?_, ?_⟩
    · rw [hr]; first | rfl | (simp <;> rfl)
    · rw [hr]; exact World.ownsRow_nil _ _ _ _
    · rw [hr]; exact World.ownsRow_nil _ _ _ _
    · rw [hr]; exact World.ownsRow_nil _ _ _ _
  | none =>
    obtain ⟨d28, _, hsz⟩ := hd_none hh
    rw [HL.out] at d28 hsz
    have HH := hidOf hh
    obtain ⟨S, hS⟩ : ∃ y, Hid (g4 l 8 = y) := ⟨_, rfl⟩
    obtain ⟨F, hF⟩ : ∃ y, Hid (g4 l 12 = y) := ⟨_, rfl⟩
    obtain ⟨D, hD⟩ : ∃ y, Hid (g4 l 16 = y) := ⟨_, rfl⟩
    obtain ⟨M, hM⟩ : ∃ y, Hid (g4 l 20 = y) := ⟨_, rfl⟩
    have bS : S < 4294967296 := by rw [← hS.out]; exact g4_lt _ _
    have bF : F < 4294967296 := by rw [← hF.out]; exact g4_lt _ _
    have bD : D < 4294967296 := by rw [← hD.out]; exact g4_lt _ _
    have bM : M < 4294967296 := by rw [← hM.out]; exact g4_lt _ _
    have hsz2 : Hid (28 + 8 * S + 16 * F + 20 * D + M = n) := hidOf (by rw [hS.out, hF.out, hD.out, hM.out] at hsz; exact hsz)
    have nb : n ≤ 200000000000 := by have := hsz2.out; omega
    have CH' : Hid (Calls Tryz.prog 25 #[.pointer (some ⟨p, 0, none⟩)] w2 fun e w' => e = .returned (.int .i64 (-1)) ∧ RgA w' p (.slice (some ⟨g, go, none⟩) n c) (S : Nat) (F : Nat) (D : Nat) (M : Nat) (.slice none 0 0) (.slice none 0 0) 0 ∧ Chg (fun k => k = p) w2 w') := hidOf (CH.out.mono (fun e w' h => by
      obtain ⟨h1, ⟨q', h2, h3⟩ | ⟨_, h2, h3⟩⟩ := h
      · rw [hh] at h2; cases h2
      · rw [hS.out, hF.out, hD.out, hM.out] at h3; exact ⟨h2, h3, h1⟩))
    clear hh CH hsz
    go_enter Tryz.func6, Tryz.ntmps6
    go_upto_region 2 with fail
    rw [← hw2.out, ← hp.out]
    go_upto_region 4 with (go_at_call 25; refine CH'.out.mono ?_; rintro e w3 ⟨rfl, r3, k3⟩; have R3 := hidOf r3; have K3 := hidOf k3; clear r3 k3)
    have B3 := hidOf (bt_chg B2.out K3.out hgp)
    have sz3 : p + 1 ≤ w3.heap.size := by have := K3.out.size; omega
    have CT := hidOf (text_any w3 p g go n c S l (F : Nat) (D : Nat) (M : Nat) HL.out hnc B3.out hgp (by omega) (by have := hsz2.out; omega) bS R3.out)
    cases htx : txR l S 28 with
    | error q =>
      have CT' : Hid (Calls Tryz.prog 26 #[.pointer (some ⟨p, 0, none⟩)] w3 fun e w' => e = .returned (.int .i64 (q : Nat)) ∧ Chg (fun k => k = p) w3 w') := hidOf (CT.out.mono (fun e w' h => by
        obtain ⟨q', h2, h3, h1⟩ | ⟨L, _, _, _, _, h2, _⟩ := h
        · rw [htx] at h2; cases h2; exact ⟨h3, h1⟩
        · rw [htx] at h2; cases h2))
      have HP : Hid (pasR l = .error q) := hidOf (by unfold pasR; rw [HH.out]; simp only; rw [hS.out, htx])
      have a2 : (0 : Int) ≤ q := by omega
      clear htx CT
      go_upto_region 5 with (go_at_call 26; refine CT'.out.mono ?_; rintro e w4 ⟨rfl, k4⟩; have K4 := hidOf (K3.out.trans k4 (fun _ h _ => h)); clear k4)
      have b5 := hidOf ((K4.out.block w.heap.size (by rw [szw2]; omega) (by omega)).trans BQ.out)
      have z0 : World.cell? w4 ⟨w.heap.size, 0, none⟩ = some (.slice none 0 0) := by rw [cell_atL b5.out]; rfl
      have z1 : World.cell? w4 ⟨w.heap.size, 1, none⟩ = some (.slice none 0 0) := by rw [cell_atL b5.out]; rfl
      have z2 : World.cell? w4 ⟨w.heap.size, 2, none⟩ = some (.slice none 0 0) := by rw [cell_atL b5.out]; rfl
      have z3 : World.cell? w4 ⟨w.heap.size, 3, none⟩ = some (.int .i64 0) := by rw [cell_atL b5.out]; rfl
      have g0 := frozen_atL b5.out 0
      have g1' := frozen_atL b5.out 1
      have g2 := frozen_atL b5.out 2
      have g3 := frozen_atL b5.out 3
      have OX5 := hidOf (OX.out _ K4.out)
      go_wp2
      refine bodyPost_ret (results_cell3 rfl _ _ w.heap.size 26 _ (0, 0) _ rfl (blk_set (blk_set (blk_set (blk_set b5.out _ _) _ _) _ _) _ _) Tryz.underlying26 rfl (by kernel_rfl)) rfl ?_
      have hr := rd_bad HP.out
      refine ⟨(((OX5.out.setCell (Nat.le_refl _) _).setCell (Nat.le_refl _) _ |>.setCell (Nat.le_refl _) _).setCell (Nat.le_refl _) _), none, 0, none, 0, none, 0, ?_, ?_, ?_, ?_⟩
      · rw [hr]; first | rfl | (simp <;> rfl)
      · rw [hr]; exact World.ownsRow_nil _ _ _ _
      · rw [hr]; exact World.ownsRow_nil _ _ _ _
      · rw [hr]; exact World.ownsRow_nil _ _ _ _
    | ok L =>
      have CT' : Hid (Calls Tryz.prog 26 #[.pointer (some ⟨p, 0, none⟩)] w3 fun e w' => e = .returned (.int .i64 (-1)) ∧ ∃ ta sa tc sc, TxS w3 w' p (.slice (some ⟨g, go, none⟩) n c) (S : Nat) (F : Nat) (D : Nat) (M : Nat) L (stT L ++ [true]) ta sa L.length tc (S + 1) sc) := hidOf (CT.out.mono (fun e w' h => by
        obtain ⟨q', h2, h3, h1⟩ | ⟨L', ta, sa, tc, sc, h2, _, h3, h4⟩ := h
        · rw [htx] at h2; cases h2
        · rw [htx] at h2; cases h2; exact ⟨h3, ta, sa, tc, sc, h4⟩))
      have HSL : Hid (slotsP L = S) := hidOf (txt_forth l S S 28 L (Nat.le_refl _) (by rw [HL.out]; have := hsz2.out; omega) htx).2.1
      have HTX := hidOf htx
      clear htx CT
      go_upto_region 7 with (go_at_call 26; refine CT'.out.mono ?_; rintro e w4 ⟨rfl, ta, sa, tc, sc, t4⟩; have T4 := hidOf t4; have K4 := hidOf (K3.out.trans t4.ch (fun _ h _ => h)); clear t4)
      obtain ⟨c0, c1, c2, c3, c4, c5, c6, c7⟩ := T4.out.rg.at
      clear c0 c1 c2 c3 c5 c6 c7
      obtain ⟨fr, hfr⟩ : ∃ y : Nat, Hid ((n : Int) - M = y) := ⟨n - M, hidOf (by have := hsz2.out; omega)⟩
      have hfr1 : fr + M = n := by have := hfr.out; omega
      go_upto_region 8 with fail
      rw [hfr.out]
      clear c4
      have HE : Hid (l.length - g4 l 20 = fr) := hidOf (by rw [HL.out, hM.out]; omega)
      have f1 : (fr : Int) ≤ n := by omega
      have f2 : (0 : Int) ≤ fr := by omega
      have f3 : (n : Int) ≤ c := by omega
      by_cases hM0 : M = 0
      · have hfn : fr = n := by omega
        have HP : Hid (pasR l = .error fr) := hidOf (by
          unfold pasR; rw [HH.out]; simp only; rw [hS.out, HTX.out]; simp only
          rw [HE.out, hfn, ← HL.out, List.drop_length]; simp [rdP])
        have CR0 : Hid (∀ wx a cp, Calls Tryz.prog 27 #[.slice a 0 cp] wx fun e w' => e = .returned (.tuple #[.agg #[.slice none 0 0], .int .i64 0, .int .i64 80]) ∧ Out wx w') := hidOf fun wx a cp => (rread_any a cp [] wx (.inl rfl) (by simp) (by simp)).mono (fun e w' h => by
          obtain ⟨h1, h | ⟨N', ra, rc, h, _⟩⟩ := h
          · exact ⟨by rw [h.2]; rfl, h1⟩
          · simp [rdP] at h)
        have f4 : n - fr = 0 := by omega
        have hfn2 := hidOf hfn
        clear hfn
        by_cases hcf : c = fr
        · have e1 : (c : Int) = fr := by omega
          go_upto_region 10 with (go_at_call 27; refine (CR0.out _ _ _).mono ?_; rintro e w5 ⟨rfl, o5⟩; have K5 := hidOf (K4.out.trans (T := fun _ => False) (Chg.of_out (Out.alloc o5 (.cells #[.slice none 0 0] 58))) (fun _ h _ => h.elim)); clear o5)
          obtain ⟨w6, hw6⟩ : ∃ x, Hid (x = w5.alloc (.cells #[.slice none 0 0] 58)) := ⟨_, rfl⟩
          rw [← hw6.out] at K5 ⊢
          have b5 := hidOf ((K5.out.block w.heap.size (by rw [szw2]; omega) (by omega)).trans BQ.out)
          have z0 : World.cell? w6 ⟨w.heap.size, 0, none⟩ = some (.slice none 0 0) := by rw [cell_atL b5.out]; rfl
          have z1 : World.cell? w6 ⟨w.heap.size, 1, none⟩ = some (.slice none 0 0) := by rw [cell_atL b5.out]; rfl
          have z2 : World.cell? w6 ⟨w.heap.size, 2, none⟩ = some (.slice none 0 0) := by rw [cell_atL b5.out]; rfl
          have z3 : World.cell? w6 ⟨w.heap.size, 3, none⟩ = some (.int .i64 0) := by rw [cell_atL b5.out]; rfl
          have g0 := frozen_atL b5.out 0
          have g1' := frozen_atL b5.out 1
          have g2 := frozen_atL b5.out 2
          have g3 := frozen_atL b5.out 3
          have OX5 := hidOf (OX.out _ K5.out)
          go_wp2
          refine bodyPost_ret (results_cell3 rfl _ _ w.heap.size 26 _ (0, 0) _ rfl (blk_set (blk_set (blk_set (blk_set b5.out _ _) _ _) _ _) _ _) Tryz.underlying26 rfl (by kernel_rfl)) rfl ?_
          have hr := rd_bad HP.out
          refine ⟨(((OX5.out.setCell (Nat.le_refl _) _).setCell (Nat.le_refl _) _ |>.setCell (Nat.le_refl _) _).setCell (Nat.le_refl _) _), none, 0, none, 0, none, 0, ?_, ?_, ?_, ?_⟩
          · rw [hr]; first | rfl | (simp <;> rfl)
          · rw [hr]; exact World.ownsRow_nil _ _ _ _
          · rw [hr]; exact World.ownsRow_nil _ _ _ _
          · rw [hr]; exact World.ownsRow_nil _ _ _ _
        · have e1 : ¬ (c : Int) = fr := by omega
          go_upto_region 10 with (go_at_call 27; refine (CR0.out _ _ _).mono ?_; rintro e w5 ⟨rfl, o5⟩; have K5 := hidOf (K4.out.trans (T := fun _ => False) (Chg.of_out (Out.alloc o5 (.cells #[.slice none 0 0] 58))) (fun _ h _ => h.elim)); clear o5)
          obtain ⟨w6, hw6⟩ : ∃ x, Hid (x = w5.alloc (.cells #[.slice none 0 0] 58)) := ⟨_, rfl⟩
          rw [← hw6.out] at K5 ⊢
          have b5 := hidOf ((K5.out.block w.heap.size (by rw [szw2]; omega) (by omega)).trans BQ.out)
          have z0 : World.cell? w6 ⟨w.heap.size, 0, none⟩ = some (.slice none 0 0) := by rw [cell_atL b5.out]; rfl
          have z1 : World.cell? w6 ⟨w.heap.size, 1, none⟩ = some (.slice none 0 0) := by rw [cell_atL b5.out]; rfl
          have z2 : World.cell? w6 ⟨w.heap.size, 2, none⟩ = some (.slice none 0 0) := by rw [cell_atL b5.out]; rfl
          have z3 : World.cell? w6 ⟨w.heap.size, 3, none⟩ = some (.int .i64 0) := by rw [cell_atL b5.out]; rfl
          have g0 := frozen_atL b5.out 0
          have g1' := frozen_atL b5.out 1
          have g2 := frozen_atL b5.out 2
          have g3 := frozen_atL b5.out 3
          have OX5 := hidOf (OX.out _ K5.out)
          go_wp2
          refine bodyPost_ret (results_cell3 rfl _ _ w.heap.size 26 _ (0, 0) _ rfl (blk_set (blk_set (blk_set (blk_set b5.out _ _) _ _) _ _) _ _) Tryz.underlying26 rfl (by kernel_rfl)) rfl ?_
          have hr := rd_bad HP.out
          refine ⟨(((OX5.out.setCell (Nat.le_refl _) _).setCell (Nat.le_refl _) _ |>.setCell (Nat.le_refl _) _).setCell (Nat.le_refl _) _), none, 0, none, 0, none, 0, ?_, ?_, ?_, ?_⟩
          · rw [hr]; first | rfl | (simp <;> rfl)
          · rw [hr]; exact World.ownsRow_nil _ _ _ _
          · rw [hr]; exact World.ownsRow_nil _ _ _ _
          · rw [hr]; exact World.ownsRow_nil _ _ _ _
      · have hcf : ¬ c = fr := by omega
        have e1 : ¬ (c : Int) = fr := by omega
        have f4 : n - fr = M := by omega
        have hdl : Hid ((l.drop fr).length = M) := hidOf (by rw [List.length_drop, HL.out]; exact f4)
        have CR := hidOf (rread_any (some ⟨g, go + fr, none⟩) (c - fr) (l.drop fr) w4 (BtA.rest17 (by
          have := bt_sub (bt_chg B2.out K4.out hgp) fr M
          rw [List.take_of_length_le (by rw [hdl.out]; omega)] at this
          exact this) (by have := K4.out.size; omega)) (by rw [hdl.out]; omega) (by rw [hdl.out]; omega))
        rw [hdl.out] at CR
        obtain ⟨rN, rq, hrd⟩ : ∃ a b, Hid (rdP (l.drop fr) = (a, b)) := ⟨_, _, hidOf rfl⟩
        cases rN with
        | none =>
          have CR0 : Hid (Calls Tryz.prog 27 #[.slice (some ⟨g, go + fr, none⟩) M (c - fr)] w4 fun e w' => e = .returned (.tuple #[.agg #[.slice none 0 0], .int .i64 (rq : Nat), .int .i64 80]) ∧ Out w4 w') := hidOf (CR.out.mono (fun e w' h => by
            obtain ⟨h1, h | ⟨N', ra, rc, h, _⟩⟩ := h
            · exact ⟨by rw [h.2, hrd.out], h1⟩
            · rw [hrd.out] at h; cases h))
          have HP : Hid (pasR l = .error (fr + rq)) := hidOf (by
            unfold pasR; rw [HH.out]; simp only; rw [hS.out, HTX.out]; simp only
            rw [HE.out, hrd.out])
          have hrqb : rq ≤ 1000000000000 := by
            have := rdP_le17 (l.drop fr)
            rw [hrd.out, hdl.out] at this; simp only at this; omega
          clear CR
          go_upto_region 10 with (go_at_call 27; refine CR0.out.mono ?_; rintro e w5 ⟨rfl, o5⟩; have K5 := hidOf (K4.out.trans (T := fun _ => False) (Chg.of_out (Out.alloc o5 (.cells #[.slice none 0 0] 58))) (fun _ h _ => h.elim)); clear o5)
          obtain ⟨w6, hw6⟩ : ∃ x, Hid (x = w5.alloc (.cells #[.slice none 0 0] 58)) := ⟨_, rfl⟩
          rw [← hw6.out] at K5 ⊢
          have b5 := hidOf ((K5.out.block w.heap.size (by rw [szw2]; omega) (by omega)).trans BQ.out)
          have z0 : World.cell? w6 ⟨w.heap.size, 0, none⟩ = some (.slice none 0 0) := by rw [cell_atL b5.out]; rfl
          have z1 : World.cell? w6 ⟨w.heap.size, 1, none⟩ = some (.slice none 0 0) := by rw [cell_atL b5.out]; rfl
          have z2 : World.cell? w6 ⟨w.heap.size, 2, none⟩ = some (.slice none 0 0) := by rw [cell_atL b5.out]; rfl
          have z3 : World.cell? w6 ⟨w.heap.size, 3, none⟩ = some (.int .i64 0) := by rw [cell_atL b5.out]; rfl
          have g0 := frozen_atL b5.out 0
          have g1' := frozen_atL b5.out 1
          have g2 := frozen_atL b5.out 2
          have g3 := frozen_atL b5.out 3
          have OX5 := hidOf (OX.out _ K5.out)
          go_wp2
          refine bodyPost_ret (results_cell3 rfl _ _ w.heap.size 26 _ (0, 0) _ rfl (blk_set (blk_set (blk_set (blk_set b5.out _ _) _ _) _ _) _ _) Tryz.underlying26 rfl (by kernel_rfl)) rfl ?_
          have hr := rd_bad HP.out
          refine ⟨(((OX5.out.setCell (Nat.le_refl _) _).setCell (Nat.le_refl _) _ |>.setCell (Nat.le_refl _) _).setCell (Nat.le_refl _) _), none, 0, none, 0, none, 0, ?_, ?_, ?_, ?_⟩
          · rw [hr]; first | rfl | (simp <;> rfl)
          · rw [hr]; exact World.ownsRow_nil _ _ _ _
          · rw [hr]; exact World.ownsRow_nil _ _ _ _
          · rw [hr]; exact World.ownsRow_nil _ _ _ _
        | some N =>
          have CR0 : Hid (Calls Tryz.prog 27 #[.slice (some ⟨g, go + fr, none⟩) M (c - fr)] w4 fun e w' => ∃ va vn vc, e = .returned (.tuple #[.agg #[.slice va vn vc], .int .i64 0, .int .i64 0]) ∧ Out w4 w') := hidOf (CR.out.mono (fun e w' h => by
            obtain ⟨h1, h | ⟨N', ra, rc, h, he, _⟩⟩ := h
            · rw [hrd.out] at h; cases h.1
            · exact ⟨_, _, _, he, h1⟩))
          obtain ⟨hby, hnd, hok⟩ := rdP_inv (l := l.drop fr) (N := N) (by rw [hrd.out])
          have HBY : Hid (l.drop fr = byP N) := hidOf hby
          have HOK := hidOf hok
          have HBL : Hid ((byP N).length = M) := hidOf (by rw [← hby]; exact hdl.out)
          clear CR hby hnd hok
          go_upto_region 12 with (go_at_call 27; refine CR0.out.mono ?_; rintro e w5 ⟨va, vn, vc, rfl, o5⟩; have O5 := hidOf (Out.alloc o5 (.cells #[.slice va vn vc] 58)); clear o5)
          obtain ⟨w6, hw6⟩ : ∃ x, Hid (x = w5.alloc (.cells #[.slice va vn vc] 58)) := ⟨_, rfl⟩
          rw [← hw6.out] at O5 ⊢
          have K6 := hidOf (K4.out.trans (T := fun _ => False) (Chg.of_out O5.out) (fun _ h _ => h.elim))
          have T6 := hidOf (T4.out.out O5.out)
          have B6 := hidOf (bt_chg B2.out K6.out hgp)
          have S6 : Hid (BtA w6 g (go + fr) (byP N)) := hidOf (by
            have := bt_sub B6.out fr M
            rw [List.take_of_length_le (by rw [hdl.out]; omega), HBY.out] at this
            exact this)
          obtain ⟨bg, bc, hbv, _, _⟩ := own_cellN T6.out.ob (k := 0) (u := .bool true) (by unfold boV; rw [List.getElem?_map, stA_head]; rfl)
          cases hbv
          have hbp : ¬ bg = p := fun e => by have := (T6.out.ob.lt bg rfl).1; omega
          have BO : Hid (BoA w6 bg (stT L ++ [true])) := hidOf fun i b hi => by
            have := World.ownsRow.cells T6.out.ob (g := bg) rfl i (.bool b) (by unfold boV; rw [List.getElem?_map, hi]; rfl)
            have e : (⟨bg, 0, none⟩ : Addr).add i = ⟨bg, i, none⟩ := by simp [Addr.add]; omega
            rw [e] at this
            exact this
          have CF := hidOf (funcs_any w6 p g go n c S F g (go + fr) M (c - fr) bg sc l N L (D : Nat) (M : Nat) _ HL.out hnc B6.out hgp (by have := hsz2.out; omega) bS bF HSL.out BO.out hbp HOK.out HBL.out (by omega) S6.out hgp (by omega) T6.out.rg)
          have HPE : Hid (∀ r, enR l L N = r → pasR l = r) := hidOf fun r hr => by
            unfold pasR; rw [HH.out]; simp only; rw [hS.out, HTX.out]; simp only
            rw [HE.out, hrd.out]; exact hr
          cases hfn : fnR l N L F (28 + 8 * S) 0 0 1 with
          | error q =>
            have CF' : Hid (Calls Tryz.prog 28 #[.pointer (some ⟨p, 0, none⟩), .slice (some ⟨g, go + fr, none⟩) M (c - fr)] w6 fun e w' => e = .returned (.tuple #[.slice none 0 0, .int .i64 (q : Nat)]) ∧ Chg (fun k => k = p) w6 w') := hidOf (CF.out.mono (fun e w' h => by
              obtain ⟨h1, ⟨q', h2, h3⟩ | ⟨E, _, _, _, _, h2, _⟩⟩ := h
              · rw [hfn] at h2; cases h2; exact ⟨h3, h1⟩
              · rw [hfn] at h2; cases h2))
            have HP : Hid (pasR l = .error q) := hidOf (HPE.out _ (by unfold enR; rw [hS.out, hF.out, hfn]))
            have a2 : (0 : Int) ≤ q := by omega
            clear hfn CF
            go_upto_region 13 with (go_at_call 28; refine CF'.out.mono ?_; rintro e w7 ⟨rfl, k7⟩; have K7 := hidOf (K6.out.trans k7 (fun _ h _ => h)); clear k7)
            have b5 := hidOf ((K7.out.block w.heap.size (by rw [szw2]; omega) (by omega)).trans BQ.out)
            have z0 : World.cell? w7 ⟨w.heap.size, 0, none⟩ = some (.slice none 0 0) := by rw [cell_atL b5.out]; rfl
            have z1 : World.cell? w7 ⟨w.heap.size, 1, none⟩ = some (.slice none 0 0) := by rw [cell_atL b5.out]; rfl
            have z2 : World.cell? w7 ⟨w.heap.size, 2, none⟩ = some (.slice none 0 0) := by rw [cell_atL b5.out]; rfl
            have z3 : World.cell? w7 ⟨w.heap.size, 3, none⟩ = some (.int .i64 0) := by rw [cell_atL b5.out]; rfl
            have g0 := frozen_atL b5.out 0
            have g1' := frozen_atL b5.out 1
            have g2 := frozen_atL b5.out 2
            have g3 := frozen_atL b5.out 3
            have OX5 := hidOf (OX.out _ K7.out)
            go_wp2
            refine bodyPost_ret (results_cell3 rfl _ _ w.heap.size 26 _ (0, 0) _ rfl (blk_set (blk_set (blk_set (blk_set b5.out _ _) _ _) _ _) _ _) Tryz.underlying26 rfl (by kernel_rfl)) rfl ?_
            have hr := rd_bad HP.out
            refine ⟨(((OX5.out.setCell (Nat.le_refl _) _).setCell (Nat.le_refl _) _ |>.setCell (Nat.le_refl _) _).setCell (Nat.le_refl _) _), none, 0, none, 0, none, 0, ?_, ?_, ?_, ?_⟩
            · rw [hr]; first | rfl | (simp <;> rfl)
            · rw [hr]; exact World.ownsRow_nil _ _ _ _
            · rw [hr]; exact World.ownsRow_nil _ _ _ _
            · rw [hr]; exact World.ownsRow_nil _ _ _ _
          | ok y =>
            obtain ⟨Fs, nx⟩ := y
            have CF' : Hid (Calls Tryz.prog 28 #[.pointer (some ⟨p, 0, none⟩), .slice (some ⟨g, go + fr, none⟩) M (c - fr)] w6 fun e w' => ∃ (se : Nat) (a : Option Addr) (cp : Nat), e = .returned (.tuple #[.slice a F cp, .int .i64 (-1)]) ∧ nx = seN se ∧ se ≤ M + 1 ∧ Fs.length = F ∧ w'.ownsRow w6.heap.size 69 4 (.slice a F cp) F (fnV Fs) ∧ RgA w' p (.slice (some ⟨g, go, none⟩) n c) (S : Nat) (F : Nat) (D : Nat) (M : Nat) (.slice ta L.length tc) (.slice (some ⟨bg, 0, none⟩) (S + 1) sc) (se : Nat) ∧ Chg (fun k => k = p) w6 w') := hidOf (CF.out.mono (fun e w' h => by
              obtain ⟨h1, ⟨q', h2, h3⟩ | ⟨E, nx', se, a, cp, h2, h3, h4, h5, h6, h7, h8⟩⟩ := h
              · rw [hfn] at h2; cases h2
              · rw [hfn] at h2; cases h2; rw [HBL.out] at h4; exact ⟨se, a, cp, h6, h3, h4, h5, h7, h8, h1⟩))
            have HFN := hidOf hfn
            clear hfn CF
            go_upto_region 15 with (go_at_call 28; refine CF'.out.mono ?_; rintro e w7 ⟨se, fa, fc, rfl, q1, q2, q3, q4, q5, k7⟩; have Q1 := hidOf q1; have Q2 := hidOf q2; have Q3 := hidOf q3; have OF := hidOf q4; have R7 := hidOf q5; have K67 := hidOf k7; clear q1 q2 q3 q4 q5 k7)
            have K7 := hidOf (K6.out.trans K67.out (fun _ h _ => h))
            have B7 := hidOf (bt_chg B2.out K7.out hgp)
            have S7 := hidOf (bt_chg S6.out K67.out hgp)
            have sz7 : p + 1 ≤ w7.heap.size := by have := K7.out.size; omega
            have CB := hidOf (tables_any w7 p g go n c S F D g (go + fr) M (c - fr) se l N (M : Nat) _ _ HL.out hnc B7.out hgp (by have := hsz2.out; omega) bS bF bD Q2.out HOK.out HBL.out (by omega) S7.out hgp (by omega) R7.out)
            cases htd : tdR l N D (28 + 8 * S + 16 * F) (seN se) with
            | error q =>
              have CB' : Hid (Calls Tryz.prog 29 #[.pointer (some ⟨p, 0, none⟩), .slice (some ⟨g, go + fr, none⟩) M (c - fr)] w7 fun e w' => e = .returned (.tuple #[.slice none 0 0, .int .i64 (q : Nat)]) ∧ Chg (fun k => k = p) w7 w') := hidOf (CB.out.mono (fun e w' h => by
                obtain ⟨h1, ⟨q', h2, h3⟩ | ⟨E, _, _, _, _, h2, _⟩⟩ := h
                · rw [htd] at h2; cases h2; exact ⟨h3, h1⟩
                · rw [htd] at h2; cases h2))
              have HP : Hid (pasR l = .error q) := hidOf (HPE.out _ (by unfold enR; rw [hS.out, hF.out, hD.out, HFN.out]; simp only; rw [Q1.out, htd]))
              have a2 : (0 : Int) ≤ q := by omega
              clear htd CB
              go_upto_region 16 with (go_at_call 29; refine CB'.out.mono ?_; rintro e w8 ⟨rfl, k8⟩; have K8 := hidOf (K7.out.trans k8 (fun _ h _ => h)); clear k8)
              have b5 := hidOf ((K8.out.block w.heap.size (by rw [szw2]; omega) (by omega)).trans BQ.out)
              have z0 : World.cell? w8 ⟨w.heap.size, 0, none⟩ = some (.slice none 0 0) := by rw [cell_atL b5.out]; rfl
              have z1 : World.cell? w8 ⟨w.heap.size, 1, none⟩ = some (.slice none 0 0) := by rw [cell_atL b5.out]; rfl
              have z2 : World.cell? w8 ⟨w.heap.size, 2, none⟩ = some (.slice none 0 0) := by rw [cell_atL b5.out]; rfl
              have z3 : World.cell? w8 ⟨w.heap.size, 3, none⟩ = some (.int .i64 0) := by rw [cell_atL b5.out]; rfl
              have g0 := frozen_atL b5.out 0
              have g1' := frozen_atL b5.out 1
              have g2 := frozen_atL b5.out 2
              have g3 := frozen_atL b5.out 3
              have OX5 := hidOf (OX.out _ K8.out)
              go_wp2
              refine bodyPost_ret (results_cell3 rfl _ _ w.heap.size 26 _ (0, 0) _ rfl (blk_set (blk_set (blk_set (blk_set b5.out _ _) _ _) _ _) _ _) Tryz.underlying26 rfl (by kernel_rfl)) rfl ?_
              have hr := rd_bad HP.out
              refine ⟨(((OX5.out.setCell (Nat.le_refl _) _).setCell (Nat.le_refl _) _ |>.setCell (Nat.le_refl _) _).setCell (Nat.le_refl _) _), none, 0, none, 0, none, 0, ?_, ?_, ?_, ?_⟩
              · rw [hr]; first | rfl | (simp <;> rfl)
              · rw [hr]; exact World.ownsRow_nil _ _ _ _
              · rw [hr]; exact World.ownsRow_nil _ _ _ _
              · rw [hr]; exact World.ownsRow_nil _ _ _ _
            | ok y =>
              obtain ⟨Ds, ny⟩ := y
              have CB' : Hid (Calls Tryz.prog 29 #[.pointer (some ⟨p, 0, none⟩), .slice (some ⟨g, go + fr, none⟩) M (c - fr)] w7 fun e w' => ∃ (se' : Nat) (a : Option Addr) (cp : Nat), e = .returned (.tuple #[.slice a D cp, .int .i64 (-1)]) ∧ ny = seN se' ∧ se' ≤ 100000000000 * 2 ∧ Ds.length = D ∧ w'.ownsRow w7.heap.size 72 5 (.slice a D cp) D (tdV Ds) ∧ RgA w' p (.slice (some ⟨g, go, none⟩) n c) (S : Nat) (F : Nat) (D : Nat) (M : Nat) (.slice ta L.length tc) (.slice (some ⟨bg, 0, none⟩) (S + 1) sc) (se' : Nat) ∧ Chg (fun k => k = p) w7 w') := hidOf (CB.out.mono (fun e w' h => by
                obtain ⟨h1, ⟨q', h2, h3⟩ | ⟨E, nx', se', a, cp, h2, h3, h4, h5, h6, h7, h8⟩⟩ := h
                · rw [htd] at h2; cases h2
                · rw [htd] at h2; cases h2; exact ⟨se', a, cp, h6, h3, h4, h5, h7, h8, h1⟩))
              have HTD := hidOf htd
              have HKD := hidOf (td_len17 _ _ _ _ _ htd)
              clear htd CB
              go_upto_region 18 with (go_at_call 29; refine CB'.out.mono ?_; rintro e w8 ⟨se', da, dc, rfl, q1, q2, q3, q4, q5, k8⟩; have P1 := hidOf q1; have P3 := hidOf q3; have OD := hidOf q4; have R8 := hidOf q5; have K78 := hidOf k8; have hse' := q2; clear q1 q2 q3 q4 q5 k8)
              have K8 := hidOf (K7.out.trans K78.out (fun _ h _ => h))
              have sz8 : p + 1 ≤ w8.heap.size := by have := K8.out.size; omega
              obtain ⟨c0, c1, c2, c3, c4, c5, c6, c7⟩ := R8.out.at
              have fz := R8.out.fr 7
              clear c0 c1 c2 c3 c4 c5 c6
              by_cases hs0 : se' = 0
              · have bq : ((se' : Int) == 0) = true := by simp [hs0]
                have hny : Hid (ny = 1) := hidOf (by rw [P1.out, hs0]; rfl)
                have HS0 := hidOf hs0
                clear hs0
                go_upto_region 20 with fail
                obtain ⟨w9, hw9⟩ : ∃ x, Hid (x = w8.setCell ⟨p, 7, none⟩ (.int .i64 1)) := ⟨_, rfl⟩
                rw [← hw9.out]
                have cg := Chg.setCell (S := fun k => k = p) (Chg.refl _ w8) (p := ⟨p, 7, none⟩) rfl (.int .i64 1)
                rw [← hw9.out] at cg
                have K89 := hidOf cg
                have R9 : Hid (RgA w9 p (.slice (some ⟨g, go, none⟩) n c) (S : Nat) (F : Nat) (D : Nat) (M : Nat) (.slice ta L.length tc) (.slice (some ⟨bg, 0, none⟩) (S + 1) sc) (ny : Nat)) := hidOf (by rw [hw9.out, hny.out]; exact R8.out.s7 1)
                clear cg c7 fz bq hny
                have K9 := hidOf (K8.out.trans K89.out (fun _ h _ => h))
                have sz9 : p + 1 ≤ w9.heap.size := by have := K9.out.size; omega
                obtain ⟨c0, c1, c2, c3, c4, c5, c6, c7⟩ := R9.out.at
                clear c0 c1 c2 c3 c4 c6
                have hnyb : ny ≤ 1000000000000 := by rw [P1.out]; unfold seN; split <;> omega
                by_cases hnM : ny < M
                · have bn : (ny : Int) < M := by omega
                  have HP : Hid (pasR l = .error (fr + ny)) := hidOf (HPE.out _ (by
                    unfold enR; rw [hS.out, hF.out, hD.out, hM.out, HFN.out]; simp only; rw [Q1.out, HTD.out]; simp only; rw [if_pos hnM, HL.out, show n - M = fr by omega]))
                  have t1 : IntKind.i64.wrap ((fr : Int) + ny) = (fr : Int) + ny := by rw [IntKind.wrap_i64]; omega
                  have hne1 : ¬ w.heap.size = p := by omega
                  clear c5
                  have b5 := hidOf ((K9.out.block w.heap.size (by rw [szw2]; omega) (by omega)).trans BQ.out)
                  have z0 : World.cell? w9 ⟨w.heap.size, 0, none⟩ = some (.slice none 0 0) := by rw [cell_atL b5.out]; rfl
                  have z1 : World.cell? w9 ⟨w.heap.size, 1, none⟩ = some (.slice none 0 0) := by rw [cell_atL b5.out]; rfl
                  have z2 : World.cell? w9 ⟨w.heap.size, 2, none⟩ = some (.slice none 0 0) := by rw [cell_atL b5.out]; rfl
                  have z3 : World.cell? w9 ⟨w.heap.size, 3, none⟩ = some (.int .i64 0) := by rw [cell_atL b5.out]; rfl
                  have g0 := frozen_atL b5.out 0
                  have g1' := frozen_atL b5.out 1
                  have g2 := frozen_atL b5.out 2
                  have g3 := frozen_atL b5.out 3
                  have OX5 := hidOf (OX.out _ K9.out)
                  go_upto_region 21 with fail
                  go_region_held3 (fun wx => wx.cell? ⟨p, 7, none⟩ = some (.int .i64 (ny : Nat))) (first | go_keep | assumption) (fail)
                  go_wp2
                  refine bodyPost_ret (results_cell3 rfl _ _ w.heap.size 26 _ (0, 0) _ rfl (blk_set (blk_set (blk_set (blk_set b5.out _ _) _ _) _ _) _ _) Tryz.underlying26 rfl (by kernel_rfl)) rfl ?_
                  have hr := rd_bad HP.out
                  refine ⟨Out.drew (((OX5.out.setCell (Nat.le_refl _) _).setCell (Nat.le_refl _) _ |>.setCell (Nat.le_refl _) _).setCell (Nat.le_refl _) _), none, 0, none, 0, none, 0, ?_, ?_, ?_, ?_⟩
                  · rw [hr]; first | rfl | (simp <;> rfl)
                  · rw [hr]; exact World.ownsRow_nil _ _ _ _
                  · rw [hr]; exact World.ownsRow_nil _ _ _ _
                  · rw [hr]; exact World.ownsRow_nil _ _ _ _
                · have bn : ¬ (ny : Int) < M := by omega
                  obtain ⟨en, hen⟩ : ∃ y, Hid (g4 l 24 = y) := ⟨_, rfl⟩
                  have HP : Hid (pasR l = .ok ⟨L, Fs, Ds, (en : Nat)⟩) := hidOf (HPE.out _ (by
                    unfold enR; rw [hS.out, hF.out, hD.out, hM.out, HFN.out]; simp only; rw [Q1.out, HTD.out]; simp only; rw [if_neg hnM, hen.out]))
                  have B9 := hidOf (bt_chg B2.out K9.out hgp)
                  have CT24 : Hid (∀ wx, Out w9 wx → Calls Tryz.prog 30 #[.slice (some ⟨g, go + 24, none⟩) 4 (c - 24)] wx fun e w' => e = .returned (.int .i64 (en : Nat)) ∧ wx = w') := hidOf fun wx ox => by
                    have := taken_any wx g (go + 24) (c - 24) 4 ((l.drop 24).take 4) (by rw [List.length_take, List.length_drop, HL.out]; omega) (by omega) (bt_sub (B9.out.outI ox) 24 4)
                    rw [tk4 (by rw [HL.out]; omega), hen.out] at this
                    exact this
                  have u1 : ¬ c = 24 := by omega
                  have u2 : ¬ (c : Int) = 24 := by omega
                  have u3 : (28 : Int) ≤ c := by omega
                  have u4 : (24 : Int) ≤ c := by omega
                  have hne1 : ¬ w9.heap.size = p := by omega
                  obtain ⟨Ln, hLn⟩ : ∃ y, Hid (L.length = y) := ⟨_, rfl⟩
                  rw [hLn.out] at c5
                  go_upto_region 22 with fail
                  clear c7
                  go_cut [14] (fun s14 wx => ∃ I : Nat, s14 = .pointer (some ⟨I, 0, none⟩) ∧ w9.heap.size ≤ I ∧ Hid (Out w9 wx) ∧ Hid (wx.heap[I]? = some (.cells #[.slice ta Ln tc, .slice fa F fc, .slice da D dc, .int .i64 (en : Nat)] 26 (0, 0))))
                  case first =>
                    go_region_held3 (fun wx => wx.cell? ⟨p, 5, none⟩ = some (.slice ta Ln tc)) (first | go_keep | assumption) (first | (go_at_call 30; refine (CT24.out _ (by repeat first | with_reducible exact Out.refl _ | with_reducible apply Out.drew | with_reducible apply Out.alloc)).mono ?_; rintro e wy ⟨rfl, hy⟩; subst hy))
                    all_goals (
                      go_wp2
                      go_meet
                      exact ⟨w9.heap.size, rfl, Nat.le_refl _, hidOf (Out.drew (Out.alloc (Out.refl _) _)), hidOf (by rw [heap_drew']; exact heap_alloc_new w9 _)⟩)
                  case rest =>
                    obtain ⟨I, rfl, hI, OC, HIb⟩ := hcut
                    obtain ⟨wA, hwA⟩ : ∃ x, x = wc := ⟨_, rfl⟩
                    subst hwA
                    have i0 : wA.cell? ⟨I, 0, none⟩ = some (.slice ta Ln tc) := by rw [cell_atL HIb.out]; rfl
                    have i1 : wA.cell? ⟨I, 1, none⟩ = some (.slice fa F fc) := by rw [cell_atL HIb.out]; rfl
                    have i2 : wA.cell? ⟨I, 2, none⟩ = some (.slice da D dc) := by rw [cell_atL HIb.out]; rfl
                    have i3 : wA.cell? ⟨I, 3, none⟩ = some (.int .i64 (en : Nat)) := by rw [cell_atL HIb.out]; rfl
                    have sz6 : p + 1 ≤ w6.heap.size := by have := K6.out.size; omega
                    have WT : Hid (wA.ownsRow w3.heap.size 67 5 (.slice ta Ln tc) Ln (insV L)) := hidOf (by
                      have h0 := T6.out.ot
                      rw [hLn.out] at h0
                      have h1 := owns_chg h0 (fun k hk e => by have := (h0.lt k hk).1; omega) ((K67.out.trans K78.out (fun _ h _ => h)).trans K89.out (fun _ h _ => h))
                      exact owns_chg (S := fun _ => False) h1 (fun _ _ h => h) (Chg.of_out OC.out))
                    have WF : Hid (wA.ownsRow w6.heap.size 69 4 (.slice fa F fc) F (fnV Fs)) := hidOf (by
                      have h0 := OF.out
                      have h1 := owns_chg h0 (fun k hk e => by have := (h0.lt k hk).1; omega) (K78.out.trans K89.out (fun _ h _ => h))
                      exact owns_chg (S := fun _ => False) h1 (fun _ _ h => h) (Chg.of_out OC.out))
                    have WD : Hid (wA.ownsRow w7.heap.size 72 5 (.slice da D dc) D (tdV Ds)) := hidOf (by
                      have h0 := OD.out
                      have h1 := owns_chg h0 (fun k hk e => by have := (h0.lt k hk).1; omega) K89.out
                      exact owns_chg (S := fun _ => False) h1 (fun _ _ h => h) (Chg.of_out OC.out))
                    obtain ⟨ka, kb, hab⟩ : ∃ a b, Hid (ckP ⟨L, Fs, Ds, (en : Nat)⟩ = (a, b)) := ⟨_, _, hidOf rfl⟩
                    have CK : Hid (Calls Tryz.prog 17 #[.agg #[.slice ta Ln tc, .slice fa F fc, .slice da D dc, .int .i64 (en : Nat)]] wA fun e w' => e = .returned (.tuple #[.int .i64 (ka : Nat), .int .i64 kb]) ∧ Out wA w') := hidOf (by
                      have hT : OwT wA w3.heap.size (.slice ta L.length tc) L := by unfold OwT; rw [hLn.out]; exact WT.out
                      have hFo : OwF wA w6.heap.size (.slice fa Fs.length fc) Fs := by unfold OwF; rw [Q3.out]; exact WF.out
                      have hDo : OwD wA w7.heap.size (.slice da Ds.length dc) Ds := by unfold OwD; rw [P3.out]; exact WD.out
                      have := refCheck_any ⟨L, Fs, Ds, (en : Nat)⟩ wA ta fa da tc fc dc ⟨hT.insA, hFo.fnA, hDo.tdA, pas_len HP.out (by rw [HL.out]; omega), pas_small HP.out (by rw [HL.out]; omega)⟩ (fun x hx => by have := HKD.out x hx; rw [HBL.out] at this; omega)
                      rw [hab.out] at this
                      simp only at this
                      rw [hLn.out, Q3.out, P3.out] at this
                      exact this)
                    have KA := hidOf (K9.out.trans (T := fun _ => False) (Chg.of_out OC.out) (fun _ h _ => h.elim))
                    clear c5 u1 u2 u3 u4 bn
                    go_upto_region 24 with (go_at_call 17; refine CK.out.mono ?_; rintro e wB ⟨rfl, oB⟩; have OB := hidOf oB; clear oB)
                    have KB := hidOf (KA.out.trans (T := fun _ => False) (Chg.of_out OB.out) (fun _ h _ => h.elim))
                    have i0 := cell_later OB.out i0
                    have i1 := cell_later OB.out i1
                    have i2 := cell_later OB.out i2
                    have i3 := cell_later OB.out i3
                    have b5 := hidOf ((KB.out.block w.heap.size (by rw [szw2]; omega) (by omega)).trans BQ.out)
                    have z0 : wB.cell? ⟨w.heap.size, 0, none⟩ = some (.slice none 0 0) := by rw [cell_atL b5.out]; rfl
                    have z1 : wB.cell? ⟨w.heap.size, 1, none⟩ = some (.slice none 0 0) := by rw [cell_atL b5.out]; rfl
                    have z2 : wB.cell? ⟨w.heap.size, 2, none⟩ = some (.slice none 0 0) := by rw [cell_atL b5.out]; rfl
                    have z3 : wB.cell? ⟨w.heap.size, 3, none⟩ = some (.int .i64 0) := by rw [cell_atL b5.out]; rfl
                    have g0 := frozen_atL b5.out 0
                    have g1' := frozen_atL b5.out 1
                    have g2 := frozen_atL b5.out 2
                    have g3 := frozen_atL b5.out 3
                    have OO := hidOf (OX.out _ KB.out)
                    by_cases hkb : kb = 0
                    · subst hkb
                      go_wp2
                      refine bodyPost_ret (results_cell3 rfl _ _ w.heap.size 26 _ (0, 0) _ rfl (blk_set (blk_set (blk_set (blk_set b5.out _ _) _ _) _ _) _ _) Tryz.underlying26 rfl (by kernel_rfl)) rfl ?_
                      have hr := rd_good HP.out hab.out
                      have hch : ∀ v0 v1 v2 v3, Chg (fun k => k = w.heap.size) wA ((((wB.setCell ⟨w.heap.size, 0, none⟩ v0).setCell ⟨w.heap.size, 1, none⟩ v1).setCell ⟨w.heap.size, 2, none⟩ v2).setCell ⟨w.heap.size, 3, none⟩ v3) := fun v0 v1 v2 v3 => Chg.put4 (S := fun k => k = w.heap.size) (Chg.of_out OB.out) rfl 0 1 2 3 v0 v1 v2 v3
                      refine ⟨((OO.out.setCell (Nat.le_refl _) _).setCell (Nat.le_refl _) _ |>.setCell (Nat.le_refl _) _).setCell (Nat.le_refl _) _, ta, tc, fa, fc, da, dc, ?_, ?_, ?_, ?_⟩
                      · rw [hr]; simp only; rw [hLn.out, Q3.out, P3.out]; rfl
                      · rw [hr]; simp only; unfold OwT; rw [hLn.out]; exact own_base (owns_chg WT.out (fun k hk e => by have := (WT.out.lt k hk).1; omega) (hch _ _ _ _)) (by omega)
                      · rw [hr]; simp only; unfold OwF; rw [Q3.out]; exact own_base (owns_chg WF.out (fun k hk e => by have := (WF.out.lt k hk).1; omega) (hch _ _ _ _)) (by omega)
                      · rw [hr]; simp only; unfold OwD; rw [P3.out]; exact own_base (owns_chg WD.out (fun k hk e => by have := (WD.out.lt k hk).1; omega) (hch _ _ _ _)) (by omega)
                    · have hbt : (kb != 0) = true := by simp [hkb]
                      go_wp2
                      refine bodyPost_ret (results_cell3 rfl _ _ w.heap.size 26 _ (0, 0) _ rfl (blk_set (blk_set (blk_set (blk_set b5.out _ _) _ _) _ _) _ _) Tryz.underlying26 rfl (by kernel_rfl)) rfl ?_
                      have hr := rd_ill HP.out hab.out hkb
                      refine ⟨((OO.out.setCell (Nat.le_refl _) _).setCell (Nat.le_refl _) _ |>.setCell (Nat.le_refl _) _).setCell (Nat.le_refl _) _, none, 0, none, 0, none, 0, ?_, ?_, ?_, ?_⟩
                      · rw [hr]; rfl
                      · rw [hr]; exact World.ownsRow_nil _ _ _ _
                      · rw [hr]; exact World.ownsRow_nil _ _ _ _
                      · rw [hr]; exact World.ownsRow_nil _ _ _ _
              · have bq : ((se' : Int) == 0) = false := by simp; omega
                have hny : Hid (ny = se') := hidOf (by rw [P1.out]; simp [seN, hs0])
                clear hs0
                go_upto_region 20 with fail
                obtain ⟨w9, hw9⟩ : ∃ x, Hid (x = w8) := ⟨_, rfl⟩
                have K89 : Hid (Chg (fun k => k = p) w8 w9) := hidOf (by rw [hw9.out]; exact Chg.refl _ _)
                have R9 : Hid (RgA w9 p (.slice (some ⟨g, go, none⟩) n c) (S : Nat) (F : Nat) (D : Nat) (M : Nat) (.slice ta L.length tc) (.slice (some ⟨bg, 0, none⟩) (S + 1) sc) (ny : Nat)) := hidOf (by rw [hw9.out, hny.out]; exact R8.out)
                clear c7 fz bq hny
                rw [← hw9.out]
                have K9 := hidOf (K8.out.trans K89.out (fun _ h _ => h))
                have sz9 : p + 1 ≤ w9.heap.size := by have := K9.out.size; omega
                obtain ⟨c0, c1, c2, c3, c4, c5, c6, c7⟩ := R9.out.at
                clear c0 c1 c2 c3 c4 c6
                have hnyb : ny ≤ 1000000000000 := by rw [P1.out]; unfold seN; split <;> omega
                by_cases hnM : ny < M
                · have bn : (ny : Int) < M := by omega
                  have HP : Hid (pasR l = .error (fr + ny)) := hidOf (HPE.out _ (by
                    unfold enR; rw [hS.out, hF.out, hD.out, hM.out, HFN.out]; simp only; rw [Q1.out, HTD.out]; simp only; rw [if_pos hnM, HL.out, show n - M = fr by omega]))
                  have t1 : IntKind.i64.wrap ((fr : Int) + ny) = (fr : Int) + ny := by rw [IntKind.wrap_i64]; omega
                  have hne1 : ¬ w.heap.size = p := by omega
                  clear c5
                  have b5 := hidOf ((K9.out.block w.heap.size (by rw [szw2]; omega) (by omega)).trans BQ.out)
                  have z0 : World.cell? w9 ⟨w.heap.size, 0, none⟩ = some (.slice none 0 0) := by rw [cell_atL b5.out]; rfl
                  have z1 : World.cell? w9 ⟨w.heap.size, 1, none⟩ = some (.slice none 0 0) := by rw [cell_atL b5.out]; rfl
                  have z2 : World.cell? w9 ⟨w.heap.size, 2, none⟩ = some (.slice none 0 0) := by rw [cell_atL b5.out]; rfl
                  have z3 : World.cell? w9 ⟨w.heap.size, 3, none⟩ = some (.int .i64 0) := by rw [cell_atL b5.out]; rfl
                  have g0 := frozen_atL b5.out 0
                  have g1' := frozen_atL b5.out 1
                  have g2 := frozen_atL b5.out 2
                  have g3 := frozen_atL b5.out 3
                  have OX5 := hidOf (OX.out _ K9.out)
                  go_upto_region 21 with fail
                  go_region_held3 (fun wx => wx.cell? ⟨p, 7, none⟩ = some (.int .i64 (ny : Nat))) (first | go_keep | assumption) (fail)
                  go_wp2
                  refine bodyPost_ret (results_cell3 rfl _ _ w.heap.size 26 _ (0, 0) _ rfl (blk_set (blk_set (blk_set (blk_set b5.out _ _) _ _) _ _) _ _) Tryz.underlying26 rfl (by kernel_rfl)) rfl ?_
                  have hr := rd_bad HP.out
                  refine ⟨Out.drew (((OX5.out.setCell (Nat.le_refl _) _).setCell (Nat.le_refl _) _ |>.setCell (Nat.le_refl _) _).setCell (Nat.le_refl _) _), none, 0, none, 0, none, 0, ?_, ?_, ?_, ?_⟩
                  · rw [hr]; first | rfl | (simp <;> rfl)
                  · rw [hr]; exact World.ownsRow_nil _ _ _ _
                  · rw [hr]; exact World.ownsRow_nil _ _ _ _
                  · rw [hr]; exact World.ownsRow_nil _ _ _ _
                · have bn : ¬ (ny : Int) < M := by omega
                  obtain ⟨en, hen⟩ : ∃ y, Hid (g4 l 24 = y) := ⟨_, rfl⟩
                  have HP : Hid (pasR l = .ok ⟨L, Fs, Ds, (en : Nat)⟩) := hidOf (HPE.out _ (by
                    unfold enR; rw [hS.out, hF.out, hD.out, hM.out, HFN.out]; simp only; rw [Q1.out, HTD.out]; simp only; rw [if_neg hnM, hen.out]))
                  have B9 := hidOf (bt_chg B2.out K9.out hgp)
                  have CT24 : Hid (∀ wx, Out w9 wx → Calls Tryz.prog 30 #[.slice (some ⟨g, go + 24, none⟩) 4 (c - 24)] wx fun e w' => e = .returned (.int .i64 (en : Nat)) ∧ wx = w') := hidOf fun wx ox => by
                    have := taken_any wx g (go + 24) (c - 24) 4 ((l.drop 24).take 4) (by rw [List.length_take, List.length_drop, HL.out]; omega) (by omega) (bt_sub (B9.out.outI ox) 24 4)
                    rw [tk4 (by rw [HL.out]; omega), hen.out] at this
                    exact this
                  have u1 : ¬ c = 24 := by omega
                  have u2 : ¬ (c : Int) = 24 := by omega
                  have u3 : (28 : Int) ≤ c := by omega
                  have u4 : (24 : Int) ≤ c := by omega
                  have hne1 : ¬ w9.heap.size = p := by omega
                  obtain ⟨Ln, hLn⟩ : ∃ y, Hid (L.length = y) := ⟨_, rfl⟩
                  rw [hLn.out] at c5
                  go_upto_region 22 with fail
                  clear c7
                  go_cut [14] (fun s14 wx => ∃ I : Nat, s14 = .pointer (some ⟨I, 0, none⟩) ∧ w9.heap.size ≤ I ∧ Hid (Out w9 wx) ∧ Hid (wx.heap[I]? = some (.cells #[.slice ta Ln tc, .slice fa F fc, .slice da D dc, .int .i64 (en : Nat)] 26 (0, 0))))
                  case first =>
                    go_region_held3 (fun wx => wx.cell? ⟨p, 5, none⟩ = some (.slice ta Ln tc)) (first | go_keep | assumption) (first | (go_at_call 30; refine (CT24.out _ (by repeat first | with_reducible exact Out.refl _ | with_reducible apply Out.drew | with_reducible apply Out.alloc)).mono ?_; rintro e wy ⟨rfl, hy⟩; subst hy))
                    all_goals (
                      go_wp2
                      go_meet
                      exact ⟨w9.heap.size, rfl, Nat.le_refl _, hidOf (Out.drew (Out.alloc (Out.refl _) _)), hidOf (by rw [heap_drew']; exact heap_alloc_new w9 _)⟩)
                  case rest =>
                    obtain ⟨I, rfl, hI, OC, HIb⟩ := hcut
                    obtain ⟨wA, hwA⟩ : ∃ x, x = wc := ⟨_, rfl⟩
                    subst hwA
                    have i0 : wA.cell? ⟨I, 0, none⟩ = some (.slice ta Ln tc) := by rw [cell_atL HIb.out]; rfl
                    have i1 : wA.cell? ⟨I, 1, none⟩ = some (.slice fa F fc) := by rw [cell_atL HIb.out]; rfl
                    have i2 : wA.cell? ⟨I, 2, none⟩ = some (.slice da D dc) := by rw [cell_atL HIb.out]; rfl
                    have i3 : wA.cell? ⟨I, 3, none⟩ = some (.int .i64 (en : Nat)) := by rw [cell_atL HIb.out]; rfl
                    have sz6 : p + 1 ≤ w6.heap.size := by have := K6.out.size; omega
                    have WT : Hid (wA.ownsRow w3.heap.size 67 5 (.slice ta Ln tc) Ln (insV L)) := hidOf (by
                      have h0 := T6.out.ot
                      rw [hLn.out] at h0
                      have h1 := owns_chg h0 (fun k hk e => by have := (h0.lt k hk).1; omega) ((K67.out.trans K78.out (fun _ h _ => h)).trans K89.out (fun _ h _ => h))
                      exact owns_chg (S := fun _ => False) h1 (fun _ _ h => h) (Chg.of_out OC.out))
                    have WF : Hid (wA.ownsRow w6.heap.size 69 4 (.slice fa F fc) F (fnV Fs)) := hidOf (by
                      have h0 := OF.out
                      have h1 := owns_chg h0 (fun k hk e => by have := (h0.lt k hk).1; omega) (K78.out.trans K89.out (fun _ h _ => h))
                      exact owns_chg (S := fun _ => False) h1 (fun _ _ h => h) (Chg.of_out OC.out))
                    have WD : Hid (wA.ownsRow w7.heap.size 72 5 (.slice da D dc) D (tdV Ds)) := hidOf (by
                      have h0 := OD.out
                      have h1 := owns_chg h0 (fun k hk e => by have := (h0.lt k hk).1; omega) K89.out
                      exact owns_chg (S := fun _ => False) h1 (fun _ _ h => h) (Chg.of_out OC.out))
                    obtain ⟨ka, kb, hab⟩ : ∃ a b, Hid (ckP ⟨L, Fs, Ds, (en : Nat)⟩ = (a, b)) := ⟨_, _, hidOf rfl⟩
                    have CK : Hid (Calls Tryz.prog 17 #[.agg #[.slice ta Ln tc, .slice fa F fc, .slice da D dc, .int .i64 (en : Nat)]] wA fun e w' => e = .returned (.tuple #[.int .i64 (ka : Nat), .int .i64 kb]) ∧ Out wA w') := hidOf (by
                      have hT : OwT wA w3.heap.size (.slice ta L.length tc) L := by unfold OwT; rw [hLn.out]; exact WT.out
                      have hFo : OwF wA w6.heap.size (.slice fa Fs.length fc) Fs := by unfold OwF; rw [Q3.out]; exact WF.out
                      have hDo : OwD wA w7.heap.size (.slice da Ds.length dc) Ds := by unfold OwD; rw [P3.out]; exact WD.out
                      have := refCheck_any ⟨L, Fs, Ds, (en : Nat)⟩ wA ta fa da tc fc dc ⟨hT.insA, hFo.fnA, hDo.tdA, pas_len HP.out (by rw [HL.out]; omega), pas_small HP.out (by rw [HL.out]; omega)⟩ (fun x hx => by have := HKD.out x hx; rw [HBL.out] at this; omega)
                      rw [hab.out] at this
                      simp only at this
                      rw [hLn.out, Q3.out, P3.out] at this
                      exact this)
                    have KA := hidOf (K9.out.trans (T := fun _ => False) (Chg.of_out OC.out) (fun _ h _ => h.elim))
                    clear c5 u1 u2 u3 u4 bn
                    go_upto_region 24 with (go_at_call 17; refine CK.out.mono ?_; rintro e wB ⟨rfl, oB⟩; have OB := hidOf oB; clear oB)
                    have KB := hidOf (KA.out.trans (T := fun _ => False) (Chg.of_out OB.out) (fun _ h _ => h.elim))
                    have i0 := cell_later OB.out i0
                    have i1 := cell_later OB.out i1
                    have i2 := cell_later OB.out i2
                    have i3 := cell_later OB.out i3
                    have b5 := hidOf ((KB.out.block w.heap.size (by rw [szw2]; omega) (by omega)).trans BQ.out)
                    have z0 : wB.cell? ⟨w.heap.size, 0, none⟩ = some (.slice none 0 0) := by rw [cell_atL b5.out]; rfl
                    have z1 : wB.cell? ⟨w.heap.size, 1, none⟩ = some (.slice none 0 0) := by rw [cell_atL b5.out]; rfl
                    have z2 : wB.cell? ⟨w.heap.size, 2, none⟩ = some (.slice none 0 0) := by rw [cell_atL b5.out]; rfl
                    have z3 : wB.cell? ⟨w.heap.size, 3, none⟩ = some (.int .i64 0) := by rw [cell_atL b5.out]; rfl
                    have g0 := frozen_atL b5.out 0
                    have g1' := frozen_atL b5.out 1
                    have g2 := frozen_atL b5.out 2
                    have g3 := frozen_atL b5.out 3
                    have OO := hidOf (OX.out _ KB.out)
                    by_cases hkb : kb = 0
                    · subst hkb
                      go_wp2
                      refine bodyPost_ret (results_cell3 rfl _ _ w.heap.size 26 _ (0, 0) _ rfl (blk_set (blk_set (blk_set (blk_set b5.out _ _) _ _) _ _) _ _) Tryz.underlying26 rfl (by kernel_rfl)) rfl ?_
                      have hr := rd_good HP.out hab.out
                      have hch : ∀ v0 v1 v2 v3, Chg (fun k => k = w.heap.size) wA ((((wB.setCell ⟨w.heap.size, 0, none⟩ v0).setCell ⟨w.heap.size, 1, none⟩ v1).setCell ⟨w.heap.size, 2, none⟩ v2).setCell ⟨w.heap.size, 3, none⟩ v3) := fun v0 v1 v2 v3 => Chg.put4 (S := fun k => k = w.heap.size) (Chg.of_out OB.out) rfl 0 1 2 3 v0 v1 v2 v3
                      refine ⟨((OO.out.setCell (Nat.le_refl _) _).setCell (Nat.le_refl _) _ |>.setCell (Nat.le_refl _) _).setCell (Nat.le_refl _) _, ta, tc, fa, fc, da, dc, ?_, ?_, ?_, ?_⟩
                      · rw [hr]; simp only; rw [hLn.out, Q3.out, P3.out]; rfl
                      · rw [hr]; simp only; unfold OwT; rw [hLn.out]; exact own_base (owns_chg WT.out (fun k hk e => by have := (WT.out.lt k hk).1; omega) (hch _ _ _ _)) (by omega)
                      · rw [hr]; simp only; unfold OwF; rw [Q3.out]; exact own_base (owns_chg WF.out (fun k hk e => by have := (WF.out.lt k hk).1; omega) (hch _ _ _ _)) (by omega)
                      · rw [hr]; simp only; unfold OwD; rw [P3.out]; exact own_base (owns_chg WD.out (fun k hk e => by have := (WD.out.lt k hk).1; omega) (hch _ _ _ _)) (by omega)
                    · have hbt : (kb != 0) = true := by simp [hkb]
                      go_wp2
                      refine bodyPost_ret (results_cell3 rfl _ _ w.heap.size 26 _ (0, 0) _ rfl (blk_set (blk_set (blk_set (blk_set b5.out _ _) _ _) _ _) _ _) Tryz.underlying26 rfl (by kernel_rfl)) rfl ?_
                      have hr := rd_ill HP.out hab.out hkb
                      refine ⟨((OO.out.setCell (Nat.le_refl _) _).setCell (Nat.le_refl _) _ |>.setCell (Nat.le_refl _) _).setCell (Nat.le_refl _) _, none, 0, none, 0, none, 0, ?_, ?_, ?_, ?_⟩
                      · rw [hr]; rfl
                      · rw [hr]; exact World.ownsRow_nil _ _ _ _
                      · rw [hr]; exact World.ownsRow_nil _ _ _ _
                      · rw [hr]; exact World.ownsRow_nil _ _ _ _
end Go.Proofs.YthififblejbleaaGreatDoor
