import Derived.Test.YtbdmbicnlfcclaaSye
namespace Go.Proofs.Ytbdmbicnlfcclaa
open Go.RowKit
set_option linter.unusedVariables false
set_option linter.unusedSimpArgs false
set_option maxRecDepth 8000 in
set_option maxHeartbeats 8000000 in
theorem take3 (w : World) (p : Nat) (r c v n : Int) (h : RB w p ⟨r, c, v⟩) (hc : 0 ≤ c ∧ c ≤ 10000000000000) : Calls Try.prog 32 #[.pointer (some ⟨p, 0, none⟩), .iface 100 (.agg #[]), .int .i64 n] w fun e w' => TkEnd w p (tkS ⟨r, c, v⟩ 3 n) e w' := by
  have HR := hidOf h
  have m1 := meth3_rank
  have m2 := meth3_follows
  have m3 := nilA3
  obtain ⟨hc0, hc1⟩ := hc
  obtain ⟨R, hR⟩ : ∃ R, R = tkS ⟨r, c, v⟩ 3 n := ⟨_, rfl⟩
  rw [← hR]
  have c0 : w.cell? ⟨p, 0, none⟩ = some (.int .i64 r) := h.cells.1
  have OD := hidOf ((Out.refl w).drew)
  have HK : Hid (∀ wx, Out w wx → wx.cell? ⟨p, 0, none⟩ = some (.int .i64 r)) := fun wx o => (HR.out.out o).cells.1
  clear h
  by_cases hlt : r < 3
  · rw [tkS_new hlt] at hR
    have hgt : (3 : Int) > r := hlt
    cases hfo : foP 3 ⟨(3 : Nat), 0, 0⟩ n with
    | false =>
      rw [if_pos hfo] at hR
      subst hR
      have hfo : foP 3 ⟨3, 0, 0⟩ n = false := hfo
      go_enter Try.func32, Try.ntmps32
      go_upto_region 1 with fail
      go_region_held3 (fun wx => wx.cell? ⟨p, 0, none⟩ = some (.int .i64 r)) (first | with_reducible exact HK.out _ (Hid.out (by assumption)) | fail) (first | (go_at_call 81; refine (rank3 _).mono ?_; rintro e w1 ⟨rfl, hO⟩; have HO1 := hidOf (OD.out.trans hO); clear hO) | fail)
      have HR1 := hidOf (HR.out.out HO1.out)
      go_upto_region 2 with fail
      have HK2 : Hid (∀ wx, Out w1 wx → wx.cell? ⟨p, 0, none⟩ = some (.int .i64 r) ∧ wx.cell? ⟨p, 1, none⟩ = some (.int .i64 c) ∧ wx.cell? ⟨p, 2, none⟩ = some (.int .i64 v)) := fun wx o => (HR1.out.out o).cells
      go_upto_region 3 with (first | (go_at_call 81; refine (rank3 _).mono ?_; rintro e w2 ⟨rfl, hO⟩; have HO2 := hidOf hO; have HR2 := hidOf (HR1.out.out hO); obtain ⟨s0, s1, s2⟩ := HK2.out _ hO; have f0 := HR2.out.frozen 0; have f1 := HR2.out.frozen 1; have f2 := HR2.out.frozen 2; clear hO))
      have HRX : Hid (RB (((w2.setCell ⟨p, 0, none⟩ (.int .i64 3)).setCell ⟨p, 1, none⟩ (.int .i64 0)).setCell ⟨p, 2, none⟩ (.int .i64 0)) p ⟨3, 0, 0⟩) := hidOf (HR2.out.set3 _ _ _)
      have HCX : Hid (Chg (fun k => k = p) w (((w2.setCell ⟨p, 0, none⟩ (.int .i64 3)).setCell ⟨p, 1, none⟩ (.int .i64 0)).setCell ⟨p, 2, none⟩ (.int .i64 0))) := hidOf (chg_set (chg_set (chg_set (Chg.of_out (HO1.out.trans HO2.out)) 0 _) 1 _) 2 _)
      clear s0 s1 s2 f0 f1 f2 HK2 HR1 HR2 HR HK c0 hlt hgt
      generalize ((w2.setCell ⟨p, 0, none⟩ (.int .i64 3)).setCell ⟨p, 1, none⟩ (.int .i64 0)).setCell ⟨p, 2, none⟩ (.int .i64 0) = X at *
      have HKX : Hid (∀ wx, Out X wx → wx.cell? ⟨p, 0, none⟩ = some (.int .i64 3) ∧ wx.cell? ⟨p, 1, none⟩ = some (.int .i64 0) ∧ wx.cell? ⟨p, 2, none⟩ = some (.int .i64 0)) := fun wx o => (HRX.out.out o).cells
      have ODX := hidOf ((Out.refl X).drew)
      have CF := hidOf (fun wx => follows_function 3 0 0 n wx (by omega))
      rw [show foP 1 ⟨3, 0, 0⟩ n = foP 3 ⟨3, 0, 0⟩ n from rfl] at CF
      rw [hfo] at CF
      go_region_held3 (fun wx => wx.cell? ⟨p, 0, none⟩ = some (.int .i64 3) ∧ wx.cell? ⟨p, 1, none⟩ = some (.int .i64 0) ∧ wx.cell? ⟨p, 2, none⟩ = some (.int .i64 0)) (first | with_reducible exact HKX.out _ (Hid.out (by assumption)) | fail) (first | (go_at_call 81; refine (rank3 _).mono ?_; rintro e w4 ⟨rfl, hO⟩; have HO4 := hidOf (ODX.out.trans hO); clear hO) | (go_at_call 71; refine (CF.out _).mono ?_; rintro e w5 ⟨rfl, hO⟩; have HO5 := hidOf (HO4.out.trans hO); clear hO) | fail)
      all_goals
        go_wp2
        go_ret
        exact ⟨rfl, chg_out HCX.out HO5.out, _, HRX.out.out HO5.out, fun q2 h => by cases h⟩
    | true =>
      rw [if_neg (by rw [hfo]; simp)] at hR
      subst hR
      have hfo : foP 3 ⟨3, 0, 0⟩ n = true := hfo
      go_enter Try.func32, Try.ntmps32
      go_upto_region 1 with fail
      go_region_held3 (fun wx => wx.cell? ⟨p, 0, none⟩ = some (.int .i64 r)) (first | with_reducible exact HK.out _ (Hid.out (by assumption)) | fail) (first | (go_at_call 81; refine (rank3 _).mono ?_; rintro e w1 ⟨rfl, hO⟩; have HO1 := hidOf (OD.out.trans hO); clear hO) | fail)
      have HR1 := hidOf (HR.out.out HO1.out)
      go_upto_region 2 with fail
      have HK2 : Hid (∀ wx, Out w1 wx → wx.cell? ⟨p, 0, none⟩ = some (.int .i64 r) ∧ wx.cell? ⟨p, 1, none⟩ = some (.int .i64 c) ∧ wx.cell? ⟨p, 2, none⟩ = some (.int .i64 v)) := fun wx o => (HR1.out.out o).cells
      go_upto_region 3 with (first | (go_at_call 81; refine (rank3 _).mono ?_; rintro e w2 ⟨rfl, hO⟩; have HO2 := hidOf hO; have HR2 := hidOf (HR1.out.out hO); obtain ⟨s0, s1, s2⟩ := HK2.out _ hO; have f0 := HR2.out.frozen 0; have f1 := HR2.out.frozen 1; have f2 := HR2.out.frozen 2; clear hO))
      have HRX : Hid (RB (((w2.setCell ⟨p, 0, none⟩ (.int .i64 3)).setCell ⟨p, 1, none⟩ (.int .i64 0)).setCell ⟨p, 2, none⟩ (.int .i64 0)) p ⟨3, 0, 0⟩) := hidOf (HR2.out.set3 _ _ _)
      have HCX : Hid (Chg (fun k => k = p) w (((w2.setCell ⟨p, 0, none⟩ (.int .i64 3)).setCell ⟨p, 1, none⟩ (.int .i64 0)).setCell ⟨p, 2, none⟩ (.int .i64 0))) := hidOf (chg_set (chg_set (chg_set (Chg.of_out (HO1.out.trans HO2.out)) 0 _) 1 _) 2 _)
      clear s0 s1 s2 f0 f1 f2 HK2 HR1 HR2 HR HK c0 hlt hgt
      generalize ((w2.setCell ⟨p, 0, none⟩ (.int .i64 3)).setCell ⟨p, 1, none⟩ (.int .i64 0)).setCell ⟨p, 2, none⟩ (.int .i64 0) = X at *
      have HKX : Hid (∀ wx, Out X wx → wx.cell? ⟨p, 0, none⟩ = some (.int .i64 3) ∧ wx.cell? ⟨p, 1, none⟩ = some (.int .i64 0) ∧ wx.cell? ⟨p, 2, none⟩ = some (.int .i64 0)) := fun wx o => (HRX.out.out o).cells
      have ODX := hidOf ((Out.refl X).drew)
      have CF := hidOf (fun wx => follows_function 3 0 0 n wx (by omega))
      rw [show foP 1 ⟨3, 0, 0⟩ n = foP 3 ⟨3, 0, 0⟩ n from rfl] at CF
      rw [hfo] at CF
      go_region_held3 (fun wx => wx.cell? ⟨p, 0, none⟩ = some (.int .i64 3) ∧ wx.cell? ⟨p, 1, none⟩ = some (.int .i64 0) ∧ wx.cell? ⟨p, 2, none⟩ = some (.int .i64 0)) (first | with_reducible exact HKX.out _ (Hid.out (by assumption)) | fail) (first | (go_at_call 81; refine (rank3 _).mono ?_; rintro e w4 ⟨rfl, hO⟩; have HO4 := hidOf (ODX.out.trans hO); clear hO) | (go_at_call 71; refine (CF.out _).mono ?_; rintro e w5 ⟨rfl, hO⟩; have HO5 := hidOf (HO4.out.trans hO); clear hO) | fail)
      all_goals
        have HR5 := hidOf (HRX.out.out HO5.out)
        obtain ⟨k0, k1, k2⟩ := HR5.out.cells
        have f1 := HR5.out.frozen 1
        have f2 := HR5.out.frozen 2
        have g2 : ∀ u, (w5.setCell ⟨p, 1, none⟩ u).cell? ⟨p, 2, none⟩ = some (.int .i64 (0)) := fun u => by have h := HR5.out; unfold RB at h; simp [World.setCell, World.cell?, Array.getElem?_modify, h]
        have g3 : ∀ u, (w5.setCell ⟨p, 1, none⟩ u).frozen? ⟨p, 2, none⟩ = false := fun u => by have h := HR5.out; unfold RB at h; simp [World.setCell, World.frozen?, Array.getElem?_modify, h]
        simp only at k0 k1 k2
        go_wp2
        go_ret
        refine ⟨rfl, chg_set (chg_set (chg_out HCX.out HO5.out) 1 _) 2 _, _, HR5.out.set12 _ _, fun q2 h => ?_⟩
        have h := Option.some.inj h
        refine Eq.trans ?_ h
        first | rfl | (congr 1; omega)
  · have hgt : ¬ (3 : Int) > r := by omega
    by_cases hlw : (3 : Int) < r
    · rw [tkS_low (by exact hlw)] at hR
      subst hR
      have hlw2 : decide ((3 : Int) < r) = true := decide_eq_true hlw
      go_enter Try.func32, Try.ntmps32
      go_upto_region 1 with fail
      go_region_held3 (fun wx => wx.cell? ⟨p, 0, none⟩ = some (.int .i64 r)) (first | with_reducible exact HK.out _ (Hid.out (by assumption)) | fail) (first | (go_at_call 81; refine (rank3 _).mono ?_; rintro e w1 ⟨rfl, hO⟩; have HO1 := hidOf (OD.out.trans hO); clear hO) | fail)
      have HRX := hidOf (HR.out.out HO1.out)
      have HCX : Hid (Chg (fun k => k = p) w w1) := hidOf (Chg.of_out HO1.out)
      clear HR HK c0
      go_upto_region 3 with fail
      have HKX : Hid (∀ wx, Out w1 wx → wx.cell? ⟨p, 0, none⟩ = some (.int .i64 r) ∧ wx.cell? ⟨p, 1, none⟩ = some (.int .i64 c) ∧ wx.cell? ⟨p, 2, none⟩ = some (.int .i64 v)) := fun wx o => (HRX.out.out o).cells
      have ODX := hidOf ((Out.refl w1).drew)
      refine wp_region_held_drew (S := (fun wx => wx.cell? ⟨p, 0, none⟩ = some (.int .i64 r) ∧ wx.cell? ⟨p, 1, none⟩ = some (.int .i64 c) ∧ wx.cell? ⟨p, 2, none⟩ = some (.int .i64 v))) (by kernel_rfl) (HKX.out _ ODX.out) (fun hHeld => ?_)
      refine wpAnyH_do (i := 0) (v := ?_) (some 19) rfl rfl (by kernel_rfl) (by kernel_rfl) (by kernel_rfl) (fun _ _ _ h => h) (by rfl) ?_ (by assumption) ?_
      rotate_left
      · intro w hSw
        (try dsimp only at hSw)
        go_simp
        first | done | with_reducible rfl
      simp only [Act.put, List.setIfInBounds_toArray, List.set_cons_zero, List.set_cons_succ]
      refine wpAnyH_do (i := 2) (v := ?_) (some 21) rfl rfl (by kernel_rfl) (by kernel_rfl) (by kernel_rfl) (fun _ _ _ h => h) (by rfl) ?_ (by assumption) ?_
      rotate_left
      · intro w hSw
        (try dsimp only at hSw)
        go_simp
        first | done | with_reducible rfl
      simp only [Act.put, List.setIfInBounds_toArray, List.set_cons_zero, List.set_cons_succ]
      refine wpAnyH_do (i := 3) (v := ?_) (some 22) rfl rfl (by kernel_rfl) (by kernel_rfl) (by kernel_rfl) (fun _ _ _ h => h) (by rfl) ?_ (by assumption) ?_
      rotate_left
      · intro w hSw
        (try dsimp only at hSw)
        go_simp
        first | done | with_reducible rfl
      simp only [Act.put, List.setIfInBounds_toArray, List.set_cons_zero, List.set_cons_succ]
      refine wpAnyH_do (i := 4) (v := ?_) (some 23) rfl rfl (by kernel_rfl) (by kernel_rfl) (by kernel_rfl) (fun _ _ _ h => h) (by rfl) ?_ (by assumption) ?_
      rotate_left
      · intro w hSw
        (try dsimp only at hSw)
        go_simp
        first | done | with_reducible rfl
      simp only [Act.put, List.setIfInBounds_toArray, List.set_cons_zero, List.set_cons_succ]
      refine wpAnyH_do (i := 5) (v := ?_) (some 24) rfl rfl (by kernel_rfl) (by kernel_rfl) (by kernel_rfl) (fun _ _ _ h => h) (by rfl) ?_ (by assumption) ?_
      rotate_left
      · intro w hSw
        (try dsimp only at hSw)
        go_simp
        first | done | with_reducible rfl
      simp only [Act.put, List.setIfInBounds_toArray, List.set_cons_zero, List.set_cons_succ]
      refine wpAnyH_ready (rs := [1]) (by kernel_rfl) (by simp) ?_
      refine AllReadyH.cons (o := _) rfl (fun K hK => ?_) AllReadyH.nil
      go_simp
      go_at_call 81
      refine (rank3 _).mono ?_
      rintro e w4 ⟨rfl, hO⟩
      have HO4 := hidOf (ODX.out.trans hO)
      clear hO
      dsimp only
      refine hK.out _ _ (HKX.out _ HO4.out) (fun hHeld => ?_)
      clear hK
      refine wpAnyH_do (i := 6) (v := ?_) (some 25) rfl rfl (by kernel_rfl) (by kernel_rfl) (by kernel_rfl) (fun _ _ _ h => h) (by rfl) ?_ (by assumption) ?_
      rotate_left
      · intro w hSw
        (try dsimp only at hSw)
        go_simp
        first | done | with_reducible rfl
      simp only [Act.put, List.setIfInBounds_toArray, List.set_cons_zero, List.set_cons_succ]
      refine wpAnyH_do (i := 7) (v := ?_) (some 26) rfl rfl (by kernel_rfl) (by kernel_rfl) (by kernel_rfl) (fun _ _ _ h => h) (by rfl) ?_ (by assumption) ?_
      rotate_left
      · intro w hSw
        (try dsimp only at hSw)
        go_simp
        first | done | with_reducible rfl
      simp only [Act.put, List.setIfInBounds_toArray, List.set_cons_zero, List.set_cons_succ]
      refine wpAnyH_skip (i := 8) (some 27) rfl rfl (by kernel_rfl) (by kernel_rfl) (by kernel_rfl) (fun _ _ _ h => h) (by rfl) (by assumption) ?_
      simp only [Act.put, List.setIfInBounds_toArray, List.set_cons_zero, List.set_cons_succ]
      refine wpAnyH_skip (i := 9) (some 28) rfl rfl (by kernel_rfl) (by kernel_rfl) (by kernel_rfl) (fun _ _ _ h => h) (by rfl) (by assumption) ?_
      simp only [Act.put, List.setIfInBounds_toArray, List.set_cons_zero, List.set_cons_succ]
      refine wpAnyH_skip (i := 10) (some 29) rfl rfl (by kernel_rfl) (by kernel_rfl) (by kernel_rfl) (fun _ _ _ h => h) (by rfl) (by assumption) ?_
      simp only [Act.put, List.setIfInBounds_toArray, List.set_cons_zero, List.set_cons_succ]
      refine wpAnyH_skip (i := 11) (some 30) rfl rfl (by kernel_rfl) (by kernel_rfl) (by kernel_rfl) (fun _ _ _ h => h) (by rfl) (by assumption) ?_
      simp only [Act.put, List.setIfInBounds_toArray, List.set_cons_zero, List.set_cons_succ]
      refine wpAnyH_skip (i := 12) (some 31) rfl rfl (by kernel_rfl) (by kernel_rfl) (by kernel_rfl) (fun _ _ _ h => h) (by rfl) (by assumption) ?_
      simp only [Act.put, List.setIfInBounds_toArray, List.set_cons_zero, List.set_cons_succ]
      refine wpAnyH_skip (i := 13) (some 32) rfl rfl (by kernel_rfl) (by kernel_rfl) (by kernel_rfl) (fun _ _ _ h => h) (by rfl) (by assumption) ?_
      simp only [Act.put, List.setIfInBounds_toArray, List.set_cons_zero, List.set_cons_succ]
      refine wpAnyH_skip (i := 14) (some 33) rfl rfl (by kernel_rfl) (by kernel_rfl) (by kernel_rfl) (fun _ _ _ h => h) (by rfl) (by assumption) ?_
      simp only [Act.put, List.setIfInBounds_toArray, List.set_cons_zero, List.set_cons_succ]
      refine wpAnyH_skip (i := 15) (some 34) rfl rfl (by kernel_rfl) (by kernel_rfl) (by kernel_rfl) (fun _ _ _ h => h) (by rfl) (by assumption) ?_
      simp only [Act.put, List.setIfInBounds_toArray, List.set_cons_zero, List.set_cons_succ]
      refine wpAnyH_skip (i := 16) (some 35) rfl rfl (by kernel_rfl) (by kernel_rfl) (by kernel_rfl) (fun _ _ _ h => h) (by rfl) (by assumption) ?_
      simp only [Act.put, List.setIfInBounds_toArray, List.set_cons_zero, List.set_cons_succ]
      refine wpAnyH_skip (i := 17) (some 36) rfl rfl (by kernel_rfl) (by kernel_rfl) (by kernel_rfl) (fun _ _ _ h => h) (by rfl) (by assumption) ?_
      simp only [Act.put, List.setIfInBounds_toArray, List.set_cons_zero, List.set_cons_succ]
      refine wpAnyH_do (i := 18) (v := ?_) (some 37) rfl rfl (by kernel_rfl) (by kernel_rfl) (by kernel_rfl) (fun _ _ _ h => h) (by rfl) ?_ (by assumption) ?_
      rotate_left
      · intro w hSw
        (try dsimp only at hSw)
        go_simp
        first | done | with_reducible rfl
      simp only [Act.put, List.setIfInBounds_toArray, List.set_cons_zero, List.set_cons_succ]
      refine wpAnyH_done (by kernel_rfl) ?_ _
      all_goals
        go_wp2
        go_ret
        exact ⟨rfl, chg_out HCX.out HO4.out, _, HRX.out.out HO4.out, fun q2 h => by cases h⟩
    · obtain rfl : r = 3 := by omega
      rw [tkS_eq rfl] at hR
      clear hlt hlw
      cases hfo : foP 3 ⟨3, c, v⟩ n with
      | false =>
        rw [if_pos hfo] at hR
        subst hR
        go_enter Try.func32, Try.ntmps32
        go_upto_region 1 with fail
        go_region_held3 (fun wx => wx.cell? ⟨p, 0, none⟩ = some (.int .i64 3)) (first | with_reducible exact HK.out _ (Hid.out (by assumption)) | fail) (first | (go_at_call 81; refine (rank3 _).mono ?_; rintro e w1 ⟨rfl, hO⟩; have HO1 := hidOf (OD.out.trans hO); clear hO) | fail)
        have HRX := hidOf (HR.out.out HO1.out)
        have HCX : Hid (Chg (fun k => k = p) w w1) := hidOf (Chg.of_out HO1.out)
        clear HR HK c0
        go_upto_region 3 with fail
        have HKX : Hid (∀ wx, Out w1 wx → wx.cell? ⟨p, 0, none⟩ = some (.int .i64 3) ∧ wx.cell? ⟨p, 1, none⟩ = some (.int .i64 c) ∧ wx.cell? ⟨p, 2, none⟩ = some (.int .i64 v)) := fun wx o => (HRX.out.out o).cells
        have ODX := hidOf ((Out.refl w1).drew)
        have CF := hidOf (fun wx => follows_function 3 c v n wx (by omega))
        rw [show foP 1 ⟨3, c, v⟩ n = foP 3 ⟨3, c, v⟩ n from rfl] at CF
        rw [hfo] at CF
        go_region_held3 (fun wx => wx.cell? ⟨p, 0, none⟩ = some (.int .i64 3) ∧ wx.cell? ⟨p, 1, none⟩ = some (.int .i64 c) ∧ wx.cell? ⟨p, 2, none⟩ = some (.int .i64 v)) (first | with_reducible exact HKX.out _ (Hid.out (by assumption)) | fail) (first | (go_at_call 81; refine (rank3 _).mono ?_; rintro e w4 ⟨rfl, hO⟩; have HO4 := hidOf (ODX.out.trans hO); clear hO) | (go_at_call 71; refine (CF.out _).mono ?_; rintro e w5 ⟨rfl, hO⟩; have HO5 := hidOf (HO4.out.trans hO); clear hO) | fail)
        all_goals
          go_wp2
          go_ret
          exact ⟨rfl, chg_out HCX.out HO5.out, _, HRX.out.out HO5.out, fun q2 h => by cases h⟩
      | true =>
        rw [if_neg (by rw [hfo]; simp)] at hR
        subst hR
        go_enter Try.func32, Try.ntmps32
        go_upto_region 1 with fail
        go_region_held3 (fun wx => wx.cell? ⟨p, 0, none⟩ = some (.int .i64 3)) (first | with_reducible exact HK.out _ (Hid.out (by assumption)) | fail) (first | (go_at_call 81; refine (rank3 _).mono ?_; rintro e w1 ⟨rfl, hO⟩; have HO1 := hidOf (OD.out.trans hO); clear hO) | fail)
        have HRX := hidOf (HR.out.out HO1.out)
        have HCX : Hid (Chg (fun k => k = p) w w1) := hidOf (Chg.of_out HO1.out)
        clear HR HK c0
        go_upto_region 3 with fail
        have HKX : Hid (∀ wx, Out w1 wx → wx.cell? ⟨p, 0, none⟩ = some (.int .i64 3) ∧ wx.cell? ⟨p, 1, none⟩ = some (.int .i64 c) ∧ wx.cell? ⟨p, 2, none⟩ = some (.int .i64 v)) := fun wx o => (HRX.out.out o).cells
        have ODX := hidOf ((Out.refl w1).drew)
        have CF := hidOf (fun wx => follows_function 3 c v n wx (by omega))
        rw [show foP 1 ⟨3, c, v⟩ n = foP 3 ⟨3, c, v⟩ n from rfl] at CF
        rw [hfo] at CF
        go_region_held3 (fun wx => wx.cell? ⟨p, 0, none⟩ = some (.int .i64 3) ∧ wx.cell? ⟨p, 1, none⟩ = some (.int .i64 c) ∧ wx.cell? ⟨p, 2, none⟩ = some (.int .i64 v)) (first | with_reducible exact HKX.out _ (Hid.out (by assumption)) | fail) (first | (go_at_call 81; refine (rank3 _).mono ?_; rintro e w4 ⟨rfl, hO⟩; have HO4 := hidOf (ODX.out.trans hO); clear hO) | (go_at_call 71; refine (CF.out _).mono ?_; rintro e w5 ⟨rfl, hO⟩; have HO5 := hidOf (HO4.out.trans hO); clear hO) | fail)
        all_goals
          have HR5 := hidOf (HRX.out.out HO5.out)
          obtain ⟨k0, k1, k2⟩ := HR5.out.cells
          have f1 := HR5.out.frozen 1
          have f2 := HR5.out.frozen 2
          have g2 : ∀ u, (w5.setCell ⟨p, 1, none⟩ u).cell? ⟨p, 2, none⟩ = some (.int .i64 (v)) := fun u => by have h := HR5.out; unfold RB at h; simp [World.setCell, World.cell?, Array.getElem?_modify, h]
          have g3 : ∀ u, (w5.setCell ⟨p, 1, none⟩ u).frozen? ⟨p, 2, none⟩ = false := fun u => by have h := HR5.out; unfold RB at h; simp [World.setCell, World.frozen?, Array.getElem?_modify, h]
          simp only at k0 k1 k2
          go_wp2
          go_ret
          refine ⟨rfl, chg_set (chg_set (chg_out HCX.out HO5.out) 1 _) 2 _, _, HR5.out.set12 _ _, fun q2 h => ?_⟩
          have h := Option.some.inj h
          refine Eq.trans ?_ h
          first | rfl | (congr 1; omega)
end Go.Proofs.Ytbdmbicnlfcclaa
