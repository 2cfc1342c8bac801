import Derived.Test.YtikmaoigepoeoaaSwf
namespace Go.Proofs.Ytikmaoigepoeoaa
open Go.RowKit
set_option linter.unusedVariables false
set_option linter.unusedSimpArgs false
set_option maxRecDepth 20000 in
set_option maxHeartbeats 4000000 in
theorem backY_any (w : World) (p g m : Nat) (l R : List Sy) (h : Db w p g m (tgY l ++ R)) (a : Option Addr) (cap : Nat) (hr : SyAt w.heap.size w a l) (hcap : l.length ≤ cap) (hmm : m ≤ 1000000000000) :
    Calls Try.prog 21 #[.pointer (some ⟨p, 0, none⟩), .slice a l.length cap] w fun e w' => e = .returned (.bool true) ∧ Out w w' := by
  have hm : 2 * l.length + 70 ≤ m := by have := h.len_; rw [List.length_append, tgY_len] at this; omega
  have H := hidOf h
  have HR := hidOf hr
  have hcI : (l.length : Int) ≤ cap := by omega
  clear h hr
  go_enter Try.func21, Try.ntmps21
  go_wp2
  go_loopw [5] (fun kv wr => ∃ j : Nat, kv = .int .i64 j ∧ j ≤ 2 * l.length + 70 ∧ Hid (Out w wr)) (fun kv _ => 2 * l.length + 70 - (intOf kv).toNat)
  case atStart => exact ⟨0, rfl, by omega, hidOf (Out.refl w)⟩
  case round =>
    obtain ⟨j, rfl, hj, HO⟩ := hrel
    have HB := hidOf (H.out.out HO.out)
    have d0 := HB.out.c0
    have hj0 : (0 : Int) ≤ j := by omega
    by_cases hlt : j < 2 * l.length + 70
    · have hltI : (j : Int) < 2 * (l.length : Int) + 70 := by omega
      have hjm : (j : Int) < m := by omega
      by_cases hjn : j < l.length
      · have hjnI : (j : Int) < l.length := by omega
        have hjB : decide ((j : Int) < (l.length : Int)) = true := by simp; omega
        have hjN : decide (j < l.length) = true := by simp; omega
        have hgB : decide ((l.length : Int) ≤ (j : Int)) = false := by simp; omega
        have hgN : decide (l.length ≤ j) = false := by simp; omega
        obtain ⟨x, hx⟩ : ∃ x, l[j]? = some x := ⟨_, List.getElem?_eq_getElem hjn⟩
        obtain ⟨b, off, rfl, _, hX⟩ := (HR.out.out HO.out).get hx
        have hY := HB.out.hg.cells (i := j) (x := x) (by rw [List.getElem?_append_left (by rw [tgY_len]; omega)]; exact tgY_lo hx)
        obtain ⟨na, bi, ki, se, va, si⟩ := x
        obtain ⟨q0, q1, q2, q3, q4, q5⟩ := hX
        obtain ⟨y0, y1, y2, y3, y4, y5⟩ := hY
        simp only at q0 q1 q2 q3 q4 q5 y0 y1 y2 y3 y4 y5
        clear hx
        go_upto_region 4 with fail
        go_quiet (fail)
        all_goals
          go_wp2
          go_roundw
          case rel => exact ⟨j + 1, by simp, by omega, hidOf (HO.out.drewN _)⟩
          case measure => simp [intOf]; omega
      · have hjnI : ¬ (j : Int) < l.length := by omega
        have hjB : decide ((j : Int) < (l.length : Int)) = false := by simp; omega
        have hjN : decide (j < l.length) = false := by simp; omega
        have hgI : (l.length : Int) ≤ j := by omega
        have hgB : decide ((l.length : Int) ≤ (j : Int)) = true := by simp; omega
        have hgN : decide (l.length ≤ j) = true := by simp; omega
        have hY := HB.out.hg.cells (i := j) (x := behY j) (by rw [List.getElem?_append_left (by rw [tgY_len]; omega)]; exact tgY_hi (by omega) hlt)
        obtain ⟨y0, y1, y2, y3, y4, y5⟩ := hY
        simp only [behY] at y0 y1 y2 y3 y4 y5
        go_upto_region 4 with fail
        refine wp_region_held_drew (S := (fun w' => w'.cell? ⟨p, 0, none⟩ = some (.slice (some ⟨g, 0, none⟩) m m) ∧ w'.cell? ⟨g, j * 6, none⟩ = some (.int .i64 (-9 - (j : Int))) ∧ w'.cell? ⟨g, j * 6 + 1, none⟩ = some (.int .i64 0) ∧ w'.cell? ⟨g, j * 6 + 2, none⟩ = some (.int .i64 0) ∧ w'.cell? ⟨g, j * 6 + 3, none⟩ = some (.int .i64 0) ∧ w'.cell? ⟨g, j * 6 + 4, none⟩ = some (.int .i64 (3 * (j : Int))) ∧ w'.cell? ⟨g, j * 6 + 5, none⟩ = some (.int .i64 0))) (by kernel_rfl) ?_ (fun hHeld => ?_)
        · exact ⟨d0, y0, y1, y2, y3, y4, y5⟩
        refine wpAnyH_take (i := 0) (v := ?_) rfl (by kernel_rfl) (by kernel_rfl) (by kernel_rfl) (fun _ _ _ h => h) (Or.inl ⟨by rfl, ?_⟩) (by assumption) ?_
        rotate_left
        · (intro w hSw; (try dsimp only at hSw); go_simp; (try with_reducible rfl))
        show wpAnyH _ _ _ _ _ _ _ (Act.put _ (some 14) _) _
        simp only [Act.put, List.setIfInBounds_toArray, List.set_cons_zero, List.set_cons_succ]
        refine wpAnyH_take (i := 1) (v := ?_) rfl (by kernel_rfl) (by kernel_rfl) (by kernel_rfl) (fun _ _ _ h => h) (Or.inl ⟨by rfl, ?_⟩) (by assumption) ?_
        rotate_left
        · (intro w hSw; (try dsimp only at hSw); go_simp; (try with_reducible rfl))
        show wpAnyH _ _ _ _ _ _ _ (Act.put _ (some 15) _) _
        simp only [Act.put, List.setIfInBounds_toArray, List.set_cons_zero, List.set_cons_succ]
        refine wpAnyH_take (i := 2) (v := ?_) rfl (by kernel_rfl) (by kernel_rfl) (by kernel_rfl) (fun _ _ _ h => h) (Or.inl ⟨by rfl, ?_⟩) (by assumption) ?_
        rotate_left
        · (intro w hSw; (try dsimp only at hSw); go_simp; (try with_reducible rfl))
        show wpAnyH _ _ _ _ _ _ _ (Act.put _ (some 16) _) _
        simp only [Act.put, List.setIfInBounds_toArray, List.set_cons_zero, List.set_cons_succ]
        refine wpAnyH_take (i := 3) (v := ?_) rfl (by kernel_rfl) (by kernel_rfl) (by kernel_rfl) (fun _ _ _ h => h) (Or.inl ⟨by rfl, ?_⟩) (by assumption) ?_
        rotate_left
        · (intro w hSw; (try dsimp only at hSw); go_simp; (try with_reducible rfl))
        show wpAnyH _ _ _ _ _ _ _ (Act.put _ (some 17) _) _
        simp only [Act.put, List.setIfInBounds_toArray, List.set_cons_zero, List.set_cons_succ]
        refine wpAnyH_take (i := 4) (v := ?_) rfl (by kernel_rfl) (by kernel_rfl) (by kernel_rfl) (fun _ _ _ h => h) (Or.inl ⟨by rfl, ?_⟩) (by assumption) ?_
        rotate_left
        · (intro w hSw; (try dsimp only at hSw); go_simp; (try with_reducible rfl))
        show wpAnyH _ _ _ _ _ _ _ (Act.put _ (some 18) _) _
        simp only [Act.put, List.setIfInBounds_toArray, List.set_cons_zero, List.set_cons_succ]
        refine wpAnyH_take (i := 5) (v := undef) rfl (by kernel_rfl) (by kernel_rfl) (by kernel_rfl) (fun _ _ _ h => h) (Or.inr ⟨by rfl, rfl⟩) (by assumption) ?_
        show wpAnyH _ _ _ _ _ _ _ (Act.put _ (some 19) _) _
        simp only [Act.put, List.setIfInBounds_toArray, List.set_cons_zero, List.set_cons_succ]
        refine wpAnyH_take (i := 6) (v := undef) rfl (by kernel_rfl) (by kernel_rfl) (by kernel_rfl) (fun _ _ _ h => h) (Or.inr ⟨by rfl, rfl⟩) (by assumption) ?_
        show wpAnyH _ _ _ _ _ _ _ (Act.put _ (some 20) _) _
        simp only [Act.put, List.setIfInBounds_toArray, List.set_cons_zero, List.set_cons_succ]
        refine wpAnyH_take (i := 7) (v := undef) rfl (by kernel_rfl) (by kernel_rfl) (by kernel_rfl) (fun _ _ _ h => h) (Or.inr ⟨by rfl, rfl⟩) (by assumption) ?_
        show wpAnyH _ _ _ _ _ _ _ (Act.put _ (some 21) _) _
        simp only [Act.put, List.setIfInBounds_toArray, List.set_cons_zero, List.set_cons_succ]
        refine wpAnyH_take (i := 8) (v := undef) rfl (by kernel_rfl) (by kernel_rfl) (by kernel_rfl) (fun _ _ _ h => h) (Or.inr ⟨by rfl, rfl⟩) (by assumption) ?_
        show wpAnyH _ _ _ _ _ _ _ (Act.put _ (some 22) _) _
        simp only [Act.put, List.setIfInBounds_toArray, List.set_cons_zero, List.set_cons_succ]
        refine wpAnyH_take (i := 9) (v := undef) rfl (by kernel_rfl) (by kernel_rfl) (by kernel_rfl) (fun _ _ _ h => h) (Or.inr ⟨by rfl, rfl⟩) (by assumption) ?_
        show wpAnyH _ _ _ _ _ _ _ (Act.put _ (some 23) _) _
        simp only [Act.put, List.setIfInBounds_toArray, List.set_cons_zero, List.set_cons_succ]
        refine wpAnyH_take (i := 10) (v := undef) rfl (by kernel_rfl) (by kernel_rfl) (by kernel_rfl) (fun _ _ _ h => h) (Or.inr ⟨by rfl, rfl⟩) (by assumption) ?_
        show wpAnyH _ _ _ _ _ _ _ (Act.put _ (some 24) _) _
        simp only [Act.put, List.setIfInBounds_toArray, List.set_cons_zero, List.set_cons_succ]
        refine wpAnyH_take (i := 11) (v := undef) rfl (by kernel_rfl) (by kernel_rfl) (by kernel_rfl) (fun _ _ _ h => h) (Or.inr ⟨by rfl, rfl⟩) (by assumption) ?_
        show wpAnyH _ _ _ _ _ _ _ (Act.put _ (some 25) _) _
        simp only [Act.put, List.setIfInBounds_toArray, List.set_cons_zero, List.set_cons_succ]
        refine wpAnyH_take (i := 12) (v := undef) rfl (by kernel_rfl) (by kernel_rfl) (by kernel_rfl) (fun _ _ _ h => h) (Or.inr ⟨by rfl, rfl⟩) (by assumption) ?_
        show wpAnyH _ _ _ _ _ _ _ (Act.put _ (some 26) _) _
        simp only [Act.put, List.setIfInBounds_toArray, List.set_cons_zero, List.set_cons_succ]
        refine wpAnyH_take (i := 13) (v := undef) rfl (by kernel_rfl) (by kernel_rfl) (by kernel_rfl) (fun _ _ _ h => h) (Or.inr ⟨by rfl, rfl⟩) (by assumption) ?_
        show wpAnyH _ _ _ _ _ _ _ (Act.put _ (some 27) _) _
        simp only [Act.put, List.setIfInBounds_toArray, List.set_cons_zero, List.set_cons_succ]
        refine wpAnyH_take (i := 14) (v := undef) rfl (by kernel_rfl) (by kernel_rfl) (by kernel_rfl) (fun _ _ _ h => h) (Or.inr ⟨by rfl, rfl⟩) (by assumption) ?_
        show wpAnyH _ _ _ _ _ _ _ (Act.put _ (some 28) _) _
        simp only [Act.put, List.setIfInBounds_toArray, List.set_cons_zero, List.set_cons_succ]
        refine wpAnyH_take (i := 15) (v := undef) rfl (by kernel_rfl) (by kernel_rfl) (by kernel_rfl) (fun _ _ _ h => h) (Or.inr ⟨by rfl, rfl⟩) (by assumption) ?_
        show wpAnyH _ _ _ _ _ _ _ (Act.put _ (some 29) _) _
        simp only [Act.put, List.setIfInBounds_toArray, List.set_cons_zero, List.set_cons_succ]
        refine wpAnyH_take (i := 16) (v := undef) rfl (by kernel_rfl) (by kernel_rfl) (by kernel_rfl) (fun _ _ _ h => h) (Or.inr ⟨by rfl, rfl⟩) (by assumption) ?_
        show wpAnyH _ _ _ _ _ _ _ (Act.put _ (some 30) _) _
        simp only [Act.put, List.setIfInBounds_toArray, List.set_cons_zero, List.set_cons_succ]
        refine wpAnyH_take (i := 17) (v := ?_) rfl (by kernel_rfl) (by kernel_rfl) (by kernel_rfl) (fun _ _ _ h => h) (Or.inl ⟨by rfl, ?_⟩) (by assumption) ?_
        rotate_left
        · (intro w hSw; (try dsimp only at hSw); go_simp; (try with_reducible rfl))
        show wpAnyH _ _ _ _ _ _ _ (Act.put _ (some 31) _) _
        simp only [Act.put, List.setIfInBounds_toArray, List.set_cons_zero, List.set_cons_succ]
        refine wpAnyH_take (i := 18) (v := ?_) rfl (by kernel_rfl) (by kernel_rfl) (by kernel_rfl) (fun _ _ _ h => h) (Or.inl ⟨by rfl, ?_⟩) (by assumption) ?_
        rotate_left
        · (intro w hSw; (try dsimp only at hSw); go_simp; (try with_reducible rfl))
        show wpAnyH _ _ _ _ _ _ _ (Act.put _ (some 32) _) _
        simp only [Act.put, List.setIfInBounds_toArray, List.set_cons_zero, List.set_cons_succ]
        refine wpAnyH_take (i := 19) (v := ?_) rfl (by kernel_rfl) (by kernel_rfl) (by kernel_rfl) (fun _ _ _ h => h) (Or.inl ⟨by rfl, ?_⟩) (by assumption) ?_
        rotate_left
        · (intro w hSw; (try dsimp only at hSw); go_simp; (try with_reducible rfl))
        show wpAnyH _ _ _ _ _ _ _ (Act.put _ (some 33) _) _
        simp only [Act.put, List.setIfInBounds_toArray, List.set_cons_zero, List.set_cons_succ]
        refine wpAnyH_take (i := 20) (v := ?_) rfl (by kernel_rfl) (by kernel_rfl) (by kernel_rfl) (fun _ _ _ h => h) (Or.inl ⟨by rfl, ?_⟩) (by assumption) ?_
        rotate_left
        · (intro w hSw; (try dsimp only at hSw); go_simp; (try with_reducible rfl))
        show wpAnyH _ _ _ _ _ _ _ (Act.put _ (some 34) _) _
        simp only [Act.put, List.setIfInBounds_toArray, List.set_cons_zero, List.set_cons_succ]
        refine wpAnyH_take (i := 21) (v := ?_) rfl (by kernel_rfl) (by kernel_rfl) (by kernel_rfl) (fun _ _ _ h => h) (Or.inl ⟨by rfl, ?_⟩) (by assumption) ?_
        rotate_left
        · (intro w hSw; (try dsimp only at hSw); go_simp; (try with_reducible rfl))
        show wpAnyH _ _ _ _ _ _ _ (Act.put _ (some 35) _) _
        simp only [Act.put, List.setIfInBounds_toArray, List.set_cons_zero, List.set_cons_succ]
        refine wpAnyH_take (i := 22) (v := ?_) rfl (by kernel_rfl) (by kernel_rfl) (by kernel_rfl) (fun _ _ _ h => h) (Or.inl ⟨by rfl, ?_⟩) (by assumption) ?_
        rotate_left
        · (intro w hSw; (try dsimp only at hSw); go_simp; (try with_reducible rfl))
        show wpAnyH _ _ _ _ _ _ _ (Act.put _ (some 36) _) _
        simp only [Act.put, List.setIfInBounds_toArray, List.set_cons_zero, List.set_cons_succ]
        refine wpAnyH_take (i := 23) (v := ?_) rfl (by kernel_rfl) (by kernel_rfl) (by kernel_rfl) (fun _ _ _ h => h) (Or.inl ⟨by rfl, ?_⟩) (by assumption) ?_
        rotate_left
        · (intro w hSw; (try dsimp only at hSw); go_simp; (try with_reducible rfl))
        show wpAnyH _ _ _ _ _ _ _ (Act.put _ (some 37) _) _
        simp only [Act.put, List.setIfInBounds_toArray, List.set_cons_zero, List.set_cons_succ]
        refine wpAnyH_take (i := 24) (v := ?_) rfl (by kernel_rfl) (by kernel_rfl) (by kernel_rfl) (fun _ _ _ h => h) (Or.inl ⟨by rfl, ?_⟩) (by assumption) ?_
        rotate_left
        · (intro w hSw; (try dsimp only at hSw); go_simp; (try with_reducible rfl))
        show wpAnyH _ _ _ _ _ _ _ (Act.put _ (some 38) _) _
        simp only [Act.put, List.setIfInBounds_toArray, List.set_cons_zero, List.set_cons_succ]
        refine wpAnyH_take (i := 25) (v := ?_) rfl (by kernel_rfl) (by kernel_rfl) (by kernel_rfl) (fun _ _ _ h => h) (Or.inl ⟨by rfl, ?_⟩) (by assumption) ?_
        rotate_left
        · (intro w hSw; (try dsimp only at hSw); go_simp; (try with_reducible rfl))
        show wpAnyH _ _ _ _ _ _ _ (Act.put _ (some 39) _) _
        simp only [Act.put, List.setIfInBounds_toArray, List.set_cons_zero, List.set_cons_succ]
        refine wpAnyH_take (i := 26) (v := ?_) rfl (by kernel_rfl) (by kernel_rfl) (by kernel_rfl) (fun _ _ _ h => h) (Or.inl ⟨by rfl, ?_⟩) (by assumption) ?_
        rotate_left
        · (intro w hSw; (try dsimp only at hSw); go_simp; (try with_reducible rfl))
        show wpAnyH _ _ _ _ _ _ _ (Act.put _ (some 40) _) _
        simp only [Act.put, List.setIfInBounds_toArray, List.set_cons_zero, List.set_cons_succ]
        refine wpAnyH_take (i := 27) (v := ?_) rfl (by kernel_rfl) (by kernel_rfl) (by kernel_rfl) (fun _ _ _ h => h) (Or.inl ⟨by rfl, ?_⟩) (by assumption) ?_
        rotate_left
        · (intro w hSw; (try dsimp only at hSw); go_simp; (try with_reducible rfl))
        show wpAnyH _ _ _ _ _ _ _ (Act.put _ (some 41) _) _
        simp only [Act.put, List.setIfInBounds_toArray, List.set_cons_zero, List.set_cons_succ]
        refine wpAnyH_take (i := 28) (v := ?_) rfl (by kernel_rfl) (by kernel_rfl) (by kernel_rfl) (fun _ _ _ h => h) (Or.inl ⟨by rfl, ?_⟩) (by assumption) ?_
        rotate_left
        · (intro w hSw; (try dsimp only at hSw); go_simp; (try with_reducible rfl))
        show wpAnyH _ _ _ _ _ _ _ (Act.put _ (some 42) _) _
        simp only [Act.put, List.setIfInBounds_toArray, List.set_cons_zero, List.set_cons_succ]
        refine wpAnyH_take (i := 29) (v := ?_) rfl (by kernel_rfl) (by kernel_rfl) (by kernel_rfl) (fun _ _ _ h => h) (Or.inl ⟨by rfl, ?_⟩) (by assumption) ?_
        rotate_left
        · (intro w hSw; (try dsimp only at hSw); go_simp; (try with_reducible rfl))
        show wpAnyH _ _ _ _ _ _ _ (Act.put _ (some 43) _) _
        simp only [Act.put, List.setIfInBounds_toArray, List.set_cons_zero, List.set_cons_succ]
        refine wpAnyH_take (i := 30) (v := ?_) rfl (by kernel_rfl) (by kernel_rfl) (by kernel_rfl) (fun _ _ _ h => h) (Or.inl ⟨by rfl, ?_⟩) (by assumption) ?_
        rotate_left
        · (intro w hSw; (try dsimp only at hSw); go_simp; (try with_reducible rfl))
        show wpAnyH _ _ _ _ _ _ _ (Act.put _ (some 44) _) _
        simp only [Act.put, List.setIfInBounds_toArray, List.set_cons_zero, List.set_cons_succ]
        refine wpAnyH_take (i := 31) (v := ?_) rfl (by kernel_rfl) (by kernel_rfl) (by kernel_rfl) (fun _ _ _ h => h) (Or.inl ⟨by rfl, ?_⟩) (by assumption) ?_
        rotate_left
        · (intro w hSw; (try dsimp only at hSw); go_simp; (try with_reducible rfl))
        show wpAnyH _ _ _ _ _ _ _ (Act.put _ (some 45) _) _
        simp only [Act.put, List.setIfInBounds_toArray, List.set_cons_zero, List.set_cons_succ]
        refine wpAnyH_ready (rs := [32]) (by kernel_rfl) (by simp) ?_
        refine AllReadyH.cons rfl (fun K hK => ?_) ?_
        · rw [if_pos (by rfl)]
          go_simp
          go_at_call 36
          refine (behindY_any j (by omega) _).mono ?_
          rintro e w2 ⟨rfl, h2⟩
          refine hK.out _ _ ?_ (fun hHeld => ?_)
          · exact ⟨cell_later h2 d0, cell_later h2 y0, cell_later h2 y1, cell_later h2 y2, cell_later h2 y3, cell_later h2 y4, cell_later h2 y5⟩
          have O2 := hidOf (Out.trans (HO.out.drew) h2)
          clear h2
          refine wpAnyH_take (i := 33) (v := ?_) rfl (by kernel_rfl) (by kernel_rfl) (by kernel_rfl) (fun _ _ _ h => h) (Or.inl ⟨by rfl, ?_⟩) (by assumption) ?_
          rotate_left
          · (intro w hSw; (try dsimp only at hSw); go_simp; (try with_reducible rfl))
          show wpAnyH _ _ _ _ _ _ _ (Act.put _ (some 47) _) _
          simp only [Act.put, List.setIfInBounds_toArray, List.set_cons_zero, List.set_cons_succ]
          refine wpAnyH_take (i := 34) (v := ?_) rfl (by kernel_rfl) (by kernel_rfl) (by kernel_rfl) (fun _ _ _ h => h) (Or.inl ⟨by rfl, ?_⟩) (by assumption) ?_
          rotate_left
          · (intro w hSw; (try dsimp only at hSw); go_simp; (try with_reducible rfl))
          show wpAnyH _ _ _ _ _ _ _ (Act.put _ (some 48) _) _
          simp only [Act.put, List.setIfInBounds_toArray, List.set_cons_zero, List.set_cons_succ]
          refine wpAnyH_take (i := 35) (v := ?_) rfl (by kernel_rfl) (by kernel_rfl) (by kernel_rfl) (fun _ _ _ h => h) (Or.inl ⟨by rfl, ?_⟩) (by assumption) ?_
          rotate_left
          · (intro w hSw; (try dsimp only at hSw); go_simp; (try with_reducible rfl))
          show wpAnyH _ _ _ _ _ _ _ (Act.put _ (some 49) _) _
          simp only [Act.put, List.setIfInBounds_toArray, List.set_cons_zero, List.set_cons_succ]
          refine wpAnyH_done (by kernel_rfl) ?_ _
          go_wp2
          go_roundw
          case rel => exact ⟨j + 1, by simp, by omega, O2⟩
          case measure => simp [intOf]; omega
        · exact AllReadyH.nil
    · have hltI : ¬ (j : Int) < 2 * (l.length : Int) + 70 := by omega
      go_wp2
      go_ret
      exact ⟨rfl, HO.out⟩
/-- what is needed of Lend, in all cases -/
def DSt (w : World) (p B : Nat) : Prop := w.heap[p]? = some (.cells #[.slice none 0 0] 27 (0, 0)) ∨ ∃ g m L, Db w p g m L ∧ B ≤ g ∧ m ≤ 1000000000000
theorem DSt.lt {w : World} {p B : Nat} (h : DSt w p B) : p < w.heap.size := by
  rcases h with h | ⟨g, m, L, h, _⟩
  · exact (Array.getElem?_eq_some_iff.1 h).1
  · exact h.ltp
theorem DSt.out {w w' : World} {p B : Nat} (h : DSt w p B) (o : Out w w') : DSt w' p B := by
  have hl := h.lt
  rcases h with h | ⟨g, m, L, h, hg, hm⟩
  · exact .inl ((o.block p hl).trans h)
  · exact .inr ⟨g, m, L, h.out o, hg, hm⟩
/-- symbols that lie apart from the desk -/
def ApY (w : World) (p : Nat) (a : Option Addr) (l : List Sy) : Prop := ¬ l = [] → ∀ ad, a = some ad → ad.block < w.heap.size ∧ ¬ ad.block = p ∧ ∀ g m L, Db w p g m L → ¬ ad.block = g
/-- the blocks that the desk writes hold no bytes, and none of the books' -/
def LPY (w : World) (p g : Nat) : Prop := (∃ cs, w.heap[p]? = some (.cells cs 27 (0, 0))) ∧ (w.heap.size ≤ g ∨ ∃ cs, w.heap[g]? = some (.cells cs 57 (0, 0)))
theorem lendY_any (w : World) (p B : Nat) (a : Option Addr) (cap : Nat) (l : List Sy) (hs : DSt w p B) (hB : B ≤ w.heap.size) (hr : SyAt w.heap.size w a l) (ha : ApY w p a l) (hcap : l.length ≤ cap) (hll : l.length ≤ 100000000000) :
    Calls Try.prog 19 #[.pointer (some ⟨p, 0, none⟩), .slice a l.length cap] w fun e w' => ∃ g m R, e = .returned (.slice (some ⟨g, 0, none⟩) l.length (2 * l.length + 70)) ∧ Db w' p g m (tgY l ++ R) ∧ Chg (SL p g) w w' ∧ LPY w p g ∧ B ≤ g ∧ m ≤ 1000000000000 ∧ (¬ l = [] → ∀ ad, a = some ad → ¬ SL p g ad.block) := by
  have new : ∀ ha' hn hc, w.heap[p]? = some (.cells #[.slice ha' hn hc] 27 (0, 0)) → hn < 2 * l.length + 70 → Calls Try.prog 19 #[.pointer (some ⟨p, 0, none⟩), .slice a l.length cap] w fun e w' => ∃ g m R, e = .returned (.slice (some ⟨g, 0, none⟩) l.length (2 * l.length + 70)) ∧ Db w' p g m (tgY l ++ R) ∧ Chg (SL p g) w w' ∧ LPY w p g ∧ B ≤ g ∧ m ≤ 1000000000000 ∧ (¬ l = [] → ∀ ad, a = some ad → ¬ SL p g ad.block) := fun ha' hn hc h hlt => by
    have hne : ¬ l = [] → ∀ ad, a = some ad → ¬ SL p w.heap.size ad.block := fun h ad had hsl => by
      rcases hsl with e | e
      · exact (ha h ad had).2.1 e
      · have := (ha h ad had).1; omega
    refine (lendY_new w p w.heap.size (4 * l.length + 200) (List.replicate (4 * l.length + 200) zeroY) ha' hn hc h a cap l hr hne hcap hlt rfl rfl rfl hll).mono ?_
    rintro e w' ⟨he, hb, hc'⟩
    exact ⟨_, _, _, he, hb, hc', ⟨⟨_, h⟩, .inl (Nat.le_refl _)⟩, hB, by omega, hne⟩
  rcases hs with hs | ⟨g, m, L, hs, hg, hm⟩
  · exact new _ _ _ hs (by omega)
  · by_cases hlt : m < 2 * l.length + 70
    · exact new _ _ _ hs.hp hlt
    · have hne : ¬ l = [] → ∀ ad, a = some ad → ¬ SL p g ad.block := fun h ad had hsl => by
        rcases hsl with e | e
        · exact (ha h ad had).2.1 e
        · exact (ha h ad had).2.2 _ _ _ hs e
      refine (lendY_again w p g m L hs a cap l hr hne hcap (by omega) hm).mono ?_
      rintro e w' ⟨he, hb, hc⟩
      exact ⟨_, _, _, he, hb, hc, ⟨⟨_, hs.hp⟩, .inr ⟨_, hs.hg⟩⟩, hg, hm, hne⟩
end Go.Proofs.Ytikmaoigepoeoaa
