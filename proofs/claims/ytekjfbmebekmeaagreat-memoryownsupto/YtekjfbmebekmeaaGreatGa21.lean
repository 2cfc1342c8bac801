import Derived.Test.YtekjfbmebekmeaaGreatGa20
namespace Go.Proofs.YtekjfbmebekmeaaGreat
open Go.RowKit
set_option linter.unusedVariables false
set_option linter.unusedSimpArgs false
theorem refMay_any (w : World) (f n c : Nat) (a : Option Addr) (hn2 : n ≤ 140737488355328) (hf : f < 18446744073709551616) : Calls Tryz.prog 45 #[.agg #[.int .u64 f, .slice a n c]] w fun e w' => e = .returned (.bool (mayR f n)) ∧ Out w w' := by
  obtain ⟨wA, HA, cA0, cA1, oA, _⟩ := box_two w (.int .u64 f) (.slice a n c) 36
  have OA := hidOf oA
  clear oA
  by_cases h0 : n = 0
  · subst h0
    go_enter Tryz.func45, Tryz.ntmps45
    go_upto_region 1 with fail
    rw [← HA.out]
    go_wp2
    go_ret
    exact ⟨rfl, OA.out⟩
  · obtain ⟨k, rfl⟩ : ∃ k, n = k + 1 := ⟨n - 1, by omega⟩
    have hb : ((k + 1 : Nat) == 0) = false := rfl
    have h1 : IntKind.u64.wrap (k : Int) = k := by rw [IntKind.wrap_u64]; omega
    go_enter Tryz.func45, Tryz.ntmps45
    go_upto_region 1 with fail
    rw [← HA.out]
    by_cases hm : f + k < 18446744073709551616
    · have h2 : IntKind.u64.wrap ((f : Int) + k) = (f : Int) + k := by rw [IntKind.wrap_u64]; omega
      go_wp2
      go_ret
      refine ⟨?_, OA.out⟩
      unfold mayR
      rw [hb]
      refine congrArg (fun b => Ending.returned (.bool b)) ?_
      rw [Bool.eq_iff_iff]
      simp
      omega
    · have h2 : IntKind.u64.wrap ((f : Int) + k) = (f : Int) + k - 18446744073709551616 := by rw [IntKind.wrap_u64]; omega
      go_wp2
      go_ret
      refine ⟨?_, OA.out⟩
      unfold mayR
      rw [hb]
      refine congrArg (fun b => Ending.returned (.bool b)) ?_
      rw [Bool.eq_iff_iff]
      simp
      omega
set_option maxHeartbeats 4000000 in
set_option maxRecDepth 100000 in
theorem copied_any (w : World) (a : Option Addr) (f c : Nat) (d : List UInt8) (h : RestA w a d) (hd : d.length ≤ 140737488355328) :
    Calls Tryz.prog 48 #[.agg #[.int .u64 f, .slice a d.length c]] w fun e w' => ∃ x : Rg, x.f = f ∧ x.d = d ∧ e = .returned (.agg #[.int .u64 (x.f : Nat), .slice (x.a.map fun b => ⟨b, 0, none⟩) x.d.length x.c]) ∧ DaI w.heap.size w' x ∧ Out w w' := by
  obtain ⟨n, hn⟩ : ∃ n, Hid (n = d.length) := ⟨_, rfl⟩
  have HR := hidOf h
  have HD := hidOf hd
  rw [← hn.out]
  obtain ⟨wA, HA, cA0, cA1, oA, sA⟩ := box_two w (.int .u64 f) (.slice a n c) 36
  have hblk0 : wA.heap.size = w.heap.size + 1 := sA
  obtain ⟨wB, HB, bB, oB⟩ : ∃ wB, Hid (wB = wA.alloc (.cells #[.int .u64 0, .slice none 0 0] 36)) ∧ wB.heap[w.heap.size + 1]? = some (.cells #[.int .u64 0, .slice none 0 0] 36 (0, 0)) ∧ Out wA wB := ⟨_, rfl, by rw [← sA]; exact heap_alloc_new wA _, (Out.refl wA).alloc _⟩
  have cB0 := cell_later oB cA0
  have cB1 := cell_later oB cA1
  have OB := hidOf (oA.trans oB)
  have BB := hidOf bB
  obtain ⟨x, W1, hap, hxf, hxd, hda, ho1⟩ := append_nil8 wB.drew a c f d (HR.out.out (OB.out.drew)) HD.out
  rw [← hn.out] at hap
  have HDA := hidOf hda
  have HO1 := hidOf ho1
  have HXF := hidOf hxf
  have HXD := hidOf hxd
  have HAP := hidOf hap
  have hb1 := hidOf (blk_out (show wB.drew.heap[w.heap.size + 1]? = _ from BB.out) ho1)
  have q0 : W1.cell? ⟨w.heap.size + 1, 0, none⟩ = some (.int .u64 0) := by rw [cell_B hb1.out] <;> rfl
  have q1 : W1.cell? ⟨w.heap.size + 1, 1, none⟩ = some (.slice none 0 0) := by rw [cell_B hb1.out] <;> rfl
  have z0 : W1.frozen? ⟨w.heap.size + 1, 0, none⟩ = false := froz_B hb1.out 0
  have z1 : W1.frozen? ⟨w.heap.size + 1, 1, none⟩ = false := froz_B hb1.out 1
  obtain ⟨xa, hxa⟩ : ∃ xa : Option Addr, Hid (xa = x.a.map fun b => ⟨b, 0, none⟩) := ⟨_, rfl⟩
  obtain ⟨xc, hxc⟩ : ∃ xc, Hid (xc = x.c) := ⟨_, rfl⟩
  rw [← hxa.out, ← hxc.out] at HAP
  obtain ⟨wS, HS, bS, cS⟩ : ∃ wS, Hid (wS = (W1.setCell ⟨w.heap.size + 1, 0, none⟩ (.int .u64 f)).setCell ⟨w.heap.size + 1, 1, none⟩ (.slice xa n xc)) ∧ wS.heap[w.heap.size + 1]? = some (.cells #[.int .u64 f, .slice xa n xc] 36 (0, 0)) ∧ Chg (fun b => b = w.heap.size + 1) W1 wS := ⟨_, rfl, set_B (set_B hb1.out 0 _) 1 _, ((Chg.refl (fun b => b = w.heap.size + 1) W1).setCell rfl _).setCell rfl _⟩
  have BS := hidOf bS
  have CS := hidOf cS
  have s0 : W1.cell? ⟨w.heap.size, 0, none⟩ = some (.int .u64 f) := cell_later ho1 cB0
  have s1 : W1.cell? ⟨w.heap.size, 1, none⟩ = some (.slice a n c) := cell_later ho1 cB1
  have t0 : wS.cell? ⟨w.heap.size, 0, none⟩ = some (.int .u64 f) := cS.cell s0 (by simp)
  have t1 : wS.cell? ⟨w.heap.size, 1, none⟩ = some (.slice a n c) := cS.cell s1 (by simp)
  have sA0 := sA
  clear h hd oA sA hblk0 oB bB hap hda ho1 hxf hxd bS cS
  go_enter Tryz.func48, Tryz.ntmps48
  go_upto_region 1 with fail
  rw [← HA.out, ← HB.out]
  refine wp_region_held_drew (S := fun w' => w'.cell? ⟨w.heap.size, 0, none⟩ = some (.int .u64 f) ∧ w'.cell? ⟨w.heap.size, 1, none⟩ = some (.slice a n c)) (by kernel_rfl) ?_ (fun hHeld => ?_)
  · exact ⟨cB0, cB1⟩
  refine wpAnyH_take (i := 0) (v := ?_) rfl (by kernel_rfl) (by kernel_rfl) (by kernel_rfl) (fun _ _ _ h => h) (Or.inl ⟨by rfl, ?_⟩) (by assumption) ?_
  rotate_left
  · (intro w hSw; (try dsimp only at hSw); go_simp; (try with_reducible rfl))
  show wpAnyH _ _ _ _ _ _ _ (Act.put _ (some 3) _) _
  simp only [Act.put, List.setIfInBounds_toArray, List.set_cons_zero, List.set_cons_succ]
  refine wpAnyH_take (i := 1) (v := ?_) rfl (by kernel_rfl) (by kernel_rfl) (by kernel_rfl) (fun _ _ _ h => h) (Or.inl ⟨by rfl, ?_⟩) (by assumption) ?_
  rotate_left
  · (intro w hSw; (try dsimp only at hSw); go_simp; (try with_reducible rfl))
  show wpAnyH _ _ _ _ _ _ _ (Act.put _ (some 4) _) _
  simp only [Act.put, List.setIfInBounds_toArray, List.set_cons_zero, List.set_cons_succ]
  refine wpAnyH_take (i := 2) (v := ?_) rfl (by kernel_rfl) (by kernel_rfl) (by kernel_rfl) (fun _ _ _ h => h) (Or.inl ⟨by rfl, ?_⟩) (by assumption) ?_
  rotate_left
  · (intro w hSw; (try dsimp only at hSw); go_simp; (try with_reducible rfl))
  show wpAnyH _ _ _ _ _ _ _ (Act.put _ (some 5) _) _
  simp only [Act.put, List.setIfInBounds_toArray, List.set_cons_zero, List.set_cons_succ]
  refine wpAnyH_take (i := 3) (v := ?_) rfl (by kernel_rfl) (by kernel_rfl) (by kernel_rfl) (fun _ _ _ h => h) (Or.inl ⟨by rfl, ?_⟩) (by assumption) ?_
  rotate_left
  · (intro w hSw; (try dsimp only at hSw); go_simp; (try with_reducible rfl))
  show wpAnyH _ _ _ _ _ _ _ (Act.put _ (some 6) _) _
  simp only [Act.put, List.setIfInBounds_toArray, List.set_cons_zero, List.set_cons_succ]
  refine wpAnyH_ready (rs := [4]) (by kernel_rfl) (by simp) ?_
  refine (AllReadyH.cons rfl (fun K4 hK4 => ?_) AllReadyH.nil)
  · rw [if_pos (by rfl)]
    refine Lib.wp_append_run _ (.const (.slice none 0 0)) (.tmp 6) 29 29 rfl _ _ (by simp [Act.eval]) (by simp [Act.eval, Act.put]) _ _ (HAP.out _) ?_
    refine hK4.out _ _ ⟨s0, s1⟩ (fun hHeld4 => ?_)
    simp only [Act.put, List.setIfInBounds_toArray, List.set_cons_zero, List.set_cons_succ]
    refine wpAnyH_take (i := 5) (v := ?_) rfl (by kernel_rfl) (by kernel_rfl) (by kernel_rfl) (fun _ _ _ h => h) (Or.inl ⟨by rfl, ?_⟩) (by assumption) ?_
    rotate_left
    · (intro w hSw; (try dsimp only at hSw); go_simp; (try with_reducible rfl))
    show wpAnyH _ _ _ _ _ _ _ (Act.put _ (some 8) _) _
    simp only [Act.put, List.setIfInBounds_toArray, List.set_cons_zero, List.set_cons_succ]
    refine wpAnyH_ready (rs := [6]) (by kernel_rfl) (by simp) ?_
    refine (AllReadyH.cons rfl (fun K6 hK6 => ?_) AllReadyH.nil)
    · rw [if_pos (by rfl)]
      go_simp
      rw [← HS.out]
      refine hK6.out _ _ ⟨t0, t1⟩ (fun hHeld6 => ?_)
      refine wpAnyH_done (by kernel_rfl) ?_ _
      go_wp2
      have hOA : Out w wB := OB.out
      refine bodyPost_ret (results_cell_row rfl _ _ (w.heap.size + 1) 36 _ (0, 0) _ rfl BS.out Tryz.underlying36 rfl (by kernel_rfl)) rfl ?_
      have hle : w.heap.size ≤ wB.drew.heap.size := hOA.size
      have hda : DaI w.heap.size W1 x := ⟨HDA.out.1, HDA.out.2.imp id (fun ⟨g, cap, cur, e, hb, r⟩ => ⟨g, cap, cur, e, Nat.le_trans hle hb, r⟩)⟩
      refine ⟨x, HXF.out, HXD.out, by rw [HXF.out, HXD.out, ← hxa.out, ← hxc.out, ← hn.out], hda.chg CS.out (fun b hb e => ?_), ?_⟩
      · have h1 := HDA.out.lt b (by simp [daV, hb, Value.ownBlock])
        have h2 : w.heap.size + 1 < wB.drew.heap.size := (Array.getElem?_eq_some_iff.1 BB.out).1
        omega
      · exact Chg.out CS.out (hOA.trans ((Out.refl wB).drew.trans HO1.out)) (fun k hk => by subst hk; omega)
set_option maxHeartbeats 2000000 in
theorem refClash_any (w : World) (f1 n1 c1 f2 n2 c2 : Nat) (a1 a2 : Option Addr) (hf1 : f1 < 18446744073709551616) (hf2 : f2 < 18446744073709551616) (hn1 : n1 ≤ 140737488355328) (hn2 : n2 ≤ 140737488355328) : Calls Tryz.prog 46 #[.agg #[.int .u64 f1, .slice a1 n1 c1], .agg #[.int .u64 f2, .slice a2 n2 c2]] w fun e w' => e = .returned (.bool (cl1 f1 n1 f2 n2)) ∧ Out w w' := by
  obtain ⟨wA, HA, cA0, cA1, oA, sA⟩ := box_two w (.int .u64 f1) (.slice a1 n1 c1) 36
  obtain ⟨wB, HB, cB0, cB1, oB, sB⟩ := box_two wA (.int .u64 f2) (.slice a2 n2 c2) 36
  have d0 := cell_later oB cA0
  have d1 := cell_later oB cA1
  have bA : wB.heap[w.heap.size]? = some (.cells #[.int .u64 f1, .slice a1 n1 c1] 36 (0, 0)) := blk_out (by rw [HA.out]; exact heap_alloc_new w _) oB
  have bB : wB.heap[w.heap.size + 1]? = some (.cells #[.int .u64 f2, .slice a2 n2 c2] 36 (0, 0)) := by rw [HB.out, ← sA]; exact heap_alloc_new wA _
  rw [sA] at cB0 cB1
  have OB := hidOf (oA.trans oB)
  have BA := hidOf bA
  have BB := hidOf bB
  clear cA0 cA1 oA oB sB bA bB
  go_enter Tryz.func46, Tryz.ntmps46
  go_upto_region 1 with fail
  rw [← HA.out, ← HB.out]
  by_cases he : f1 = f2
  · subst he
    go_wp2
    go_ret
    exact ⟨by simp [cl1], OB.out⟩
  · have heI : ¬ ((f1 : Int) = f2) := by omega
    have heb : ((f1 : Int) == f2) = false := by rw [beq_eq_false_iff_ne]; exact heI
    by_cases hg : f2 < f1
    · have hgI : (f2 : Int) < f1 := by omega
      have hw : IntKind.u64.wrap ((f1 : Int) - f2) = (f1 : Int) - f2 := by rw [IntKind.wrap_u64]; omega
      have hw1 : IntKind.u64.wrap (n2 : Int) = n2 := by rw [IntKind.wrap_u64]; omega
      have z0 : wB.frozen? ⟨w.heap.size, 0, none⟩ = false := froz_B BA.out 0
      have z1 : wB.frozen? ⟨w.heap.size, 1, none⟩ = false := froz_B BA.out 1
      have z2 : wB.frozen? ⟨w.heap.size + 1, 0, none⟩ = false := froz_B BB.out 0
      have z3 : wB.frozen? ⟨w.heap.size + 1, 1, none⟩ = false := froz_B BB.out 1
      obtain ⟨wS, HS, q0, q1, q2, q3, oS⟩ : ∃ wS, Hid (wS = (((wB.setCell ⟨w.heap.size, 0, none⟩ (.int .u64 f2)).setCell ⟨w.heap.size, 1, none⟩ (.slice a2 n2 c2)).setCell ⟨w.heap.size + 1, 0, none⟩ (.int .u64 f1)).setCell ⟨w.heap.size + 1, 1, none⟩ (.slice a1 n1 c1)) ∧ wS.cell? ⟨w.heap.size, 0, none⟩ = some (.int .u64 f2) ∧ wS.cell? ⟨w.heap.size, 1, none⟩ = some (.slice a2 n2 c2) ∧ wS.cell? ⟨w.heap.size + 1, 0, none⟩ = some (.int .u64 f1) ∧ wS.cell? ⟨w.heap.size + 1, 1, none⟩ = some (.slice a1 n1 c1) ∧ Out w wS := by
        have e1 := set_B (set_B BA.out 0 (.int .u64 f2)) 1 (.slice a2 n2 c2)
        have k1 : Chg (fun b => b = w.heap.size) wB ((wB.setCell ⟨w.heap.size, 0, none⟩ (.int .u64 f2)).setCell ⟨w.heap.size, 1, none⟩ (.slice a2 n2 c2)) := ((Chg.refl (fun b => b = w.heap.size) wB).setCell rfl _).setCell rfl _
        have e2 := blk_chg BB.out k1 (by simp)
        have e3 := set_B (set_B e2 0 (.int .u64 f1)) 1 (.slice a1 n1 c1)
        have k2 := ((Chg.refl (fun b => b = w.heap.size + 1) ((wB.setCell ⟨w.heap.size, 0, none⟩ (.int .u64 f2)).setCell ⟨w.heap.size, 1, none⟩ (.slice a2 n2 c2))).setCell (p := ⟨w.heap.size + 1, 0, none⟩) rfl (.int .u64 f1)).setCell (p := ⟨w.heap.size + 1, 1, none⟩) rfl (.slice a1 n1 c1)
        have e4 := blk_chg e1 k2 (by simp)
        refine ⟨_, rfl, ?_, ?_, ?_, ?_, Chg.out k2 (Chg.out k1 OB.out (fun k hk => by omega)) (fun k hk => by omega)⟩
        · rw [cell_B e4]; rfl
        · rw [cell_B e4]; rfl
        · rw [cell_B e3]; rfl
        · rw [cell_B e3]; rfl
      go_upto_region 5 with fail
      rw [← HS.out]
      clear z0 z1 z2 z3 d0 d1 cB0 cB1 hg he
      by_cases h2 : 0 < n2
      · have h2I : (0 : Int) < n2 := by omega
        by_cases h1 : 0 < n1
        · have h1I : (0 : Int) < n1 := by omega
          clear h1 h2
          go_wp2
          go_ret
          refine ⟨?_, oS⟩
          show Ending.returned (.bool (decide ((f1 : Int) - f2 < n2))) = _
          refine congrArg (fun b => Ending.returned (.bool b)) ?_
          rw [Bool.eq_iff_iff, cl1_iff, decide_eq_true_eq]
          omega
        · have h1I : ¬ (0 : Int) < n1 := by omega
          clear h1 h2
          go_wp2
          go_ret
          refine ⟨?_, oS⟩
          show Ending.returned (.bool false) = _
          refine congrArg (fun b => Ending.returned (.bool b)) ?_
          rw [Bool.eq_iff_iff, cl1_iff]
          simp only [Bool.false_eq_true, false_iff]
          omega
      · have h2I : ¬ (0 : Int) < n2 := by omega
        clear h2
        go_wp2
        go_ret
        refine ⟨?_, oS⟩
        show Ending.returned (.bool false) = _
        refine congrArg (fun b => Ending.returned (.bool b)) ?_
        rw [Bool.eq_iff_iff, cl1_iff]
        simp only [Bool.false_eq_true, false_iff]
        omega
    · have hgI : ¬ (f2 : Int) < f1 := by omega
      have hw : IntKind.u64.wrap ((f2 : Int) - f1) = (f2 : Int) - f1 := by rw [IntKind.wrap_u64]; omega
      have hw1 : IntKind.u64.wrap (n1 : Int) = n1 := by rw [IntKind.wrap_u64]; omega
      clear he hg
      by_cases h1 : 0 < n1
      · have h1I : (0 : Int) < n1 := by omega
        by_cases h2 : 0 < n2
        · have h2I : (0 : Int) < n2 := by omega
          clear h1 h2
          go_wp2
          go_ret
          refine ⟨?_, OB.out⟩
          show Ending.returned (.bool (decide ((f2 : Int) - f1 < n1))) = _
          refine congrArg (fun b => Ending.returned (.bool b)) ?_
          rw [Bool.eq_iff_iff, cl1_iff, decide_eq_true_eq]
          omega
        · have h2I : ¬ (0 : Int) < n2 := by omega
          clear h1 h2
          go_wp2
          go_ret
          refine ⟨?_, OB.out⟩
          show Ending.returned (.bool false) = _
          refine congrArg (fun b => Ending.returned (.bool b)) ?_
          rw [Bool.eq_iff_iff, cl1_iff]
          simp only [Bool.false_eq_true, false_iff]
          omega
      · have h1I : ¬ (0 : Int) < n1 := by omega
        clear h1
        go_wp2
        go_ret
        refine ⟨?_, OB.out⟩
        show Ending.returned (.bool false) = _
        refine congrArg (fun b => Ending.returned (.bool b)) ?_
        rw [Bool.eq_iff_iff, cl1_iff]
        simp only [Bool.false_eq_true, false_iff]
        omega
def abv (S : List (Nat × List UInt8)) (k : Nat) (p : Nat × List UInt8) : Bool := k == 0 || match S[k - 1]? with | none => true | some q => decide (q.1 < p.1)
def BestI (P : List (Nat × List UInt8)) (ab : Nat × List UInt8 → Bool) (i : Nat) (b : Int) : Prop :=
  (b = -1 ∧ ∀ (j : Nat) q, j < i → P[j]? = some q → ab q = false) ∨ ∃ (b' : Nat) (p : Nat × List UInt8), b = (b' : Int) ∧ b' < i ∧ P[b']? = some p ∧ ab p = true ∧ ∀ (j : Nat) q, j < i → P[j]? = some q → ab q = true → p.1 ≤ q.1
theorem BestI.zero (P : List (Nat × List UInt8)) (ab : Nat × List UInt8 → Bool) : BestI P ab 0 (-1) := .inl ⟨rfl, fun j q h => absurd h (Nat.not_lt_zero _)⟩
theorem lt_succ_or {j i : Nat} (h : j < i + 1) : j < i ∨ j = i := by omega
theorem BestI.pass {P : List (Nat × List UInt8)} {ab : Nat × List UInt8 → Bool} {i : Nat} {b : Int} (h : BestI P ab i b) {q : Nat × List UInt8} (hq : P[i]? = some q) (hn : ab q = false ∨ ∃ (b' : Nat) (p : Nat × List UInt8), b = (b' : Int) ∧ P[b']? = some p ∧ p.1 ≤ q.1) : BestI P ab (i + 1) b := by
  rcases h with ⟨hb, h1⟩ | ⟨b', p, hb, h1, h2, h3, h4⟩
  · rcases hn with hn | ⟨b2, p2, e, _⟩
    · refine .inl ⟨hb, fun j r hj hr => ?_⟩
      rcases lt_succ_or hj with hj | rfl
      · exact h1 j r hj hr
      · rw [hq] at hr; cases hr; exact hn
    · omega
  · refine .inr ⟨b', p, hb, by omega, h2, h3, fun j r hj hr ha => ?_⟩
    rcases lt_succ_or hj with hj | rfl
    · exact h4 j r hj hr ha
    · rw [hq] at hr; cases hr
      rcases hn with hn | ⟨b2, p2, e, e2, e3⟩
      · rw [hn] at ha; cases ha
      · have : b2 = b' := by omega
        subst this
        rw [h2] at e2; cases e2
        exact e3
theorem BestI.take_ {P : List (Nat × List UInt8)} {ab : Nat × List UInt8 → Bool} {i : Nat} {b : Int} (h : BestI P ab i b) {q : Nat × List UInt8} (hq : P[i]? = some q) (ha : ab q = true) (hl : b < 0 ∨ ∃ (b' : Nat) (p : Nat × List UInt8), b = (b' : Int) ∧ P[b']? = some p ∧ q.1 < p.1) : BestI P ab (i + 1) (i : Int) := by
  refine .inr ⟨i, q, rfl, by omega, hq, ha, fun j r hj hr har => ?_⟩
  rcases lt_succ_or hj with hj | rfl
  · rcases h with ⟨hb, h1⟩ | ⟨b', p, hb, h1, h2, h3, h4⟩
    · rw [h1 j r hj hr] at har; cases har
    · have h5 := h4 j r hj hr har
      rcases hl with hl | ⟨b2, p2, e, e2, e3⟩
      · omega
      · have : b2 = b' := by omega
        subst this
        rw [h2] at e2; cases e2
        omega
  · rw [hq] at hr; cases hr; exact Nat.le_refl _
theorem BestI.all {P S : List (Nat × List UInt8)} {k : Nat} {b : Int} (h : BestI P (abv S k) P.length b) (hp : P.Perm S) (hs : S.Pairwise (fun a b => a.1 < b.1)) (hk : k < S.length) : ∃ (b' : Nat) (p : Nat × List UInt8), b = (b' : Int) ∧ P[b']? = some p ∧ S[k]? = some p := by
  have hlt := List.pairwise_iff_getElem.1 hs
  have hSk : S[k]? = some S[k] := List.getElem?_eq_getElem hk
  have hak : abv S k S[k] = true := by
    unfold abv
    by_cases h0 : k = 0
    · simp [h0]
    · rw [List.getElem?_eq_getElem (show k - 1 < S.length by omega)]
      simp only [Bool.or_eq_true, decide_eq_true_eq]
      exact .inr (hlt (k - 1) k (by omega) hk (by omega))
  obtain ⟨j, hj⟩ := List.getElem?_of_mem (hp.mem_iff.2 (List.getElem_mem hk))
  have hjl := (List.getElem?_eq_some_iff.1 hj).1
  rcases h with ⟨_, h1⟩ | ⟨b', p, hb, h1, h2, h3, h4⟩
  · rw [h1 j _ hjl hj] at hak; cases hak
  · refine ⟨b', p, hb, h2, ?_⟩
    have hle := h4 j _ hjl hj hak
    obtain ⟨m, hm⟩ := List.getElem?_of_mem (hp.mem_iff.1 (List.mem_of_getElem? h2))
    obtain ⟨hml, hme⟩ := List.getElem?_eq_some_iff.1 hm
    have hmk : m = k := by
      rcases Nat.lt_trichotomy m k with hc | hc | hc
      · exfalso
        unfold abv at h3
        rw [List.getElem?_eq_getElem (show k - 1 < S.length by omega)] at h3
        simp only [Bool.or_eq_true, beq_iff_eq, decide_eq_true_eq] at h3
        rcases h3 with h3 | h3
        · omega
        · by_cases hc2 : m = k - 1
          · subst hc2
            rw [hme] at h3
            omega
          · have := hlt m (k - 1) hml (by omega) (by omega)
            rw [hme] at this
            omega
      · exact hc
      · exfalso
        have := hlt k m hk hml hc
        rw [hme] at this
        omega
    rw [← hmk]
    exact hm
structure RLs (B : Nat) (w : World) (a : Option Addr) (c n : Nat) (R : List Rg) : Prop where
  own : w.ownsRow B 36 2 (.slice a n c) n (rowG R)
  da : ∀ z ∈ R, DaI B w z
theorem RLs.out {B : Nat} {w w' : World} {a : Option Addr} {c n : Nat} {R : List Rg} (h : RLs B w a c n R) (o : Out w w') : RLs B w' a c n R := ⟨own_out h.own o, fun z hz => (h.da z hz).out o⟩
theorem RLs.chg {S : Nat → Prop} {B : Nat} {w w' : World} {a : Option Addr} {c n : Nat} {R : List Rg} (h : RLs B w a c n R) (o : Chg S w w') (hS : ∀ b, B ≤ b → ¬ S b) : RLs B w' a c n R := ⟨own_chg h.own o (fun b hb => hS b (h.own.lt b hb).1), fun z hz => (h.da z hz).chg o (fun b hb => hS b (DaI.blk (h.da z hz) hb).1)⟩
theorem RLs.base {B B' : Nat} {w : World} {a : Option Addr} {c n : Nat} {R : List Rg} (h : RLs B' w a c n R) (hb : B ≤ B') : RLs B w a c n R := ⟨own_base h.own hb, fun z hz => own_base (h.da z hz) hb⟩
theorem RLs.push {B : Nat} {w : World} {a : Option Addr} {c k : Nat} {R : List Rg} (h : RLs B w a c k R) (hk : k < 4398046511104) (hB : B ≤ w.heap.size) (q : Nat) (x : Rg) (xa : Option Addr) (hxa : xa = x.a.map fun b => ⟨b, 0, none⟩) (b0 : w.cell? ⟨q, 0, none⟩ = some (.int .u64 (x.f : Nat))) (b1 : w.cell? ⟨q, 1, none⟩ = some (.slice xa x.d.length x.c)) (hx : DaI B w x) :
    ∃ a2 c2 w2, (∀ ty, (Builtin.append_ #[22, 22] ty #[.slice a k c, .slice (some ⟨q, 0, none⟩) 1 1]).run Tryz.prog w = .ok (.slice a2 (k + 1) c2) w2) ∧ RLs B w2 a2 c2 (k + 1) (R ++ [x]) ∧ Chg (fun b => (Value.slice a k c).ownBlock = some b) w w2 := by
  subst hxa
  obtain ⟨i0, hi0, hz0, hz1, hz2⟩ := info_parts infoR
  obtain ⟨v2, w2, hr2, hown2, hgr2, hnil2, _⟩ := run_append_own_at (P := Tryz.prog) w B 22 22 36 i0 _ 2 32 Tryz.underlying22 hi0 hz0 hz1 hz2 rfl (by decide) (.slice a k c) k (rowG R) h.own ⟨q, 0, none⟩ 1 1 [.int .u64 (x.f : Nat), .slice (x.a.map fun b => ⟨b, 0, none⟩) x.d.length x.c] rfl (fun j u hj => by rw [add_B, Nat.zero_add]; match j, hj with | 0, hj => cases hj; exact b0 | 1, hj => cases hj; exact b1) (by intro u hu; simp at hu; rcases hu with rfl | rfl <;> rfl) (by unfold maxLen; omega) (by omega) hB
  obtain ⟨a2, c2, rfl, _, _⟩ := own_slice hown2
  have hc2 : Chg (fun b => (Value.slice a k c).ownBlock = some b) w w2 := Chg.of_grown hgr2 (fun q hq => hq)
  have e1 : rowG R ++ [.int .u64 (x.f : Nat), .slice (x.a.map fun b => ⟨b, 0, none⟩) x.d.length x.c] = rowG (R ++ [x]) := by rw [rowG_app, rowG_cons, csG, daV]; rfl
  rw [e1] at hown2
  refine ⟨a2, c2, w2, fun ty => hr2, ⟨hown2, fun z hz => ?_⟩, hc2⟩
  have hz' : DaI B w z := by
    rcases List.mem_append.1 hz with hz | hz
    · exact h.da z hz
    · simp only [List.mem_cons, List.not_mem_nil, or_false] at hz
      subst hz; exact hx
  exact hz'.chg hc2 (fun b hb hq => own_two h.own hz' (by decide) hq (by simp [daV, hb, Value.ownBlock]))
end Go.Proofs.YtekjfbmebekmeaaGreat
