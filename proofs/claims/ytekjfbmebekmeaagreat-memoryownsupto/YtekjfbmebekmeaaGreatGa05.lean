import Derived.Test.YtekjfbmebekmeaaGreatGa00
import Derived.Test.YtekjfbmebekmeaaGreatGa04
namespace Go.Proofs.YtekjfbmebekmeaaGreat
open Go.RowKit
set_option linter.unusedVariables false
set_option linter.unusedSimpArgs false
structure Sp (B : Nat) (w : World) (s : Nat) (v1 v2 : Value) (X Y : List Rw) : Prop where
  blk : w.heap[s]? = some (.cells #[v1, v2] 92 (0, 0))
  bs : B ≤ s
  fil : Sh B w v1 X
  emp : Sh B w v2 Y
  s1 : ¬ fpS v1 X s
  s2 : ¬ fpS v2 Y s
  d12 : ∀ k, fpS v1 X k → ¬ fpS v2 Y k
  nX : X.length ≤ 5864062014805
  nY : Y.length ≤ 5864062014805
theorem Sp.out {B : Nat} {w w' : World} {s : Nat} {v1 v2 : Value} {X Y : List Rw} (h : Sp B w s v1 v2 X Y) (o : Out w w') : Sp B w' s v1 v2 X Y :=
  ⟨blk_out h.blk o, h.bs, h.fil.out o, h.emp.out o, h.s1, h.s2, h.d12, h.nX, h.nY⟩
theorem Sp.c1 {B : Nat} {w : World} {s : Nat} {v1 v2 : Value} {X Y : List Rw} (h : Sp B w s v1 v2 X Y) : w.cell? ⟨s, 0, none⟩ = some v1 := by rw [cell_B h.blk]; rfl
theorem Sp.c2 {B : Nat} {w : World} {s : Nat} {v1 v2 : Value} {X Y : List Rw} (h : Sp B w s v1 v2 X Y) : w.cell? ⟨s, 1, none⟩ = some v2 := by rw [cell_B h.blk]; rfl
theorem box_two (w : World) (u v : Value) (t : TypeId) : ∃ wB, Hid (wB = w.alloc (.cells #[u, v] t)) ∧ wB.cell? ⟨w.heap.size, 0, none⟩ = some u ∧ wB.cell? ⟨w.heap.size, 1, none⟩ = some v ∧ Out w wB ∧ wB.heap.size = w.heap.size + 1 := by
  refine ⟨_, rfl, ?_, ?_, (Out.refl w).alloc _, size_alloc _ _⟩
  · rw [cell_fresh _ _ _ 0 _ rfl]; rfl
  · rw [cell_fresh _ _ _ 1 _ rfl]; rfl
set_option maxHeartbeats 4000000 in
set_option maxRecDepth 100000 in
theorem clashes_any (w : World) (B s : Nat) (v1 v2 : Value) (X Y : List Rw) (f n c : Nat) (a : Option Addr) (h : Sp B w s v1 v2 X Y) (hF : Srt (flat X)) (hE : Srt (flat Y)) (hd : ∀ y ∈ flat X, 0 < y.d.length ∧ y.f + y.d.length ≤ 18446744073709551616 ∧ y.d.length ≤ 140737488355328) (hn2 : n ≤ 140737488355328) (hf : n = 0 ∨ f + (n - 1) < 18446744073709551616) :
    Calls Tryz.prog 50 #[.pointer (some ⟨s, 0, none⟩), .agg #[.int .u64 f, .slice a n c]] w fun e w' => e = .returned (.bool (clP (flat X) (flat Y) f n)) ∧ Out w w' := by
  obtain ⟨wA, HA, cA0, cA1, oA, _⟩ := box_two w (.int .u64 f) (.slice a n c) 36
  have H := hidOf (h.out oA)
  have OA := hidOf oA
  obtain ⟨bF, hbF⟩ : ∃ bF, Hid (bF = (flat X).any fun x => x.f == f) := ⟨_, rfl⟩
  obtain ⟨bE, hbE⟩ : ∃ bE, Hid (bE = (flat Y).any fun x => x.f == f) := ⟨_, rfl⟩
  have CF : Hid (∀ W, Out wA W → Calls Tryz.prog 77 #[.pointer (some ⟨s, 0, none⟩), .int .u64 f] W fun e w' => e = .returned (.bool bF) ∧ Out W w') := hidOf (fun W o => by
    rw [hbF.out]
    have h2 := H.out.out o
    exact begins_any W B s 0 v1 X f h2.fil h2.c1 hF (by have := h2.nX; omega))
  have CE : Hid (∀ W, Out wA W → Calls Tryz.prog 77 #[.pointer (some ⟨s, 1, none⟩), .int .u64 f] W fun e w' => e = .returned (.bool bE) ∧ Out W w') := hidOf (fun W o => by
    rw [hbE.out]
    have h2 := H.out.out o
    exact begins_any W B s 1 v2 Y f h2.emp h2.c2 hE (by have := h2.nY; omega))
  have CU : Hid (∀ W (at_ : Nat), Out wA W → Calls Tryz.prog 78 #[.pointer (some ⟨s, 0, none⟩), .int .u64 at_] W fun e w' => UpE (flat X) at_ e ∧ Out W w') := hidOf (fun W at_ o => by
    have h2 := H.out.out o
    exact upTo_any W B s 0 v1 X at_ h2.fil h2.c1 hF (by have := h2.nX; omega))
  have HD := hidOf hd
  have HCL : Hid (clP (flat X) (flat Y) f n = (bF || bE || (!(n == 0) && match upF (flat X) (f + (n - 1)) with | none => false | some y => decide (f ≤ y.f + (y.d.length - 1))))) := hidOf (by rw [hbF.out, hbE.out]; rfl)
  clear h oA hd hE hF
  generalize flat X = F at *
  generalize flat Y = E at *
  cases bF with
  | true =>
    have hcl : clP F E f n = true := by rw [HCL.out]; rfl
    go_enter Tryz.func50, Tryz.ntmps50
    go_upto_region 1 with fail
    rw [← HA.out]
    refine wp_region_held_drew (S := (fun w' => w'.cell? ⟨w.heap.size, 0, none⟩ = some (.int .u64 f))) (by kernel_rfl) ?_ (fun hHeld => ?_)
    · exact cA0
    refine tkLB [0, 1, 2, 3, 4] ?_
    iterate 5 (refine tkLC (v := ?_) rfl rfl (by kernel_rfl) (by kernel_rfl) (by kernel_rfl) (fun _ _ _ h => h) (by rfl) (by assumption) ?_ ?_; rotate_left; (· (intro w hSw; (try dsimp only at hSw); go_simp; (try with_reducible rfl))); simp only [Act.put, List.setIfInBounds_toArray, List.set_cons_zero, List.set_cons_succ])
    refine tkLE ?_
    refine wpAnyH_ready (rs := [5]) (by kernel_rfl) (by simp) ?_
    refine AllReadyH.cons rfl (fun K5 hK5 => ?_) AllReadyH.nil
    rw [if_pos (by rfl)]
    go_simp
    go_at_call 77
    refine (CF.out _ (Out.refl wA).drew).mono ?_
    rintro e w1 ⟨rfl, ho1⟩
    have O1 := hidOf ho1
    have cA0b := cell_later ho1 cA0
    clear ho1
    refine hK5.out _ _ cA0b (fun hHeld5 => ?_)
    refine tkLB [6] ?_
    iterate 1 (refine tkLC (v := ?_) rfl rfl (by kernel_rfl) (by kernel_rfl) (by kernel_rfl) (fun _ _ _ h => h) (by rfl) (by assumption) ?_ ?_; rotate_left; (· (intro w hSw; (try dsimp only at hSw); go_simp; (try with_reducible rfl))); simp only [Act.put, List.setIfInBounds_toArray, List.set_cons_zero, List.set_cons_succ])
    refine tkLE ?_
    refine wpAnyH_take (i := 7) (v := undef) rfl (by kernel_rfl) (by kernel_rfl) (by kernel_rfl) (fun _ _ _ h => h) (Or.inr ⟨by rfl, rfl⟩) (by assumption) ?_
    show wpAnyH _ _ _ _ _ _ _ (Act.put _ (some 14) _) _
    simp only [Act.put, List.setIfInBounds_toArray, List.set_cons_zero, List.set_cons_succ]
    refine wpAnyH_take (i := 8) (v := undef) rfl (by kernel_rfl) (by kernel_rfl) (by kernel_rfl) (fun _ _ _ h => h) (Or.inr ⟨by rfl, rfl⟩) (by assumption) ?_
    show wpAnyH _ _ _ _ _ _ _ (Act.put _ (some 15) _) _
    simp only [Act.put, List.setIfInBounds_toArray, List.set_cons_zero, List.set_cons_succ]
    refine wpAnyH_take (i := 9) (v := undef) rfl (by kernel_rfl) (by kernel_rfl) (by kernel_rfl) (fun _ _ _ h => h) (Or.inr ⟨by rfl, rfl⟩) (by assumption) ?_
    show wpAnyH _ _ _ _ _ _ _ (Act.put _ (some 16) _) _
    simp only [Act.put, List.setIfInBounds_toArray, List.set_cons_zero, List.set_cons_succ]
    refine wpAnyH_take (i := 10) (v := undef) rfl (by kernel_rfl) (by kernel_rfl) (by kernel_rfl) (fun _ _ _ h => h) (Or.inr ⟨by rfl, rfl⟩) (by assumption) ?_
    show wpAnyH _ _ _ _ _ _ _ (Act.put _ (some 17) _) _
    simp only [Act.put, List.setIfInBounds_toArray, List.set_cons_zero, List.set_cons_succ]
    refine wpAnyH_take (i := 11) (v := undef) rfl (by kernel_rfl) (by kernel_rfl) (by kernel_rfl) (fun _ _ _ h => h) (Or.inr ⟨by rfl, rfl⟩) (by assumption) ?_
    show wpAnyH _ _ _ _ _ _ _ (Act.put _ (some 18) _) _
    simp only [Act.put, List.setIfInBounds_toArray, List.set_cons_zero, List.set_cons_succ]
    refine wpAnyH_take (i := 12) (v := undef) rfl (by kernel_rfl) (by kernel_rfl) (by kernel_rfl) (fun _ _ _ h => h) (Or.inr ⟨by rfl, rfl⟩) (by assumption) ?_
    show wpAnyH _ _ _ _ _ _ _ (Act.put _ (some 19) _) _
    simp only [Act.put, List.setIfInBounds_toArray, List.set_cons_zero, List.set_cons_succ]
    refine tkLB [13] ?_
    iterate 1 (refine tkLC (v := ?_) rfl rfl (by kernel_rfl) (by kernel_rfl) (by kernel_rfl) (fun _ _ _ h => h) (by rfl) (by assumption) ?_ ?_; rotate_left; (· (intro w hSw; (try dsimp only at hSw); go_simp; (try with_reducible rfl))); simp only [Act.put, List.setIfInBounds_toArray, List.set_cons_zero, List.set_cons_succ])
    refine tkLE ?_
    refine wpAnyH_done (by kernel_rfl) ?_ _
    go_wp2
    go_ret
    exact ⟨by rw [hcl]; rfl, OA.out.trans ((Out.refl wA).drew.trans O1.out)⟩
  | false =>
    go_enter Tryz.func50, Tryz.ntmps50
    go_upto_region 1 with fail
    rw [← HA.out]
    refine wp_region_held_drew (S := (fun w' => w'.cell? ⟨w.heap.size, 0, none⟩ = some (.int .u64 f))) (by kernel_rfl) ?_ (fun hHeld => ?_)
    · exact cA0
    refine tkLB [0, 1, 2, 3, 4] ?_
    iterate 5 (refine tkLC (v := ?_) rfl rfl (by kernel_rfl) (by kernel_rfl) (by kernel_rfl) (fun _ _ _ h => h) (by rfl) (by assumption) ?_ ?_; rotate_left; (· (intro w hSw; (try dsimp only at hSw); go_simp; (try with_reducible rfl))); simp only [Act.put, List.setIfInBounds_toArray, List.set_cons_zero, List.set_cons_succ])
    refine tkLE ?_
    refine wpAnyH_ready (rs := [5]) (by kernel_rfl) (by simp) ?_
    refine AllReadyH.cons rfl (fun K5 hK5 => ?_) AllReadyH.nil
    rw [if_pos (by rfl)]
    go_simp
    go_at_call 77
    refine (CF.out _ (Out.refl wA).drew).mono ?_
    rintro e w1 ⟨rfl, ho1⟩
    have O1 := hidOf ((Out.refl wA).drew.trans ho1)
    have cA0b := cell_later ho1 cA0
    clear ho1
    refine hK5.out _ _ cA0b (fun hHeld5 => ?_)
    refine tkLB [6, 7, 8, 9, 10, 11] ?_
    iterate 6 (refine tkLC (v := ?_) rfl rfl (by kernel_rfl) (by kernel_rfl) (by kernel_rfl) (fun _ _ _ h => h) (by rfl) (by assumption) ?_ ?_; rotate_left; (· (intro w hSw; (try dsimp only at hSw); go_simp; (try with_reducible rfl))); simp only [Act.put, List.setIfInBounds_toArray, List.set_cons_zero, List.set_cons_succ])
    refine tkLE ?_
    refine wpAnyH_ready (rs := [12]) (by kernel_rfl) (by simp) ?_
    refine AllReadyH.cons rfl (fun K12 hK12 => ?_) AllReadyH.nil
    rw [if_pos (by rfl)]
    go_simp
    go_at_call 77
    refine (CE.out _ O1.out).mono ?_
    rintro e w2 ⟨rfl, ho2⟩
    have O2 := hidOf (O1.out.trans ho2)
    have cA0c := cell_later ho2 cA0b
    clear ho2
    refine hK12.out _ _ cA0c (fun hHeld12 => ?_)
    refine tkLB [13] ?_
    iterate 1 (refine tkLC (v := ?_) rfl rfl (by kernel_rfl) (by kernel_rfl) (by kernel_rfl) (fun _ _ _ h => h) (by rfl) (by assumption) ?_ ?_; rotate_left; (· (intro w hSw; (try dsimp only at hSw); go_simp; (try with_reducible rfl))); simp only [Act.put, List.setIfInBounds_toArray, List.set_cons_zero, List.set_cons_succ])
    refine tkLE ?_
    refine wpAnyH_done (by kernel_rfl) ?_ _
    cases bE with
    | true =>
      have hcl : clP F E f n = true := by rw [HCL.out]; rfl
      go_wp2
      go_ret
      exact ⟨by rw [hcl]; rfl, OA.out.trans O2.out⟩
    | false =>
      have c20 := cell_later O2.out cA0
      have c21 := cell_later O2.out cA1
      have ISE := hidOf (fun W => isEmptyR W f n c a)
      have LAS := hidOf (fun W (h : 0 < n) => lastR W f n c a h hn2 (by omega))
      by_cases hn0 : n = 0
      · have hb : (n == 0) = true := by simp [hn0]
        have hcl : clP F E f n = false := by rw [HCL.out, hb]; rfl
        rw [hb] at ISE
        clear hn0 LAS
        go_wp2_with (go_at_call 52; refine (ISE.out _).mono ?_; rintro e w3 ⟨rfl, ho3⟩; have O3 := hidOf ho3; clear ho3)
        go_ret
        exact ⟨by rw [hcl]; rfl, (OA.out.trans O2.out).trans O3.out⟩
      · have hb : (n == 0) = false := by simp [hn0]
        rw [hb] at ISE
        have hn1 : 0 < n := by omega
        go_upto_region 5 with (go_at_call 52; refine (ISE.out _).mono ?_; rintro e w3 ⟨rfl, ho3⟩; have O3 := hidOf (O2.out.trans ho3); have c30 := cell_later O3.out cA0; have c31 := cell_later O3.out cA1; clear ho3)
        obtain ⟨l, hl⟩ : ∃ l, Hid (l = f + (n - 1)) := ⟨_, rfl⟩
        rw [← hl.out] at LAS
        have HCM : Hid (clP F E f n = match upF F l with | none => false | some y => decide (f ≤ y.f + (y.d.length - 1))) := hidOf (by rw [HCL.out, hb, hl.out]; rfl)
        have CUl := hidOf (fun W o => CU.out W l o)
        cases hu : upF F l with
        | none =>
          have hcl : clP F E f n = false := by rw [HCM.out, hu]
          have CN : Hid (∀ W, Out wA W → Calls Tryz.prog 78 #[.pointer (some ⟨s, 0, none⟩), .int .u64 (l : Nat)] W fun e w' => e = .returned (.tuple #[.agg #[.int .u64 0, .slice none 0 0], .bool false]) ∧ Out W w') := hidOf (fun W o => (CUl.out W o).mono (by
            rintro e w' ⟨⟨_, h⟩ | ⟨y, h, _⟩, ho⟩
            · exact ⟨h, ho⟩
            · rw [hu] at h; cases h))
          clear hu
          refine wp_region_held_drew (S := (fun w' => w'.cell? ⟨w.heap.size, 0, none⟩ = some (.int .u64 f) ∧ w'.cell? ⟨w.heap.size, 1, none⟩ = some (.slice a n c))) (by kernel_rfl) ?_ (fun hHeld => ?_)
          · exact ⟨c30, c31⟩
          refine tkLB [0, 1, 2, 3] ?_
          iterate 4 (refine tkLC (v := ?_) rfl rfl (by kernel_rfl) (by kernel_rfl) (by kernel_rfl) (fun _ _ _ h => h) (by rfl) (by assumption) ?_ ?_; rotate_left; (· (intro w hSw; (try dsimp only at hSw); go_simp; (try with_reducible rfl))); simp only [Act.put, List.setIfInBounds_toArray, List.set_cons_zero, List.set_cons_succ])
          refine tkLE ?_
          refine wpAnyH_ready (rs := [4, 9]) (by kernel_rfl) (by simp) ?_
          refine (AllReadyH.cons rfl (fun K4 hK4 => ?_) (AllReadyH.cons rfl (fun K9 hK9 => ?_) AllReadyH.nil))
          · rw [if_pos (by rfl)]
            go_simp
            go_at_call 79
            refine (LAS.out _ hn1).mono ?_
            rintro e w4 ⟨rfl, ho4⟩
            have O4 : Hid (Out wA w4) := hidOf (Out.trans (O3.out.drew) ho4)
            have c40 := cell_later O4.out cA0
            have c41 := cell_later O4.out cA1
            refine hK4.out _ _ ⟨c40, c41⟩ (fun hHeld4 => ?_)
            refine wpAnyH_ready (rs := [5, 9]) (by kernel_rfl) (by simp) ?_
            refine (AllReadyH.cons rfl (fun K5 hK5 => ?_) (AllReadyH.cons rfl (fun K9 hK9 => ?_) AllReadyH.nil))
            · rw [if_pos (by rfl)]
              go_simp
              go_at_call 78
              refine (CN.out _ (O4.out)).mono ?_
              rintro e w5 ⟨rfl, ho5⟩
              have O5 : Hid (Out wA w5) := hidOf (Out.trans (O4.out) ho5)
              have c50 := cell_later O5.out cA0
              have c51 := cell_later O5.out cA1
              refine hK5.out _ _ ⟨c50, c51⟩ (fun hHeld5 => ?_)
              refine tkLB [6, 7, 8] ?_
              iterate 3 (refine tkLC (v := ?_) rfl rfl (by kernel_rfl) (by kernel_rfl) (by kernel_rfl) (fun _ _ _ h => h) (by rfl) (by assumption) ?_ ?_; rotate_left; (· (intro w hSw; (try dsimp only at hSw); go_simp; (try with_reducible rfl))); simp only [Act.put, List.setIfInBounds_toArray, List.set_cons_zero, List.set_cons_succ])
              refine tkLE ?_
              refine wpAnyH_ready (rs := [9]) (by kernel_rfl) (by simp) ?_
              refine (AllReadyH.cons rfl (fun K9 hK9 => ?_) AllReadyH.nil)
              · obtain ⟨wz, Hwz, bwz, owz⟩ : ∃ wz, Hid (wz = w5.alloc (.cells #[.int .u64 0, .slice none 0 0] 36)) ∧ wz.heap[w5.heap.size]? = some (.cells #[.int .u64 0, .slice none 0 0] 36 (0, 0)) ∧ Out w5 wz := ⟨_, rfl, heap_alloc_new _ _, (Out.refl _).alloc _⟩
                have Owz : Hid (Out wA wz) := hidOf (Out.trans (O5.out) owz)
                have cwz0 := cell_later Owz.out cA0
                have cwz1 := cell_later Owz.out cA1
                rw [if_pos (by rfl)]
                go_simp
                first | rw [← Hwz.out] | (change K9 _ (w5.alloc (.cells #[.int .u64 0, .slice none 0 0] 36)); rw [← Hwz.out])
                refine hK9.out _ _ ⟨cwz0, cwz1⟩ (fun hHeld9 => ?_)
                have hq := bwz
                have OW := Owz
                have q0 : wz.cell? ⟨w5.heap.size, 0, none⟩ = some (.int .u64 0) := by rw [cell_B hq] <;> rfl
                have q1 : wz.cell? ⟨w5.heap.size, 1, none⟩ = some (.slice none 0 0) := by rw [cell_B hq] <;> rfl
                have z0 : wz.frozen? ⟨w5.heap.size, 0, none⟩ = false := froz_B hq 0
                have z1 : wz.frozen? ⟨w5.heap.size, 1, none⟩ = false := froz_B hq 1
                obtain ⟨wS, HS, bS, oS⟩ : ∃ wS, Hid (wS = (wz.setCell ⟨w5.heap.size, 0, none⟩ (.int .u64 0)).setCell ⟨w5.heap.size, 1, none⟩ (.slice none 0 0)) ∧ wS.heap[w5.heap.size]? = some (.cells #[.int .u64 0, .slice none 0 0] 36 (0, 0)) ∧ Out wA wS := ⟨_, rfl, set_B (set_B hq 0 _) 1 _, Out.setCell (Out.setCell OW.out (O5.out.size) _) (O5.out.size) _⟩
                have cS0 := cell_later oS cA0
                have cS1 := cell_later oS cA1
                have OS := hidOf oS
                clear hq oS
                refine wpAnyH_ready (rs := [10]) (by kernel_rfl) (by simp) ?_
                refine (AllReadyH.cons rfl (fun K10 hK10 => ?_) AllReadyH.nil)
                · rw [if_pos (by rfl)]
                  go_simp
                  rw [← HS.out]
                  refine hK10.out _ _ ⟨cS0, cS1⟩ (fun hHeld10 => ?_)
                  refine tkLB [11] ?_
                  iterate 1 (refine tkLC (v := ?_) rfl rfl (by kernel_rfl) (by kernel_rfl) (by kernel_rfl) (fun _ _ _ h => h) (by rfl) (by assumption) ?_ ?_; rotate_left; (· (intro w hSw; (try dsimp only at hSw); go_simp; (try with_reducible rfl))); simp only [Act.put, List.setIfInBounds_toArray, List.set_cons_zero, List.set_cons_succ])
                  refine tkLE ?_
                  refine wpAnyH_done (by kernel_rfl) ?_ _
                  go_upto_region 6 with fail
                  clear q0 q1 z0 z1
                  refine wp_region_held_drew (S := fun _ => True) (by kernel_rfl) ?_ (fun hHeld => ?_)
                  · exact trivial
                  refine tkLB [0, 1] ?_
                  iterate 2 (refine tkLC (v := ?_) rfl rfl (by kernel_rfl) (by kernel_rfl) (by kernel_rfl) (fun _ _ _ h => h) (by rfl) (by assumption) ?_ ?_; rotate_left; (· (intro w hSw; (try dsimp only at hSw); go_simp; (try with_reducible rfl))); simp only [Act.put, List.setIfInBounds_toArray, List.set_cons_zero, List.set_cons_succ])
                  refine tkLE ?_
                  refine wpAnyH_take (i := 2) (v := undef) rfl (by kernel_rfl) (by kernel_rfl) (by kernel_rfl) (fun _ _ _ h => h) (Or.inr ⟨by rfl, rfl⟩) (by assumption) ?_
                  show wpAnyH _ _ _ _ _ _ _ (Act.put _ (some 34) _) _
                  simp only [Act.put, List.setIfInBounds_toArray, List.set_cons_zero, List.set_cons_succ]
                  refine wpAnyH_take (i := 3) (v := undef) rfl (by kernel_rfl) (by kernel_rfl) (by kernel_rfl) (fun _ _ _ h => h) (Or.inr ⟨by rfl, rfl⟩) (by assumption) ?_
                  show wpAnyH _ _ _ _ _ _ _ (Act.put _ (some 35) _) _
                  simp only [Act.put, List.setIfInBounds_toArray, List.set_cons_zero, List.set_cons_succ]
                  refine wpAnyH_take (i := 4) (v := undef) rfl (by kernel_rfl) (by kernel_rfl) (by kernel_rfl) (fun _ _ _ h => h) (Or.inr ⟨by rfl, rfl⟩) (by assumption) ?_
                  show wpAnyH _ _ _ _ _ _ _ (Act.put _ (some 36) _) _
                  simp only [Act.put, List.setIfInBounds_toArray, List.set_cons_zero, List.set_cons_succ]
                  refine wpAnyH_take (i := 5) (v := undef) rfl (by kernel_rfl) (by kernel_rfl) (by kernel_rfl) (fun _ _ _ h => h) (Or.inr ⟨by rfl, rfl⟩) (by assumption) ?_
                  show wpAnyH _ _ _ _ _ _ _ (Act.put _ (some 37) _) _
                  simp only [Act.put, List.setIfInBounds_toArray, List.set_cons_zero, List.set_cons_succ]
                  refine wpAnyH_take (i := 6) (v := undef) rfl (by kernel_rfl) (by kernel_rfl) (by kernel_rfl) (fun _ _ _ h => h) (Or.inr ⟨by rfl, rfl⟩) (by assumption) ?_
                  show wpAnyH _ _ _ _ _ _ _ (Act.put _ (some 38) _) _
                  simp only [Act.put, List.setIfInBounds_toArray, List.set_cons_zero, List.set_cons_succ]
                  refine tkLB [7, 8] ?_
                  iterate 2 (refine tkLC (v := ?_) rfl rfl (by kernel_rfl) (by kernel_rfl) (by kernel_rfl) (fun _ _ _ h => h) (by rfl) (by assumption) ?_ ?_; rotate_left; (· (intro w hSw; (try dsimp only at hSw); go_simp; (try with_reducible rfl))); simp only [Act.put, List.setIfInBounds_toArray, List.set_cons_zero, List.set_cons_succ])
                  refine tkLE ?_
                  refine wpAnyH_done (by kernel_rfl) ?_ _
                  go_wp2
                  go_ret
                  exact ⟨by rw [hcl]; rfl, OA.out.trans (OS.out.trans (Out.refl _).drew)⟩
            · obtain ⟨wz, Hwz, bwz, owz⟩ : ∃ wz, Hid (wz = w4.alloc (.cells #[.int .u64 0, .slice none 0 0] 36)) ∧ wz.heap[w4.heap.size]? = some (.cells #[.int .u64 0, .slice none 0 0] 36 (0, 0)) ∧ Out w4 wz := ⟨_, rfl, heap_alloc_new _ _, (Out.refl _).alloc _⟩
              have Owz : Hid (Out wA wz) := hidOf (Out.trans (O4.out) owz)
              have cwz0 := cell_later Owz.out cA0
              have cwz1 := cell_later Owz.out cA1
              rw [if_pos (by rfl)]
              go_simp
              first | rw [← Hwz.out] | (change K9 _ (w4.alloc (.cells #[.int .u64 0, .slice none 0 0] 36)); rw [← Hwz.out])
              refine hK9.out _ _ ⟨cwz0, cwz1⟩ (fun hHeld9 => ?_)
              refine wpAnyH_ready (rs := [5]) (by kernel_rfl) (by simp) ?_
              refine (AllReadyH.cons rfl (fun K5 hK5 => ?_) AllReadyH.nil)
              · rw [if_pos (by rfl)]
                go_simp
                go_at_call 78
                refine (CN.out _ (Owz.out)).mono ?_
                rintro e w5 ⟨rfl, ho5⟩
                have O5 : Hid (Out wA w5) := hidOf (Out.trans (Owz.out) ho5)
                have c50 := cell_later O5.out cA0
                have c51 := cell_later O5.out cA1
                refine hK5.out _ _ ⟨c50, c51⟩ (fun hHeld5 => ?_)
                refine tkLB [6, 7, 8] ?_
                iterate 3 (refine tkLC (v := ?_) rfl rfl (by kernel_rfl) (by kernel_rfl) (by kernel_rfl) (fun _ _ _ h => h) (by rfl) (by assumption) ?_ ?_; rotate_left; (· (intro w hSw; (try dsimp only at hSw); go_simp; (try with_reducible rfl))); simp only [Act.put, List.setIfInBounds_toArray, List.set_cons_zero, List.set_cons_succ])
                refine tkLE ?_
                have hq : w5.heap[w4.heap.size]? = some (.cells #[.int .u64 0, .slice none 0 0] 36 (0, 0)) := blk_out bwz ho5
                have OW := O5
                have q0 : w5.cell? ⟨w4.heap.size, 0, none⟩ = some (.int .u64 0) := by rw [cell_B hq] <;> rfl
                have q1 : w5.cell? ⟨w4.heap.size, 1, none⟩ = some (.slice none 0 0) := by rw [cell_B hq] <;> rfl
                have z0 : w5.frozen? ⟨w4.heap.size, 0, none⟩ = false := froz_B hq 0
                have z1 : w5.frozen? ⟨w4.heap.size, 1, none⟩ = false := froz_B hq 1
                obtain ⟨wS, HS, bS, oS⟩ : ∃ wS, Hid (wS = (w5.setCell ⟨w4.heap.size, 0, none⟩ (.int .u64 0)).setCell ⟨w4.heap.size, 1, none⟩ (.slice none 0 0)) ∧ wS.heap[w4.heap.size]? = some (.cells #[.int .u64 0, .slice none 0 0] 36 (0, 0)) ∧ Out wA wS := ⟨_, rfl, set_B (set_B hq 0 _) 1 _, Out.setCell (Out.setCell OW.out (O4.out.size) _) (O4.out.size) _⟩
                have cS0 := cell_later oS cA0
                have cS1 := cell_later oS cA1
                have OS := hidOf oS
                clear hq oS
                refine wpAnyH_ready (rs := [10]) (by kernel_rfl) (by simp) ?_
                refine (AllReadyH.cons rfl (fun K10 hK10 => ?_) AllReadyH.nil)
                · rw [if_pos (by rfl)]
                  go_simp
                  rw [← HS.out]
                  refine hK10.out _ _ ⟨cS0, cS1⟩ (fun hHeld10 => ?_)
                  refine tkLB [11] ?_
                  iterate 1 (refine tkLC (v := ?_) rfl rfl (by kernel_rfl) (by kernel_rfl) (by kernel_rfl) (fun _ _ _ h => h) (by rfl) (by assumption) ?_ ?_; rotate_left; (· (intro w hSw; (try dsimp only at hSw); go_simp; (try with_reducible rfl))); simp only [Act.put, List.setIfInBounds_toArray, List.set_cons_zero, List.set_cons_succ])
                  refine tkLE ?_
                  refine wpAnyH_done (by kernel_rfl) ?_ _
                  go_upto_region 6 with fail
                  clear q0 q1 z0 z1
                  refine wp_region_held_drew (S := fun _ => True) (by kernel_rfl) ?_ (fun hHeld => ?_)
                  · exact trivial
                  refine tkLB [0, 1] ?_
                  iterate 2 (refine tkLC (v := ?_) rfl rfl (by kernel_rfl) (by kernel_rfl) (by kernel_rfl) (fun _ _ _ h => h) (by rfl) (by assumption) ?_ ?_; rotate_left; (· (intro w hSw; (try dsimp only at hSw); go_simp; (try with_reducible rfl))); simp only [Act.put, List.setIfInBounds_toArray, List.set_cons_zero, List.set_cons_succ])
                  refine tkLE ?_
                  refine wpAnyH_take (i := 2) (v := undef) rfl (by kernel_rfl) (by kernel_rfl) (by kernel_rfl) (fun _ _ _ h => h) (Or.inr ⟨by rfl, rfl⟩) (by assumption) ?_
                  show wpAnyH _ _ _ _ _ _ _ (Act.put _ (some 34) _) _
                  simp only [Act.put, List.setIfInBounds_toArray, List.set_cons_zero, List.set_cons_succ]
                  refine wpAnyH_take (i := 3) (v := undef) rfl (by kernel_rfl) (by kernel_rfl) (by kernel_rfl) (fun _ _ _ h => h) (Or.inr ⟨by rfl, rfl⟩) (by assumption) ?_
                  show wpAnyH _ _ _ _ _ _ _ (Act.put _ (some 35) _) _
                  simp only [Act.put, List.setIfInBounds_toArray, List.set_cons_zero, List.set_cons_succ]
                  refine wpAnyH_take (i := 4) (v := undef) rfl (by kernel_rfl) (by kernel_rfl) (by kernel_rfl) (fun _ _ _ h => h) (Or.inr ⟨by rfl, rfl⟩) (by assumption) ?_
                  show wpAnyH _ _ _ _ _ _ _ (Act.put _ (some 36) _) _
                  simp only [Act.put, List.setIfInBounds_toArray, List.set_cons_zero, List.set_cons_succ]
                  refine wpAnyH_take (i := 5) (v := undef) rfl (by kernel_rfl) (by kernel_rfl) (by kernel_rfl) (fun _ _ _ h => h) (Or.inr ⟨by rfl, rfl⟩) (by assumption) ?_
                  show wpAnyH _ _ _ _ _ _ _ (Act.put _ (some 37) _) _
                  simp only [Act.put, List.setIfInBounds_toArray, List.set_cons_zero, List.set_cons_succ]
                  refine wpAnyH_take (i := 6) (v := undef) rfl (by kernel_rfl) (by kernel_rfl) (by kernel_rfl) (fun _ _ _ h => h) (Or.inr ⟨by rfl, rfl⟩) (by assumption) ?_
                  show wpAnyH _ _ _ _ _ _ _ (Act.put _ (some 38) _) _
                  simp only [Act.put, List.setIfInBounds_toArray, List.set_cons_zero, List.set_cons_succ]
                  refine tkLB [7, 8] ?_
                  iterate 2 (refine tkLC (v := ?_) rfl rfl (by kernel_rfl) (by kernel_rfl) (by kernel_rfl) (fun _ _ _ h => h) (by rfl) (by assumption) ?_ ?_; rotate_left; (· (intro w hSw; (try dsimp only at hSw); go_simp; (try with_reducible rfl))); simp only [Act.put, List.setIfInBounds_toArray, List.set_cons_zero, List.set_cons_succ])
                  refine tkLE ?_
                  refine wpAnyH_done (by kernel_rfl) ?_ _
                  go_wp2
                  go_ret
                  exact ⟨by rw [hcl]; rfl, OA.out.trans (OS.out.trans (Out.refl _).drew)⟩
          · obtain ⟨wz, Hwz, bwz, owz⟩ : ∃ wz, Hid (wz = w3.drew.alloc (.cells #[.int .u64 0, .slice none 0 0] 36)) ∧ wz.heap[w3.drew.heap.size]? = some (.cells #[.int .u64 0, .slice none 0 0] 36 (0, 0)) ∧ Out w3.drew wz := ⟨_, rfl, heap_alloc_new _ _, (Out.refl _).alloc _⟩
            have Owz : Hid (Out wA wz) := hidOf (Out.trans (O3.out.drew) owz)
            have cwz0 := cell_later Owz.out cA0
            have cwz1 := cell_later Owz.out cA1
            rw [if_pos (by rfl)]
            go_simp
            first | rw [← Hwz.out] | (change K9 _ (w3.drew.alloc (.cells #[.int .u64 0, .slice none 0 0] 36)); rw [← Hwz.out])
            refine hK9.out _ _ ⟨cwz0, cwz1⟩ (fun hHeld9 => ?_)
            refine wpAnyH_ready (rs := [4]) (by kernel_rfl) (by simp) ?_
            refine (AllReadyH.cons rfl (fun K4 hK4 => ?_) AllReadyH.nil)
            · rw [if_pos (by rfl)]
              go_simp
              go_at_call 79
              refine (LAS.out _ hn1).mono ?_
              rintro e w4 ⟨rfl, ho4⟩
              have O4 : Hid (Out wA w4) := hidOf (Out.trans (Owz.out) ho4)
              have c40 := cell_later O4.out cA0
              have c41 := cell_later O4.out cA1
              refine hK4.out _ _ ⟨c40, c41⟩ (fun hHeld4 => ?_)
              refine wpAnyH_ready (rs := [5]) (by kernel_rfl) (by simp) ?_
              refine (AllReadyH.cons rfl (fun K5 hK5 => ?_) AllReadyH.nil)
              · rw [if_pos (by rfl)]
                go_simp
                go_at_call 78
                refine (CN.out _ (O4.out)).mono ?_
                rintro e w5 ⟨rfl, ho5⟩
                have O5 : Hid (Out wA w5) := hidOf (Out.trans (O4.out) ho5)
                have c50 := cell_later O5.out cA0
                have c51 := cell_later O5.out cA1
                refine hK5.out _ _ ⟨c50, c51⟩ (fun hHeld5 => ?_)
                refine tkLB [6, 7, 8] ?_
                iterate 3 (refine tkLC (v := ?_) rfl rfl (by kernel_rfl) (by kernel_rfl) (by kernel_rfl) (fun _ _ _ h => h) (by rfl) (by assumption) ?_ ?_; rotate_left; (· (intro w hSw; (try dsimp only at hSw); go_simp; (try with_reducible rfl))); simp only [Act.put, List.setIfInBounds_toArray, List.set_cons_zero, List.set_cons_succ])
                refine tkLE ?_
                have hq : w5.heap[w3.heap.size]? = some (.cells #[.int .u64 0, .slice none 0 0] 36 (0, 0)) := blk_out (blk_out bwz ho4) ho5
                have OW := O5
                have q0 : w5.cell? ⟨w3.heap.size, 0, none⟩ = some (.int .u64 0) := by rw [cell_B hq] <;> rfl
                have q1 : w5.cell? ⟨w3.heap.size, 1, none⟩ = some (.slice none 0 0) := by rw [cell_B hq] <;> rfl
                have z0 : w5.frozen? ⟨w3.heap.size, 0, none⟩ = false := froz_B hq 0
                have z1 : w5.frozen? ⟨w3.heap.size, 1, none⟩ = false := froz_B hq 1
                obtain ⟨wS, HS, bS, oS⟩ : ∃ wS, Hid (wS = (w5.setCell ⟨w3.heap.size, 0, none⟩ (.int .u64 0)).setCell ⟨w3.heap.size, 1, none⟩ (.slice none 0 0)) ∧ wS.heap[w3.heap.size]? = some (.cells #[.int .u64 0, .slice none 0 0] 36 (0, 0)) ∧ Out wA wS := ⟨_, rfl, set_B (set_B hq 0 _) 1 _, Out.setCell (Out.setCell OW.out (O3.out.size) _) (O3.out.size) _⟩
                have cS0 := cell_later oS cA0
                have cS1 := cell_later oS cA1
                have OS := hidOf oS
                clear hq oS
                refine wpAnyH_ready (rs := [10]) (by kernel_rfl) (by simp) ?_
                refine (AllReadyH.cons rfl (fun K10 hK10 => ?_) AllReadyH.nil)
                · rw [if_pos (by rfl)]
                  go_simp
                  rw [← HS.out]
                  refine hK10.out _ _ ⟨cS0, cS1⟩ (fun hHeld10 => ?_)
                  refine tkLB [11] ?_
                  iterate 1 (refine tkLC (v := ?_) rfl rfl (by kernel_rfl) (by kernel_rfl) (by kernel_rfl) (fun _ _ _ h => h) (by rfl) (by assumption) ?_ ?_; rotate_left; (· (intro w hSw; (try dsimp only at hSw); go_simp; (try with_reducible rfl))); simp only [Act.put, List.setIfInBounds_toArray, List.set_cons_zero, List.set_cons_succ])
                  refine tkLE ?_
                  refine wpAnyH_done (by kernel_rfl) ?_ _
                  go_upto_region 6 with fail
                  clear q0 q1 z0 z1
                  refine wp_region_held_drew (S := fun _ => True) (by kernel_rfl) ?_ (fun hHeld => ?_)
                  · exact trivial
                  refine tkLB [0, 1] ?_
                  iterate 2 (refine tkLC (v := ?_) rfl rfl (by kernel_rfl) (by kernel_rfl) (by kernel_rfl) (fun _ _ _ h => h) (by rfl) (by assumption) ?_ ?_; rotate_left; (· (intro w hSw; (try dsimp only at hSw); go_simp; (try with_reducible rfl))); simp only [Act.put, List.setIfInBounds_toArray, List.set_cons_zero, List.set_cons_succ])
                  refine tkLE ?_
                  refine wpAnyH_take (i := 2) (v := undef) rfl (by kernel_rfl) (by kernel_rfl) (by kernel_rfl) (fun _ _ _ h => h) (Or.inr ⟨by rfl, rfl⟩) (by assumption) ?_
                  show wpAnyH _ _ _ _ _ _ _ (Act.put _ (some 34) _) _
                  simp only [Act.put, List.setIfInBounds_toArray, List.set_cons_zero, List.set_cons_succ]
                  refine wpAnyH_take (i := 3) (v := undef) rfl (by kernel_rfl) (by kernel_rfl) (by kernel_rfl) (fun _ _ _ h => h) (Or.inr ⟨by rfl, rfl⟩) (by assumption) ?_
                  show wpAnyH _ _ _ _ _ _ _ (Act.put _ (some 35) _) _
                  simp only [Act.put, List.setIfInBounds_toArray, List.set_cons_zero, List.set_cons_succ]
                  refine wpAnyH_take (i := 4) (v := undef) rfl (by kernel_rfl) (by kernel_rfl) (by kernel_rfl) (fun _ _ _ h => h) (Or.inr ⟨by rfl, rfl⟩) (by assumption) ?_
                  show wpAnyH _ _ _ _ _ _ _ (Act.put _ (some 36) _) _
                  simp only [Act.put, List.setIfInBounds_toArray, List.set_cons_zero, List.set_cons_succ]
                  refine wpAnyH_take (i := 5) (v := undef) rfl (by kernel_rfl) (by kernel_rfl) (by kernel_rfl) (fun _ _ _ h => h) (Or.inr ⟨by rfl, rfl⟩) (by assumption) ?_
                  show wpAnyH _ _ _ _ _ _ _ (Act.put _ (some 37) _) _
                  simp only [Act.put, List.setIfInBounds_toArray, List.set_cons_zero, List.set_cons_succ]
                  refine wpAnyH_take (i := 6) (v := undef) rfl (by kernel_rfl) (by kernel_rfl) (by kernel_rfl) (fun _ _ _ h => h) (Or.inr ⟨by rfl, rfl⟩) (by assumption) ?_
                  show wpAnyH _ _ _ _ _ _ _ (Act.put _ (some 38) _) _
                  simp only [Act.put, List.setIfInBounds_toArray, List.set_cons_zero, List.set_cons_succ]
                  refine tkLB [7, 8] ?_
                  iterate 2 (refine tkLC (v := ?_) rfl rfl (by kernel_rfl) (by kernel_rfl) (by kernel_rfl) (fun _ _ _ h => h) (by rfl) (by assumption) ?_ ?_; rotate_left; (· (intro w hSw; (try dsimp only at hSw); go_simp; (try with_reducible rfl))); simp only [Act.put, List.setIfInBounds_toArray, List.set_cons_zero, List.set_cons_succ])
                  refine tkLE ?_
                  refine wpAnyH_done (by kernel_rfl) ?_ _
                  go_wp2
                  go_ret
                  exact ⟨by rw [hcl]; rfl, OA.out.trans (OS.out.trans (Out.refl _).drew)⟩
        | some y =>
          have hcl : clP F E f n = decide (f ≤ y.f + (y.d.length - 1)) := by rw [HCM.out, hu]
          obtain ⟨ya, hya⟩ : ∃ ya : Option Addr, Hid (ya = y.a.map fun b => ⟨b, 0, none⟩) := ⟨_, rfl⟩
          have CN : Hid (y ∈ F ∧ ∀ W, Out wA W → Calls Tryz.prog 78 #[.pointer (some ⟨s, 0, none⟩), .int .u64 (l : Nat)] W fun e w' => e = .returned (.tuple #[.agg #[.int .u64 (y.f : Nat), .slice ya y.d.length y.c], .bool true]) ∧ Out W w') := hidOf (by
            rw [hya.out]
            have hy : y ∈ F := (List.mem_filter.1 (List.mem_of_getLast? hu)).1
            exact ⟨hy, fun W o => (CUl.out W o).mono (by
              rintro e w' ⟨⟨h, _⟩ | ⟨y2, h, _, h3⟩, ho⟩
              · rw [hu] at h; cases h
              · rw [hu] at h; cases h; exact ⟨h3, ho⟩)⟩)
          have hyd := HD.out y CN.out.1
          have CN2 := hidOf CN.out.2
          generalize y.f = yf at *
          generalize y.d.length = yn at *
          generalize y.c = yc at *
          obtain ⟨ym, hym⟩ : ∃ ym, Hid (ym = yf + (yn - 1)) := ⟨_, rfl⟩
          have LAY := hidOf (fun W => lastR W yf yn yc ya hyd.1 (by omega) (by omega))
          rw [← hym.out] at LAY hcl
          clear hu CN hyd
          refine wp_region_held_drew (S := (fun w' => w'.cell? ⟨w.heap.size, 0, none⟩ = some (.int .u64 f) ∧ w'.cell? ⟨w.heap.size, 1, none⟩ = some (.slice a n c))) (by kernel_rfl) ?_ (fun hHeld => ?_)
          · exact ⟨c30, c31⟩
          refine tkLB [0, 1, 2, 3] ?_
          iterate 4 (refine tkLC (v := ?_) rfl rfl (by kernel_rfl) (by kernel_rfl) (by kernel_rfl) (fun _ _ _ h => h) (by rfl) (by assumption) ?_ ?_; rotate_left; (· (intro w hSw; (try dsimp only at hSw); go_simp; (try with_reducible rfl))); simp only [Act.put, List.setIfInBounds_toArray, List.set_cons_zero, List.set_cons_succ])
          refine tkLE ?_
          refine wpAnyH_ready (rs := [4, 9]) (by kernel_rfl) (by simp) ?_
          refine (AllReadyH.cons rfl (fun K4 hK4 => ?_) (AllReadyH.cons rfl (fun K9 hK9 => ?_) AllReadyH.nil))
          · rw [if_pos (by rfl)]
            go_simp
            go_at_call 79
            refine (LAS.out _ hn1).mono ?_
            rintro e w4 ⟨rfl, ho4⟩
            have O4 : Hid (Out wA w4) := hidOf (Out.trans (O3.out.drew) ho4)
            have c40 := cell_later O4.out cA0
            have c41 := cell_later O4.out cA1
            refine hK4.out _ _ ⟨c40, c41⟩ (fun hHeld4 => ?_)
            refine wpAnyH_ready (rs := [5, 9]) (by kernel_rfl) (by simp) ?_
            refine (AllReadyH.cons rfl (fun K5 hK5 => ?_) (AllReadyH.cons rfl (fun K9 hK9 => ?_) AllReadyH.nil))
            · rw [if_pos (by rfl)]
              go_simp
              go_at_call 78
              refine (CN2.out _ (O4.out)).mono ?_
              rintro e w5 ⟨rfl, ho5⟩
              have O5 : Hid (Out wA w5) := hidOf (Out.trans (O4.out) ho5)
              have c50 := cell_later O5.out cA0
              have c51 := cell_later O5.out cA1
              refine hK5.out _ _ ⟨c50, c51⟩ (fun hHeld5 => ?_)
              refine tkLB [6, 7, 8] ?_
              iterate 3 (refine tkLC (v := ?_) rfl rfl (by kernel_rfl) (by kernel_rfl) (by kernel_rfl) (fun _ _ _ h => h) (by rfl) (by assumption) ?_ ?_; rotate_left; (· (intro w hSw; (try dsimp only at hSw); go_simp; (try with_reducible rfl))); simp only [Act.put, List.setIfInBounds_toArray, List.set_cons_zero, List.set_cons_succ])
              refine tkLE ?_
              refine wpAnyH_ready (rs := [9]) (by kernel_rfl) (by simp) ?_
              refine (AllReadyH.cons rfl (fun K9 hK9 => ?_) AllReadyH.nil)
              · obtain ⟨wz, Hwz, bwz, owz⟩ : ∃ wz, Hid (wz = w5.alloc (.cells #[.int .u64 0, .slice none 0 0] 36)) ∧ wz.heap[w5.heap.size]? = some (.cells #[.int .u64 0, .slice none 0 0] 36 (0, 0)) ∧ Out w5 wz := ⟨_, rfl, heap_alloc_new _ _, (Out.refl _).alloc _⟩
                have Owz : Hid (Out wA wz) := hidOf (Out.trans (O5.out) owz)
                have cwz0 := cell_later Owz.out cA0
                have cwz1 := cell_later Owz.out cA1
                rw [if_pos (by rfl)]
                go_simp
                first | rw [← Hwz.out] | (change K9 _ (w5.alloc (.cells #[.int .u64 0, .slice none 0 0] 36)); rw [← Hwz.out])
                refine hK9.out _ _ ⟨cwz0, cwz1⟩ (fun hHeld9 => ?_)
                have hq := bwz
                have OW := Owz
                have q0 : wz.cell? ⟨w5.heap.size, 0, none⟩ = some (.int .u64 0) := by rw [cell_B hq] <;> rfl
                have q1 : wz.cell? ⟨w5.heap.size, 1, none⟩ = some (.slice none 0 0) := by rw [cell_B hq] <;> rfl
                have z0 : wz.frozen? ⟨w5.heap.size, 0, none⟩ = false := froz_B hq 0
                have z1 : wz.frozen? ⟨w5.heap.size, 1, none⟩ = false := froz_B hq 1
                obtain ⟨wS, HS, bS, oS⟩ : ∃ wS, Hid (wS = (wz.setCell ⟨w5.heap.size, 0, none⟩ (.int .u64 yf)).setCell ⟨w5.heap.size, 1, none⟩ (.slice ya yn yc)) ∧ wS.heap[w5.heap.size]? = some (.cells #[.int .u64 yf, .slice ya yn yc] 36 (0, 0)) ∧ Out wA wS := ⟨_, rfl, set_B (set_B hq 0 _) 1 _, Out.setCell (Out.setCell OW.out (O5.out.size) _) (O5.out.size) _⟩
                have cS0 := cell_later oS cA0
                have cS1 := cell_later oS cA1
                have OS := hidOf oS
                clear hq oS
                refine wpAnyH_ready (rs := [10]) (by kernel_rfl) (by simp) ?_
                refine (AllReadyH.cons rfl (fun K10 hK10 => ?_) AllReadyH.nil)
                · rw [if_pos (by rfl)]
                  go_simp
                  rw [← HS.out]
                  refine hK10.out _ _ ⟨cS0, cS1⟩ (fun hHeld10 => ?_)
                  refine tkLB [11] ?_
                  iterate 1 (refine tkLC (v := ?_) rfl rfl (by kernel_rfl) (by kernel_rfl) (by kernel_rfl) (fun _ _ _ h => h) (by rfl) (by assumption) ?_ ?_; rotate_left; (· (intro w hSw; (try dsimp only at hSw); go_simp; (try with_reducible rfl))); simp only [Act.put, List.setIfInBounds_toArray, List.set_cons_zero, List.set_cons_succ])
                  refine tkLE ?_
                  refine wpAnyH_done (by kernel_rfl) ?_ _
                  go_upto_region 6 with fail
                  have s0 : wS.cell? ⟨w5.heap.size, 0, none⟩ = some (.int .u64 yf) := by rw [cell_B bS] <;> rfl
                  have s1 : wS.cell? ⟨w5.heap.size, 1, none⟩ = some (.slice ya yn yc) := by rw [cell_B bS] <;> rfl
                  clear q0 q1 z0 z1 bS
                  refine wp_region_held_drew (S := fun w' => w'.cell? ⟨w5.heap.size, 0, none⟩ = some (.int .u64 yf) ∧ w'.cell? ⟨w5.heap.size, 1, none⟩ = some (.slice ya yn yc) ∧ w'.cell? ⟨w.heap.size, 0, none⟩ = some (.int .u64 f)) (by kernel_rfl) ?_ (fun hHeld => ?_)
                  · exact ⟨s0, s1, cS0⟩
                  refine tkLB [0, 1, 2, 4, 5] ?_
                  iterate 5 (refine tkLC (v := ?_) rfl rfl (by kernel_rfl) (by kernel_rfl) (by kernel_rfl) (fun _ _ _ h => h) (by rfl) (by assumption) ?_ ?_; rotate_left; (· (intro w hSw; (try dsimp only at hSw); go_simp; (try with_reducible rfl))); simp only [Act.put, List.setIfInBounds_toArray, List.set_cons_zero, List.set_cons_succ])
                  refine tkLE ?_
                  refine wpAnyH_ready (rs := [3]) (by kernel_rfl) (by simp) ?_
                  refine (AllReadyH.cons rfl (fun K3 hK3 => ?_) AllReadyH.nil)
                  · rw [if_pos (by rfl)]
                    go_simp
                    go_at_call 79
                    refine (LAY.out _).mono ?_
                    rintro e w6 ⟨rfl, ho6⟩
                    have O6 := hidOf ho6
                    refine hK3.out _ _ ⟨cell_later ho6 s0, cell_later ho6 s1, cell_later ho6 cS0⟩ (fun hHeld3 => ?_)
                    clear ho6
                    refine tkLB [6, 7, 8] ?_
                    iterate 3 (refine tkLC (v := ?_) rfl rfl (by kernel_rfl) (by kernel_rfl) (by kernel_rfl) (fun _ _ _ h => h) (by rfl) (by assumption) ?_ ?_; rotate_left; (· (intro w hSw; (try dsimp only at hSw); go_simp; (try with_reducible rfl))); simp only [Act.put, List.setIfInBounds_toArray, List.set_cons_zero, List.set_cons_succ])
                    refine tkLE ?_
                    refine wpAnyH_done (by kernel_rfl) ?_ _
                    go_wp2
                    go_ret
                    refine ⟨?_, OA.out.trans (OS.out.trans ((Out.refl _).drew.trans O6.out))⟩
                    rw [hcl]
                    first | rfl | simp
            · obtain ⟨wz, Hwz, bwz, owz⟩ : ∃ wz, Hid (wz = w4.alloc (.cells #[.int .u64 0, .slice none 0 0] 36)) ∧ wz.heap[w4.heap.size]? = some (.cells #[.int .u64 0, .slice none 0 0] 36 (0, 0)) ∧ Out w4 wz := ⟨_, rfl, heap_alloc_new _ _, (Out.refl _).alloc _⟩
              have Owz : Hid (Out wA wz) := hidOf (Out.trans (O4.out) owz)
              have cwz0 := cell_later Owz.out cA0
              have cwz1 := cell_later Owz.out cA1
              rw [if_pos (by rfl)]
              go_simp
              first | rw [← Hwz.out] | (change K9 _ (w4.alloc (.cells #[.int .u64 0, .slice none 0 0] 36)); rw [← Hwz.out])
              refine hK9.out _ _ ⟨cwz0, cwz1⟩ (fun hHeld9 => ?_)
              refine wpAnyH_ready (rs := [5]) (by kernel_rfl) (by simp) ?_
              refine (AllReadyH.cons rfl (fun K5 hK5 => ?_) AllReadyH.nil)
              · rw [if_pos (by rfl)]
                go_simp
                go_at_call 78
                refine (CN2.out _ (Owz.out)).mono ?_
                rintro e w5 ⟨rfl, ho5⟩
                have O5 : Hid (Out wA w5) := hidOf (Out.trans (Owz.out) ho5)
                have c50 := cell_later O5.out cA0
                have c51 := cell_later O5.out cA1
                refine hK5.out _ _ ⟨c50, c51⟩ (fun hHeld5 => ?_)
                refine tkLB [6, 7, 8] ?_
                iterate 3 (refine tkLC (v := ?_) rfl rfl (by kernel_rfl) (by kernel_rfl) (by kernel_rfl) (fun _ _ _ h => h) (by rfl) (by assumption) ?_ ?_; rotate_left; (· (intro w hSw; (try dsimp only at hSw); go_simp; (try with_reducible rfl))); simp only [Act.put, List.setIfInBounds_toArray, List.set_cons_zero, List.set_cons_succ])
                refine tkLE ?_
                have hq : w5.heap[w4.heap.size]? = some (.cells #[.int .u64 0, .slice none 0 0] 36 (0, 0)) := blk_out bwz ho5
                have OW := O5
                have q0 : w5.cell? ⟨w4.heap.size, 0, none⟩ = some (.int .u64 0) := by rw [cell_B hq] <;> rfl
                have q1 : w5.cell? ⟨w4.heap.size, 1, none⟩ = some (.slice none 0 0) := by rw [cell_B hq] <;> rfl
                have z0 : w5.frozen? ⟨w4.heap.size, 0, none⟩ = false := froz_B hq 0
                have z1 : w5.frozen? ⟨w4.heap.size, 1, none⟩ = false := froz_B hq 1
                obtain ⟨wS, HS, bS, oS⟩ : ∃ wS, Hid (wS = (w5.setCell ⟨w4.heap.size, 0, none⟩ (.int .u64 yf)).setCell ⟨w4.heap.size, 1, none⟩ (.slice ya yn yc)) ∧ wS.heap[w4.heap.size]? = some (.cells #[.int .u64 yf, .slice ya yn yc] 36 (0, 0)) ∧ Out wA wS := ⟨_, rfl, set_B (set_B hq 0 _) 1 _, Out.setCell (Out.setCell OW.out (O4.out.size) _) (O4.out.size) _⟩
                have cS0 := cell_later oS cA0
                have cS1 := cell_later oS cA1
                have OS := hidOf oS
                clear hq oS
                refine wpAnyH_ready (rs := [10]) (by kernel_rfl) (by simp) ?_
                refine (AllReadyH.cons rfl (fun K10 hK10 => ?_) AllReadyH.nil)
                · rw [if_pos (by rfl)]
                  go_simp
                  rw [← HS.out]
                  refine hK10.out _ _ ⟨cS0, cS1⟩ (fun hHeld10 => ?_)
                  refine tkLB [11] ?_
                  iterate 1 (refine tkLC (v := ?_) rfl rfl (by kernel_rfl) (by kernel_rfl) (by kernel_rfl) (fun _ _ _ h => h) (by rfl) (by assumption) ?_ ?_; rotate_left; (· (intro w hSw; (try dsimp only at hSw); go_simp; (try with_reducible rfl))); simp only [Act.put, List.setIfInBounds_toArray, List.set_cons_zero, List.set_cons_succ])
                  refine tkLE ?_
                  refine wpAnyH_done (by kernel_rfl) ?_ _
                  go_upto_region 6 with fail
                  have s0 : wS.cell? ⟨w4.heap.size, 0, none⟩ = some (.int .u64 yf) := by rw [cell_B bS] <;> rfl
                  have s1 : wS.cell? ⟨w4.heap.size, 1, none⟩ = some (.slice ya yn yc) := by rw [cell_B bS] <;> rfl
                  clear q0 q1 z0 z1 bS
                  refine wp_region_held_drew (S := fun w' => w'.cell? ⟨w4.heap.size, 0, none⟩ = some (.int .u64 yf) ∧ w'.cell? ⟨w4.heap.size, 1, none⟩ = some (.slice ya yn yc) ∧ w'.cell? ⟨w.heap.size, 0, none⟩ = some (.int .u64 f)) (by kernel_rfl) ?_ (fun hHeld => ?_)
                  · exact ⟨s0, s1, cS0⟩
                  refine tkLB [0, 1, 2, 4, 5] ?_
                  iterate 5 (refine tkLC (v := ?_) rfl rfl (by kernel_rfl) (by kernel_rfl) (by kernel_rfl) (fun _ _ _ h => h) (by rfl) (by assumption) ?_ ?_; rotate_left; (· (intro w hSw; (try dsimp only at hSw); go_simp; (try with_reducible rfl))); simp only [Act.put, List.setIfInBounds_toArray, List.set_cons_zero, List.set_cons_succ])
                  refine tkLE ?_
                  refine wpAnyH_ready (rs := [3]) (by kernel_rfl) (by simp) ?_
                  refine (AllReadyH.cons rfl (fun K3 hK3 => ?_) AllReadyH.nil)
                  · rw [if_pos (by rfl)]
                    go_simp
                    go_at_call 79
                    refine (LAY.out _).mono ?_
                    rintro e w6 ⟨rfl, ho6⟩
                    have O6 := hidOf ho6
                    refine hK3.out _ _ ⟨cell_later ho6 s0, cell_later ho6 s1, cell_later ho6 cS0⟩ (fun hHeld3 => ?_)
                    clear ho6
                    refine tkLB [6, 7, 8] ?_
                    iterate 3 (refine tkLC (v := ?_) rfl rfl (by kernel_rfl) (by kernel_rfl) (by kernel_rfl) (fun _ _ _ h => h) (by rfl) (by assumption) ?_ ?_; rotate_left; (· (intro w hSw; (try dsimp only at hSw); go_simp; (try with_reducible rfl))); simp only [Act.put, List.setIfInBounds_toArray, List.set_cons_zero, List.set_cons_succ])
                    refine tkLE ?_
                    refine wpAnyH_done (by kernel_rfl) ?_ _
                    go_wp2
                    go_ret
                    refine ⟨?_, OA.out.trans (OS.out.trans ((Out.refl _).drew.trans O6.out))⟩
                    rw [hcl]
                    first | rfl | simp
          · obtain ⟨wz, Hwz, bwz, owz⟩ : ∃ wz, Hid (wz = w3.drew.alloc (.cells #[.int .u64 0, .slice none 0 0] 36)) ∧ wz.heap[w3.drew.heap.size]? = some (.cells #[.int .u64 0, .slice none 0 0] 36 (0, 0)) ∧ Out w3.drew wz := ⟨_, rfl, heap_alloc_new _ _, (Out.refl _).alloc _⟩
            have Owz : Hid (Out wA wz) := hidOf (Out.trans (O3.out.drew) owz)
            have cwz0 := cell_later Owz.out cA0
            have cwz1 := cell_later Owz.out cA1
            rw [if_pos (by rfl)]
            go_simp
            first | rw [← Hwz.out] | (change K9 _ (w3.drew.alloc (.cells #[.int .u64 0, .slice none 0 0] 36)); rw [← Hwz.out])
            refine hK9.out _ _ ⟨cwz0, cwz1⟩ (fun hHeld9 => ?_)
            refine wpAnyH_ready (rs := [4]) (by kernel_rfl) (by simp) ?_
            refine (AllReadyH.cons rfl (fun K4 hK4 => ?_) AllReadyH.nil)
            · rw [if_pos (by rfl)]
              go_simp
              go_at_call 79
              refine (LAS.out _ hn1).mono ?_
              rintro e w4 ⟨rfl, ho4⟩
              have O4 : Hid (Out wA w4) := hidOf (Out.trans (Owz.out) ho4)
              have c40 := cell_later O4.out cA0
              have c41 := cell_later O4.out cA1
              refine hK4.out _ _ ⟨c40, c41⟩ (fun hHeld4 => ?_)
              refine wpAnyH_ready (rs := [5]) (by kernel_rfl) (by simp) ?_
              refine (AllReadyH.cons rfl (fun K5 hK5 => ?_) AllReadyH.nil)
              · rw [if_pos (by rfl)]
                go_simp
                go_at_call 78
                refine (CN2.out _ (O4.out)).mono ?_
                rintro e w5 ⟨rfl, ho5⟩
                have O5 : Hid (Out wA w5) := hidOf (Out.trans (O4.out) ho5)
                have c50 := cell_later O5.out cA0
                have c51 := cell_later O5.out cA1
                refine hK5.out _ _ ⟨c50, c51⟩ (fun hHeld5 => ?_)
                refine tkLB [6, 7, 8] ?_
                iterate 3 (refine tkLC (v := ?_) rfl rfl (by kernel_rfl) (by kernel_rfl) (by kernel_rfl) (fun _ _ _ h => h) (by rfl) (by assumption) ?_ ?_; rotate_left; (· (intro w hSw; (try dsimp only at hSw); go_simp; (try with_reducible rfl))); simp only [Act.put, List.setIfInBounds_toArray, List.set_cons_zero, List.set_cons_succ])
                refine tkLE ?_
                have hq : w5.heap[w3.heap.size]? = some (.cells #[.int .u64 0, .slice none 0 0] 36 (0, 0)) := blk_out (blk_out bwz ho4) ho5
                have OW := O5
                have q0 : w5.cell? ⟨w3.heap.size, 0, none⟩ = some (.int .u64 0) := by rw [cell_B hq] <;> rfl
                have q1 : w5.cell? ⟨w3.heap.size, 1, none⟩ = some (.slice none 0 0) := by rw [cell_B hq] <;> rfl
                have z0 : w5.frozen? ⟨w3.heap.size, 0, none⟩ = false := froz_B hq 0
                have z1 : w5.frozen? ⟨w3.heap.size, 1, none⟩ = false := froz_B hq 1
                obtain ⟨wS, HS, bS, oS⟩ : ∃ wS, Hid (wS = (w5.setCell ⟨w3.heap.size, 0, none⟩ (.int .u64 yf)).setCell ⟨w3.heap.size, 1, none⟩ (.slice ya yn yc)) ∧ wS.heap[w3.heap.size]? = some (.cells #[.int .u64 yf, .slice ya yn yc] 36 (0, 0)) ∧ Out wA wS := ⟨_, rfl, set_B (set_B hq 0 _) 1 _, Out.setCell (Out.setCell OW.out (O3.out.size) _) (O3.out.size) _⟩
                have cS0 := cell_later oS cA0
                have cS1 := cell_later oS cA1
                have OS := hidOf oS
                clear hq oS
                refine wpAnyH_ready (rs := [10]) (by kernel_rfl) (by simp) ?_
                refine (AllReadyH.cons rfl (fun K10 hK10 => ?_) AllReadyH.nil)
                · rw [if_pos (by rfl)]
                  go_simp
                  rw [← HS.out]
                  refine hK10.out _ _ ⟨cS0, cS1⟩ (fun hHeld10 => ?_)
                  refine tkLB [11] ?_
                  iterate 1 (refine tkLC (v := ?_) rfl rfl (by kernel_rfl) (by kernel_rfl) (by kernel_rfl) (fun _ _ _ h => h) (by rfl) (by assumption) ?_ ?_; rotate_left; (· (intro w hSw; (try dsimp only at hSw); go_simp; (try with_reducible rfl))); simp only [Act.put, List.setIfInBounds_toArray, List.set_cons_zero, List.set_cons_succ])
                  refine tkLE ?_
                  refine wpAnyH_done (by kernel_rfl) ?_ _
                  go_upto_region 6 with fail
                  have s0 : wS.cell? ⟨w3.heap.size, 0, none⟩ = some (.int .u64 yf) := by rw [cell_B bS] <;> rfl
                  have s1 : wS.cell? ⟨w3.heap.size, 1, none⟩ = some (.slice ya yn yc) := by rw [cell_B bS] <;> rfl
                  clear q0 q1 z0 z1 bS
                  refine wp_region_held_drew (S := fun w' => w'.cell? ⟨w3.heap.size, 0, none⟩ = some (.int .u64 yf) ∧ w'.cell? ⟨w3.heap.size, 1, none⟩ = some (.slice ya yn yc) ∧ w'.cell? ⟨w.heap.size, 0, none⟩ = some (.int .u64 f)) (by kernel_rfl) ?_ (fun hHeld => ?_)
                  · exact ⟨s0, s1, cS0⟩
                  refine tkLB [0, 1, 2, 4, 5] ?_
                  iterate 5 (refine tkLC (v := ?_) rfl rfl (by kernel_rfl) (by kernel_rfl) (by kernel_rfl) (fun _ _ _ h => h) (by rfl) (by assumption) ?_ ?_; rotate_left; (· (intro w hSw; (try dsimp only at hSw); go_simp; (try with_reducible rfl))); simp only [Act.put, List.setIfInBounds_toArray, List.set_cons_zero, List.set_cons_succ])
                  refine tkLE ?_
                  refine wpAnyH_ready (rs := [3]) (by kernel_rfl) (by simp) ?_
                  refine (AllReadyH.cons rfl (fun K3 hK3 => ?_) AllReadyH.nil)
                  · rw [if_pos (by rfl)]
                    go_simp
                    go_at_call 79
                    refine (LAY.out _).mono ?_
                    rintro e w6 ⟨rfl, ho6⟩
                    have O6 := hidOf ho6
                    refine hK3.out _ _ ⟨cell_later ho6 s0, cell_later ho6 s1, cell_later ho6 cS0⟩ (fun hHeld3 => ?_)
                    clear ho6
                    refine tkLB [6, 7, 8] ?_
                    iterate 3 (refine tkLC (v := ?_) rfl rfl (by kernel_rfl) (by kernel_rfl) (by kernel_rfl) (fun _ _ _ h => h) (by rfl) (by assumption) ?_ ?_; rotate_left; (· (intro w hSw; (try dsimp only at hSw); go_simp; (try with_reducible rfl))); simp only [Act.put, List.setIfInBounds_toArray, List.set_cons_zero, List.set_cons_succ])
                    refine tkLE ?_
                    refine wpAnyH_done (by kernel_rfl) ?_ _
                    go_wp2
                    go_ret
                    refine ⟨?_, OA.out.trans (OS.out.trans ((Out.refl _).drew.trans O6.out))⟩
                    rw [hcl]
                    first | rfl | simp
end Go.Proofs.YtekjfbmebekmeaaGreat
