import Derived.Test.YtekjfbmebekmeaaGreatGc37
import Derived.Test.YtekjfbmebekmeaaGreatGc08
import Derived.Deep.DeepAppendRoom
namespace Go.Proofs.YtekjfbmebekmeaaGreat
open Go.RowKit
set_option linter.unusedVariables false
set_option linter.unusedSimpArgs false
theorem own_prefix {w : World} {B k g n c i : Nat} {E : TypeId} {xs : List Value} (h : w.ownsRow B E k (.slice (some ⟨g, 0, none⟩) n c) n xs) (hi : i ≤ n) : w.ownsRow B E k (.slice (some ⟨g, 0, none⟩) i c) i (xs.take (i * k)) := by
  rcases h.2 with ⟨e, _⟩ | ⟨g', cap, cur, e, hb, hg, hn, hm, hs, ht⟩
  · cases e
  · simp only [Value.slice.injEq, Option.some.injEq, Addr.mk.injEq] at e
    obtain ⟨⟨rfl, _, _⟩, _, rfl⟩ := e
    refine ⟨by rw [List.length_take, h.1, Nat.min_eq_left (Nat.mul_le_mul_right _ hi)], .inr ⟨g, c, cur, rfl, hb, hg, by omega, hm, hs, ?_⟩⟩
    rw [← ht, List.take_take, Nat.min_eq_left (Nat.mul_le_mul_right _ hi)]
theorem clear_exW (w : World) (g i c : Nat) (cur : List Value) (hg : w.heap[g]? = some (.cells cur.toArray 22 (0, 0))) (hfit : i + 1 ≤ cur.length) :
    ∃ w', (∀ ty, (Builtin.clear_ #[43] ty #[.slice (some ⟨g, i, none⟩) 1 c]).run Tryz.prog w = .ok (.tuple #[]) w') ∧ Hid (∃ Z, w'.heap[g]? = some (.cells (cur.take i ++ Z).toArray 22 (0, 0)) ∧ (cur.take i ++ Z).length = cur.length) ∧ Hid (Chg (fun b => b = g) w w') := by
  obtain ⟨i0, hi0, hz0, hz1, hz2⟩ := info_parts infoW
  obtain ⟨zs, hzs⟩ : ∃ zs, zs = (Builtin.zeroCells (Value.slice none 0 0).cells 1).toList := ⟨_, rfl⟩
  have hzl : zs.length = 1 := by rw [hzs, Array.length_toList, size_zeroCells]; rfl
  have hone : ∀ u ∈ zs, u.oneCell' = true := by
    intro u hu
    rw [hzs] at hu
    simp [Builtin.zeroCells, Value.cells] at hu
    subst hu; rfl
  have hst := run_storeCells_at Tryz.prog g i 22 zs 0 cur.toArray w hg (by rw [hzl]; simpa using hfit) hone
  have hset := setRow_heap w g cur.toArray (List.take (i + 0) cur.toArray.toList ++ zs ++ List.drop (i + 0 + zs.length) cur.toArray.toList).toArray _ _ hg
  refine ⟨_, fun ty => ?_, hidOf ⟨zs ++ cur.drop (i + zs.length), hset.trans ?_, ?_⟩, hidOf chg_setRow⟩
  · have hst := hst
    rw [hzs] at hst
    simp [Builtin.clear_, run_underlying Tryz.underlying43, zeroValue, typeInfo, hi0, hz0, hst]
    simp [hzs]
  · simp only [Nat.add_zero, List.append_assoc, ← hzs]
  · simp only [List.length_append, List.length_take, List.length_drop, hzl]
    omega
set_option maxHeartbeats 4000000 in
set_option maxRecDepth 100000 in
theorem delG_any (w : World) (B g q c i : Nat) (xs : List Value) (hown : w.ownsRow B 36 2 (.slice (some ⟨g, 0, none⟩) (q + 1 : Nat) c) (q + 1) xs) (hi : i ≤ q) (h1x : ∀ u ∈ xs, u.oneCell' = true) :
    Calls Tryz.prog 83 #[.slice (some ⟨g, 0, none⟩) (q + 1 : Nat) c, .int .i64 i, .int .i64 (i + 1 : Nat)] w fun e w' => e = .returned (.slice (some ⟨g, 0, none⟩) q c) ∧ w'.ownsRow B 36 2 (.slice (some ⟨g, 0, none⟩) q c) q (xs.take (i * 2) ++ xs.drop ((i + 1) * 2)) ∧ Chg (fun b => b = g) w w' := by
  obtain ⟨i0, hi0, hz0, hz1, hz2⟩ := info_parts infoR
  obtain ⟨n, hn⟩ : ∃ n, Hid (n = q + 1) := ⟨_, rfl⟩
  obtain ⟨j, hj⟩ : ∃ j, Hid (j = i + 1) := ⟨_, rfl⟩
  obtain ⟨cur, hg, hB, hnc, hcm, hcl, hct, hxl⟩ := owns_blk hown
  have hpre := own_prefix hown (show i ≤ q + 1 by omega)
  have hsrc : ∀ (p : Nat) u, (xs.drop ((i + 1) * 2))[p]? = some u → w.drew.cell? ⟨g, (i + 1) * 2 + p, none⟩ = some u := fun p u hp => by
    rw [List.getElem?_drop] at hp
    exact (own_cellK hown hp).1
  have hdl : (xs.drop ((i + 1) * 2)).length = (q - i) * 2 := by rw [List.length_drop, hown.1]; omega
  have hone : ∀ u ∈ xs.drop ((i + 1) * 2), u.oneCell' = true := fun u hu => h1x u (List.mem_of_mem_drop hu)
  have h0 := own_out hpre (Out.refl w).drew
  obtain ⟨w1, hap, hown1, hgr1⟩ : ∃ w1, (Builtin.append_ #[22, 22] 22 #[.slice (some ⟨g, 0, none⟩) i c, .slice (some ⟨g, if c = j then 0 else j * 2, none⟩) (n - j) (c - j)]).run Tryz.prog w.drew = .ok (.slice (some ⟨g, 0, none⟩) q c) w1 ∧ w1.ownsRow B 36 2 (.slice (some ⟨g, 0, none⟩) q c) q (xs.take (i * 2) ++ xs.drop ((i + 1) * 2)) ∧ w.drew.grownBy w1 (some g) := by
    have hjj := hj.out
    have hnn := hn.out
    obtain ⟨w1, h1, h2, h3⟩ := run_append_own_spare (P := Tryz.prog) (w := w.drew) (ty := 22) B 22 36 i0 2 Tryz.underlying22 hi0 hz1 g i c (xs.take (i * 2)) h0 ⟨g, if c = j then 0 else j * 2, none⟩ (q - i) (c - j) (xs.drop ((i + 1) * 2)) hdl (fun p u hp => by
      rw [add_B]
      have hlt : p < (q - i) * 2 := by rw [← hdl]; exact (List.getElem?_eq_some_iff.1 hp).1
      rw [if_neg (show ¬ c = j by omega)]
      have := hsrc p u hp
      rw [hjj]
      first | exact this | (rw [Nat.mul_one] at this; exact this)) hone (by omega)
    rw [show i + (q - i) = q by omega] at h1 h2
    rw [show n - j = q - i by omega]
    exact ⟨w1, h1, h2, h3⟩
  have hc1 : Chg (fun b => b = g) w w1 := (Chg.refl (fun b => b = g) w).drew.trans (Chg.of_grown hgr1 (fun k hk => by injection hk with hk; exact hk.symm)) (fun x hx _ => hx)
  obtain ⟨cur1, hg1, hB1, hnc1, hcm1, hcl1, hct1, hxl1⟩ := owns_blk hown1
  obtain ⟨w2, hclr, hb2, hc2⟩ := clear_ex w1 g q 1 (c - q) cur1 hg1 (by omega) (by omega)
  have hcm2 : c ≤ 9223372036854775807 := hcm
  have hne : ¬ ((i : Int) = (j : Int)) := by have := hj.out; omega
  have hneb : ((i : Int) == (j : Int)) = false := by rw [beq_eq_false_iff_ne]; exact hne
  have e1 : (i : Int) ≤ (j : Int) := by have := hj.out; omega
  have e2 : (j : Int) ≤ (n : Int) := by have := hj.out; have := hn.out; omega
  have e3 : (n : Int) ≤ (c : Int) := by have := hn.out; omega
  have e4 : (i : Int) ≤ (c : Int) := by omega
  have e5 : (q : Int) ≤ (n : Int) := by have := hn.out; omega
  have e6 : ¬ (c = q) := by omega
  have e7 : n - q = 1 := by have := hn.out; omega
  have e8 : i ≤ j := by have := hj.out; omega
  have e9 : j ≤ n := by have := hj.out; have := hn.out; omega
  have e10 : n ≤ c := by have := hn.out; omega
  have e11 : ¬ (n = i) := by have := hn.out; omega
  have e12 : ¬ (c = i) := by omega
  have HAP := hidOf hap
  have HCL := hidOf hcl1
  have HCT := hidOf hct1
  have HB1 := hidOf hB1
  have HC1 := hidOf hc1
  have HOW := hidOf hown1
  obtain ⟨TL, hTL⟩ : ∃ TL, Hid (TL = xs.drop ((i + 1) * 2)) := ⟨_, rfl⟩
  rw [← hTL.out] at HOW HCT
  rw [← hTL.out]
  rw [← hn.out, ← hj.out]
  clear hown hg hcl hct hxl h1x hpre hsrc hdl hone h0 hap hown1 hgr1 hg1 hcl1 hct1 hxl1 hB1 hc1
  go_enter Tryz.func83, Tryz.ntmps83
  go_upto_region 5 with fail
  by_cases hcj : c = j
  · have hnj : n - j = 0 := by omega
    have hcc : c - j = 0 := by omega
    rw [if_pos hcj, hnj, hcc] at HAP
    clear hnj hcc
    obtain rfl : c = j := hcj
    refine wp_region_held_drew (S := (fun _ => True)) (by kernel_rfl) ?_ (fun hHeld => ?_)
    · exact trivial
    refine wpAnyH_take (i := 0) (v := ?_) rfl (by kernel_rfl) (by kernel_rfl) (by kernel_rfl) (fun _ _ _ h => h) (Or.inl ⟨by rfl, ?_⟩) (by assumption) ?_
    rotate_left
    · (intro w hSw; (try dsimp only at hSw); go_simp; (try with_reducible rfl))
    show wpAnyH _ _ _ _ _ _ _ (Act.put _ (some 20) _) _
    simp only [Act.put, List.setIfInBounds_toArray, List.set_cons_zero, List.set_cons_succ]
    refine wpAnyH_take (i := 1) (v := ?_) rfl (by kernel_rfl) (by kernel_rfl) (by kernel_rfl) (fun _ _ _ h => h) (Or.inl ⟨by rfl, ?_⟩) (by assumption) ?_
    rotate_left
    · (intro w hSw; (try dsimp only at hSw); go_simp; (try with_reducible rfl))
    show wpAnyH _ _ _ _ _ _ _ (Act.put _ (some 21) _) _
    simp only [Act.put, List.setIfInBounds_toArray, List.set_cons_zero, List.set_cons_succ]
    refine wpAnyH_take (i := 2) (v := ?_) rfl (by kernel_rfl) (by kernel_rfl) (by kernel_rfl) (fun _ _ _ h => h) (Or.inl ⟨by rfl, ?_⟩) (by assumption) ?_
    rotate_left
    · (intro w hSw; (try dsimp only at hSw); go_simp; (try with_reducible rfl))
    show wpAnyH _ _ _ _ _ _ _ (Act.put _ (some 22) _) _
    simp only [Act.put, List.setIfInBounds_toArray, List.set_cons_zero, List.set_cons_succ]
    refine wpAnyH_take (i := 3) (v := ?_) rfl (by kernel_rfl) (by kernel_rfl) (by kernel_rfl) (fun _ _ _ h => h) (Or.inl ⟨by rfl, ?_⟩) (by assumption) ?_
    rotate_left
    · (intro w hSw; (try dsimp only at hSw); go_simp; (try with_reducible rfl))
    show wpAnyH _ _ _ _ _ _ _ (Act.put _ (some 23) _) _
    simp only [Act.put, List.setIfInBounds_toArray, List.set_cons_zero, List.set_cons_succ]
    refine wpAnyH_take (i := 4) (v := ?_) rfl (by kernel_rfl) (by kernel_rfl) (by kernel_rfl) (fun _ _ _ h => h) (Or.inl ⟨by rfl, ?_⟩) (by assumption) ?_
    rotate_left
    · (intro w hSw; (try dsimp only at hSw); go_simp; (try with_reducible rfl))
    show wpAnyH _ _ _ _ _ _ _ (Act.put _ (some 24) _) _
    simp only [Act.put, List.setIfInBounds_toArray, List.set_cons_zero, List.set_cons_succ]
    refine wpAnyH_take (i := 5) (v := ?_) rfl (by kernel_rfl) (by kernel_rfl) (by kernel_rfl) (fun _ _ _ h => h) (Or.inl ⟨by rfl, ?_⟩) (by assumption) ?_
    rotate_left
    · (intro w hSw; (try dsimp only at hSw); go_simp; (try with_reducible rfl))
    show wpAnyH _ _ _ _ _ _ _ (Act.put _ (some 25) _) _
    simp only [Act.put, List.setIfInBounds_toArray, List.set_cons_zero, List.set_cons_succ]
    refine wpAnyH_ready (rs := [6]) (by kernel_rfl) (by simp) ?_
    refine (AllReadyH.cons rfl (fun Ko6 hKo6 => ?_) AllReadyH.nil)
    rw [if_pos (by rfl)]
    refine Lib.wp_append_run _ (.tmp 22) (.tmp 25) 22 22 rfl _ _ (by simp [Act.eval, Act.put]) (by simp [Act.eval, Act.put]) _ _ HAP.out ?_
    refine hKo6.out _ _ trivial (fun hHeld6 => ?_)
    try simp only [Act.put, List.setIfInBounds_toArray, List.set_cons_zero, List.set_cons_succ]
    refine wpAnyH_take (i := 7) (v := ?_) rfl (by kernel_rfl) (by kernel_rfl) (by kernel_rfl) (fun _ _ _ h => h) (Or.inl ⟨by rfl, ?_⟩) (by assumption) ?_
    rotate_left
    · (intro w hSw; (try dsimp only at hSw); go_simp; (try with_reducible rfl))
    show wpAnyH _ _ _ _ _ _ _ (Act.put _ (some 0) _) _
    simp only [Act.put, List.setIfInBounds_toArray, List.set_cons_zero, List.set_cons_succ]
    refine wpAnyH_done (by kernel_rfl) ?_ _
    go_wp2
    go_ret
    obtain ⟨Z, hz1, hz2⟩ := hb2.out
    have hq : q * 2 ≤ cur1.length := by rw [HCL.out]; exact Nat.mul_le_mul_right _ hnc1
    refine ⟨rfl, ?_, HC1.out.trans hc2.out (fun x hx _ => hx)⟩
    have h9 := HOW.out
    refine ⟨h9.1, .inr ⟨g, c, _, rfl, HB1.out, hz1, hnc1, hcm1, by rw [List.size_toArray, hz2, HCL.out], ?_⟩⟩
    rw [← HCT.out]
    show (List.take (q * 2) cur1 ++ Z).take (q * 2) = _
    (try rw [Nat.mul_one])
    rw [List.take_append_of_le_length (by rw [List.length_take]; omega), List.take_take, Nat.min_self]
  · have hcjI : ¬ (c : Int) = (j : Int) := by omega
    rw [if_neg hcj] at HAP
    refine wp_region_held_drew (S := (fun _ => True)) (by kernel_rfl) ?_ (fun hHeld => ?_)
    · exact trivial
    refine wpAnyH_take (i := 0) (v := ?_) rfl (by kernel_rfl) (by kernel_rfl) (by kernel_rfl) (fun _ _ _ h => h) (Or.inl ⟨by rfl, ?_⟩) (by assumption) ?_
    rotate_left
    · (intro w hSw; (try dsimp only at hSw); go_simp; (try with_reducible rfl))
    show wpAnyH _ _ _ _ _ _ _ (Act.put _ (some 20) _) _
    simp only [Act.put, List.setIfInBounds_toArray, List.set_cons_zero, List.set_cons_succ]
    refine wpAnyH_take (i := 1) (v := ?_) rfl (by kernel_rfl) (by kernel_rfl) (by kernel_rfl) (fun _ _ _ h => h) (Or.inl ⟨by rfl, ?_⟩) (by assumption) ?_
    rotate_left
    · (intro w hSw; (try dsimp only at hSw); go_simp; (try with_reducible rfl))
    show wpAnyH _ _ _ _ _ _ _ (Act.put _ (some 21) _) _
    simp only [Act.put, List.setIfInBounds_toArray, List.set_cons_zero, List.set_cons_succ]
    refine wpAnyH_take (i := 2) (v := ?_) rfl (by kernel_rfl) (by kernel_rfl) (by kernel_rfl) (fun _ _ _ h => h) (Or.inl ⟨by rfl, ?_⟩) (by assumption) ?_
    rotate_left
    · (intro w hSw; (try dsimp only at hSw); go_simp; (try with_reducible rfl))
    show wpAnyH _ _ _ _ _ _ _ (Act.put _ (some 22) _) _
    simp only [Act.put, List.setIfInBounds_toArray, List.set_cons_zero, List.set_cons_succ]
    refine wpAnyH_take (i := 3) (v := ?_) rfl (by kernel_rfl) (by kernel_rfl) (by kernel_rfl) (fun _ _ _ h => h) (Or.inl ⟨by rfl, ?_⟩) (by assumption) ?_
    rotate_left
    · (intro w hSw; (try dsimp only at hSw); go_simp; (try with_reducible rfl))
    show wpAnyH _ _ _ _ _ _ _ (Act.put _ (some 23) _) _
    simp only [Act.put, List.setIfInBounds_toArray, List.set_cons_zero, List.set_cons_succ]
    refine wpAnyH_take (i := 4) (v := ?_) rfl (by kernel_rfl) (by kernel_rfl) (by kernel_rfl) (fun _ _ _ h => h) (Or.inl ⟨by rfl, ?_⟩) (by assumption) ?_
    rotate_left
    · (intro w hSw; (try dsimp only at hSw); go_simp; (try with_reducible rfl))
    show wpAnyH _ _ _ _ _ _ _ (Act.put _ (some 24) _) _
    simp only [Act.put, List.setIfInBounds_toArray, List.set_cons_zero, List.set_cons_succ]
    refine wpAnyH_take (i := 5) (v := ?_) rfl (by kernel_rfl) (by kernel_rfl) (by kernel_rfl) (fun _ _ _ h => h) (Or.inl ⟨by rfl, ?_⟩) (by assumption) ?_
    rotate_left
    · (intro w hSw; (try dsimp only at hSw); go_simp; (try with_reducible rfl))
    show wpAnyH _ _ _ _ _ _ _ (Act.put _ (some 25) _) _
    simp only [Act.put, List.setIfInBounds_toArray, List.set_cons_zero, List.set_cons_succ]
    refine wpAnyH_ready (rs := [6]) (by kernel_rfl) (by simp) ?_
    refine (AllReadyH.cons rfl (fun Ko6 hKo6 => ?_) AllReadyH.nil)
    rw [if_pos (by rfl)]
    refine Lib.wp_append_run _ (.tmp 22) (.tmp 25) 22 22 rfl _ _ (by simp [Act.eval, Act.put]) (by simp [Act.eval, Act.put]) _ _ HAP.out ?_
    refine hKo6.out _ _ trivial (fun hHeld6 => ?_)
    try simp only [Act.put, List.setIfInBounds_toArray, List.set_cons_zero, List.set_cons_succ]
    refine wpAnyH_take (i := 7) (v := ?_) rfl (by kernel_rfl) (by kernel_rfl) (by kernel_rfl) (fun _ _ _ h => h) (Or.inl ⟨by rfl, ?_⟩) (by assumption) ?_
    rotate_left
    · (intro w hSw; (try dsimp only at hSw); go_simp; (try with_reducible rfl))
    show wpAnyH _ _ _ _ _ _ _ (Act.put _ (some 0) _) _
    simp only [Act.put, List.setIfInBounds_toArray, List.set_cons_zero, List.set_cons_succ]
    refine wpAnyH_done (by kernel_rfl) ?_ _
    go_wp2
    go_ret
    obtain ⟨Z, hz1, hz2⟩ := hb2.out
    have hq : q * 2 ≤ cur1.length := by rw [HCL.out]; exact Nat.mul_le_mul_right _ hnc1
    refine ⟨rfl, ?_, HC1.out.trans hc2.out (fun x hx _ => hx)⟩
    have h9 := HOW.out
    refine ⟨h9.1, .inr ⟨g, c, _, rfl, HB1.out, hz1, hnc1, hcm1, by rw [List.size_toArray, hz2, HCL.out], ?_⟩⟩
    rw [← HCT.out]
    show (List.take (q * 2) cur1 ++ Z).take (q * 2) = _
    (try rw [Nat.mul_one])
    rw [List.take_append_of_le_length (by rw [List.length_take]; omega), List.take_take, Nat.min_self]
set_option maxHeartbeats 4000000 in
set_option maxRecDepth 100000 in
theorem delW_any (w : World) (B g q c i : Nat) (xs : List Value) (hown : w.ownsRow B 22 1 (.slice (some ⟨g, 0, none⟩) (q + 1 : Nat) c) (q + 1) xs) (hi : i ≤ q) (h1x : ∀ u ∈ xs, u.oneCell' = true) :
    Calls Tryz.prog 84 #[.slice (some ⟨g, 0, none⟩) (q + 1 : Nat) c, .int .i64 i, .int .i64 (i + 1 : Nat)] w fun e w' => e = .returned (.slice (some ⟨g, 0, none⟩) q c) ∧ w'.ownsRow B 22 1 (.slice (some ⟨g, 0, none⟩) q c) q (xs.take (i * 1) ++ xs.drop ((i + 1) * 1)) ∧ Chg (fun b => b = g) w w' := by
  obtain ⟨i0, hi0, hz0, hz1, hz2⟩ := info_parts infoW
  obtain ⟨n, hn⟩ : ∃ n, Hid (n = q + 1) := ⟨_, rfl⟩
  obtain ⟨j, hj⟩ : ∃ j, Hid (j = i + 1) := ⟨_, rfl⟩
  obtain ⟨cur, hg, hB, hnc, hcm, hcl, hct, hxl⟩ := owns_blk hown
  have hpre := own_prefix hown (show i ≤ q + 1 by omega)
  have hsrc : ∀ (p : Nat) u, (xs.drop ((i + 1) * 1))[p]? = some u → w.drew.cell? ⟨g, (i + 1) * 1 + p, none⟩ = some u := fun p u hp => by
    rw [List.getElem?_drop] at hp
    exact (own_cellK hown hp).1
  have hdl : (xs.drop ((i + 1) * 1)).length = (q - i) * 1 := by rw [List.length_drop, hown.1]; omega
  have hone : ∀ u ∈ xs.drop ((i + 1) * 1), u.oneCell' = true := fun u hu => h1x u (List.mem_of_mem_drop hu)
  have h0 := own_out hpre (Out.refl w).drew
  obtain ⟨w1, hap, hown1, hgr1⟩ : ∃ w1, (Builtin.append_ #[43, 43] 43 #[.slice (some ⟨g, 0, none⟩) i c, .slice (some ⟨g, if c = j then 0 else j, none⟩) (n - j) (c - j)]).run Tryz.prog w.drew = .ok (.slice (some ⟨g, 0, none⟩) q c) w1 ∧ w1.ownsRow B 22 1 (.slice (some ⟨g, 0, none⟩) q c) q (xs.take (i * 1) ++ xs.drop ((i + 1) * 1)) ∧ w.drew.grownBy w1 (some g) := by
    have hjj := hj.out
    have hnn := hn.out
    obtain ⟨w1, h1, h2, h3⟩ := run_append_own_spare (P := Tryz.prog) (w := w.drew) (ty := 43) B 43 22 i0 1 Tryz.underlying43 hi0 hz1 g i c (xs.take (i * 1)) h0 ⟨g, if c = j then 0 else j, none⟩ (q - i) (c - j) (xs.drop ((i + 1) * 1)) hdl (fun p u hp => by
      rw [add_B]
      have hlt : p < (q - i) * 1 := by rw [← hdl]; exact (List.getElem?_eq_some_iff.1 hp).1
      rw [if_neg (show ¬ c = j by omega)]
      have := hsrc p u hp
      rw [hjj]
      first | exact this | (rw [Nat.mul_one] at this; exact this)) hone (by omega)
    rw [show i + (q - i) = q by omega] at h1 h2
    rw [show n - j = q - i by omega]
    exact ⟨w1, h1, h2, h3⟩
  have hc1 : Chg (fun b => b = g) w w1 := (Chg.refl (fun b => b = g) w).drew.trans (Chg.of_grown hgr1 (fun k hk => by injection hk with hk; exact hk.symm)) (fun x hx _ => hx)
  obtain ⟨cur1, hg1, hB1, hnc1, hcm1, hcl1, hct1, hxl1⟩ := owns_blk hown1
  obtain ⟨w2, hclr, hb2, hc2⟩ := clear_exW w1 g q (c - q) cur1 hg1 (by omega)
  have hcm2 : c ≤ 9223372036854775807 := hcm
  have hne : ¬ ((i : Int) = (j : Int)) := by have := hj.out; omega
  have hneb : ((i : Int) == (j : Int)) = false := by rw [beq_eq_false_iff_ne]; exact hne
  have e1 : (i : Int) ≤ (j : Int) := by have := hj.out; omega
  have e2 : (j : Int) ≤ (n : Int) := by have := hj.out; have := hn.out; omega
  have e3 : (n : Int) ≤ (c : Int) := by have := hn.out; omega
  have e4 : (i : Int) ≤ (c : Int) := by omega
  have e5 : (q : Int) ≤ (n : Int) := by have := hn.out; omega
  have e6 : ¬ (c = q) := by omega
  have e7 : n - q = 1 := by have := hn.out; omega
  have e8 : i ≤ j := by have := hj.out; omega
  have e9 : j ≤ n := by have := hj.out; have := hn.out; omega
  have e10 : n ≤ c := by have := hn.out; omega
  have e11 : ¬ (n = i) := by have := hn.out; omega
  have e12 : ¬ (c = i) := by omega
  have HAP := hidOf hap
  have HCL := hidOf hcl1
  have HCT := hidOf hct1
  have HB1 := hidOf hB1
  have HC1 := hidOf hc1
  have HOW := hidOf hown1
  obtain ⟨TL, hTL⟩ : ∃ TL, Hid (TL = xs.drop ((i + 1) * 1)) := ⟨_, rfl⟩
  rw [← hTL.out] at HOW HCT
  rw [← hTL.out]
  rw [← hn.out, ← hj.out]
  clear hown hg hcl hct hxl h1x hpre hsrc hdl hone h0 hap hown1 hgr1 hg1 hcl1 hct1 hxl1 hB1 hc1
  go_enter Tryz.func84, Tryz.ntmps84
  go_upto_region 5 with fail
  by_cases hcj : c = j
  · have hnj : n - j = 0 := by omega
    have hcc : c - j = 0 := by omega
    rw [if_pos hcj, hnj, hcc] at HAP
    clear hnj hcc
    obtain rfl : c = j := hcj
    refine wp_region_held_drew (S := (fun _ => True)) (by kernel_rfl) ?_ (fun hHeld => ?_)
    · exact trivial
    refine wpAnyH_take (i := 0) (v := ?_) rfl (by kernel_rfl) (by kernel_rfl) (by kernel_rfl) (fun _ _ _ h => h) (Or.inl ⟨by rfl, ?_⟩) (by assumption) ?_
    rotate_left
    · (intro w hSw; (try dsimp only at hSw); go_simp; (try with_reducible rfl))
    show wpAnyH _ _ _ _ _ _ _ (Act.put _ (some 20) _) _
    simp only [Act.put, List.setIfInBounds_toArray, List.set_cons_zero, List.set_cons_succ]
    refine wpAnyH_take (i := 1) (v := ?_) rfl (by kernel_rfl) (by kernel_rfl) (by kernel_rfl) (fun _ _ _ h => h) (Or.inl ⟨by rfl, ?_⟩) (by assumption) ?_
    rotate_left
    · (intro w hSw; (try dsimp only at hSw); go_simp; (try with_reducible rfl))
    show wpAnyH _ _ _ _ _ _ _ (Act.put _ (some 21) _) _
    simp only [Act.put, List.setIfInBounds_toArray, List.set_cons_zero, List.set_cons_succ]
    refine wpAnyH_take (i := 2) (v := ?_) rfl (by kernel_rfl) (by kernel_rfl) (by kernel_rfl) (fun _ _ _ h => h) (Or.inl ⟨by rfl, ?_⟩) (by assumption) ?_
    rotate_left
    · (intro w hSw; (try dsimp only at hSw); go_simp; (try with_reducible rfl))
    show wpAnyH _ _ _ _ _ _ _ (Act.put _ (some 22) _) _
    simp only [Act.put, List.setIfInBounds_toArray, List.set_cons_zero, List.set_cons_succ]
    refine wpAnyH_take (i := 3) (v := ?_) rfl (by kernel_rfl) (by kernel_rfl) (by kernel_rfl) (fun _ _ _ h => h) (Or.inl ⟨by rfl, ?_⟩) (by assumption) ?_
    rotate_left
    · (intro w hSw; (try dsimp only at hSw); go_simp; (try with_reducible rfl))
    show wpAnyH _ _ _ _ _ _ _ (Act.put _ (some 23) _) _
    simp only [Act.put, List.setIfInBounds_toArray, List.set_cons_zero, List.set_cons_succ]
    refine wpAnyH_take (i := 4) (v := ?_) rfl (by kernel_rfl) (by kernel_rfl) (by kernel_rfl) (fun _ _ _ h => h) (Or.inl ⟨by rfl, ?_⟩) (by assumption) ?_
    rotate_left
    · (intro w hSw; (try dsimp only at hSw); go_simp; (try with_reducible rfl))
    show wpAnyH _ _ _ _ _ _ _ (Act.put _ (some 24) _) _
    simp only [Act.put, List.setIfInBounds_toArray, List.set_cons_zero, List.set_cons_succ]
    refine wpAnyH_take (i := 5) (v := ?_) rfl (by kernel_rfl) (by kernel_rfl) (by kernel_rfl) (fun _ _ _ h => h) (Or.inl ⟨by rfl, ?_⟩) (by assumption) ?_
    rotate_left
    · (intro w hSw; (try dsimp only at hSw); go_simp; (try with_reducible rfl))
    show wpAnyH _ _ _ _ _ _ _ (Act.put _ (some 25) _) _
    simp only [Act.put, List.setIfInBounds_toArray, List.set_cons_zero, List.set_cons_succ]
    refine wpAnyH_ready (rs := [6]) (by kernel_rfl) (by simp) ?_
    refine (AllReadyH.cons rfl (fun Ko6 hKo6 => ?_) AllReadyH.nil)
    rw [if_pos (by rfl)]
    refine Lib.wp_append_run _ (.tmp 22) (.tmp 25) 43 43 rfl _ _ (by simp [Act.eval, Act.put]) (by simp [Act.eval, Act.put]) _ _ HAP.out ?_
    refine hKo6.out _ _ trivial (fun hHeld6 => ?_)
    try simp only [Act.put, List.setIfInBounds_toArray, List.set_cons_zero, List.set_cons_succ]
    refine wpAnyH_take (i := 7) (v := ?_) rfl (by kernel_rfl) (by kernel_rfl) (by kernel_rfl) (fun _ _ _ h => h) (Or.inl ⟨by rfl, ?_⟩) (by assumption) ?_
    rotate_left
    · (intro w hSw; (try dsimp only at hSw); go_simp; (try with_reducible rfl))
    show wpAnyH _ _ _ _ _ _ _ (Act.put _ (some 0) _) _
    simp only [Act.put, List.setIfInBounds_toArray, List.set_cons_zero, List.set_cons_succ]
    refine wpAnyH_done (by kernel_rfl) ?_ _
    go_wp2
    go_ret
    obtain ⟨Z, hz1, hz2⟩ := hb2.out
    have hq : q * 1 ≤ cur1.length := by rw [HCL.out]; exact Nat.mul_le_mul_right _ hnc1
    refine ⟨rfl, ?_, HC1.out.trans hc2.out (fun x hx _ => hx)⟩
    have h9 := HOW.out
    refine ⟨h9.1, .inr ⟨g, c, _, rfl, HB1.out, hz1, hnc1, hcm1, by rw [List.size_toArray, hz2, HCL.out], ?_⟩⟩
    rw [← HCT.out]
    show (List.take (q) cur1 ++ Z).take (q * 1) = _
    (try rw [Nat.mul_one])
    rw [List.take_append_of_le_length (by rw [List.length_take]; omega), List.take_take, Nat.min_self]
  · have hcjI : ¬ (c : Int) = (j : Int) := by omega
    rw [if_neg hcj] at HAP
    refine wp_region_held_drew (S := (fun _ => True)) (by kernel_rfl) ?_ (fun hHeld => ?_)
    · exact trivial
    refine wpAnyH_take (i := 0) (v := ?_) rfl (by kernel_rfl) (by kernel_rfl) (by kernel_rfl) (fun _ _ _ h => h) (Or.inl ⟨by rfl, ?_⟩) (by assumption) ?_
    rotate_left
    · (intro w hSw; (try dsimp only at hSw); go_simp; (try with_reducible rfl))
    show wpAnyH _ _ _ _ _ _ _ (Act.put _ (some 20) _) _
    simp only [Act.put, List.setIfInBounds_toArray, List.set_cons_zero, List.set_cons_succ]
    refine wpAnyH_take (i := 1) (v := ?_) rfl (by kernel_rfl) (by kernel_rfl) (by kernel_rfl) (fun _ _ _ h => h) (Or.inl ⟨by rfl, ?_⟩) (by assumption) ?_
    rotate_left
    · (intro w hSw; (try dsimp only at hSw); go_simp; (try with_reducible rfl))
    show wpAnyH _ _ _ _ _ _ _ (Act.put _ (some 21) _) _
    simp only [Act.put, List.setIfInBounds_toArray, List.set_cons_zero, List.set_cons_succ]
    refine wpAnyH_take (i := 2) (v := ?_) rfl (by kernel_rfl) (by kernel_rfl) (by kernel_rfl) (fun _ _ _ h => h) (Or.inl ⟨by rfl, ?_⟩) (by assumption) ?_
    rotate_left
    · (intro w hSw; (try dsimp only at hSw); go_simp; (try with_reducible rfl))
    show wpAnyH _ _ _ _ _ _ _ (Act.put _ (some 22) _) _
    simp only [Act.put, List.setIfInBounds_toArray, List.set_cons_zero, List.set_cons_succ]
    refine wpAnyH_take (i := 3) (v := ?_) rfl (by kernel_rfl) (by kernel_rfl) (by kernel_rfl) (fun _ _ _ h => h) (Or.inl ⟨by rfl, ?_⟩) (by assumption) ?_
    rotate_left
    · (intro w hSw; (try dsimp only at hSw); go_simp; (try with_reducible rfl))
    show wpAnyH _ _ _ _ _ _ _ (Act.put _ (some 23) _) _
    simp only [Act.put, List.setIfInBounds_toArray, List.set_cons_zero, List.set_cons_succ]
    refine wpAnyH_take (i := 4) (v := ?_) rfl (by kernel_rfl) (by kernel_rfl) (by kernel_rfl) (fun _ _ _ h => h) (Or.inl ⟨by rfl, ?_⟩) (by assumption) ?_
    rotate_left
    · (intro w hSw; (try dsimp only at hSw); go_simp; (try with_reducible rfl))
    show wpAnyH _ _ _ _ _ _ _ (Act.put _ (some 24) _) _
    simp only [Act.put, List.setIfInBounds_toArray, List.set_cons_zero, List.set_cons_succ]
    refine wpAnyH_take (i := 5) (v := ?_) rfl (by kernel_rfl) (by kernel_rfl) (by kernel_rfl) (fun _ _ _ h => h) (Or.inl ⟨by rfl, ?_⟩) (by assumption) ?_
    rotate_left
    · (intro w hSw; (try dsimp only at hSw); go_simp; (try with_reducible rfl))
    show wpAnyH _ _ _ _ _ _ _ (Act.put _ (some 25) _) _
    simp only [Act.put, List.setIfInBounds_toArray, List.set_cons_zero, List.set_cons_succ]
    refine wpAnyH_ready (rs := [6]) (by kernel_rfl) (by simp) ?_
    refine (AllReadyH.cons rfl (fun Ko6 hKo6 => ?_) AllReadyH.nil)
    rw [if_pos (by rfl)]
    refine Lib.wp_append_run _ (.tmp 22) (.tmp 25) 43 43 rfl _ _ (by simp [Act.eval, Act.put]) (by simp [Act.eval, Act.put]) _ _ HAP.out ?_
    refine hKo6.out _ _ trivial (fun hHeld6 => ?_)
    try simp only [Act.put, List.setIfInBounds_toArray, List.set_cons_zero, List.set_cons_succ]
    refine wpAnyH_take (i := 7) (v := ?_) rfl (by kernel_rfl) (by kernel_rfl) (by kernel_rfl) (fun _ _ _ h => h) (Or.inl ⟨by rfl, ?_⟩) (by assumption) ?_
    rotate_left
    · (intro w hSw; (try dsimp only at hSw); go_simp; (try with_reducible rfl))
    show wpAnyH _ _ _ _ _ _ _ (Act.put _ (some 0) _) _
    simp only [Act.put, List.setIfInBounds_toArray, List.set_cons_zero, List.set_cons_succ]
    refine wpAnyH_done (by kernel_rfl) ?_ _
    go_wp2
    go_ret
    obtain ⟨Z, hz1, hz2⟩ := hb2.out
    have hq : q * 1 ≤ cur1.length := by rw [HCL.out]; exact Nat.mul_le_mul_right _ hnc1
    refine ⟨rfl, ?_, HC1.out.trans hc2.out (fun x hx _ => hx)⟩
    have h9 := HOW.out
    refine ⟨h9.1, .inr ⟨g, c, _, rfl, HB1.out, hz1, hnc1, hcm1, by rw [List.size_toArray, hz2, HCL.out], ?_⟩⟩
    rw [← HCT.out]
    show (List.take (q) cur1 ++ Z).take (q * 1) = _
    (try rw [Nat.mul_one])
    rw [List.take_append_of_le_length (by rw [List.length_take]; omega), List.take_take, Nat.min_self]
end Go.Proofs.YtekjfbmebekmeaaGreat
