import Derived.Test.YtekjfbmebekmeaaGreatGa33
import Derived.Deep.DeepAppendRoom
namespace Go.Proofs.YtekjfbmebekmeaaGreat
open Go.RowKit
set_option linter.unusedVariables false
set_option linter.unusedSimpArgs false
theorem own_prefix {w : World} {B k g n c i : Nat} {E : TypeId} {xs : List Value} (h : w.ownsRow B E k (.slice (some ⟨g, 0, none⟩) n c) n xs) (hi : i ≤ n) : w.ownsRow B E k (.slice (some ⟨g, 0, none⟩) i c) i (xs.take (i * k)) := by
  rcases h.2 with ⟨e, _⟩ | ⟨g', cap, cur, e, hb, hg, hn, hm, hs, ht⟩
  · cases e
  · simp only [Value.slice.injEq, Option.some.injEq, Addr.mk.injEq] at e
    obtain ⟨⟨rfl, _, _⟩, _, rfl⟩ := e
    refine ⟨by rw [List.length_take, h.1, Nat.min_eq_left (Nat.mul_le_mul_right _ hi)], .inr ⟨g, c, cur, rfl, hb, hg, by omega, hm, hs, ?_⟩⟩
    rw [← ht, List.take_take, Nat.min_eq_left (Nat.mul_le_mul_right _ hi)]
theorem clear_exW (w : World) (g i c : Nat) (cur : List Value) (hg : w.heap[g]? = some (.cells cur.toArray 22 (0, 0))) (hfit : i + 1 ≤ cur.length) :
    ∃ w', (∀ ty, (Builtin.clear_ #[43] ty #[.slice (some ⟨g, i, none⟩) 1 c]).run Tryz.prog w = .ok (.tuple #[]) w') ∧ Hid (∃ Z, w'.heap[g]? = some (.cells (cur.take i ++ Z).toArray 22 (0, 0)) ∧ (cur.take i ++ Z).length = cur.length) ∧ Hid (Chg (fun b => b = g) w w') := by
  obtain ⟨i0, hi0, hz0, hz1, hz2⟩ := info_parts infoW
  obtain ⟨zs, hzs⟩ : ∃ zs, zs = (Builtin.zeroCells (Value.slice none 0 0).cells 1).toList := ⟨_, rfl⟩
  have hzl : zs.length = 1 := by rw [hzs, Array.length_toList, size_zeroCells]; rfl
  have hone : ∀ u ∈ zs, u.oneCell' = true := by
    intro u hu
    rw [hzs] at hu
    simp [Builtin.zeroCells, Value.cells] at hu
    subst hu; rfl
  have hst := run_storeCells_at Tryz.prog g i 22 zs 0 cur.toArray w hg (by rw [hzl]; simpa using hfit) hone
  have hset := setRow_heap w g cur.toArray (List.take (i + 0) cur.toArray.toList ++ zs ++ List.drop (i + 0 + zs.length) cur.toArray.toList).toArray _ _ hg
  refine ⟨_, fun ty => ?_, hidOf ⟨zs ++ cur.drop (i + zs.length), hset.trans ?_, ?_⟩, hidOf chg_setRow⟩
  · have hst := hst
    rw [hzs] at hst
    simp [Builtin.clear_, run_underlying Tryz.underlying43, zeroValue, typeInfo, hi0, hz0, hst]
    simp [hzs]
  · simp only [Nat.add_zero, List.append_assoc, ← hzs]
  · simp only [List.length_append, List.length_take, List.length_drop, hzl]
    omega
set_option maxHeartbeats 4000000 in
set_option maxRecDepth 100000 in
theorem delG_any (w : World) (B g q c i : Nat) (xs : List Value) (hown : w.ownsRow B 36 2 (.slice (some ⟨g, 0, none⟩) (q + 1 : Nat) c) (q + 1) xs) (hi : i ≤ q) (h1x : ∀ u ∈ xs, u.oneCell' = true) :
    Calls Tryz.prog 83 #[.slice (some ⟨g, 0, none⟩) (q + 1 : Nat) c, .int .i64 i, .int .i64 (i + 1 : Nat)] w fun e w' => e = .returned (.slice (some ⟨g, 0, none⟩) q c) ∧ w'.ownsRow B 36 2 (.slice (some ⟨g, 0, none⟩) q c) q (xs.take (i * 2) ++ xs.drop ((i + 1) * 2)) ∧ Chg (fun b => b = g) w w' := by
  obtain ⟨i0, hi0, hz0, hz1, hz2⟩ := info_parts infoR
  obtain ⟨n, hn⟩ : ∃ n, Hid (n = q + 1) := ⟨_, rfl⟩
  obtain ⟨j, hj⟩ : ∃ j, Hid (j = i + 1) := ⟨_, rfl⟩
  obtain ⟨cur, hg, hB, hnc, hcm, hcl, hct, hxl⟩ := owns_blk hown
  have hpre := own_prefix hown (show i ≤ q + 1 by omega)
  have hsrc : ∀ (p : Nat) u, (xs.drop ((i + 1) * 2))[p]? = some u → w.drew.cell? ⟨g, (i + 1) * 2 + p, none⟩ = some u := fun p u hp => by
    rw [List.getElem?_drop] at hp
    exact (own_cellK hown hp).1
  have hdl : (xs.drop ((i + 1) * 2)).length = (q - i) * 2 := by rw [List.length_drop, hown.1]; omega
  have hone : ∀ u ∈ xs.drop ((i + 1) * 2), u.oneCell' = true := fun u hu => h1x u (List.mem_of_mem_drop hu)
  have h0 := own_out hpre (Out.refl w).drew
  obtain ⟨w1, hap, hown1, hgr1⟩ : ∃ w1, (Builtin.append_ #[22, 22] 22 #[.slice (some ⟨g, 0, none⟩) i c, .slice (some ⟨g, if c = j then 0 else j * 2, none⟩) (n - j) (c - j)]).run Tryz.prog w.drew = .ok (.slice (some ⟨g, 0, none⟩) q c) w1 ∧ w1.ownsRow B 36 2 (.slice (some ⟨g, 0, none⟩) q c) q (xs.take (i * 2) ++ xs.drop ((i + 1) * 2)) ∧ w.drew.grownBy w1 (some g) := by
    have hjj := hj.out
    have hnn := hn.out
    obtain ⟨w1, h1, h2, h3⟩ := run_append_own_spare (P := Tryz.prog) (w := w.drew) (ty := 22) B 22 36 i0 2 Tryz.underlying22 hi0 hz1 g i c (xs.take (i * 2)) h0 ⟨g, if c = j then 0 else j * 2, none⟩ (q - i) (c - j) (xs.drop ((i + 1) * 2)) hdl (fun p u hp => by
      rw [add_B]
      have hlt : p < (q - i) * 2 := by rw [← hdl]; exact (List.getElem?_eq_some_iff.1 hp).1
      rw [if_neg (show ¬ c = j by omega)]
      have := hsrc p u hp
      rw [hjj]
      first | exact this | (rw [Nat.mul_one] at this; exact this)) hone (by omega)
    rw [show i + (q - i) = q by omega] at h1 h2
    rw [show n - j = q - i by omega]
    exact ⟨w1, h1, h2, h3⟩
  have hc1 : Chg (fun b => b = g) w w1 := (Chg.refl (fun b => b = g) w).drew.trans (Chg.of_grown hgr1 (fun k hk => by injection hk with hk; exact hk.symm)) (fun x hx _ => hx)
  obtain ⟨cur1, hg1, hB1, hnc1, hcm1, hcl1, hct1, hxl1⟩ := owns_blk hown1
  obtain ⟨w2, hclr, hb2, hc2⟩ := clear_ex w1 g q 1 (c - q) cur1 hg1 (by omega) (by omega)
  have hcm2 : c ≤ 9223372036854775807 := hcm
  have hne : ¬ ((i : Int) = (j : Int)) := by have := hj.out; omega
  have hneb : ((i : Int) == (j : Int)) = false := by rw [beq_eq_false_iff_ne]; exact hne
  have e1 : (i : Int) ≤ (j : Int) := by have := hj.out; omega
  have e2 : (j : Int) ≤ (n : Int) := by have := hj.out; have := hn.out; omega
  have e3 : (n : Int) ≤ (c : Int) := by have := hn.out; omega
  have e4 : (i : Int) ≤ (c : Int) := by omega
  have e5 : (q : Int) ≤ (n : Int) := by have := hn.out; omega
  have e6 : ¬ (c = q) := by omega
  have e7 : n - q = 1 := by have := hn.out; omega
  have e8 : i ≤ j := by have := hj.out; omega
  have e9 : j ≤ n := by have := hj.out; have := hn.out; omega
  have e10 : n ≤ c := by have := hn.out; omega
  have e11 : ¬ (n = i) := by have := hn.out; omega
  have e12 : ¬ (c = i) := by omega
  have HAP := hidOf hap
  have HCL := hidOf hcl1
  have HCT := hidOf hct1
  have HB1 := hidOf hB1
  have HC1 := hidOf hc1
  have HOW := hidOf hown1
  obtain ⟨TL, hTL⟩ : ∃ TL, Hid (TL = xs.drop ((i + 1) * 2)) := ⟨_, rfl⟩
  rw [← hTL.out] at HOW HCT
  rw [← hTL.out]
  rw [← hn.out, ← hj.out]
  clear hown hg hcl hct hxl h1x hpre hsrc hdl hone h0 hap hown1 hgr1 hg1 hcl1 hct1 hxl1 hB1 hc1
  go_enter Tryz.func83, Tryz.ntmps83
  go_upto_region 5 with fail
  by_cases hcj : c = j
  · have hnj : n - j = 0 := by omega
    have hcc : c - j = 0 := by omega
    rw [if_pos hcj, hnj, hcc] at HAP
    clear hnj hcc
    obtain rfl : c = j := hcj
    refine wp_region_held_drew (S := (fun _ => True)) (by kernel_rfl) ?_ (fun hHeld => ?_)
    · exact trivial
    refine tkLB [0, 1, 2, 3, 4, 5] ?_
    iterate 6 (refine tkLC (v := ?_) rfl rfl (by kernel_rfl) (by kernel_rfl) (by kernel_rfl) (fun _ _ _ h => h) (by rfl) (by assumption) ?_ ?_; rotate_left; (· (intro w hSw; (try dsimp only at hSw); go_simp; (try with_reducible rfl))); simp only [Act.put, List.setIfInBounds_toArray, List.set_cons_zero, List.set_cons_succ])
    refine tkLE ?_
    refine wpAnyH_ready (rs := [6]) (by kernel_rfl) (by simp) ?_
    refine (AllReadyH.cons rfl (fun Ko6 hKo6 => ?_) AllReadyH.nil)
    rw [if_pos (by rfl)]
    refine Lib.wp_append_run _ (.tmp 22) (.tmp 25) 22 22 rfl _ _ (by simp [Act.eval, Act.put]) (by simp [Act.eval, Act.put]) _ _ HAP.out ?_
    refine hKo6.out _ _ trivial (fun hHeld6 => ?_)
    try simp only [Act.put, List.setIfInBounds_toArray, List.set_cons_zero, List.set_cons_succ]
    refine tkLB [7] ?_
    iterate 1 (refine tkLC (v := ?_) rfl rfl (by kernel_rfl) (by kernel_rfl) (by kernel_rfl) (fun _ _ _ h => h) (by rfl) (by assumption) ?_ ?_; rotate_left; (· (intro w hSw; (try dsimp only at hSw); go_simp; (try with_reducible rfl))); simp only [Act.put, List.setIfInBounds_toArray, List.set_cons_zero, List.set_cons_succ])
    refine tkLE ?_
    refine wpAnyH_done (by kernel_rfl) ?_ _
    go_wp2
    go_ret
    obtain ⟨Z, hz1, hz2⟩ := hb2.out
    have hq : q * 2 ≤ cur1.length := by rw [HCL.out]; exact Nat.mul_le_mul_right _ hnc1
    refine ⟨rfl, ?_, HC1.out.trans hc2.out (fun x hx _ => hx)⟩
    have h9 := HOW.out
    refine ⟨h9.1, .inr ⟨g, c, _, rfl, HB1.out, hz1, hnc1, hcm1, by rw [List.size_toArray, hz2, HCL.out], ?_⟩⟩
    rw [← HCT.out]
    show (List.take (q * 2) cur1 ++ Z).take (q * 2) = _
    (try rw [Nat.mul_one])
    rw [List.take_append_of_le_length (by rw [List.length_take]; omega), List.take_take, Nat.min_self]
  · have hcjI : ¬ (c : Int) = (j : Int) := by omega
    rw [if_neg hcj] at HAP
    refine wp_region_held_drew (S := (fun _ => True)) (by kernel_rfl) ?_ (fun hHeld => ?_)
    · exact trivial
    refine tkLB [0, 1, 2, 3, 4, 5] ?_
    iterate 6 (refine tkLC (v := ?_) rfl rfl (by kernel_rfl) (by kernel_rfl) (by kernel_rfl) (fun _ _ _ h => h) (by rfl) (by assumption) ?_ ?_; rotate_left; (· (intro w hSw; (try dsimp only at hSw); go_simp; (try with_reducible rfl))); simp only [Act.put, List.setIfInBounds_toArray, List.set_cons_zero, List.set_cons_succ])
    refine tkLE ?_
    refine wpAnyH_ready (rs := [6]) (by kernel_rfl) (by simp) ?_
    refine (AllReadyH.cons rfl (fun Ko6 hKo6 => ?_) AllReadyH.nil)
    rw [if_pos (by rfl)]
    refine Lib.wp_append_run _ (.tmp 22) (.tmp 25) 22 22 rfl _ _ (by simp [Act.eval, Act.put]) (by simp [Act.eval, Act.put]) _ _ HAP.out ?_
    refine hKo6.out _ _ trivial (fun hHeld6 => ?_)
    try simp only [Act.put, List.setIfInBounds_toArray, List.set_cons_zero, List.set_cons_succ]
    refine tkLB [7] ?_
    iterate 1 (refine tkLC (v := ?_) rfl rfl (by kernel_rfl) (by kernel_rfl) (by kernel_rfl) (fun _ _ _ h => h) (by rfl) (by assumption) ?_ ?_; rotate_left; (· (intro w hSw; (try dsimp only at hSw); go_simp; (try with_reducible rfl))); simp only [Act.put, List.setIfInBounds_toArray, List.set_cons_zero, List.set_cons_succ])
    refine tkLE ?_
    refine wpAnyH_done (by kernel_rfl) ?_ _
    go_wp2
    go_ret
    obtain ⟨Z, hz1, hz2⟩ := hb2.out
    have hq : q * 2 ≤ cur1.length := by rw [HCL.out]; exact Nat.mul_le_mul_right _ hnc1
    refine ⟨rfl, ?_, HC1.out.trans hc2.out (fun x hx _ => hx)⟩
    have h9 := HOW.out
    refine ⟨h9.1, .inr ⟨g, c, _, rfl, HB1.out, hz1, hnc1, hcm1, by rw [List.size_toArray, hz2, HCL.out], ?_⟩⟩
    rw [← HCT.out]
    show (List.take (q * 2) cur1 ++ Z).take (q * 2) = _
    (try rw [Nat.mul_one])
    rw [List.take_append_of_le_length (by rw [List.length_take]; omega), List.take_take, Nat.min_self]
set_option maxHeartbeats 4000000 in
set_option maxRecDepth 100000 in
theorem delW_any (w : World) (B g q c i : Nat) (xs : List Value) (hown : w.ownsRow B 22 1 (.slice (some ⟨g, 0, none⟩) (q + 1 : Nat) c) (q + 1) xs) (hi : i ≤ q) (h1x : ∀ u ∈ xs, u.oneCell' = true) :
    Calls Tryz.prog 84 #[.slice (some ⟨g, 0, none⟩) (q + 1 : Nat) c, .int .i64 i, .int .i64 (i + 1 : Nat)] w fun e w' => e = .returned (.slice (some ⟨g, 0, none⟩) q c) ∧ w'.ownsRow B 22 1 (.slice (some ⟨g, 0, none⟩) q c) q (xs.take (i * 1) ++ xs.drop ((i + 1) * 1)) ∧ Chg (fun b => b = g) w w' := by
  obtain ⟨i0, hi0, hz0, hz1, hz2⟩ := info_parts infoW
  obtain ⟨n, hn⟩ : ∃ n, Hid (n = q + 1) := ⟨_, rfl⟩
  obtain ⟨j, hj⟩ : ∃ j, Hid (j = i + 1) := ⟨_, rfl⟩
  obtain ⟨cur, hg, hB, hnc, hcm, hcl, hct, hxl⟩ := owns_blk hown
  have hpre := own_prefix hown (show i ≤ q + 1 by omega)
  have hsrc : ∀ (p : Nat) u, (xs.drop ((i + 1) * 1))[p]? = some u → w.drew.cell? ⟨g, (i + 1) * 1 + p, none⟩ = some u := fun p u hp => by
    rw [List.getElem?_drop] at hp
    exact (own_cellK hown hp).1
  have hdl : (xs.drop ((i + 1) * 1)).length = (q - i) * 1 := by rw [List.length_drop, hown.1]; omega
  have hone : ∀ u ∈ xs.drop ((i + 1) * 1), u.oneCell' = true := fun u hu => h1x u (List.mem_of_mem_drop hu)
  have h0 := own_out hpre (Out.refl w).drew
  obtain ⟨w1, hap, hown1, hgr1⟩ : ∃ w1, (Builtin.append_ #[43, 43] 43 #[.slice (some ⟨g, 0, none⟩) i c, .slice (some ⟨g, if c = j then 0 else j, none⟩) (n - j) (c - j)]).run Tryz.prog w.drew = .ok (.slice (some ⟨g, 0, none⟩) q c) w1 ∧ w1.ownsRow B 22 1 (.slice (some ⟨g, 0, none⟩) q c) q (xs.take (i * 1) ++ xs.drop ((i + 1) * 1)) ∧ w.drew.grownBy w1 (some g) := by
    have hjj := hj.out
    have hnn := hn.out
    obtain ⟨w1, h1, h2, h3⟩ := run_append_own_spare (P := Tryz.prog) (w := w.drew) (ty := 43) B 43 22 i0 1 Tryz.underlying43 hi0 hz1 g i c (xs.take (i * 1)) h0 ⟨g, if c = j then 0 else j, none⟩ (q - i) (c - j) (xs.drop ((i + 1) * 1)) hdl (fun p u hp => by
      rw [add_B]
      have hlt : p < (q - i) * 1 := by rw [← hdl]; exact (List.getElem?_eq_some_iff.1 hp).1
      rw [if_neg (show ¬ c = j by omega)]
      have := hsrc p u hp
      rw [hjj]
      first | exact this | (rw [Nat.mul_one] at this; exact this)) hone (by omega)
    rw [show i + (q - i) = q by omega] at h1 h2
    rw [show n - j = q - i by omega]
    exact ⟨w1, h1, h2, h3⟩
  have hc1 : Chg (fun b => b = g) w w1 := (Chg.refl (fun b => b = g) w).drew.trans (Chg.of_grown hgr1 (fun k hk => by injection hk with hk; exact hk.symm)) (fun x hx _ => hx)
  obtain ⟨cur1, hg1, hB1, hnc1, hcm1, hcl1, hct1, hxl1⟩ := owns_blk hown1
  obtain ⟨w2, hclr, hb2, hc2⟩ := clear_exW w1 g q (c - q) cur1 hg1 (by omega)
  have hcm2 : c ≤ 9223372036854775807 := hcm
  have hne : ¬ ((i : Int) = (j : Int)) := by have := hj.out; omega
  have hneb : ((i : Int) == (j : Int)) = false := by rw [beq_eq_false_iff_ne]; exact hne
  have e1 : (i : Int) ≤ (j : Int) := by have := hj.out; omega
  have e2 : (j : Int) ≤ (n : Int) := by have := hj.out; have := hn.out; omega
  have e3 : (n : Int) ≤ (c : Int) := by have := hn.out; omega
  have e4 : (i : Int) ≤ (c : Int) := by omega
  have e5 : (q : Int) ≤ (n : Int) := by have := hn.out; omega
  have e6 : ¬ (c = q) := by omega
  have e7 : n - q = 1 := by have := hn.out; omega
  have e8 : i ≤ j := by have := hj.out; omega
  have e9 : j ≤ n := by have := hj.out; have := hn.out; omega
  have e10 : n ≤ c := by have := hn.out; omega
  have e11 : ¬ (n = i) := by have := hn.out; omega
  have e12 : ¬ (c = i) := by omega
  have HAP := hidOf hap
  have HCL := hidOf hcl1
  have HCT := hidOf hct1
  have HB1 := hidOf hB1
  have HC1 := hidOf hc1
  have HOW := hidOf hown1
  obtain ⟨TL, hTL⟩ : ∃ TL, Hid (TL = xs.drop ((i + 1) * 1)) := ⟨_, rfl⟩
  rw [← hTL.out] at HOW HCT
  rw [← hTL.out]
  rw [← hn.out, ← hj.out]
  clear hown hg hcl hct hxl h1x hpre hsrc hdl hone h0 hap hown1 hgr1 hg1 hcl1 hct1 hxl1 hB1 hc1
  go_enter Tryz.func84, Tryz.ntmps84
  go_upto_region 5 with fail
  by_cases hcj : c = j
  · have hnj : n - j = 0 := by omega
    have hcc : c - j = 0 := by omega
    rw [if_pos hcj, hnj, hcc] at HAP
    clear hnj hcc
    obtain rfl : c = j := hcj
    refine wp_region_held_drew (S := (fun _ => True)) (by kernel_rfl) ?_ (fun hHeld => ?_)
    · exact trivial
    refine tkLB [0, 1, 2, 3, 4, 5] ?_
    iterate 6 (refine tkLC (v := ?_) rfl rfl (by kernel_rfl) (by kernel_rfl) (by kernel_rfl) (fun _ _ _ h => h) (by rfl) (by assumption) ?_ ?_; rotate_left; (· (intro w hSw; (try dsimp only at hSw); go_simp; (try with_reducible rfl))); simp only [Act.put, List.setIfInBounds_toArray, List.set_cons_zero, List.set_cons_succ])
    refine tkLE ?_
    refine wpAnyH_ready (rs := [6]) (by kernel_rfl) (by simp) ?_
    refine (AllReadyH.cons rfl (fun Ko6 hKo6 => ?_) AllReadyH.nil)
    rw [if_pos (by rfl)]
    refine Lib.wp_append_run _ (.tmp 22) (.tmp 25) 43 43 rfl _ _ (by simp [Act.eval, Act.put]) (by simp [Act.eval, Act.put]) _ _ HAP.out ?_
    refine hKo6.out _ _ trivial (fun hHeld6 => ?_)
    try simp only [Act.put, List.setIfInBounds_toArray, List.set_cons_zero, List.set_cons_succ]
    refine tkLB [7] ?_
    iterate 1 (refine tkLC (v := ?_) rfl rfl (by kernel_rfl) (by kernel_rfl) (by kernel_rfl) (fun _ _ _ h => h) (by rfl) (by assumption) ?_ ?_; rotate_left; (· (intro w hSw; (try dsimp only at hSw); go_simp; (try with_reducible rfl))); simp only [Act.put, List.setIfInBounds_toArray, List.set_cons_zero, List.set_cons_succ])
    refine tkLE ?_
    refine wpAnyH_done (by kernel_rfl) ?_ _
    go_wp2
    go_ret
    obtain ⟨Z, hz1, hz2⟩ := hb2.out
    have hq : q * 1 ≤ cur1.length := by rw [HCL.out]; exact Nat.mul_le_mul_right _ hnc1
    refine ⟨rfl, ?_, HC1.out.trans hc2.out (fun x hx _ => hx)⟩
    have h9 := HOW.out
    refine ⟨h9.1, .inr ⟨g, c, _, rfl, HB1.out, hz1, hnc1, hcm1, by rw [List.size_toArray, hz2, HCL.out], ?_⟩⟩
    rw [← HCT.out]
    show (List.take (q) cur1 ++ Z).take (q * 1) = _
    (try rw [Nat.mul_one])
    rw [List.take_append_of_le_length (by rw [List.length_take]; omega), List.take_take, Nat.min_self]
  · have hcjI : ¬ (c : Int) = (j : Int) := by omega
    rw [if_neg hcj] at HAP
    refine wp_region_held_drew (S := (fun _ => True)) (by kernel_rfl) ?_ (fun hHeld => ?_)
    · exact trivial
    refine tkLB [0, 1, 2, 3, 4, 5] ?_
    iterate 6 (refine tkLC (v := ?_) rfl rfl (by kernel_rfl) (by kernel_rfl) (by kernel_rfl) (fun _ _ _ h => h) (by rfl) (by assumption) ?_ ?_; rotate_left; (· (intro w hSw; (try dsimp only at hSw); go_simp; (try with_reducible rfl))); simp only [Act.put, List.setIfInBounds_toArray, List.set_cons_zero, List.set_cons_succ])
    refine tkLE ?_
    refine wpAnyH_ready (rs := [6]) (by kernel_rfl) (by simp) ?_
    refine (AllReadyH.cons rfl (fun Ko6 hKo6 => ?_) AllReadyH.nil)
    rw [if_pos (by rfl)]
    refine Lib.wp_append_run _ (.tmp 22) (.tmp 25) 43 43 rfl _ _ (by simp [Act.eval, Act.put]) (by simp [Act.eval, Act.put]) _ _ HAP.out ?_
    refine hKo6.out _ _ trivial (fun hHeld6 => ?_)
    try simp only [Act.put, List.setIfInBounds_toArray, List.set_cons_zero, List.set_cons_succ]
    refine tkLB [7] ?_
    iterate 1 (refine tkLC (v := ?_) rfl rfl (by kernel_rfl) (by kernel_rfl) (by kernel_rfl) (fun _ _ _ h => h) (by rfl) (by assumption) ?_ ?_; rotate_left; (· (intro w hSw; (try dsimp only at hSw); go_simp; (try with_reducible rfl))); simp only [Act.put, List.setIfInBounds_toArray, List.set_cons_zero, List.set_cons_succ])
    refine tkLE ?_
    refine wpAnyH_done (by kernel_rfl) ?_ _
    go_wp2
    go_ret
    obtain ⟨Z, hz1, hz2⟩ := hb2.out
    have hq : q * 1 ≤ cur1.length := by rw [HCL.out]; exact Nat.mul_le_mul_right _ hnc1
    refine ⟨rfl, ?_, HC1.out.trans hc2.out (fun x hx _ => hx)⟩
    have h9 := HOW.out
    refine ⟨h9.1, .inr ⟨g, c, _, rfl, HB1.out, hz1, hnc1, hcm1, by rw [List.size_toArray, hz2, HCL.out], ?_⟩⟩
    rw [← HCT.out]
    show (List.take (q) cur1 ++ Z).take (q * 1) = _
    (try rw [Nat.mul_one])
    rw [List.take_append_of_le_length (by rw [List.length_take]; omega), List.take_take, Nat.min_self]
theorem set_self {cs : Array Value} {o : Nat} {v : Value} (h : cs[o]? = some v) : cs.setIfInBounds o v = cs := by
  apply Array.ext_getElem?
  intro j
  rw [Array.getElem?_setIfInBounds]
  by_cases hj : o = j
  · subst hj
    rw [if_pos rfl, if_pos (Array.getElem?_eq_some_iff.1 h).1, h]
  · rw [if_neg hj]
theorem plIs_hit {X : List Rw} {f : Nat} {r0 k0 : Int} (h : PlIs X f r0 k0) (hs : Srt (flat X)) (hany : (flat X).any (fun x => x.f == f) = true) : ∃ (row k : Nat) (x : Rw) (y : Rg), r0 = row ∧ k0 = k ∧ X[row]? = some x ∧ x.L[k]? = some y ∧ y.f = f := by
  obtain ⟨z, hz, hzf⟩ := List.any_eq_true.1 hany
  have hzf : z.f = f := by simpa using hzf
  rcases upF_hit hs f with ⟨y', hu', _, _, hiff, _⟩ | ⟨_, hno⟩
  · rcases h.up with ⟨_, _, hu⟩ | ⟨i, j, x, y, hr, hk, hx, hy, hu⟩
    · rw [hu] at hu'; cases hu'
    · rw [hu] at hu'
      cases hu'
      exact ⟨i, j, x, _, hr, hk, hx, hy, hiff.2 ⟨z, hz, hzf⟩⟩
  · have := hno z hz; omega
theorem filter_out {X : List Rw} {row k f : Nat} {x : Rw} {y : Rg} (hs : Srt (flat X)) (hx : X[row]? = some x) (hy : x.L[k]? = some y) (hf : y.f = f) : (flat X).filter (fun z => !(z.f == f)) = flat (X.take row) ++ ((x.L.take k ++ x.L.drop (k + 1)) ++ flat (X.drop (row + 1))) := by
  have e1 : flat X = (flat (X.take row) ++ x.L.take k) ++ y :: (x.L.drop (k + 1) ++ flat (X.drop (row + 1))) := by
    conv => lhs; rw [at_split hx, flat_app, flat_cons, at_split hy]
    simp
  rw [e1] at hs ⊢
  obtain ⟨h1, h2, h3⟩ := List.pairwise_append.1 hs
  obtain ⟨h4, _⟩ := List.pairwise_cons.1 h2
  rw [List.filter_append, List.filter_cons]
  have hyy : (!(y.f == f)) = false := by simp [hf]
  rw [hyy]
  simp only [Bool.false_eq_true, if_false]
  have k1 : (flat (X.take row) ++ x.L.take k).filter (fun z => !(z.f == f)) = flat (X.take row) ++ x.L.take k := List.filter_eq_self.2 (fun z hz => by have := h3 z hz y (List.mem_cons_self ..); simp; omega)
  have k2 : (x.L.drop (k + 1) ++ flat (X.drop (row + 1))).filter (fun z => !(z.f == f)) = x.L.drop (k + 1) ++ flat (X.drop (row + 1)) := List.filter_eq_self.2 (fun z hz => by have := h4 z hz; simp; omega)
  rw [k1, k2]
  simp
def RmvE (B s o : Nat) (cs : Array Value) (t : TypeId) (v : Value) (X : List Rw) (f : Nat) (w : World) (e : Ending) (w' : World) : Prop :=
  ((flat X).any (fun x => x.f == f) = false ∧ e = .returned (.bool false) ∧ Out w w') ∨
  ((flat X).any (fun x => x.f == f) = true ∧ e = .returned (.bool true) ∧ ∃ v' X', ShE B s o cs t w w' v X v' X' ∧ flat X' = (flat X).filter (fun x => !(x.f == f)) ∧ ∀ z ∈ X', z.L.length ≤ 128)
set_option maxHeartbeats 8000000 in
set_option maxRecDepth 100000 in
theorem remove_any (w : World) (B s o : Nat) (cs : Array Value) (t : TypeId) (v : Value) (X : List Rw) (f : Nat) (h : Sh B w v X) (hb : w.heap[s]? = some (.cells cs t (0, 0))) (hcs : cs[o]? = some v) (hs : ¬ fpS v X s) (hBs : B ≤ s) (hN : (X.length + 1) * 24 ≤ 140737488355328) (hsrt : Srt (flat X)) (h128 : ∀ z ∈ X, z.L.length ≤ 128) :
    Calls Tryz.prog 56 #[.pointer (some ⟨s, o, none⟩), .int .u64 f] w fun e w' => RmvE B s o cs t v X f w e w' := by
  have hcs0 : w.cell? ⟨s, o, none⟩ = some v := by rw [cell_B hb]; exact hcs
  have BC := hidOf (begins_any w B s o v X f h hcs0 hsrt (by omega))
  have PC := hidOf (fun (W : World) (ow : Out w W) => place_any W B s o v X f (h.out ow) (cell_later ow hcs0) hsrt (by omega))
  have H := hidOf h
  have HB := hidOf hb
  have HS := hidOf hs
  have HCS := hidOf hcs
  have HL := hidOf h128
  have HSR := hidOf hsrt
  have HNN := hidOf hN
  cases hany : (flat X).any (fun x => x.f == f) with
  | false =>
    rw [hany] at BC
    have HA := hidOf hany
    clear h hb hs hcs h128 hsrt hany hcs0
    go_enter Tryz.func56, Tryz.ntmps56
    go_wp2_with (go_at_call 77; refine BC.out.mono ?_; rintro e w1 ⟨rfl, ho1⟩; have O1 := hidOf ho1; clear ho1)
    go_ret
    exact .inl ⟨HA.out, rfl, O1.out⟩
  | true =>
    rw [hany] at BC
    have HA := hidOf hany
    clear h hb hs hcs h128 hsrt hany
    go_enter Tryz.func56, Tryz.ntmps56
    go_upto_region 3 with (go_at_call 77; refine BC.out.mono ?_; rintro e w1 ⟨rfl, ho1⟩; have O1 := hidOf ho1; clear ho1)
    have P1 := hidOf (PC.out w1 O1.out)
    go_upto_region 4 with (go_at_call 80; refine P1.out.mono ?_; rintro e w2 ⟨r0, k0, rfl, hp, ho2⟩; have PLH := hidOf hp; have O2 := hidOf (O1.out.trans ho2); clear hp ho2)
    obtain ⟨row, k, x, y, rfl, rfl, hx, hy, hyf⟩ := plIs_hit PLH.out HSR.out HA.out
    have hfil := filter_out HSR.out hx hy hyf
    obtain ⟨gR, cR, rfl, hr, hrf0, hgx⟩ := H.out.at_ hx
    obtain ⟨g, c, L⟩ := x
    simp only at hr hgx hy hfil
    have hxm := List.mem_of_getElem? hx
    have own0 : w.ownsRow B 36 2 (.slice (some ⟨g, 0, none⟩) L.length c) L.length (rowG L) := H.out.rows _ hxm
    have hL8 : L.length ≤ 128 := HL.out _ hxm
    have hkL : k < L.length := (List.getElem?_eq_some_iff.1 hy).1
    obtain ⟨q, hq⟩ : ∃ q, L.length = q + 1 := ⟨L.length - 1, by omega⟩
    have hgw : g < w.heap.size := (own0.lt g rfl).2
    have hgRw : gR < w.heap.size := (H.out.own.lt gR rfl).2
    obtain ⟨n, hn⟩ : ∃ n, Hid (n = q + 1) := ⟨_, rfl⟩
    obtain ⟨N, hNe⟩ : ∃ N, Hid (N = X.length) := ⟨_, rfl⟩
    have hrowN : row < N := by rw [hNe.out]; exact (List.getElem?_eq_some_iff.1 hx).1
    have hrowI : (row : Int) < (N : Int) := by omega
    have hNb : N ≤ 5864062014805 := by rw [hNe.out]; have := HNN.out; omega
    rw [hq] at hr own0 hL8
    rw [← hNe.out] at hcs0
    have DC := hidOf (delG_any w2.drew B g q c k (rowG L) (own_out own0 (O2.out.trans (Out.refl w2).drew)) (by omega) (rowG_one L))
    have hwk : IntKind.i64.wrap ((k : Int) + 1) = ((k + 1 : Nat) : Int) := by rw [IntKind.wrap_i64]; omega
    have hwr : IntKind.i64.wrap ((row : Int) + 1) = ((row + 1 : Nat) : Int) := by rw [IntKind.wrap_i64]; omega
    rw [← hn.out] at hr DC
    obtain ⟨k1, hk1⟩ : ∃ k1, Hid (k1 = k + 1) := ⟨_, rfl⟩
    rw [← hk1.out] at DC hwk
    have hsg : s ≠ g := fun e => HS.out (.inr ⟨_, hxm, e.symm⟩)
    have hsR : s ≠ gR := fun e => HS.out (.inl (by rw [e]; rfl))
    have cs2 : w2.drew.cell? ⟨s, o, none⟩ = some (.slice (some ⟨gR, 0, none⟩) N cR) := cell_later (O2.out.trans (Out.refl w2).drew) hcs0
    have cr2 : w2.cell? ⟨gR, row, none⟩ = some (.slice (some ⟨g, 0, none⟩) n c) := cell_later O2.out hr
    have HX := hidOf hx
    have HFIL := hidOf hfil
    have HY := hidOf hy
    have HQ := hidOf hq
    have HKQ := hidOf (show k ≤ q by omega)
    clear hx hfil hr hxm own0 hy hyf hq hcs0 hkL
    go_upto_region 4 with fail
    refine wp_region_held_drew (S := (fun w' => w'.cell? ⟨s, o, none⟩ = some (.slice (some ⟨gR, 0, none⟩) N cR))) (by kernel_rfl) ?_ (fun hHeld => ?_)
    · exact cs2
    refine tkLB [0, 1, 2, 3, 4, 5, 6, 7, 8, 9, 10, 12, 13, 14] ?_
    iterate 14 (refine tkLC (v := ?_) rfl rfl (by kernel_rfl) (by kernel_rfl) (by kernel_rfl) (fun _ _ _ h => h) (by rfl) (by assumption) ?_ ?_; rotate_left; (· (intro w hSw; (try dsimp only at hSw); go_simp; (try with_reducible rfl))); simp only [Act.put, List.setIfInBounds_toArray, List.set_cons_zero, List.set_cons_succ])
    refine tkLE ?_
    refine wpAnyH_ready (rs := [11]) (by kernel_rfl) (by simp) ?_
    refine (AllReadyH.cons rfl (fun Ko11 hKo11 => ?_) AllReadyH.nil)
    rw [if_pos (by rfl)]
    go_simp
    refine hKo11.out _ _ cs2 (fun hHeld11 => ?_)
    try simp only [Act.put, List.setIfInBounds_toArray, List.set_cons_zero, List.set_cons_succ]
    refine wpAnyH_ready (rs := [15]) (by kernel_rfl) (by simp) ?_
    refine (AllReadyH.cons rfl (fun Ko15 hKo15 => ?_) AllReadyH.nil)
    rw [if_pos (by rfl)]
    go_simp
    go_at_call 83
    refine (DC.out).mono ?_
    rintro e w3 ⟨rfl, how3, hc3⟩
    have OW3 := hidOf how3
    have C3 := hidOf hc3
    have cs3 : w3.cell? ⟨s, o, none⟩ = some (.slice (some ⟨gR, 0, none⟩) N cR) := hc3.cell cs2 (by show ¬ s = g; exact hsg)
    have b3 : ∃ cur : Array Value, w3.heap[gR]? = some (.cells cur 22 (0, 0)) ∧ N ≤ cur.size := by
      obtain ⟨cl, hg, _, hnc, _, hcl, _⟩ := owns_blk (own_out H.out.own (O2.out.trans (Out.refl w2).drew))
      exact ⟨_, blk_chg hg hc3 (by show ¬ gR = g; exact hgx), by rw [List.size_toArray, hcl, Nat.mul_one, hNe.out]; exact hnc⟩
    obtain ⟨cur3, b3a, b3b⟩ := b3
    have cr3 : w3.cell? ⟨gR, row, none⟩ = some (cur3[row]'(by omega)) := (cell_B b3a row).trans (Array.getElem?_eq_getElem _)
    have zr3 : w3.frozen? ⟨gR, row, none⟩ = false := froz_B b3a row
    obtain ⟨wS, HSW⟩ : ∃ wS, Hid (wS = w3.setCell ⟨gR, row, none⟩ (.slice (some ⟨g, 0, none⟩) q c)) := ⟨_, rfl⟩
    have cS : Hid (Chg (fun b => b = gR) w3 wS) := hidOf (by rw [HSW.out]; exact (Chg.refl (fun b => b = gR) w3).setCell rfl _)
    have csS : wS.cell? ⟨s, o, none⟩ = some (.slice (some ⟨gR, 0, none⟩) N cR) := cS.out.cell cs3 (by show ¬ s = gR; exact hsR)
    have bS : wS.heap[gR]? = some (.cells (cur3.setIfInBounds row (.slice (some ⟨g, 0, none⟩) q c)) 22 (0, 0)) := by rw [HSW.out]; exact set_B b3a row _
    have crS : wS.cell? ⟨gR, row, none⟩ = some (.slice (some ⟨g, 0, none⟩) q c) := by rw [cell_B bS, Array.getElem?_setIfInBounds, if_pos rfl, if_pos (by omega)]
    clear how3 hc3 bS
    refine hKo15.out _ _ cs3 (fun hHeld15 => ?_)
    try simp only [Act.put, List.setIfInBounds_toArray, List.set_cons_zero, List.set_cons_succ]
    refine tkLB [16] ?_
    iterate 1 (refine tkLC (v := ?_) rfl rfl (by kernel_rfl) (by kernel_rfl) (by kernel_rfl) (fun _ _ _ h => h) (by rfl) (by assumption) ?_ ?_; rotate_left; (· (intro w hSw; (try dsimp only at hSw); go_simp; (try with_reducible rfl))); simp only [Act.put, List.setIfInBounds_toArray, List.set_cons_zero, List.set_cons_succ])
    refine tkLE ?_
    refine wpAnyH_ready (rs := [17]) (by kernel_rfl) (by simp) ?_
    refine (AllReadyH.cons rfl (fun Ko17 hKo17 => ?_) AllReadyH.nil)
    rw [if_pos (by rfl)]
    go_simp
    rw [← HSW.out]
    refine hKo17.out _ _ csS (fun hHeld17 => ?_)
    try simp only [Act.put, List.setIfInBounds_toArray, List.set_cons_zero, List.set_cons_succ]
    refine wpAnyH_done (by kernel_rfl) ?_ _
    clear cr2 cr3 zr3 cs2 cs3 b3a b3b cur3
    have OW3b : w3.ownsRow B 36 2 (.slice (some ⟨g, 0, none⟩) q c) q ((rowG L).take (k * 2) ++ (rowG L).drop ((k + 1) * 2)) := by have h1 := OW3.out; rw [hk1.out] at h1; exact h1
    have OW3 := hidOf OW3b
    clear OW3b
    by_cases hq0 : q = 0
    · have hqb : ((q : Int) == 0) = true := by rw [hq0]; rfl
      have hTL : (rowG L).take (k * 2) ++ (rowG L).drop ((k + 1) * 2) = [] := by
        have h1 := OW3.out.1
        rw [hq0] at h1
        exact List.length_eq_zero_iff.1 (by simpa using h1)
      have hLL : L.take k ++ L.drop (k + 1) = [] := by
        have h1 := HQ.out; have h2 := HKQ.out
        apply List.length_eq_zero_iff.1
        rw [List.length_append, List.length_take, List.length_drop]; omega
      obtain ⟨M, hM⟩ : ∃ M, N = M + 1 := ⟨N - 1, by omega⟩
      have hXM : X.length = M + 1 := by rw [← hNe.out]; exact hM
      have ownS : wS.ownsRow B 22 1 (.slice (some ⟨gR, 0, none⟩) (M + 1 : Nat) cR) (M + 1) ((X.map rwV).set row (.slice (some ⟨g, 0, none⟩) q c)) := by
        rw [HSW.out]
        have h1 := own_chg (own_out H.out.own (O2.out.trans (Out.refl w2).drew)) C3.out (fun b hb e => hgx (by simp [Value.ownBlock] at hb; rw [hb, e]))
        rw [hXM] at h1
        exact own_set h1 (by omega) _
      have DWC := hidOf (delW_any wS B gR M cR row ((X.map rwV).set row (.slice (some ⟨g, 0, none⟩) q c)) ownS (by omega) (by
        intro u hu
        rcases mem_set hu with rfl | ⟨j, _, hj⟩
        · rfl
        · exact rwV_one X u (List.mem_of_getElem? hj)))
      rw [← hM] at DWC
      obtain ⟨r1, hr1⟩ : ∃ r1, Hid (r1 = row + 1) := ⟨_, rfl⟩
      rw [← hr1.out] at DWC hwr
      have HM := hidOf hM
      have HXM := hidOf hXM
      have HQ0 := hidOf hq0
      have HLL := hidOf hLL
      have bs1 : w3.heap[s]? = some (.cells cs t (0, 0)) := blk_chg (blk_out HB.out (O2.out.trans (Out.refl w2).drew)) C3.out (by show ¬ s = g; exact hsg)
      have bs2 : wS.heap[s]? = some (.cells cs t (0, 0)) := blk_chg bs1 cS.out (by show ¬ s = gR; exact hsR)
      have BS2 := hidOf bs2
      clear hq0 hTL hLL ownS hM hXM bs1 bs2
      go_upto_region 7 with (go_at_call 84; refine DWC.out.mono ?_; rintro e w4 ⟨rfl, how4, hc4⟩; have OW4 := hidOf how4; have C4 := hidOf hc4; have b4 := blk_chg BS2.out hc4 (by show ¬ s = gR; exact hsR); have cs4 : w4.cell? ⟨s, o, none⟩ = some (.slice (some ⟨gR, 0, none⟩) N cR) := ((cell_B b4 o).trans (by rw [HCS.out, hNe.out])); have zs4 := froz_B b4 o; have B4 := hidOf b4; clear how4 hc4 b4)
      obtain ⟨wT, HT⟩ : ∃ wT, Hid (wT = w4.setCell ⟨s, o, none⟩ (.slice (some ⟨gR, 0, none⟩) M cR)) := ⟨_, rfl⟩
      rw [← HT.out]
      go_wp2
      go_ret
      have cT : Chg (fun b => b = s) w4 wT := by rw [HT.out]; exact (Chg.refl (fun b => b = s) w4).setCell rfl _
      have hXr : (X.take row ++ X.drop (row + 1)).length = M := by
        rw [List.length_append, List.length_take, List.length_drop]; have := HXM.out; have := HM.out; omega
      have hmem : ∀ z ∈ X.take row ++ X.drop (row + 1), z ∈ X ∧ z.g ≠ g := fun z hz => by
        rcases List.mem_append.1 hz with hz | hz
        · obtain ⟨j, hj, e⟩ := List.getElem_of_mem hz
          rw [List.length_take] at hj
          rw [List.getElem_take] at e
          have hjX : X[j]? = some z := by rw [List.getElem?_eq_getElem (by omega), e]
          exact ⟨List.mem_of_getElem? hjX, nd_ne H.out.nd HX.out hjX (by omega)⟩
        · obtain ⟨j, hj, e⟩ := List.getElem_of_mem hz
          rw [List.length_drop] at hj
          rw [List.getElem_drop] at e
          have hjX : X[row + 1 + j]? = some z := by rw [List.getElem?_eq_getElem (by omega), e]
          exact ⟨List.mem_of_getElem? hjX, nd_ne H.out.nd HX.out hjX (by omega)⟩
      have hvn : ∀ z ∈ X, ¬ z.g = gR := fun z hz e => H.out.vn z hz (by rw [e]; rfl)
      have hzs : ∀ z ∈ X, ¬ z.g = s := fun z hz e => HS.out (.inr ⟨z, hz, e⟩)
      refine .inr ⟨HA.out, rfl, .slice (some ⟨gR, 0, none⟩) M cR, X.take row ++ X.drop (row + 1), ⟨⟨?_, fun z hz => ?_, fun z hz => H.out.ne z (hmem z hz).1, fun z hz => H.out.le z (hmem z hz).1, ?_, fun z hz e => hvn z (hmem z hz).1 (by simp [Value.ownBlock] at e; exact e.symm)⟩, ?_, ?_, fun b hb => ?_⟩, ?_, fun z hz => HL.out z (hmem z hz).1⟩
      · have h0 := OW4.out
        rw [hr1.out] at h0
        have h1 := own_chg h0 cT (fun b hb e => hsR (by simp [Value.ownBlock] at hb; rw [hb, ← e]))
        have h2 : ((X.map rwV).set row (.slice (some ⟨g, 0, none⟩) q c)).take (row * 1) ++ ((X.map rwV).set row (.slice (some ⟨g, 0, none⟩) q c)).drop ((row + 1) * 1) = (X.take row ++ X.drop (row + 1)).map rwV := by
          rw [Nat.mul_one, Nat.mul_one, List.take_set_of_le (Nat.le_refl _), List.drop_set_of_lt (Nat.lt_succ_self _), List.map_append, List.map_take, List.map_drop]
        rw [h2] at h1
        rw [hXr]
        exact h1
      · have h1 := own_out (H.out.rows z (hmem z hz).1) (O2.out.trans (Out.refl w2).drew)
        have e0 : ∀ b, (rwV z).ownBlock = some b → b = z.g := fun b hb => by simp [rwV, Value.ownBlock] at hb; exact hb.symm
        exact own_chg (own_chg (own_chg (own_chg h1 C3.out (fun b hb e => (hmem z hz).2 (by rw [← e0 b hb, e]))) cS.out (fun b hb e => hvn z (hmem z hz).1 (by rw [← e0 b hb, e]))) C4.out (fun b hb e => hvn z (hmem z hz).1 (by rw [← e0 b hb, e]))) cT (fun b hb e => hzs z (hmem z hz).1 (by rw [← e0 b hb, e]))
      · refine List.Pairwise.sublist ?_ H.out.nd
        conv => rhs; rw [← List.take_append_drop row X]
        exact List.Sublist.append_left (List.drop_sublist_drop_left X (Nat.le_succ row)) _
      · rw [HT.out]; exact set_B B4.out o _
      · have k1 : Chg (fun b => b = s ∨ fpS (.slice (some ⟨gR, 0, none⟩) X.length cR) X b) w w2.drew := Chg.of_out (O2.out.trans (Out.refl w2).drew)
        exact (((k1.trans C3.out (fun b e _ => .inr (.inr ⟨_, List.mem_of_getElem? HX.out, e.symm⟩))).trans cS.out (fun b e _ => .inr (.inl (by rw [e]; rfl)))).trans C4.out (fun b e _ => .inr (.inl (by rw [e]; rfl)))).trans cT (fun b e _ => .inl e)
      · rcases hb with hb | ⟨z, hz, e⟩
        · exact .inl (.inl (by simpa [Value.ownBlock] using hb))
        · exact .inl (.inr ⟨z, (hmem z hz).1, e⟩)
      · rw [HFIL.out, HLL.out, flat_app]; rfl
    · have hqb : ((q : Int) == 0) = false := by rw [beq_eq_false_iff_ne]; omega
      have hLn : (L.take k ++ L.drop (k + 1)).length = q := by
        have h1 := HQ.out; have h2 := HKQ.out
        rw [List.length_append, List.length_take, List.length_drop]; omega
      have hrw : (rowG L).take (k * 2) ++ (rowG L).drop ((k + 1) * 2) = rowG (L.take k ++ L.drop (k + 1)) := by
        have h1 := HQ.out; have h2 := HKQ.out
        rw [rowG_app, rowG_take L k (by omega), rowG_drop L (k + 1) (by omega)]
      have ow5 : w3.ownsRow B 36 2 (rwV ⟨g, c, L.take k ++ L.drop (k + 1)⟩) (L.take k ++ L.drop (k + 1)).length (rowG (L.take k ++ L.drop (k + 1))) := by
        have h1 := OW3.out
        rw [hrw] at h1
        show w3.ownsRow B 36 2 (.slice (some ⟨g, 0, none⟩) (L.take k ++ L.drop (k + 1)).length c) _ _
        rw [hLn]; exact h1
      obtain ⟨sh5, ch5⟩ := Sh.setRow (w1 := w3) (H.out.out (O2.out.trans (Out.refl w2).drew)) HX.out ⟨g, c, L.take k ++ L.drop (k + 1)⟩ C3.out ow5 (.inl rfl) (fun e => hq0 (by have e2 : L.take k ++ L.drop (k + 1) = [] := e; rw [← hLn, e2]; rfl)) (by show (L.take k ++ L.drop (k + 1)).length ≤ 129; rw [hLn]; omega)
      have erw : rwV ⟨g, c, L.take k ++ L.drop (k + 1)⟩ = .slice (some ⟨g, 0, none⟩) q c := by rw [rwV, hLn]
      rw [erw, ← HSW.out] at sh5 ch5
      have SH5 := hidOf sh5
      have CH5 := hidOf ch5
      have hLN := hidOf hLn
      clear hq0 hLn hrw ow5 sh5 ch5 erw
      go_wp2
      go_ret
      have bs1 : w3.heap[s]? = some (.cells cs t (0, 0)) := blk_chg (blk_out HB.out (O2.out.trans (Out.refl w2).drew)) C3.out (by show ¬ s = g; exact hsg)
      have bs2 : wS.heap[s]? = some (.cells cs t (0, 0)) := blk_chg bs1 cS.out (by show ¬ s = gR; exact hsR)
      refine .inr ⟨HA.out, rfl, .slice (some ⟨gR, 0, none⟩) X.length cR, X.set row ⟨g, c, L.take k ++ L.drop (k + 1)⟩, ⟨SH5.out, ?_, ?_, fun b hb => ?_⟩, ?_, fun z hz => ?_⟩
      · rw [set_self HCS.out]; exact bs2
      · have k1 : Chg (fun b => b = s ∨ fpS (.slice (some ⟨gR, 0, none⟩) X.length cR) X b) w w2.drew := Chg.of_out (O2.out.trans (Out.refl w2).drew)
        exact k1.trans CH5.out (fun b e _ => by
          rcases e with e | e
          · exact .inr (.inl (by rw [e]; rfl))
          · exact .inr (.inr ⟨_, List.mem_of_getElem? HX.out, e.symm⟩))
      · rcases hb with hb | ⟨z, hz, e⟩
        · exact .inl (.inl (by simpa [Value.ownBlock] using hb))
        · rcases mem_set hz with rfl | ⟨j, _, hj⟩
          · exact .inl (.inr ⟨_, List.mem_of_getElem? HX.out, e⟩)
          · exact .inl (.inr ⟨z, List.mem_of_getElem? hj, e⟩)
      · rw [flat_set HX.out, HFIL.out]
      · rcases mem_set hz with rfl | ⟨j, _, hj⟩
        · show (L.take k ++ L.drop (k + 1)).length ≤ 128
          rw [hLN.out]; omega
        · exact HL.out z (List.mem_of_getElem? hj)
end Go.Proofs.YtekjfbmebekmeaaGreat
