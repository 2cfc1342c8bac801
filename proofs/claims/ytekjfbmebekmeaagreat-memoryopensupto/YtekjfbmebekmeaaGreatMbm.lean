import Derived.Test.YtekjfbmebekmeaaGreatMbl
namespace Go.Proofs.YtekjfbmebekmeaaGreat
open Go.RowKit
set_option linter.unusedVariables false
set_option linter.unusedSimpArgs false
theorem owns_void (w : World) (B size : Nat) (e : TypeId) (hB : B ≤ w.heap.size) : (w.alloc (.cells #[] e)).ownsRow B e size (.slice (some ⟨w.heap.size, 0, none⟩) 0 0) 0 [] :=
  ⟨by simp, .inr ⟨w.heap.size, 0, #[], rfl, hB, heap_alloc_new w _, Nat.le_refl _, by decide, by simp, by simp⟩⟩
set_option maxHeartbeats 4000000 in
set_option maxRecDepth 100000 in
theorem clone_any (w : World) (g o m c : Nat) (xs : List Value) (hm : 0 < m) (hl : xs.length = m * 2) (hx : ∀ j u, xs[j]? = some u → w.cell? ⟨g, o + j, none⟩ = some u) (h1 : ∀ u ∈ xs, u.oneCell' = true) (hbig : m * 32 ≤ 140737488355328) :
    Calls Tryz.prog 107 #[.slice (some ⟨g, o, none⟩) m c] w fun e w' => ∃ g' c', e = .returned (.slice (some ⟨g', 0, none⟩) m c') ∧ w'.ownsRow w.heap.size 36 2 (.slice (some ⟨g', 0, none⟩) m c') m xs ∧ Out w w' := by
  obtain ⟨i0, hi0, hz0, hz1, hz2⟩ := info_parts infoR
  have q22 : ∀ (w : World), (binOp .eql 22 (.slice (some ⟨g, o, none⟩) m c) (.slice none 0 0)).run Tryz.prog w = .ok (.bool false) w := fun w => Lib.run_eql_slice_nil w _ _ (some ⟨g, o, none⟩) m c 0 0 Tryz.underlying22
  have HX : Hid (∀ j u, xs[j]? = some u → (w.alloc (.cells #[] 36)).cell? ((⟨g, o, none⟩ : Addr).add j) = some u) := hidOf (fun j u hj => by rw [add_B]; exact cell_later ((Out.refl w).alloc _) (hx j u hj))
  have H1 := hidOf h1
  have HL := hidOf hl
  clear hx h1 hl
  go_enter Tryz.func107, Tryz.ntmps107
  go_wp2_with (at_builtin; refine wpList_append_lies _ rfl (.tmp 5) (.tmp 6) 22 rfl w.heap.size 36 i0 _ 2 32 Tryz.underlying22 hi0 hz0 hz1 hz2 rfl (by decide) (.slice (some ⟨w.heap.size, 0, none⟩) 0 0) 0 [] rfl (owns_void w _ 2 _ (Nat.le_refl _)) ⟨g, o, none⟩ m c xs rfl HL.out HX.out H1.out hm (by unfold maxLen; omega) (by omega) (by rw [size_alloc]; omega) _ rfl ?_; intro g3 cap3 w3 hown3 hgrow3 hg3 hlt3; have HO3 := hidOf hown3; have HG3 := hidOf hgrow3; clear hown3 hgrow3 hg3 hlt3)
  go_ret
  have ho := HO3.out
  rw [Nat.zero_add, List.nil_append] at ho
  refine ⟨g3, cap3, rfl, ho, ?_⟩
  exact Chg.out (S := fun b => b = w.heap.size) (Chg.of_grown HG3.out (fun k hk => by simp [Value.ownBlock] at hk; exact hk.symm)) ((Out.refl w).alloc _) (fun k hk => by omega)
theorem append_none (w : World) (a : Addr) (b : Option Addr) (i c c2 : Nat) (ty : TypeId) (hic : i ≤ c) : (Builtin.append_ #[22, 22] ty #[.slice (some a) i c, .slice b 0 c2]).run Tryz.prog w = .ok (.slice (some a) i c) w := by
  obtain ⟨i0, hi0, hz0, hz1, hz2⟩ := info_parts infoR
  cases b <;> simp [Builtin.append_, run_underlying Tryz.underlying22, sizeOf, typeInfo, hi0, Builtin.lenOf, Builtin.firstCells, loadCells, loadCellsFrom, storeCells, hic]
theorem clear_ex (w : World) (g i m c : Nat) (cur : List Value) (hg : w.heap[g]? = some (.cells cur.toArray 36 (0, 0))) (hm : 0 < m) (hfit : i * 2 + m * 2 ≤ cur.length) :
    ∃ w', (∀ ty, (Builtin.clear_ #[22] ty #[.slice (some ⟨g, i * 2, none⟩) m c]).run Tryz.prog w = .ok (.tuple #[]) w') ∧ Hid (∃ Z, w'.heap[g]? = some (.cells (cur.take (i * 2) ++ Z).toArray 36 (0, 0)) ∧ (cur.take (i * 2) ++ Z).length = cur.length) ∧ Hid (Chg (fun b => b = g) w w') := by
  obtain ⟨k, rfl⟩ : ∃ k, m = k + 1 := ⟨m - 1, by omega⟩
  obtain ⟨i0, hi0, hz0, hz1, hz2⟩ := info_parts infoR
  obtain ⟨zs, hzs⟩ : ∃ zs, zs = (Builtin.zeroCells (Value.agg #[.int .u64 0, .slice none 0 0]).cells (k + 1)).toList := ⟨_, rfl⟩
  have hzl : zs.length = (k + 1) * 2 := by rw [hzs, Array.length_toList, size_zeroCells]; rfl
  have hone : ∀ u ∈ zs, u.oneCell' = true := by
    intro u hu
    rw [hzs] at hu
    simp [Builtin.zeroCells, Value.cells] at hu
    obtain ⟨q, _, hu⟩ := hu
    rcases Nat.mod_two_eq_zero_or_one q with h | h
    · rw [h] at hu; subst hu; rfl
    · rw [h] at hu; subst hu; rfl
  have hst := run_storeCells_at Tryz.prog g (i * 2) 36 zs 0 cur.toArray w hg (by rw [hzl]; simpa using hfit) hone
  have hset := setRow_heap w g cur.toArray (List.take (i * 2 + 0) cur.toArray.toList ++ zs ++ List.drop (i * 2 + 0 + zs.length) cur.toArray.toList).toArray _ _ hg
  refine ⟨_, fun ty => ?_, hidOf ⟨zs ++ cur.drop (i * 2 + zs.length), hset.trans ?_, ?_⟩, hidOf chg_setRow⟩
  · have hst := hst
    rw [hzs] at hst
    simp [Builtin.clear_, run_underlying Tryz.underlying22, zeroValue, typeInfo, hi0, hz0, hst]
    simp [hzs]
  · simp only [Nat.add_zero, List.append_assoc, ← hzs]
  · simp only [List.length_append, List.length_take, List.length_drop, hzl]
    omega
set_option maxHeartbeats 4000000 in
set_option maxRecDepth 100000 in
theorem delete_any (w : World) (B g n c i : Nat) (xs : List Value) (hown : w.ownsRow B 36 2 (.slice (some ⟨g, 0, none⟩) n c) n xs) (hi : i < n) (h1x : ∀ u ∈ xs, u.oneCell' = true) :
    Calls Tryz.prog 83 #[.slice (some ⟨g, 0, none⟩) n c, .int .i64 i, .int .i64 n] w fun e w' => e = .returned (.slice (some ⟨g, 0, none⟩) i c) ∧ w'.ownsRow B 36 2 (.slice (some ⟨g, 0, none⟩) i c) i (xs.take (i * 2)) ∧ Chg (fun b => b = g) w w' := by
  obtain ⟨cur, hg, hB, hnc, hcm, hcl, hct, hxl⟩ := owns_blk hown
  obtain ⟨w1, hclr, hb1, hc1⟩ := clear_ex w.drew g i (n - i) (c - i) cur hg (by omega) (by omega)
  have hcm2 : c ≤ 9223372036854775807 := hcm
  have hne : ¬ ((i : Int) = (n : Int)) := by omega
  have hci : ¬ (c = i) := by omega
  have hni : ¬ (n = i) := by omega
  have hin : (i : Int) ≤ (n : Int) := by omega
  have hic : (i : Int) ≤ (c : Int) := by omega
  have hnc2 : (n : Int) ≤ (c : Int) := by omega
  have hAN := fun (b : Option Addr) (c2 : Nat) (ty : TypeId) => append_none w.drew ⟨g, 0, none⟩ b i c c2 ty (by omega)
  have HCL := hidOf hcl
  have HCT := hidOf hct
  clear hown hg hcl hct hxl h1x
  go_enter Tryz.func83, Tryz.ntmps83
  go_upto_region 5 with fail
  by_cases hcn : c = n
  · subst hcn
    refine wp_region_held_drew (S := fun _ => True) (by kernel_rfl) ?_ (fun hHeld => ?_)
    · exact trivial
    refine wpAnyH_take (i := 0) (v := ?_) rfl (by kernel_rfl) (by kernel_rfl) (by kernel_rfl) (fun _ _ _ h => h) (Or.inl ⟨by rfl, ?_⟩) (by assumption) ?_
    rotate_left
    · (intro w hSw; (try dsimp only at hSw); go_simp; (try with_reducible rfl))
    show wpAnyH _ _ _ _ _ _ _ (Act.put _ (some 20) _) _
    simp only [Act.put, List.setIfInBounds_toArray, List.set_cons_zero, List.set_cons_succ]
    refine wpAnyH_take (i := 1) (v := ?_) rfl (by kernel_rfl) (by kernel_rfl) (by kernel_rfl) (fun _ _ _ h => h) (Or.inl ⟨by rfl, ?_⟩) (by assumption) ?_
    rotate_left
    · (intro w hSw; (try dsimp only at hSw); go_simp; (try with_reducible rfl))
    show wpAnyH _ _ _ _ _ _ _ (Act.put _ (some 21) _) _
    simp only [Act.put, List.setIfInBounds_toArray, List.set_cons_zero, List.set_cons_succ]
    refine wpAnyH_take (i := 2) (v := ?_) rfl (by kernel_rfl) (by kernel_rfl) (by kernel_rfl) (fun _ _ _ h => h) (Or.inl ⟨by rfl, ?_⟩) (by assumption) ?_
    rotate_left
    · (intro w hSw; (try dsimp only at hSw); go_simp; (try with_reducible rfl))
    show wpAnyH _ _ _ _ _ _ _ (Act.put _ (some 22) _) _
    simp only [Act.put, List.setIfInBounds_toArray, List.set_cons_zero, List.set_cons_succ]
    refine wpAnyH_take (i := 3) (v := ?_) rfl (by kernel_rfl) (by kernel_rfl) (by kernel_rfl) (fun _ _ _ h => h) (Or.inl ⟨by rfl, ?_⟩) (by assumption) ?_
    rotate_left
    · (intro w hSw; (try dsimp only at hSw); go_simp; (try with_reducible rfl))
    show wpAnyH _ _ _ _ _ _ _ (Act.put _ (some 23) _) _
    simp only [Act.put, List.setIfInBounds_toArray, List.set_cons_zero, List.set_cons_succ]
    refine wpAnyH_take (i := 4) (v := ?_) rfl (by kernel_rfl) (by kernel_rfl) (by kernel_rfl) (fun _ _ _ h => h) (Or.inl ⟨by rfl, ?_⟩) (by assumption) ?_
    rotate_left
    · (intro w hSw; (try dsimp only at hSw); go_simp; (try with_reducible rfl))
    show wpAnyH _ _ _ _ _ _ _ (Act.put _ (some 24) _) _
    simp only [Act.put, List.setIfInBounds_toArray, List.set_cons_zero, List.set_cons_succ]
    refine wpAnyH_take (i := 5) (v := ?_) rfl (by kernel_rfl) (by kernel_rfl) (by kernel_rfl) (fun _ _ _ h => h) (Or.inl ⟨by rfl, ?_⟩) (by assumption) ?_
    rotate_left
    · (intro w hSw; (try dsimp only at hSw); go_simp; (try with_reducible rfl))
    show wpAnyH _ _ _ _ _ _ _ (Act.put _ (some 25) _) _
    simp only [Act.put, List.setIfInBounds_toArray, List.set_cons_zero, List.set_cons_succ]
    refine wpAnyH_ready (rs := [6]) (by kernel_rfl) (by simp) ?_
    refine (AllReadyH.cons rfl (fun K6 hK6 => ?_) AllReadyH.nil)
    · rw [if_pos (by rfl)]
      refine Lib.wp_append_run _ (.tmp 22) (.tmp 25) 22 22 rfl _ _ (by simp [Act.eval, Act.put]) (by simp [Act.eval, Act.put]) _ _ (hAN (some ⟨g, 0, none⟩) 0 _) ?_
      refine hK6.out _ _ trivial (fun hHeld6 => ?_)
      simp only [Act.put, List.setIfInBounds_toArray, List.set_cons_zero, List.set_cons_succ]
      refine wpAnyH_take (i := 7) (v := ?_) rfl (by kernel_rfl) (by kernel_rfl) (by kernel_rfl) (fun _ _ _ h => h) (Or.inl ⟨by rfl, ?_⟩) (by assumption) ?_
      rotate_left
      · (intro w hSw; (try dsimp only at hSw); go_simp; (try with_reducible rfl))
      show wpAnyH _ _ _ _ _ _ _ (Act.put _ (some 0) _) _
      simp only [Act.put, List.setIfInBounds_toArray, List.set_cons_zero, List.set_cons_succ]
      refine wpAnyH_done (by kernel_rfl) ?_ _
      go_wp2
      go_ret
      obtain ⟨Z, hz1, hz2⟩ := hb1.out
      refine ⟨rfl, blk_owns hz1 hB (by omega) hcm (by rw [hz2, HCL.out]) ?_, (Chg.refl (fun b => b = g) w).drew.trans hc1.out (fun x hx _ => hx)⟩
      rw [List.take_append_of_le_length (by rw [List.length_take, HCL.out]; omega), List.take_take, Nat.min_self, ← HCT.out, List.take_take, Nat.min_eq_left (by omega)]
  · refine wp_region_held_drew (S := fun _ => True) (by kernel_rfl) ?_ (fun hHeld => ?_)
    · exact trivial
    refine wpAnyH_take (i := 0) (v := ?_) rfl (by kernel_rfl) (by kernel_rfl) (by kernel_rfl) (fun _ _ _ h => h) (Or.inl ⟨by rfl, ?_⟩) (by assumption) ?_
    rotate_left
    · (intro w hSw; (try dsimp only at hSw); go_simp; (try with_reducible rfl))
    show wpAnyH _ _ _ _ _ _ _ (Act.put _ (some 20) _) _
    simp only [Act.put, List.setIfInBounds_toArray, List.set_cons_zero, List.set_cons_succ]
    refine wpAnyH_take (i := 1) (v := ?_) rfl (by kernel_rfl) (by kernel_rfl) (by kernel_rfl) (fun _ _ _ h => h) (Or.inl ⟨by rfl, ?_⟩) (by assumption) ?_
    rotate_left
    · (intro w hSw; (try dsimp only at hSw); go_simp; (try with_reducible rfl))
    show wpAnyH _ _ _ _ _ _ _ (Act.put _ (some 21) _) _
    simp only [Act.put, List.setIfInBounds_toArray, List.set_cons_zero, List.set_cons_succ]
    refine wpAnyH_take (i := 2) (v := ?_) rfl (by kernel_rfl) (by kernel_rfl) (by kernel_rfl) (fun _ _ _ h => h) (Or.inl ⟨by rfl, ?_⟩) (by assumption) ?_
    rotate_left
    · (intro w hSw; (try dsimp only at hSw); go_simp; (try with_reducible rfl))
    show wpAnyH _ _ _ _ _ _ _ (Act.put _ (some 22) _) _
    simp only [Act.put, List.setIfInBounds_toArray, List.set_cons_zero, List.set_cons_succ]
    refine wpAnyH_take (i := 3) (v := ?_) rfl (by kernel_rfl) (by kernel_rfl) (by kernel_rfl) (fun _ _ _ h => h) (Or.inl ⟨by rfl, ?_⟩) (by assumption) ?_
    rotate_left
    · (intro w hSw; (try dsimp only at hSw); go_simp; (try with_reducible rfl))
    show wpAnyH _ _ _ _ _ _ _ (Act.put _ (some 23) _) _
    simp only [Act.put, List.setIfInBounds_toArray, List.set_cons_zero, List.set_cons_succ]
    refine wpAnyH_take (i := 4) (v := ?_) rfl (by kernel_rfl) (by kernel_rfl) (by kernel_rfl) (fun _ _ _ h => h) (Or.inl ⟨by rfl, ?_⟩) (by assumption) ?_
    rotate_left
    · (intro w hSw; (try dsimp only at hSw); go_simp; (try with_reducible rfl))
    show wpAnyH _ _ _ _ _ _ _ (Act.put _ (some 24) _) _
    simp only [Act.put, List.setIfInBounds_toArray, List.set_cons_zero, List.set_cons_succ]
    refine wpAnyH_take (i := 5) (v := ?_) rfl (by kernel_rfl) (by kernel_rfl) (by kernel_rfl) (fun _ _ _ h => h) (Or.inl ⟨by rfl, ?_⟩) (by assumption) ?_
    rotate_left
    · (intro w hSw; (try dsimp only at hSw); go_simp; (try with_reducible rfl))
    show wpAnyH _ _ _ _ _ _ _ (Act.put _ (some 25) _) _
    simp only [Act.put, List.setIfInBounds_toArray, List.set_cons_zero, List.set_cons_succ]
    refine wpAnyH_ready (rs := [6]) (by kernel_rfl) (by simp) ?_
    refine (AllReadyH.cons rfl (fun K6 hK6 => ?_) AllReadyH.nil)
    · rw [if_pos (by rfl)]
      refine Lib.wp_append_run _ (.tmp 22) (.tmp 25) 22 22 rfl _ _ (by simp [Act.eval, Act.put]) (by simp [Act.eval, Act.put]) _ _ (hAN (some ⟨g, n * 2, none⟩) (c - n) _) ?_
      refine hK6.out _ _ trivial (fun hHeld6 => ?_)
      simp only [Act.put, List.setIfInBounds_toArray, List.set_cons_zero, List.set_cons_succ]
      refine wpAnyH_take (i := 7) (v := ?_) rfl (by kernel_rfl) (by kernel_rfl) (by kernel_rfl) (fun _ _ _ h => h) (Or.inl ⟨by rfl, ?_⟩) (by assumption) ?_
      rotate_left
      · (intro w hSw; (try dsimp only at hSw); go_simp; (try with_reducible rfl))
      show wpAnyH _ _ _ _ _ _ _ (Act.put _ (some 0) _) _
      simp only [Act.put, List.setIfInBounds_toArray, List.set_cons_zero, List.set_cons_succ]
      refine wpAnyH_done (by kernel_rfl) ?_ _
      go_wp2
      go_ret
      obtain ⟨Z, hz1, hz2⟩ := hb1.out
      refine ⟨rfl, blk_owns hz1 hB (by omega) hcm (by rw [hz2, HCL.out]) ?_, (Chg.refl (fun b => b = g) w).drew.trans hc1.out (fun x hx _ => hx)⟩
      rw [List.take_append_of_le_length (by rw [List.length_take, HCL.out]; omega), List.take_take, Nat.min_self, ← HCT.out, List.take_take, Nat.min_eq_left (by omega)]
end Go.Proofs.YtekjfbmebekmeaaGreat
