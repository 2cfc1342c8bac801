import Derived.Test.YtjlgkcnfdpnlkaaDoorMb
namespace Go.Proofs.YtjlgkcnfdpnlkaaDoor
open Go.RowKit Go.Sort
set_option linter.unusedVariables false
set_option linter.unusedSimpArgs false

def flatT (k : Nat) : List Int := (opsT.take k).flatten
def opsZ : List Int := flatT 11
def opsUp : Nat → List Int
  | 0 => []
  | k + 1 => if (rowsR (k : Int)).isEmpty then opsUp k else opsUp k ++ [(k : Int)]
def opsS : List Int := opsUp 256
theorem take_step (l : List Int) (j : Nat) (h : j < l.length) : l.take (j + 1) = l.take j ++ [l.getD j 0] := by
  rw [List.take_add_one, List.getElem?_eq_getElem h, getD_lt _ _ _ h]; rfl
theorem ops_sorted : sortZ opsZ = opsS := sortZ_eq (List.isPerm_iff.1 (by decide +kernel)) (by decide +kernel)
theorem flat_len : ∀ k, k ≤ 11 → (flatT k).length ≤ 200 := by decide +kernel
theorem opsZ_len : opsZ.length = 119 := by decide +kernel
theorem flat_succ : ∀ k, k < 11 → flatT (k + 1) = flatT k ++ opsL k := by decide +kernel
set_option maxRecDepth 20000 in
theorem ops_walk (w : World) (hT : TabO w) : Calls Tryd.prog 10 #[] w fun e w' => ∃ v, e = .returned v ∧ Own w w' v (sortZ opsZ) := by
  obtain ⟨s, hl, hs⟩ := hT
  obtain ⟨i0, hi, hz0, hz1, hz2⟩ := info_parts info3
  have hix := idx11 s
  go_enter Tryd.func10, Tryd.ntmps10
  go_wp2
  go_loopw [1, 7] (fun v i wr => ∃ k : Nat, k ≤ 11 ∧ i = .int .i64 k ∧ wr.ownsRow w.heap.size 3 1 v (flatT k).length ((flatT k).map (Value.int .i64)) ∧ Out w wr) (fun _ i _ => 11 - (intOf i).toNat)
  case atStart => exact ⟨0, by omega, rfl, World.ownsRow_nil _ _ _ _, Out.refl _⟩
  case round =>
    obtain ⟨k, hk, rfl, hown, hor⟩ := hrel
    by_cases hkl : k < 11
    · have hki : (k : Int) < 11 := by omega
      have hfl := flat_len k hk
      have hol := ops_len k
      rcases hs k hkl with ⟨e, en⟩ | ⟨b, o, c, e, hc⟩
      · clear hs
        have hown' : wr.ownsRow w.heap.size 3 1 u1 (flatT (k + 1)).length ((flatT (k + 1)).map (Value.int .i64)) := by
          rw [flat_succ k hkl, List.length_eq_zero_iff.1 en, List.append_nil]; exact hown
        go_wp2
        refine wp_loop_rounds 1 ?_
        rw [rounds_succ]
        go_wp2
        go_roundw
        case rel => exact ⟨k + 1, by omega, by simp, hown', hor⟩
        case measure => simp [intOf]; omega
      · clear hs
        go_wp2
        go_loopw [1, 12] (fun v i wr2 => ∃ j : Nat, j ≤ (opsL k).length ∧ i = .int .i64 j ∧ wr2.ownsRow w.heap.size 3 1 v ((flatT k).length + j) ((flatT k ++ (opsL k).take j).map (Value.int .i64)) ∧ Out w wr2) (fun _ i _ => (opsL k).length - (intOf i).toNat)
        case atStart => exact ⟨0, by omega, rfl, by simpa using hown, hor⟩
        case round =>
          obtain ⟨j, hj, rfl, hown2, hor2⟩ := hrel
          by_cases hjl : j < (opsL k).length
          · obtain ⟨b0, b1⟩ := ops_bd k j
            have hcj := cell_later hor2 (hc j hjl)
            generalize hz : (opsL k).getD j 0 = z at hcj b0 b1
            have HZ : Hid ((opsL k).getD j 0 = z) := hz
            clear hz
            go_wp2_with (first | (at_builtin; refine wpList_append_own _ rfl (.tmp 16) (.tmp 19) 25 rfl w.heap.size 3 i0 (.int .i64 0) 1 8 Tryd.underlying25 hi hz0 hz1 hz2 rfl (by decide) _ _ _ rfl (hown2.alloc _) ⟨wr.heap.size, 0, none⟩ 1 1 [.int .i64 z] rfl rfl (one_new _ _ _) (one_cell _) (by simp only [maxLen]; omega) (by omega) (Nat.le_trans hor2.size (by rw [size_alloc]; omega)) ?_; intro v1 w1 hown1 hgrow1 _))
            have ho1 := own_out hor2 hown2 hgrow1
            go_roundw
            case rel => exact ⟨j + 1, by omega, by simp, by rw [take_step _ _ hjl, HZ.out, ← List.append_assoc, List.map_append]; exact hown1, ho1⟩
            case measure => simp [intOf]; omega
          · obtain rfl : j = (opsL k).length := by omega
            go_wp2
            go_roundw
            case rel => exact ⟨k + 1, by omega, by simp, by rw [flat_succ k hkl, List.length_append]; simpa using hown2, hor2⟩
            case measure => simp [intOf]; omega
    · obtain rfl : k = 11 := by omega
      go_wp2_with (go_at_call 29; refine (sort_own (zs := opsZ) hown (by rw [opsZ_len]; decide) (by rw [opsZ_len]; decide)).mono ?_; rintro e w2 ⟨rfl, hown2, hg2⟩)
      go_ret
      exact ⟨_, rfl, by rw [sortZ_len]; exact hown2, out_grown2 hor hown hg2⟩
end Go.Proofs.YtjlgkcnfdpnlkaaDoor
