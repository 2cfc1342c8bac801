import Derived.Test.YtfmcoffmgdcciaaDoorImv
namespace Go.Proofs.YtfmcoffmgdcciaaDoor
open Go.RowKit
set_option linter.unusedVariables false
set_option linter.unusedSimpArgs false
def sh8 (x : Int) : Nat → Int
  | 0 => x
  | 1 => x / 256
  | 2 => x / 65536
  | _ => x / 16777216
theorem b4_get (x : Int) (j : Nat) (h : j < 4) : (b4 x)[j]? = some (b1 (sh8 x j)) := by
  obtain rfl | rfl | rfl | rfl : j = 0 ∨ j = 1 ∨ j = 2 ∨ j = 3 := by omega
  all_goals rfl
set_option maxRecDepth 20000 in
set_option maxHeartbeats 1000000 in
theorem laid_any (x : Int) (n : Nat) (hn : n ≤ 4) (w : World) : Calls Tryd.prog 35 #[.int .i64 x, .int .i64 n] w fun e w' => ∃ a c, e = .returned (.slice a n c) ∧ w'.ownsRow w.heap.size 5 1 (.slice a n c) n (Lib.byteCells ((b4 x).take n)) ∧ Out w w' := by
  obtain ⟨i0, hi0, hz0, hz1, hz2⟩ := info_parts infoB
  go_enter Tryd.func35, Tryd.ntmps35
  go_wp2
  go_loopw [5, 6] (fun v i wr => ∃ (j : Nat) (a : Option Addr) (c : Nat), j ≤ n ∧ v = .slice a j c ∧ i = .int .i64 j ∧ Hid (wr.ownsRow w.heap.size 5 1 (.slice a j c) j (Lib.byteCells ((b4 x).take j))) ∧ Hid (Out w wr)) (fun _ i _ => n - (intOf i).toNat)
  case atStart => exact ⟨0, none, 0, by omega, rfl, rfl, hidOf (World.ownsRow_nil _ _ _ _), hidOf (Out.refl _)⟩
  case round =>
    obtain ⟨j, a, c, hj, rfl, rfl, HR, HO⟩ := hrel
    by_cases hjn : j < n
    · have hlt : (j : Int) < n := by omega
      have hj4 : j < 4 := by omega
      have hw8 : ∀ y : Int, IntKind.u8.wrap y = ((b1 y).toNat : Int) := wrap_b1
      have HA : Hid (∀ O, (wr.alloc O).ownsRow w.heap.size 5 1 (.slice a j c) j (Lib.byteCells ((b4 x).take j))) := hidOf fun O => owns_chg (S := fun _ => False) HR.out (fun _ _ h => h) (Chg.of_out (Out.alloc (Out.refl _) _))
      have hsz := HO.out.size
      have HT : Hid (∀ (W2 : World) (v : Value), W2.ownsRow w.heap.size 5 1 v (j + 1) (Lib.byteCells ((b4 x).take j) ++ [.int .u8 ((b1 (sh8 x j)).toNat : Int)]) → W2.ownsRow w.heap.size 5 1 v (j + 1) (Lib.byteCells ((b4 x).take (j + 1)))) := hidOf fun W2 v h => by
        rw [List.take_add_one, b4_get x j hj4]
        simpa [Lib.byteCells] using h
      clear hlt
      have hlt : (j : Int) < n := by omega
      obtain rfl | rfl | rfl | rfl : j = 0 ∨ j = 1 ∨ j = 2 ∨ j = 3 := by omega
      · go_wp2_with (at_builtin; refine wpList_append_own _ rfl (.tmp 12) (.tmp 18) 43 rfl w.heap.size 5 i0 _ 1 1 Tryd.underlying43 hi0 hz0 hz1 hz2 rfl (by decide) (.slice a 0 c) 0 (Lib.byteCells ((b4 x).take 0)) rfl (HA.out _) ⟨wr.heap.size, 0, none⟩ 1 1 [.int .u8 ((b1 (x)).toNat : Int)] rfl rfl (news_new _ _ _ _ rfl) (fun u hu => by simp at hu; subst hu; rfl) (by decide) (by decide) (by rw [size_alloc]; omega) ?_; intro v3 w3 hown3 hgrow3 _; have HN := hidOf (HT.out _ _ hown3); have H3 := hidOf (out_row (w0 := w) (Out.alloc HO.out _) (HA.out _) hgrow3); obtain ⟨a3, c3, rfl⟩ := own_form hown3; clear hown3 hgrow3)
        go_roundw
        case rel => exact ⟨1, a3, c3, by omega, rfl, by simp, HN, H3⟩
        case measure => simp [intOf]; omega
      · go_wp2_with (at_builtin; refine wpList_append_own _ rfl (.tmp 12) (.tmp 18) 43 rfl w.heap.size 5 i0 _ 1 1 Tryd.underlying43 hi0 hz0 hz1 hz2 rfl (by decide) (.slice a 1 c) 1 (Lib.byteCells ((b4 x).take 1)) rfl (HA.out _) ⟨wr.heap.size, 0, none⟩ 1 1 [.int .u8 ((b1 (x / 256)).toNat : Int)] rfl rfl (news_new _ _ _ _ rfl) (fun u hu => by simp at hu; subst hu; rfl) (by decide) (by decide) (by rw [size_alloc]; omega) ?_; intro v3 w3 hown3 hgrow3 _; have HN := hidOf (HT.out _ _ hown3); have H3 := hidOf (out_row (w0 := w) (Out.alloc HO.out _) (HA.out _) hgrow3); obtain ⟨a3, c3, rfl⟩ := own_form hown3; clear hown3 hgrow3)
        go_roundw
        case rel => exact ⟨2, a3, c3, by omega, rfl, by simp, HN, H3⟩
        case measure => simp [intOf]; omega
      · go_wp2_with (at_builtin; refine wpList_append_own _ rfl (.tmp 12) (.tmp 18) 43 rfl w.heap.size 5 i0 _ 1 1 Tryd.underlying43 hi0 hz0 hz1 hz2 rfl (by decide) (.slice a 2 c) 2 (Lib.byteCells ((b4 x).take 2)) rfl (HA.out _) ⟨wr.heap.size, 0, none⟩ 1 1 [.int .u8 ((b1 (x / 65536)).toNat : Int)] rfl rfl (news_new _ _ _ _ rfl) (fun u hu => by simp at hu; subst hu; rfl) (by decide) (by decide) (by rw [size_alloc]; omega) ?_; intro v3 w3 hown3 hgrow3 _; have HN := hidOf (HT.out _ _ hown3); have H3 := hidOf (out_row (w0 := w) (Out.alloc HO.out _) (HA.out _) hgrow3); obtain ⟨a3, c3, rfl⟩ := own_form hown3; clear hown3 hgrow3)
        go_roundw
        case rel => exact ⟨3, a3, c3, by omega, rfl, by simp, HN, H3⟩
        case measure => simp [intOf]; omega
      · go_wp2_with (at_builtin; refine wpList_append_own _ rfl (.tmp 12) (.tmp 18) 43 rfl w.heap.size 5 i0 _ 1 1 Tryd.underlying43 hi0 hz0 hz1 hz2 rfl (by decide) (.slice a 3 c) 3 (Lib.byteCells ((b4 x).take 3)) rfl (HA.out _) ⟨wr.heap.size, 0, none⟩ 1 1 [.int .u8 ((b1 (x / 16777216)).toNat : Int)] rfl rfl (news_new _ _ _ _ rfl) (fun u hu => by simp at hu; subst hu; rfl) (by decide) (by decide) (by rw [size_alloc]; omega) ?_; intro v3 w3 hown3 hgrow3 _; have HN := hidOf (HT.out _ _ hown3); have H3 := hidOf (out_row (w0 := w) (Out.alloc HO.out _) (HA.out _) hgrow3); obtain ⟨a3, c3, rfl⟩ := own_form hown3; clear hown3 hgrow3)
        go_roundw
        case rel => exact ⟨4, a3, c3, by omega, rfl, by simp, HN, H3⟩
        case measure => simp [intOf]; omega
    · have hlt : ¬ (j : Int) < n := by omega
      obtain rfl : j = n := by omega
      go_wp2
      go_ret
      exact ⟨a, c, rfl, HR.out, HO.out⟩
end Go.Proofs.YtfmcoffmgdcciaaDoor
