import Derived.Test.YtjlgkcnfdpnlkaaDoorMc
import Derived.Laws.CopyOwn
namespace Go.Proofs.YtjlgkcnfdpnlkaaDoor
open Go.RowKit Go.Sort
set_option linter.unusedVariables false
set_option linter.unusedSimpArgs false

theorem nums_of_own {w : World} {base : Nat} {v : Value} {l : List Int} (h : w.ownsRow base 3 1 v l.length (l.map (Value.int .i64))) : NumsAt w v l := by
  rcases h.2 with ⟨rfl, e⟩ | ⟨g, cap, cur, rfl, hb, hg, h1, h2, h3, h4⟩
  · exact .inl ⟨List.length_eq_zero_iff.1 e, rfl⟩
  · refine .inr ⟨g, cap, rfl, fun j hj => ?_⟩
    rw [cell_of_row w g j cur _ (0, 0) hg]
    have : (cur.toList.take (l.length * 1))[j]? = (l.map (Value.int .i64))[j]? := by rw [h4]
    rw [List.getElem?_take_of_lt (by omega)] at this
    rw [getD_lt _ _ _ hj]
    simpa [hj] using this
theorem same_zero (a1 a2 : Option Addr) (c1 c2 : Nat) (w : World) : Calls Tryd.prog 6 #[.slice a1 0 c1, .slice a2 0 c2] w fun e w' => e = .returned (.bool true) ∧ Out w w' := by
  go_enter Tryd.func6, Tryd.ntmps6
  go_wp2
  refine wp_loop_rounds 1 ?_
  rw [rounds_succ]
  go_wp2
  go_ret
  exact ⟨rfl, Out.refl _⟩
theorem same_some (b1 b2 c1 c2 : Nat) (l : List Int) (w : World) (hl : l.length ≤ 4611686018427387904) (h1 : ∀ j, j < l.length → w.cell? ⟨b1, j, none⟩ = some (.int .i64 (l.getD j 0))) (h2 : ∀ j, j < l.length → w.cell? ⟨b2, j, none⟩ = some (.int .i64 (l.getD j 0))) :
    Calls Tryd.prog 6 #[.slice (some ⟨b1, 0, none⟩) l.length c1, .slice (some ⟨b2, 0, none⟩) l.length c2] w fun e w' => e = .returned (.bool true) ∧ Out w w' := by
  go_enter Tryd.func6, Tryd.ntmps6
  go_wp2
  go_loopw [5] (fun i wr => ∃ k : Nat, k ≤ l.length ∧ i = .int .i64 k ∧ Out w wr) (fun i _ => l.length - (intOf i).toNat)
  case atStart => exact ⟨0, by omega, rfl, Out.refl _⟩
  case round =>
    obtain ⟨k, hk, rfl, hor⟩ := hrel
    by_cases hkl : k < l.length
    · have q1 := cell_later hor (h1 k hkl)
      have q2 := cell_later hor (h2 k hkl)
      clear h1 h2
      generalize l.getD k 0 = z at q1 q2
      have hz : (z != z) = false := by simp
      go_wp2
      go_region
      all_goals go_wp2
      all_goals go_roundw
      all_goals first | (exact ⟨k + 1, by omega, by simp, Out.trans hor (by repeat (first | exact Out.refl _ | apply Out.drew))⟩) | (simp [intOf]; omega)
    · obtain rfl : k = l.length := by omega
      go_wp2
      go_ret
      exact ⟨rfl, hor⟩
theorem same_any {v1 v2 : Value} {l : List Int} {w : World} (hl : l.length ≤ 4611686018427387904) (h1 : NumsAt w v1 l) (h2 : NumsAt w v2 l) : Calls Tryd.prog 6 #[v1, v2] w fun e w' => e = .returned (.bool true) ∧ Out w w' := by
  rcases h1 with ⟨rfl, rfl⟩ | ⟨b1, c1, rfl, h1⟩
  · rcases h2 with ⟨_, rfl⟩ | ⟨b2, c2, rfl, h2⟩
    · exact same_zero _ _ _ _ w
    · exact same_zero _ _ _ _ w
  · rcases h2 with ⟨rfl, rfl⟩ | ⟨b2, c2, rfl, h2⟩
    · exact same_zero _ _ _ _ w
    · exact same_some b1 b2 c1 c2 l w hl h1 h2
theorem up_len : ∀ k, (opsUp k).length ≤ k
  | 0 => Nat.le_refl _
  | k + 1 => by
    have := up_len k
    simp only [opsUp]
    split
    · omega
    · simp; omega
theorem ownsRow_out {w w' : World} {base e size n : Nat} {v : Value} {xs : List Value} (h : w.ownsRow base e size v n xs) (o : Out w w') : w'.ownsRow base e size v n xs := by
  refine ⟨h.1, ?_⟩
  rcases h.2 with h2 | ⟨g, cap, cur, hv, hb, hg, r⟩
  · exact .inl h2
  · exact .inr ⟨g, cap, cur, hv, hb, (o.block g (Array.getElem?_eq_some_iff.1 hg).1).trans hg, r⟩
theorem nums_shape {w : World} {v : Value} {l : List Int} (h : NumsAt w v l) : ∃ a n c, v = .slice a n c := by
  rcases h with ⟨_, rfl⟩ | ⟨b, cap, rfl, _⟩
  · exact ⟨none, 0, 0, rfl⟩
  · exact ⟨_, _, cap, rfl⟩
theorem rows_shape {w : World} {v : Value} {L : List RowP} (h : RowsAt w v L) : ∃ a cap, v = .slice a L.length cap := by
  rcases h with ⟨rfl, rfl⟩ | ⟨g, cap, rfl, _⟩
  · exact ⟨none, 0, rfl⟩
  · exact ⟨_, cap, rfl⟩
theorem rows_len (op : Int) (n : Nat) (hn : (rowsR op).length = n) (w : World) : Calls Tryd.prog 23 #[.int .i64 op] w fun e w' => ∃ a cap, e = .returned (.slice a n cap) ∧ Out w w' := by
  refine (rows_any op w).mono ?_
  rintro e w1 ⟨⟨v, rfl, hv⟩, hout⟩
  obtain ⟨a, cap, rfl⟩ := rows_shape hv
  rw [hn]
  exact ⟨a, cap, rfl, hout⟩
set_option maxRecDepth 20000 in
theorem refOps_walk (w : World) : Calls Tryd.prog 11 #[] w fun e w' => ∃ v, e = .returned v ∧ Own w w' v opsS := by
  obtain ⟨i0, hi, hz0, hz1, hz2⟩ := info_parts info3
  go_enter Tryd.func11, Tryd.ntmps11
  go_wp2
  go_loopw [1, 2] (fun v i wr => ∃ k : Nat, k ≤ 256 ∧ i = .int .i64 k ∧ wr.ownsRow w.heap.size 3 1 v (opsUp k).length ((opsUp k).map (Value.int .i64)) ∧ Out w wr) (fun _ i _ => 256 - (intOf i).toNat)
  case atStart => exact ⟨0, by omega, rfl, World.ownsRow_nil _ _ _ _, Out.refl _⟩
  case round =>
    obtain ⟨k, hk, rfl, hown, hor⟩ := hrel
    by_cases hkl : k < 256
    · have hki : (k : Int) < 256 := by omega
      have hul := up_len k
      obtain ⟨hlen, _⟩ := rows_small (k : Int)
      cases he : (rowsR (k : Int)).isEmpty
      · have hup : Hid (opsUp (k + 1) = opsUp k ++ [(k : Int)]) := by simp [opsUp, he, Hid]
        obtain ⟨n, hn⟩ : ∃ n, (rowsR (k : Int)).length = n := ⟨_, rfl⟩
        have hpos : 0 < (n : Int) := by
          have : (rowsR (k : Int)).length ≠ 0 := by intro h; rw [List.length_eq_zero_iff.1 h] at he; simp at he
          omega
        have hrows := fun w => rows_len (k : Int) n hn w
        clear he hn hlen
        go_wp2_with (first | (go_at_call 23; refine (hrows _).mono ?_; rintro e w1 ⟨a, cap, rfl, hout⟩; have hown2 : w1.ownsRow w.heap.size 3 1 u1 (opsUp k).length ((opsUp k).map (Value.int .i64)) := ownsRow_out hown hout) | (at_builtin; refine wpList_append_own _ rfl (.tmp 11) (.tmp 13) 25 rfl w.heap.size 3 i0 (.int .i64 0) 1 8 Tryd.underlying25 hi hz0 hz1 hz2 rfl (by decide) _ _ _ rfl (hown2.alloc _) ⟨w1.heap.size, 0, none⟩ 1 1 [.int .i64 k] rfl rfl (one_new _ _ _) (one_cell _) (by simp only [maxLen]; omega) (by omega) (Nat.le_trans hor.size (Nat.le_trans hout.size (by rw [size_alloc]; omega))) ?_; intro v2 w2 hown3 hgrow1 _))
        have ho1 := own_out (Out.trans hor hout) hown2 hgrow1
        go_roundw
        case rel => exact ⟨k + 1, by omega, by simp, by rw [hup.out, List.length_append, List.map_append]; exact hown3, ho1⟩
        case measure => simp [intOf]; omega
      · have hup : Hid (opsUp (k + 1) = opsUp k) := by simp [opsUp, he, Hid]
        have hn : (rowsR (k : Int)).length = 0 := by simpa using he
        have hrows := fun w => rows_len (k : Int) 0 hn w
        clear he hn hlen
        go_wp2_with (first | (go_at_call 23; refine (hrows _).mono ?_; rintro e w1 ⟨a, cap, rfl, hout⟩; have hown2 : w1.ownsRow w.heap.size 3 1 u1 (opsUp k).length ((opsUp k).map (Value.int .i64)) := ownsRow_out hown hout))
        go_roundw
        case rel => exact ⟨k + 1, by omega, by simp, by rw [hup.out]; exact hown2, Out.trans hor hout⟩
        case measure => simp [intOf]; omega
    · obtain rfl : k = 256 := by omega
      go_wp2
      go_ret
      exact ⟨_, rfl, hown, hor⟩
theorem six_one (a b : Int) (x y z u : Bool) : (#[Value.int .i64 a, .int .i64 b, .bool x, .bool y, .bool z, .bool u] : Array Value).all (·.oneCell') = true := by simp [Value.oneCell']
end Go.Proofs.YtjlgkcnfdpnlkaaDoor
