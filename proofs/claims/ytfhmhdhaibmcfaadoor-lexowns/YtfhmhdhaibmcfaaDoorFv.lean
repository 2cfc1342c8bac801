import Derived.Test.YtfhmhdhaibmcfaaDoorFu
namespace Go.Proofs.YtfhmhdhaibmcfaaDoor
open Go.RowKit
set_option linter.unusedVariables false
set_option linter.unusedSimpArgs false
theorem refNum_any (n : Int) (w : World) : Calls Tryd.prog 17 #[.int .i64 n] w fun e w' => e = .returned (.int .i64 n) ∧ w = w' := by
  go_enter Tryd.func17, Tryd.ntmps17
  go_wp2
  go_ret
  exact ⟨rfl, rfl⟩
theorem owns_void (w : World) (B size : Nat) (e : TypeId) (hB : B ≤ w.heap.size) : (w.alloc (.cells #[] e)).ownsRow B e size (.slice (some ⟨w.heap.size, 0, none⟩) 0 0) 0 [] :=
  ⟨by simp, .inr ⟨w.heap.size, 0, #[], rfl, hB, heap_alloc_new w _, Nat.le_refl _, by decide, by simp, by simp⟩⟩
set_option maxHeartbeats 800000 in
theorem copyBytes_any (w : World) (a : Option Addr) (cap : Nat) (l : List UInt8) (hr : RestAt w.heap.size w a l) (hll : l.length ≤ 140737488351232) : Calls Tryd.prog 14 #[.slice a l.length cap] w fun e w' => ∃ v, e = .returned v ∧ OwB w.heap.size v l w' ∧ Out w w' := by
  obtain ⟨i0, hi, hz0, hz1, hz2⟩ := info_parts infoB
  have H0 := hidOf (owns_void w w.heap.size 1 5 (Nat.le_refl _))
  cases a with
  | none =>
    obtain rfl : l = [] := by
      rcases hr with h | ⟨b, off, _, h, _⟩
      · exact h
      · cases h
    simp only [List.length_nil]
    go_enter Tryd.func14, Tryd.ntmps14
    go_wp2
    go_ret
    exact ⟨_, rfl, H0.out, Out.alloc (Out.refl _) _⟩
  | some ad =>
    have HC : Hid (∀ j u, (Lib.byteCells l)[j]? = some u → (w.alloc (.cells #[] 5)).cell? (ad.add j) = some u) := fun j u hu => by
      simp only [Lib.byteCells, List.getElem?_map, Option.map_eq_some_iff] at hu
      obtain ⟨x, hx, rfl⟩ := hu
      rcases hr with rfl | ⟨b, off, _, h, hc⟩
      · simp at hx
      · cases h
        rw [WideShapes.add_plain]
        exact cell_later ((Out.refl w).alloc _) (hc j x hx)
    clear hr
    go_enter Tryd.func14, Tryd.ntmps14
    go_wp2_with (at_builtin; refine wpList_append_own _ rfl (.tmp 3) (.tmp 4) 22 rfl w.heap.size 5 i0 _ 1 1 Tryd.underlying22 hi hz0 hz1 hz2 rfl (by decide) (.slice (some ⟨w.heap.size, 0, none⟩) 0 0) 0 [] rfl H0.out ad l.length cap (Lib.byteCells l) rfl (by rw [Lib.byteCells_length, Nat.mul_one]) HC.out (bc_one l) (by unfold maxLen; omega) (by omega) (by rw [size_alloc]; omega) ?_; intro v' w3 hown' hgrow _; have H3 := hidOf (out_own rfl H0.out ((Out.refl w).alloc _) hgrow); have HN : Hid (OwB w.heap.size v' l w3) := OwB.mk (O := []) (P := l) hown' rfl (Nat.zero_add _); clear hown' hgrow)
    go_ret
    exact ⟨_, rfl, HN.out, H3.out⟩
end Go.Proofs.YtfhmhdhaibmcfaaDoor
