import Derived.Test.YtbdmbicnlfcclaaSyr
namespace Go.Proofs.Ytbdmbicnlfcclaa
open Go.RowKit
set_option linter.unusedVariables false
set_option linter.unusedSimpArgs false
theorem write_s1 (w : World) (g : Nat) (hg : w.heap[g]? = some (.cells #[.int .i64 258, .int .i64 1, .int .i64 0, .int .i64 0, .int .i64 0, .int .i64 0] 57 (0, 0))) : Calls Try.prog 15 #[.slice (some ⟨g, 0, none⟩) 1 1] w fun e w' => ∃ a c, e = .returned (.tuple #[.slice a 48 c, .int .i64 0]) ∧ OwB w.heap.size (.slice a 48 c) (List.replicate 24 0 ++ [2, 1, 0, 0, 16] ++ List.replicate 19 0) w' ∧ Out w w' := by
  have hs : SyAt w.heap.size w (some ⟨g, 0, none⟩) [s1] := by
    refine .inr ⟨g, 0, (Array.getElem?_eq_some_iff.1 hg).1, rfl, fun k u hu => ?_⟩
    rw [Nat.zero_add, box_cell hg, ← Array.getElem?_toList]
    exact hu
  refine (write_any w (some ⟨g, 0, none⟩) 1 [s1] hs (by simp) (by simp) (fun s h => by rw [List.mem_singleton.1 h]; exact ⟨by decide, by decide⟩)).mono ?_
  rw [wr_s1]
  rintro e w' ⟨ho, a, c, he, h⟩
  exact ⟨a, c, he, h, ho⟩
theorem read_24 (w : World) (g c : Nat) (hg : g < w.heap.size) (h : BAt w g 0 (List.replicate 24 0)) (hc : 24 ≤ c) : Calls Try.prog 17 #[.slice (some ⟨g, 0, none⟩) 24 c] w fun e w' => ∃ a c', e = .returned (.tuple #[.slice a 0 c', .int .i64 0, .int .i64 0]) ∧ Out w w' := by
  refine (read_any w g 0 c (List.replicate 24 0) hg h (by simpa using hc) (by simp)).mono ?_
  rw [rd_24]
  rintro e w' ⟨ho, a, c', he, _⟩
  exact ⟨a, c', he, ho⟩
theorem read_48 (w : World) (g c : Nat) (hg : g < w.heap.size) (h : BAt w g 0 (List.replicate 48 0)) (hc : 48 ≤ c) : Calls Try.prog 17 #[.slice (some ⟨g, 0, none⟩) 48 c] w fun e w' => e = .returned (.tuple #[.slice none 0 0, .int .i64 28, .int .i64 100]) ∧ Out w w' := by
  refine (read_any w g 0 c (List.replicate 48 0) hg h (by simpa using hc) (by simp)).mono ?_
  rw [rd_48]
  rintro e w' ⟨ho, he⟩
  exact ⟨he, ho⟩
end Go.Proofs.Ytbdmbicnlfcclaa
