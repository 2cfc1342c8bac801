import Derived.Test.YtoobdcjkhphlcaaReh
namespace Go.Proofs.Ytoobdcjkhphlcaa
open Go.RowKit
set_option linter.unusedVariables false
set_option linter.unusedSimpArgs false
theorem write_nil (w : World) : Calls Try.prog 13 #[.slice none 0 0] w fun e w' => ∃ a c, e = .returned (.tuple #[.slice a 0 c, .int .i64 0]) ∧ Out w w' := by
  refine (write_any w none 0 [] (.inl rfl) (by simp) (by simp)).mono ?_
  rintro e w' ⟨ho, a, c, he, _⟩
  exact ⟨a, c, he, ho⟩
theorem read_nil (w : World) : Calls Try.prog 16 #[.slice none 0 0] w fun e w' => ∃ a c, e = .returned (.tuple #[.slice a 0 c, .int .i64 0, .int .i64 0]) ∧ Out w w' := by
  refine (read_any w none 0 [] (.inl rfl) (by simp) (by simp)).mono ?_
  rintro e w' ⟨ho, a, c, he, _⟩
  exact ⟨a, c, he, ho⟩
def bOne : List UInt8 := [16, 0, 0, 0, 0, 0, 0, 0, 10, 0, 0, 0, 5, 0, 0, 0]
theorem wr_one : wrP [⟨2, 2, 5⟩] = (some bOne, 0) := by decide
theorem write_one (w : World) (g : Nat) (hg : w.heap[g]? = some (.cells #[.int .i64 2, .int .i64 2, .int .i64 5] 27 (0, 0))) : Calls Try.prog 13 #[.slice (some ⟨g, 0, none⟩) 1 1] w fun e w' => ∃ g' c, e = .returned (.tuple #[.slice (some ⟨g', 0, none⟩) 16 c, .int .i64 0]) ∧ w'.cell? ⟨g', 0, none⟩ = some (.int .u8 16) ∧ w'.cell? ⟨g', 8, none⟩ = some (.int .u8 10) ∧ w'.cell? ⟨g', 12, none⟩ = some (.int .u8 5) ∧ Out w w' := by
  have hs : RlAt w.heap.size w (some ⟨g, 0, none⟩) [⟨2, 2, 5⟩] := by
    refine .inr ⟨g, 0, (Array.getElem?_eq_some_iff.1 hg).1, rfl, fun k u hu => ?_⟩
    rw [Nat.zero_add, box_cell hg, ← Array.getElem?_toList]
    exact hu
  refine (write_any w (some ⟨g, 0, none⟩) 1 [⟨2, 2, 5⟩] hs (by simp) (by simp)).mono ?_
  rw [wr_one]
  rintro e w' ⟨ho, a, c, he, h⟩
  obtain ⟨g1, cap, hv, _, h0⟩ := own_cell h (k := 0) (u := .int .u8 16) rfl
  obtain ⟨g2, cap2, hv2, _, h8⟩ := own_cell h (k := 8) (u := .int .u8 10) rfl
  obtain ⟨g3, cap3, hv3, _, h12⟩ := own_cell h (k := 12) (u := .int .u8 5) rfl
  rw [hv] at hv2 hv3
  injection hv2 with e1
  injection hv3 with e2
  obtain rfl : g1 = g2 := by simpa using e1
  obtain rfl : g1 = g3 := by simpa using e2
  refine ⟨g1, cap, ?_, h0, h8, h12, ho⟩
  rw [he, hv]
  rfl
set_option maxRecDepth 8000 in
set_option maxHeartbeats 1000000 in
theorem awake11 (w : World) : Calls Try.prog 9 #[] w fun e w' => e = .returned (.bool true) ∧ Out w w' := by
  have CW := hidOf write_nil
  have CR := hidOf read_nil
  have C1 := hidOf write_one
  go_enter Try.func9, Try.ntmps9
  go_upto_region 3 with (first | (go_at_call 13; refine (CW.out _).mono ?_; rintro e w1 ⟨a1, c1, rfl, hO⟩; have HO1 := hidOf hO; clear hO) | (go_at_call 16; refine (CR.out _).mono ?_; rintro e w2 ⟨a2, c2, rfl, hO⟩; have HO2 := hidOf (HO1.out.trans hO); clear hO))
  have HN : Hid ((w2.alloc (.cells #[.int .i64 2, .int .i64 2, .int .i64 5] 27)).heap[w2.heap.size]? = some (.cells #[.int .i64 2, .int .i64 2, .int .i64 5] 27 (0, 0))) := hidOf (heap_alloc_new w2 _)
  have HO3 := hidOf (HO2.out.alloc (.cells #[.int .i64 2, .int .i64 2, .int .i64 5] 27))
  go_upto_region 6 with (go_at_call 13; refine (C1.out _ _ HN.out).mono ?_; rintro e w3 ⟨g3, c3, rfl, k0, k8, k12, hO⟩; have HO4 := hidOf (HO3.out.trans hO); clear hO)
  go_wp2
  go_ret
  exact ⟨rfl, HO4.out⟩
end Go.Proofs.Ytoobdcjkhphlcaa
