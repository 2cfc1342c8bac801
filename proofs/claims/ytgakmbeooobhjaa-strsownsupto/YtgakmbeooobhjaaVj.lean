import Derived.Test.YtgakmbeooobhjaaVi
namespace Go.Proofs.Ytgakmbeooobhjaa
open Go.RowKit
open Go.Maps (Keyed)
set_option linter.unusedVariables false
set_option linter.unusedSimpArgs false
theorem add_nil (x : List UInt8) (w : World) : Calls Try.prog 19 #[.pointer none, .string ⟨x.toArray⟩] w fun e w' => e = .returned (.tuple #[.int .i64 0, .int .i64 1]) ∧ w' = w := by
  go_enter Try.func19, Try.ntmps19
  go_wp2
  go_ret2
  exact ⟨rfl, rfl⟩
theorem at_nil (q : Int) (w : World) : Calls Try.prog 22 #[.pointer none, .int .i64 q] w fun e w' => e = .returned (.tuple #[.string ⟨#[]⟩, .int .i64 1]) ∧ w' = w := by
  go_enter Try.func22, Try.ntmps22
  go_wp2
  go_ret2
  exact ⟨rfl, rfl⟩
theorem names_nil (w : World) : Calls Try.prog 30 #[.pointer none] w fun e w' => e = .returned (.tuple #[.slice none 0 0, .int .i64 1]) ∧ w' = w := by
  go_enter Try.func30, Try.ntmps30
  go_wp2
  go_ret2
  exact ⟨rfl, rfl⟩
theorem bytes_nil (w : World) : Calls Try.prog 20 #[.pointer none] w fun e w' => e = .returned (.tuple #[.slice none 0 0, .int .i64 1]) ∧ w' = w := by
  go_enter Try.func20, Try.ntmps20
  go_wp2
  go_ret2
  exact ⟨rfl, rfl⟩
/-- a desk without a table -/
def DkN (d : Nat) (w : World) : Prop := w.heap[d]? = some (.cells #[.pointer none, .slice none 0 0] 68 (0, 0))
theorem DkN.lt {d : Nat} {w : World} (h : DkN d w) : d < w.heap.size := (Array.getElem?_eq_some_iff.1 h).1
theorem DkN.c0 {d : Nat} {w : World} (h : DkN d w) : w.cell? ⟨d, 0, none⟩ = some (.pointer none) := by
  have h' : w.heap[d]? = some (.cells #[.pointer none, .slice none 0 0] 68 (0, 0)) := h
  simp [World.cell?, h']
theorem DkN.out {d : Nat} {w w' : World} (h : DkN d w) (o : Out w w') : DkN d w' := (o.block d h.lt).trans h
set_option maxRecDepth 20000 in
set_option maxHeartbeats 2000000 in
theorem nothing_any (d : Nat) (x : Ac) (w : World) (h : DkN d w) : Calls Try.prog 27 #[.pointer (some ⟨d, 0, none⟩), .agg x.cs] w fun e w' => e = .returned (.bool true) ∧ Out w w' := by
  obtain ⟨xw, xk, xs, xp⟩ := x
  obtain ⟨w1, hw1⟩ : ∃ w1, w1 = w.alloc (.cells (Ac.cs ⟨xw, xk, xs, xp⟩) 29) := ⟨_, rfl⟩
  have HB : Hid (AcB w1 w.heap.size ⟨xw, xk, xs, xp⟩) := by rw [hw1]; exact heap_alloc_new _ _
  have Ho : Hid (Out w w1) := by rw [hw1]; exact (Out.refl w).alloc _
  have HD := hidOf (h.out Ho.out)
  have CA := hidOf (fun wx => (add_nil xs wx))
  have CT := hidOf (fun wx => (at_nil xp wx))
  clear h
  show Calls _ _ #[_, .agg #[.int .i64 xw, .int .i64 xk, .string ⟨xs.toArray⟩, .int .i64 xp]] _ _
  go_enter Try.func27, Try.ntmps27
  go_upto_region 1 with fail
  rw [show w.alloc (.cells #[.int .i64 xw, .int .i64 xk, .string ⟨xs.toArray⟩, .int .i64 xp] 29) = w1 from hw1.symm]
  clear hw1
  have k1 : w1.cell? ⟨w.heap.size, 1, none⟩ = some (.int .i64 xk) := HB.out.cell 1
  have k2 : w1.cell? ⟨w.heap.size, 2, none⟩ = some (.string ⟨xs.toArray⟩) := HB.out.cell 2
  have k3 : w1.cell? ⟨w.heap.size, 3, none⟩ = some (.int .i64 xp) := HB.out.cell 3
  have c0 := HD.out.c0
  by_cases h1 : xk = 1
  · subst h1
    go_wp2_with (go_quiet ((go_at_call 19; exact Calls.quiet_of_same (CA.out _))))
    go_ret
    exact ⟨rfl, Ho.out.drewN _⟩
  have e1 : (xk == 1) = false := by simpa using h1
  by_cases h2 : xk = 2
  · subst h2
    clear h1 e1
    go_wp2_with (go_quiet ((go_at_call 22; exact Calls.quiet_of_same (CT.out _))))
    go_ret
    exact ⟨rfl, Ho.out.drewN _⟩
  have e2 : (xk == 2) = false := by simpa using h2
  by_cases h3 : xk = 3
  · subst h3
    clear h1 e1 h2 e2
    go_wp2_with (go_at_call 30; refine (names_nil _).mono ?_; rintro e w2 ⟨rfl, hw⟩; have hw := hw.symm; subst hw)
    go_ret
    exact ⟨rfl, Ho.out⟩
  have e3 : (xk == 3) = false := by simpa using h3
  by_cases h4 : xk = 4
  · subst h4
    clear h1 e1 h2 e2 h3 e3
    go_wp2_with (go_at_call 20; refine (bytes_nil _).mono ?_; rintro e w2 ⟨rfl, hw⟩; have hw := hw.symm; subst hw)
    go_ret
    exact ⟨rfl, Ho.out⟩
  have e4 : (xk == 4) = false := by simpa using h4
  clear h1 h2 h3 h4
  go_wp2
  go_ret
  exact ⟨rfl, Ho.out⟩
set_option maxRecDepth 20000 in
set_option maxHeartbeats 2000000 in
theorem act_nil (d : Nat) (x : Ac) (w : World) (h : DkN d w) : Calls Try.prog 9 #[.pointer (some ⟨d, 0, none⟩), .agg x.cs] w fun e w' => e = .returned (.tuple #[.bool true, .slice none 0 0, .slice none 0 0]) ∧ Out w w' := by
  have Ho : Hid (Out w (w.alloc (.cells (Ac.cs x) 29))) := (Out.refl w).alloc _
  have CN := hidOf (nothing_any d x _ (h.out Ho.out))
  have c0 : ∀ O, (w.alloc O).cell? ⟨d, 0, none⟩ = some (.pointer none) := fun O => (h.out ((Out.refl w).alloc O)).c0
  obtain ⟨xw, xk, xs, xp⟩ := x
  clear h
  simp only [Ac.cs] at CN Ho
  show Calls _ _ #[_, .agg #[.int .i64 xw, .int .i64 xk, .string ⟨xs.toArray⟩, .int .i64 xp]] _ _
  go_enter Try.func9, Try.ntmps9
  go_wp2_with (go_at_call 27; refine (CN.out).mono ?_; rintro e w2 ⟨rfl, ho⟩; have P2 := hidOf ho; clear ho)
  go_ret3
  exact ⟨rfl, Ho.out.trans P2.out⟩
end Go.Proofs.Ytgakmbeooobhjaa
