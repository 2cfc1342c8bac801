import Derived.Test.YtgephenkbbelcaaDoorLb
import Derived.OwnWalk
import Derived.Laws.AppendOwn
namespace Go.Proofs.YtgephenkbbelcaaDoor
open Go.RowKit
set_option linter.unusedVariables false
set_option linter.unusedSimpArgs false

def binR (group : Int) (src : Bool) (offIs : Int) : RowP := ⟨3, group, true, src, false, !src, false, 0, offIs, []⟩
def arithR (c code : Int) (src : Bool) : List RowP :=
  if code == 128 && !src then [⟨2, 1, true, false, false, false, false, 0, 0, []⟩]
  else if code == 208 && (c == 4 || !src) then [⟨2, 1, true, false, false, false, false, 0, 0, [16, 32, 64]⟩]
  else if code == 128 || decide (192 < code) then []
  else if code == 48 || code == 144 then [binR 2 src 0, binR 2 src 1]
  else if code == 176 && src then (if c == 7 then [binR 1 src 0, binR 1 src 8, binR 1 src 16, binR 1 src 32] else [binR 1 src 0, binR 1 src 8, binR 1 src 16])
  else [binR (if code == 32 then 2 else 1) src 0]
theorem info56 : (Tryd.prog.info? 74).map (fun i => (i.zero, i.size, i.bytes)) = some (some (.agg #[.int .i64 0, .int .i64 0, .bool false, .bool false, .bool false, .bool false, .bool false, .int .i64 0, .int .i64 0, .slice none 0 0]), 10, 64) := by kernel_rfl
theorem arith_1 (c : Int) (w : World) : Calls Tryd.prog 40 #[.int .i64 c, .int .i64 128, .bool false] w fun e w' => (∃ v, e = .returned v ∧ RowsAt w' v (arithR c 128 false)) ∧ Out w w' := by
  go_enter Tryd.func40, Tryd.ntmps40
  go_wp2
  go_ret
  go_light
  refine ⟨⟨_, rfl, ?_⟩, by repeat (first | exact Out.refl _ | apply Out.alloc)⟩
  rw [show arithR c 128 false = [⟨2, 1, true, false, false, false, false, 0, 0, []⟩] from by simp [arithR]]
  exact rowsAt1 (rowAt_new (by simp) (.inl ⟨rfl, rfl⟩) rfl)
theorem new3 (w : World) (l : List Int) (t : TypeId) (b : Nat) (hb : b = w.heap.size) : ∀ j, j < l.length → (w.alloc (.cells (l.map (Value.int .i64)).toArray t)).cell? ⟨b, j, none⟩ = some (.int .i64 (l.getD j 0)) := by
  intro j hj
  rw [cell_new _ _ _ _ _ hb, getD_lt _ _ _ hj]
  simp [hj]
theorem arith_2 (c : Int) (src : Bool) (hs : c = 4 ∨ ((c == 4) = false ∧ src = false)) (w : World) : Calls Tryd.prog 40 #[.int .i64 c, .int .i64 208, .bool src] w fun e w' => (∃ v, e = .returned v ∧ RowsAt w' v (arithR c 208 src)) ∧ Out w w' := by
  rcases hs with rfl | ⟨hc, rfl⟩
  · rw [show arithR 4 208 src = [⟨2, 1, true, false, false, false, false, 0, 0, [16, 32, 64]⟩] from by cases src <;> simp [arithR]]
    go_enter Tryd.func40, Tryd.ntmps40
    go_wp2
    all_goals go_ret
    all_goals go_light
    all_goals refine ⟨⟨_, rfl, ?_⟩, by repeat (first | exact Out.refl _ | apply Out.alloc)⟩
    all_goals exact rowsAt1 (rowAt_new (by simp) (.inr ⟨_, 3, rfl, fun j hj => cell_later ((Out.refl _).alloc _) (new3 _ [16, 32, 64] 3 _ rfl j hj)⟩) rfl)
  · rw [show arithR c 208 false = [⟨2, 1, true, false, false, false, false, 0, 0, [16, 32, 64]⟩] from by simp [arithR]]
    go_enter Tryd.func40, Tryd.ntmps40
    go_wp2
    all_goals go_ret
    all_goals go_light
    all_goals refine ⟨⟨_, rfl, ?_⟩, by repeat (first | exact Out.refl _ | apply Out.alloc)⟩
    all_goals exact rowsAt1 (rowAt_new (by simp) (.inr ⟨_, 3, rfl, fun j hj => cell_later ((Out.refl _).alloc _) (new3 _ [16, 32, 64] 3 _ rfl j hj)⟩) rfl)
theorem arith_3 (c : Int) (w : World) : Calls Tryd.prog 40 #[.int .i64 c, .int .i64 128, .bool true] w fun e w' => (∃ v, e = .returned v ∧ RowsAt w' v (arithR c 128 true)) ∧ Out w w' := by
  rw [show arithR c 128 true = [] from by simp [arithR]]
  go_enter Tryd.func40, Tryd.ntmps40
  go_wp2
  all_goals go_ret
  exact ⟨⟨_, rfl, .inl ⟨rfl, rfl⟩⟩, Out.refl _⟩
theorem arith_4 (c code : Int) (src : Bool) (h : 192 < code) (h2 : (code == 208) = false ∨ ((c == 4) = false ∧ src = true)) (w : World) : Calls Tryd.prog 40 #[.int .i64 c, .int .i64 code, .bool src] w fun e w' => (∃ v, e = .returned v ∧ RowsAt w' v (arithR c code src)) ∧ Out w w' := by
  have a1 : (code == 128) = false := by simp; omega
  rcases h2 with h2 | ⟨h2, rfl⟩
  · rw [show arithR c code src = [] from by simp [arithR, a1, h, h2]]
    go_enter Tryd.func40, Tryd.ntmps40
    go_wp2
    all_goals go_ret
    all_goals exact ⟨⟨_, rfl, .inl ⟨rfl, rfl⟩⟩, Out.refl _⟩
  · rw [show arithR c code true = [] from by simp [arithR, a1, h, h2]]
    go_enter Tryd.func40, Tryd.ntmps40
    go_wp2
    all_goals go_ret
    all_goals exact ⟨⟨_, rfl, .inl ⟨rfl, rfl⟩⟩, Out.refl _⟩
theorem arith_5 (c code : Int) (src : Bool) (h : code ≤ 192) (a0 : (code == 128) = false) (a1 : (code == 48) = false) (a2 : (code == 144) = false) (a3 : (code == 32) = false) (h4 : (code == 176) = false ∨ src = false) (w : World) :
    Calls Tryd.prog 40 #[.int .i64 c, .int .i64 code, .bool src] w fun e w' => (∃ v, e = .returned v ∧ RowsAt w' v (arithR c code src)) ∧ Out w w' := by
  have a5 : (code == 208) = false := by simp; omega
  have a6 : ¬ 192 < code := by omega
  rw [show arithR c code src = [binR 1 src 0] from by rcases h4 with h4 | h4 <;> simp [arithR, a0, a1, a2, a3, a5, a6, h4]]
  cases hb : (code == 176)
  · go_enter Tryd.func40, Tryd.ntmps40
    go_wp2
    refine wp_loop_rounds 1 ?_
    rw [rounds_succ]
    go_wp2
    all_goals go_ret
    all_goals go_light
    all_goals refine ⟨⟨_, rfl, ?_⟩, by repeat (first | exact Out.refl _ | apply Out.alloc)⟩
    all_goals exact rowsAt1 (rowAt_new (by simp) (.inl ⟨rfl, rfl⟩) rfl)
  · obtain rfl : src = false := by simpa [hb] using h4
    go_enter Tryd.func40, Tryd.ntmps40
    go_wp2
    refine wp_loop_rounds 1 ?_
    rw [rounds_succ]
    go_wp2
    all_goals go_ret
    all_goals go_light
    all_goals refine ⟨⟨_, rfl, ?_⟩, by repeat (first | exact Out.refl _ | apply Out.alloc)⟩
    all_goals exact rowsAt1 (rowAt_new (by simp) (.inl ⟨rfl, rfl⟩) rfl)
theorem arith_6 (c : Int) (src : Bool) (w : World) : Calls Tryd.prog 40 #[.int .i64 c, .int .i64 32, .bool src] w fun e w' => (∃ v, e = .returned v ∧ RowsAt w' v (arithR c 32 src)) ∧ Out w w' := by
  rw [show arithR c 32 src = [binR 2 src 0] from by simp [arithR]]
  go_enter Tryd.func40, Tryd.ntmps40
  go_wp2
  refine wp_loop_rounds 1 ?_
  rw [rounds_succ]
  go_wp2
  all_goals go_ret
  all_goals go_light
  all_goals refine ⟨⟨_, rfl, ?_⟩, by repeat (first | exact Out.refl _ | apply Out.alloc)⟩
  all_goals exact rowsAt1 (rowAt_new (by simp) (.inl ⟨rfl, rfl⟩) rfl)
end Go.Proofs.YtgephenkbbelcaaDoor
