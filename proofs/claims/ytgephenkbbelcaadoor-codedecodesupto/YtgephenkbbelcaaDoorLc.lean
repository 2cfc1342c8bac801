import Derived.Test.YtgephenkbbelcaaDoorLb
namespace Go.Proofs.YtgephenkbbelcaaDoor
open Go.RowKit
set_option linter.unusedVariables false
set_option linter.unusedSimpArgs false

def loadT : List Int := [97, 105, 113, 121, 129, 137, 145]
def storeT : List Int := [98, 106, 114, 122]
def storesT : List Int := [99, 107, 115, 123]
def atomsT : List Int := [0, 64, 80, 160, 1, 65, 81, 161, 225, 241]
theorem new_nums (w : World) (l : List Int) (t : TypeId) (b : Nat) (hb : b = w.heap.size) : ∀ j, j < l.length → (w.alloc (.cells (l.map (Value.int .i64)).toArray t)).cell? ⟨b, j, none⟩ = some (.int .i64 (l.getD j 0)) := by
  intro j hj
  rw [cell_new _ _ _ _ _ hb, getD_lt _ _ _ hj]
  simp [hj]
def movesR (op : Int) : List RowP :=
  if op == 24 then [⟨10, 1, true, false, false, true, true, 0, 0, []⟩, ⟨10, 1, true, false, false, true, false, 1, 0, []⟩]
  else if loadT.contains op then [⟨4, 1, true, true, true, false, false, 0, 0, []⟩]
  else if storeT.contains op then [⟨5, 1, true, false, true, true, false, 0, 0, []⟩]
  else if storesT.contains op then [⟨5, 1, true, true, true, false, false, 0, 0, []⟩]
  else if op == 219 || op == 195 then [⟨6, 3, true, true, true, false, false, 0, 0, atomsT⟩]
  else []
theorem hasL (op : Int) (b : Nat) (w : World) (hc : ∀ j, j < 7 → w.cell? ⟨b, j, none⟩ = some (.int .i64 (loadT.getD j 0))) : Calls Tryd.prog 43 #[.slice (some ⟨b, 0, none⟩) 7 7, .int .i64 op] w fun e w' => e = .returned (.bool (loadT.contains op)) ∧ w = w' := has_any loadT b 7 op w (by decide) hc
theorem hasS (op : Int) (b : Nat) (w : World) (hc : ∀ j, j < 4 → w.cell? ⟨b, j, none⟩ = some (.int .i64 (storeT.getD j 0))) : Calls Tryd.prog 43 #[.slice (some ⟨b, 0, none⟩) 4 4, .int .i64 op] w fun e w' => e = .returned (.bool (storeT.contains op)) ∧ w = w' := has_any storeT b 4 op w (by decide) hc
theorem hasT (op : Int) (b : Nat) (w : World) (hc : ∀ j, j < 4 → w.cell? ⟨b, j, none⟩ = some (.int .i64 (storesT.getD j 0))) : Calls Tryd.prog 43 #[.slice (some ⟨b, 0, none⟩) 4 4, .int .i64 op] w fun e w' => e = .returned (.bool (storesT.contains op)) ∧ w = w' := has_any storesT b 4 op w (by decide) hc
set_option maxHeartbeats 2000000 in
theorem moves_any' (op : Int) (w : World) : Calls Tryd.prog 42 #[.int .i64 op] w fun e w' => (∃ v, e = .returned v ∧ RowsAt w' v (movesR op)) ∧ Out w w' := by
  have hL := hasL op w.heap.size (((w.alloc (.cells #[.int .i64 97, .int .i64 105, .int .i64 113, .int .i64 121, .int .i64 129, .int .i64 137, .int .i64 145] 3)).alloc (.cells #[.int .i64 98, .int .i64 106, .int .i64 114, .int .i64 122] 3)).alloc (.cells #[.int .i64 99, .int .i64 107, .int .i64 115, .int .i64 123] 3)) (fun j hj => cell_later ((Out.refl _).alloc _ |>.alloc _) (new_nums w loadT 3 _ rfl j hj))
  have hS := hasS op (w.heap.size + 1) (((w.alloc (.cells #[.int .i64 97, .int .i64 105, .int .i64 113, .int .i64 121, .int .i64 129, .int .i64 137, .int .i64 145] 3)).alloc (.cells #[.int .i64 98, .int .i64 106, .int .i64 114, .int .i64 122] 3)).alloc (.cells #[.int .i64 99, .int .i64 107, .int .i64 115, .int .i64 123] 3)) (fun j hj => cell_later ((Out.refl _).alloc _) (new_nums (w.alloc (.cells #[.int .i64 97, .int .i64 105, .int .i64 113, .int .i64 121, .int .i64 129, .int .i64 137, .int .i64 145] 3)) storeT 3 _ (by simp) j hj))
  have hT := hasT op (w.heap.size + 1 + 1) (((w.alloc (.cells #[.int .i64 97, .int .i64 105, .int .i64 113, .int .i64 121, .int .i64 129, .int .i64 137, .int .i64 145] 3)).alloc (.cells #[.int .i64 98, .int .i64 106, .int .i64 114, .int .i64 122] 3)).alloc (.cells #[.int .i64 99, .int .i64 107, .int .i64 115, .int .i64 123] 3)) (fun j hj => new_nums ((w.alloc (.cells #[.int .i64 97, .int .i64 105, .int .i64 113, .int .i64 121, .int .i64 129, .int .i64 137, .int .i64 145] 3)).alloc (.cells #[.int .i64 98, .int .i64 106, .int .i64 114, .int .i64 122] 3)) storesT 3 _ (by simp) j hj)
  go_enter Tryd.func42, Tryd.ntmps42
  go_wp2_with (first | (go_at_call 43; refine hL.mono ?_; clear hL; rintro e w1 ⟨rfl, rfl⟩) | (go_at_call 43; refine hS.mono ?_; clear hS; rintro e w1 ⟨rfl, rfl⟩) | (go_at_call 43; refine hT.mono ?_; clear hT; rintro e w1 ⟨rfl, rfl⟩))
  all_goals go_ret
  all_goals go_light
  all_goals refine ⟨⟨_, rfl, ?_⟩, by repeat (first | exact Out.refl _ | apply Out.alloc)⟩
  · rw [show movesR op = [⟨10, 1, true, false, false, true, true, 0, 0, []⟩, ⟨10, 1, true, false, false, true, false, 1, 0, []⟩] from by simp_all [movesR]]
    exact rowsAt2 (rowAt_new (by simp) (.inl ⟨rfl, rfl⟩) rfl) (rowAt_new (by simp) (.inl ⟨rfl, rfl⟩) rfl)
  · rw [show movesR op = [⟨4, 1, true, true, true, false, false, 0, 0, []⟩] from by simp_all [movesR]]
    exact rowsAt1 (rowAt_new (by simp) (.inl ⟨rfl, rfl⟩) rfl)
  · rw [show movesR op = [⟨5, 1, true, false, true, true, false, 0, 0, []⟩] from by simp_all [movesR]]
    exact rowsAt1 (rowAt_new (by simp) (.inl ⟨rfl, rfl⟩) rfl)
  · rw [show movesR op = [⟨5, 1, true, true, true, false, false, 0, 0, []⟩] from by simp_all [movesR]]
    exact rowsAt1 (rowAt_new (by simp) (.inl ⟨rfl, rfl⟩) rfl)
  · rw [show movesR op = [⟨6, 3, true, true, true, false, false, 0, 0, atomsT⟩] from by (have e : op = 219 := by assumption); subst e; rfl]
    exact rowsAt1 (rowAt_new (by simp) (.inr ⟨_, 10, rfl, fun j hj => cell_later ((Out.refl _).alloc _) (new_nums _ atomsT 3 _ (by simp) j hj)⟩) rfl)
  · rw [show movesR op = [⟨6, 3, true, true, true, false, false, 0, 0, atomsT⟩] from by simp_all [movesR]]
    exact rowsAt1 (rowAt_new (by simp) (.inr ⟨_, 10, rfl, fun j hj => cell_later ((Out.refl _).alloc _) (new_nums _ atomsT 3 _ (by simp) j hj)⟩) rfl)
  · rw [show movesR op = [] from by simp_all [movesR]]
    exact .inl ⟨rfl, rfl⟩
end Go.Proofs.YtgephenkbbelcaaDoor
