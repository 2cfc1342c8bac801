import Derived.Test.YtgephenkbbelcaaDoorRows
import Derived.WalkKit
import Derived.WalkLawsBesides
import Derived.Outline
import Derived.LoopTactic
import Derived.Below
import Derived.Deep.LoopGhost
namespace Go.Proofs.YtgephenkbbelcaaDoor
open Go.RowKit
set_option linter.unusedVariables false
set_option linter.unusedSimpArgs false

theorem idx10 (f : Nat → Int) (k : Nat) (hk : (k : Int) < 10) (w : World) : (Instr.index 89 (.agg #[.int .u8 (f 0), .int .u8 (f 1), .int .u8 (f 2), .int .u8 (f 3), .int .u8 (f 4), .int .u8 (f 5), .int .u8 (f 6), .int .u8 (f 7), .int .u8 (f 8), .int .u8 (f 9)]) (.int .i64 k)).run Tryd.prog w = .ok (.int .u8 (f k)) w := by
  rcases (show k = 0 ∨ k = 1 ∨ k = 2 ∨ k = 3 ∨ k = 4 ∨ k = 5 ∨ k = 6 ∨ k = 7 ∨ k = 8 ∨ k = 9 from by omega) with rfl | rfl | rfl | rfl | rfl | rfl | rfl | rfl | rfl | rfl <;> kernel_rfl
theorem idx11 (s : Nat → Value) (k : Nat) (hk : (k : Int) < 11) (w : World) : (Instr.index 86 (.agg #[s 0, s 1, s 2, s 3, s 4, s 5, s 6, s 7, s 8, s 9, s 10]) (.int .i64 k)).run Tryd.prog w = .ok (s k) w := by
  rcases (show k = 0 ∨ k = 1 ∨ k = 2 ∨ k = 3 ∨ k = 4 ∨ k = 5 ∨ k = 6 ∨ k = 7 ∨ k = 8 ∨ k = 9 ∨ k = 10 from by omega) with rfl | rfl | rfl | rfl | rfl | rfl | rfl | rfl | rfl | rfl | rfl <;> kernel_rfl
set_option maxRecDepth 20000 in
theorem atomic_walk (n : Int) (w : World) (f : Nat → Int) (r : Bool) (hb : ∀ k, 0 ≤ f k ∧ f k < 256) (hl : ∀ k, k < 10 → w.cell? ⟨1, k, none⟩ = some (.int .u8 (f k)))
    (h1 : Hid (∀ k, k < 10 → f k = n → r = true)) (h2 : Hid ((∀ k, k < 10 → f k ≠ n) → r = false)) :
    Calls Tryd.prog 55 #[.int .i64 n] w fun e w' => e = .returned (.bool r) ∧ w = w' := by
  have hix := idx10 f
  go_enter Tryd.func55, Tryd.ntmps55
  go_wp2
  go_loop [6] (fun i => ∃ k : Nat, k ≤ 10 ∧ i = .int .i64 k ∧ Hid (∀ j, j < k → f j ≠ n)) (fun i => 10 - (intOf i).toNat)
  case atStart => exact ⟨0, by omega, rfl, fun j hj => by omega⟩
  case round =>
    obtain ⟨k, hk, rfl, hno⟩ := hrel
    obtain ⟨b0, b1⟩ := hb k
    go_wp2
    · have e : (f k == n) = true := by assumption
      have := h1.out k (by omega) (by simpa using e)
      subst this
      go_ret
      exact ⟨rfl, rfl⟩
    · have e : (f k == n) = false := by assumption
      refine ⟨⟨k + 1, by omega, by simp, fun j hj => ?_⟩, by simp [intOf]; omega⟩
      by_cases z : j = k
      · subst z; simpa using e
      · exact hno.out j (by omega)
    · obtain rfl : k = 10 := by omega
      have := h2.out hno.out
      subst this
      go_ret
      exact ⟨rfl, rfl⟩

set_option maxRecDepth 20000 in
theorem formOf_walk (op r : Int) (w : World) (s : Nat → Value) (n : Nat → Nat) (f : Nat → Nat → Int) (hb : ∀ k j, 0 ≤ f k j ∧ f k j < 256) (hl : ∀ k, k < 11 → w.cell? ⟨0, k, none⟩ = some (s k)) (hn : ∀ k, n k ≤ 100)
    (hs : ∀ k, k < 11 → (s k = .slice none 0 0 ∧ n k = 0) ∨ ∃ b o c, s k = .slice (some ⟨b, o, none⟩) (n k) c ∧ ∀ j, j < n k → w.cell? ⟨b, o + j, none⟩ = some (.int .u8 (f k j)))
    (h1 : Hid (∀ k j, k < 11 → j < n k → f k j = op → r = k)) (h2 : Hid ((∀ k j, k < 11 → j < n k → f k j ≠ op) → r = 0)) :
    Calls Tryd.prog 45 #[.int .i64 op] w fun e w' => e = .returned (.int .i64 r) ∧ w = w' := by
  have hix := idx11 s
  go_enter Tryd.func45, Tryd.ntmps45
  go_wp2
  go_loop [8] (fun i => ∃ k : Nat, k ≤ 11 ∧ i = .int .i64 k ∧ Hid (∀ k' j, k' < k → j < n k' → f k' j ≠ op)) (fun i => 11 - (intOf i).toNat)
  case atStart => exact ⟨0, by omega, rfl, fun k' j hk' => by omega⟩
  case round =>
    obtain ⟨k, hk, rfl, hno⟩ := hrel
    by_cases z : k = 11
    · subst z
      have := h2.out (fun k j hk hj => hno.out k j hk hj)
      subst this
      go_wp2
      go_ret
      exact ⟨rfl, rfl⟩
    have hkl : (k : Int) < 11 := by omega
    rcases hs k (by omega) with ⟨e, en⟩ | ⟨b, o, c, e, hc⟩
    · clear hs
      go_wp2
      refine wp_loop_rounds 1 ?_
      rw [rounds_succ]
      go_wp2
      refine ⟨⟨k + 1, by omega, by simp, fun k' j hk' hj => ?_⟩, by simp [intOf]; omega⟩
      by_cases y : k' = k
      · subst y; omega
      · exact hno.out k' j (by omega) hj
    · clear hs
      have hnk := hn k
      go_wp2
      go_loop [14] (fun i => ∃ j : Nat, j ≤ n k ∧ i = .int .i64 j ∧ Hid (∀ j', j' < j → f k j' ≠ op)) (fun i => n k - (intOf i).toNat)
      case atStart => exact ⟨0, by omega, rfl, fun j hj => by omega⟩
      case round =>
        obtain ⟨j, hj, rfl, hnj⟩ := hrel
        obtain ⟨b0, b1⟩ := hb k j
        go_wp2
        · have e : (f k j == op) = true := by assumption
          have := h1.out k j (by omega) (by omega) (by simpa using e)
          subst this
          go_ret
          exact ⟨rfl, rfl⟩
        · have e : (f k j == op) = false := by assumption
          refine ⟨⟨j + 1, by omega, by simp, fun j' hj' => ?_⟩, by simp [intOf]; omega⟩
          by_cases y : j' = j
          · subst y; simpa using e
          · exact hnj.out j' (by omega)
        · refine ⟨⟨k + 1, by omega, by simp, fun k' j' hk' hj' => ?_⟩, by simp [intOf]; omega⟩
          by_cases y : k' = k
          · subst y; exact hnj.out j' (by omega)
          · exact hno.out k' j' (by omega) hj'
end Go.Proofs.YtgephenkbbelcaaDoor
