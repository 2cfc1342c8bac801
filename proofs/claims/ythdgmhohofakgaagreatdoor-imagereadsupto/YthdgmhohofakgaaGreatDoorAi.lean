import Derived.Test.YthdgmhohofakgaaGreatDoorAg
namespace Go.Proofs.YthdgmhohofakgaaGreatDoor
open Go.RowKit
open Go.Maps (Keyed)
set_option linter.unusedVariables false
set_option linter.unusedSimpArgs false
def cntOf (p : Nat) (w : World) : Nat := match w.cell? ⟨p, 0, none⟩ with | some (.slice _ n _) => n | _ => 0
/-- the rest of a reading -/
def rdR (l : List UInt8) (N : List (List UInt8)) : Option (List (List UInt8)) × Nat := rdF l.length l N
theorem rdR_nil (N : List (List UInt8)) : rdR [] N = (some N, 0) := rfl
theorem rdR_bad (l : List UInt8) (N : List (List UInt8)) (h : ¬ l = []) (hx : nmP l ∈ N ∨ nmP l = []) : rdR l N = (none, szF 1 N) := by
  cases l with
  | nil => exact absurd rfl h
  | cons c r => show rdF (r.length + 1) (c :: r) N = _; unfold rdF; rw [if_pos hx]
theorem rdR_ok (l : List UInt8) (N : List (List UInt8)) (h : ¬ l = []) (hx : ¬ nmP l ∈ N) (h0 : ¬ nmP l = []) : rdR l N = rdR (l.drop ((nmP l).length + 1)) (N ++ [nmP l]) := by
  cases l with
  | nil => exact absurd rfl h
  | cons c r =>
    show rdF (r.length + 1) (c :: r) N = _
    unfold rdF
    rw [if_neg (by simp [hx, h0])]
    exact rdF_fuel _ _ _ _ (by rw [List.length_drop]; simp) (Nat.le_refl _)
theorem rdP_zero (r : List UInt8) : rdP (0 :: r) = rdR r [] := rfl
/-- a name has a 0 behind it -/
theorem nmP_end (l : List UInt8) (h : ¬ nmP l = []) : (nmP l).length + 1 ≤ l.length := by
  have h0 : (l.take 65).contains 0 = true := by
    unfold nmP at h
    split at h
    · assumption
    · exact absurd rfl h
  rcases nmP_idx l with hi | ⟨hi, he⟩
  · have := (Lib.indexByte_some (l := l.take 65) (c := 0) hi).1
    have h2 := (List.getElem?_eq_some_iff.1 this).1
    rw [List.length_take] at h2
    omega
  · exact absurd he h
/-- what Read leaves -/
def REnd (w : World) (l : List UInt8) (e : Ending) (w' : World) : Prop :=
  Out w w' ∧ ((rdP l).1 = none ∧ e = .returned (.tuple #[.pointer none, .int .i64 (rdP l).2, .int .i64 80]) ∨ ∃ N p, (rdP l).1 = some N ∧ e = .returned (.tuple #[.pointer (some ⟨p, 0, none⟩), .int .i64 0, .int .i64 0]) ∧ szF 1 N = l.length ∧ w.heap.size ≤ p ∧ Tab p w' N (FN (fun _ => False) w w'))
theorem read_empty (a : Option Addr) (c : Nat) (w : World) : Calls Tryz.prog 58 #[.slice a 0 c] w fun e w' => e = .returned (.tuple #[.pointer none, .int .i64 0, .int .i64 80]) ∧ w' = w := by
  go_enter Tryz.func58, Tryz.ntmps58
  go_wp2
  go_ret3
  exact ⟨rfl, rfl⟩
theorem read_first (g off c n : Nat) (x : UInt8) (w : World) (hx : ¬ x = 0) (hc : n + 1 ≤ c) (h : w.cell? ⟨g, off, none⟩ = some (.int .u8 (x.toNat : Int))) : Calls Tryz.prog 58 #[.slice (some ⟨g, off, none⟩) (n + 1) c] w fun e w' => e = .returned (.tuple #[.pointer none, .int .i64 0, .int .i64 80]) ∧ w' = w := by
  have hz : ((x.toNat : Int) == 0) = false := by
    have : ¬ x.toNat = 0 := fun h => hx (UInt8.toNat_inj.1 h)
    simp; omega
  have hz' : ((x.toNat : Int) != 0) = true := by simp only [bne, hz]; rfl
  go_enter Tryz.func58, Tryz.ntmps58
  go_wp2
  all_goals (go_ret3; exact ⟨rfl, rfl⟩)
end Go.Proofs.YthdgmhohofakgaaGreatDoor
