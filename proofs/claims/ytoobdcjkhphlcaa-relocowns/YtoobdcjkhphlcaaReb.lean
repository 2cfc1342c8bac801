import Derived.Test.YtoobdcjkhphlcaaRea
namespace Go.Proofs.Ytoobdcjkhphlcaa
open Go.RowKit
set_option linter.unusedVariables false
set_option linter.unusedSimpArgs false
/-- the type of a kind; 0: none -/
def tyP (k : Int) : Nat := if k = 1 then 1 else if k = 2 then 10 else 0
/-- the kind of a type; 0: none -/
def kdP (n : Nat) : Nat := if n = 1 then 1 else if n = 10 then 2 else 0
theorem typeOf_any (k : Int) (w : World) : Calls Try.prog 42 #[.int .i64 k] w fun e w' => e = .returned (.tuple #[.int .i64 (tyP k : Nat), .bool (decide (0 < tyP k))]) ∧ w' = w := by
  unfold tyP
  by_cases h1 : k = 1
  · subst h1
    go_enter Try.func42, Try.ntmps42
    go_wp2
    go_ret2
    exact ⟨rfl, rfl⟩
  · by_cases h2 : k = 2
    · subst h2
      go_enter Try.func42, Try.ntmps42
      go_wp2
      go_ret2
      exact ⟨rfl, rfl⟩
    · rw [if_neg h1, if_neg h2]
      have b1 : (k == 1) = false := by simp [h1]
      have b2 : (k == 2) = false := by simp [h2]
      go_enter Try.func42, Try.ntmps42
      go_wp2
      go_ret2
      exact ⟨rfl, rfl⟩
theorem kindOf_any (n : Nat) (w : World) : Calls Try.prog 45 #[.int .u64 (n : Int)] w fun e w' => e = .returned (.tuple #[.int .i64 (kdP n : Nat), .bool (decide (0 < kdP n))]) ∧ w' = w := by
  unfold kdP
  by_cases h1 : n = 1
  · subst h1
    go_enter Try.func45, Try.ntmps45
    go_wp2
    go_ret2
    exact ⟨rfl, rfl⟩
  · by_cases h2 : n = 10
    · subst h2
      go_enter Try.func45, Try.ntmps45
      go_wp2
      go_ret2
      exact ⟨rfl, rfl⟩
    · rw [if_neg h1, if_neg h2]
      have b1 : ((n : Int) == 1) = false := by simp; omega
      have b2 : ((n : Int) == 10) = false := by simp; omega
      go_enter Try.func45, Try.ntmps45
      go_wp2
      go_ret2
      exact ⟨rfl, rfl⟩
structure Rl where
  sl : Int
  ki : Int
  sy : Int
/-- the type of a relocation that may be; 0: it may not be -/
def mayP (r : Rl) : Nat := if 0 ≤ r.sl ∧ r.sl < 65536 ∧ 1 ≤ r.sy ∧ r.sy ≤ 4294967295 then tyP r.ki else 0
set_option maxRecDepth 8000 in
set_option maxHeartbeats 1000000 in
theorem typeOfRel_any (sl ki sy : Int) (w : World) : Calls Try.prog 30 #[.agg #[.int .i64 sl, .int .i64 ki, .int .i64 sy]] w fun e w' => e = .returned (.tuple #[.int .i64 (mayP ⟨sl, ki, sy⟩ : Nat), .bool (decide (0 < mayP ⟨sl, ki, sy⟩))]) ∧ Out w w' := by
  have CT := hidOf (typeOf_any ki)
  have hcs : sl < 0 ∨ (¬ sl < 0 ∧ 65536 ≤ sl) ∨ (¬ sl < 0 ∧ ¬ 65536 ≤ sl ∧ sy < 1) ∨ (¬ sl < 0 ∧ ¬ 65536 ≤ sl ∧ ¬ sy < 1 ∧ 4294967295 < sy) ∨ (¬ sl < 0 ∧ ¬ 65536 ≤ sl ∧ ¬ sy < 1 ∧ ¬ 4294967295 < sy) := by omega
  have HOb := hidOf ((Out.refl w).alloc (.cells #[.int .i64 sl, .int .i64 ki, .int .i64 sy] 27))
  rcases hcs with h1 | ⟨h1, h2⟩ | ⟨h1, h2, h3⟩ | ⟨h1, h2, h3, h4⟩ | ⟨h1, h2, h3, h4⟩
  · have e : mayP ⟨sl, ki, sy⟩ = 0 := if_neg (fun h => by simp only at h; omega)
    rw [e]
    go_enter Try.func30, Try.ntmps30
    go_wp2
    go_ret2
    exact ⟨rfl, HOb.out⟩
  · have e : mayP ⟨sl, ki, sy⟩ = 0 := if_neg (fun h => by simp only at h; omega)
    rw [e]
    go_enter Try.func30, Try.ntmps30
    go_wp2
    go_ret2
    exact ⟨rfl, HOb.out⟩
  · have e : mayP ⟨sl, ki, sy⟩ = 0 := if_neg (fun h => by simp only at h; omega)
    rw [e]
    go_enter Try.func30, Try.ntmps30
    go_wp2
    go_ret2
    exact ⟨rfl, HOb.out⟩
  · have e : mayP ⟨sl, ki, sy⟩ = 0 := if_neg (fun h => by simp only at h; omega)
    rw [e]
    go_enter Try.func30, Try.ntmps30
    go_wp2
    go_ret2
    exact ⟨rfl, HOb.out⟩
  · have e : mayP ⟨sl, ki, sy⟩ = tyP ki := if_pos ⟨by simp only; omega, by simp only; omega, by simp only; omega, by simp only; omega⟩
    rw [e]
    go_enter Try.func30, Try.ntmps30
    go_wp2_with (go_at_call 42; refine (CT.out _).mono ?_; rintro e w1 ⟨rfl, hw⟩; subst hw)
    go_ret2
    exact ⟨rfl, HOb.out⟩
end Go.Proofs.Ytoobdcjkhphlcaa
