import Derived.Test.YtnbcenmckeplbaaDoorNd
namespace Go.Proofs.YtnbcenmckeplbaaDoor
open Go.RowKit Go.Sort
set_option linter.unusedVariables false
set_option linter.unusedSimpArgs false
set_option maxRecDepth 20000

def NotFixed (op : Int) (k : Nat) (x : Int) : Prop :=
  (k = 1 → op = 133 ∨ op = 24 → x ≠ 1) ∧
  (k = 2 → (op = 55 ∨ op = 63 ∨ op = 52 ∨ op = 60 ∨ op = 151 ∨ op = 159 ∨ op = 148 ∨ op = 156 → x ≠ 1) ∧ (op = 191 ∨ op = 188 → x ≠ 8 ∧ x ≠ 16 ∧ (op = 191 → x ≠ 32))) ∧
  (k = 3 → (op = 212 ∨ op = 220 ∨ op = 215 → x ≠ 16 ∧ x ≠ 32 ∧ x ≠ 64) ∧ (op = 219 ∨ op = 195 → x ≠ 64 ∧ x ≠ 80 ∧ x ≠ 160 ∧ x ≠ 1 ∧ x ≠ 65 ∧ x ≠ 81 ∧ x ≠ 161 ∧ x ≠ 225 ∧ x ≠ 241))
theorem fixed_0 (op x : Int) (w : World) : Calls Tryd.prog 29 #[.int .i64 op, .int .i64 0, .int .i64 x] w fun e w' => ∃ r, e = .returned (.bool r) ∧ w = w' ∧ (r = false → NotFixed op 0 x) := by
  go_enter Tryd.func29, Tryd.ntmps29
  go_wp2
  go_ret
  exact ⟨_, rfl, rfl, fun _ => by simp [NotFixed]⟩
theorem fixed_1 (op x : Int) (w : World) : Calls Tryd.prog 29 #[.int .i64 op, .int .i64 1, .int .i64 x] w fun e w' => ∃ r, e = .returned (.bool r) ∧ w = w' ∧ (r = false → NotFixed op 1 x) := by
  go_enter Tryd.func29, Tryd.ntmps29
  go_wp2
  all_goals go_ret
  all_goals go_light
  all_goals (refine ⟨_, rfl, rfl, fun hr => ?_⟩; simp [NotFixed] at *; omega)
set_option maxHeartbeats 4000000 in
theorem fixed_2 (op x : Int) (w : World) : Calls Tryd.prog 29 #[.int .i64 op, .int .i64 2, .int .i64 x] w fun e w' => ∃ r, e = .returned (.bool r) ∧ w = w' ∧ (r = false → NotFixed op 2 x) := by
  by_cases h1 : op = 55 ∨ op = 63 ∨ op = 52 ∨ op = 60 ∨ op = 151 ∨ op = 159 ∨ op = 148 ∨ op = 156
  · rcases h1 with rfl | rfl | rfl | rfl | rfl | rfl | rfl | rfl
    all_goals
      go_enter Tryd.func29, Tryd.ntmps29
      go_wp2
      go_ret
      go_light
      refine ⟨_, rfl, rfl, fun hr => ?_⟩
      simp [NotFixed] at *
      omega
  · by_cases h2 : op = 191 ∨ op = 188
    · rcases h2 with rfl | rfl
      all_goals
        by_cases x8 : x = 8
        · subst x8
          go_enter Tryd.func29, Tryd.ntmps29
          go_wp2
          go_ret
          exact ⟨_, rfl, rfl, fun hr => by simp at hr⟩
        have y8 : (x == 8) = false := by simpa using x8
        by_cases x16 : x = 16
        · subst x16
          go_enter Tryd.func29, Tryd.ntmps29
          go_wp2
          go_ret
          exact ⟨_, rfl, rfl, fun hr => by simp at hr⟩
        have y16 : (x == 16) = false := by simpa using x16
        cases y32 : (x == 32)
        · go_enter Tryd.func29, Tryd.ntmps29
          go_wp2
          go_ret
          go_light
          refine ⟨_, rfl, rfl, fun hr => ?_⟩
          simp [NotFixed] at *
          omega
        · go_enter Tryd.func29, Tryd.ntmps29
          go_wp2
          go_ret
          go_light
          refine ⟨_, rfl, rfl, fun hr => ?_⟩
          simp [NotFixed] at *
          try omega
    · have e1 : (op == 55) = false := by simp; omega
      have e2 : (op == 63) = false := by simp; omega
      have e3 : (op == 52) = false := by simp; omega
      have e4 : (op == 60) = false := by simp; omega
      have e5 : (op == 151) = false := by simp; omega
      have e6 : (op == 159) = false := by simp; omega
      have e7 : (op == 148) = false := by simp; omega
      have e8 : (op == 156) = false := by simp; omega
      have e9 : (op == 191) = false := by simp; omega
      have e10 : (op == 188) = false := by simp; omega
      go_enter Tryd.func29, Tryd.ntmps29
      go_wp2
      go_ret
      go_light
      refine ⟨_, rfl, rfl, fun hr => ?_⟩
      simp only [NotFixed]
      omega
def fx3 (x : Int) : Prop := x = 64 ∨ x = 80 ∨ x = 160 ∨ x = 1 ∨ x = 65 ∨ x = 81 ∨ x = 161 ∨ x = 225 ∨ x = 241
set_option maxHeartbeats 4000000 in
theorem fixed_3 (op x : Int) (w : World) : Calls Tryd.prog 29 #[.int .i64 op, .int .i64 3, .int .i64 x] w fun e w' => ∃ r, e = .returned (.bool r) ∧ w = w' ∧ (r = false → NotFixed op 3 x) := by
  by_cases h1 : op = 212 ∨ op = 220 ∨ op = 215
  · rcases h1 with rfl | rfl | rfl
    all_goals
      go_enter Tryd.func29, Tryd.ntmps29
      go_wp2
      all_goals go_ret
      all_goals go_light
      all_goals refine ⟨_, rfl, rfl, fun hr => ?_⟩
      all_goals simp [NotFixed] at *
      all_goals try omega
  · by_cases h2 : op = 219 ∨ op = 195
    · rcases h2 with rfl | rfl
      all_goals
        by_cases hx : x = 64 ∨ x = 80 ∨ x = 160 ∨ x = 1 ∨ x = 65 ∨ x = 81 ∨ x = 161 ∨ x = 225 ∨ x = 241
        · rcases hx with rfl | rfl | rfl | rfl | rfl | rfl | rfl | rfl | rfl
          all_goals
            go_enter Tryd.func29, Tryd.ntmps29
            go_wp2
            go_ret
            exact ⟨_, rfl, rfl, fun hr => by simp at hr⟩
        · have e1 : (x == 64) = false := by simp; omega
          have e2 : (x == 80) = false := by simp; omega
          have e3 : (x == 160) = false := by simp; omega
          have e4 : (x == 1) = false := by simp; omega
          have e5 : (x == 65) = false := by simp; omega
          have e6 : (x == 81) = false := by simp; omega
          have e7 : (x == 161) = false := by simp; omega
          have e8 : (x == 225) = false := by simp; omega
          have e9 : (x == 241) = false := by simp; omega
          go_enter Tryd.func29, Tryd.ntmps29
          go_wp2
          go_ret
          go_light
          refine ⟨_, rfl, rfl, fun hr => ?_⟩
          simp only [NotFixed]
          omega
    · have e1 : (op == 212) = false := by simp; omega
      have e2 : (op == 220) = false := by simp; omega
      have e3 : (op == 215) = false := by simp; omega
      have e4 : (op == 219) = false := by simp; omega
      have e5 : (op == 195) = false := by simp; omega
      go_enter Tryd.func29, Tryd.ntmps29
      go_wp2
      go_ret
      go_light
      refine ⟨_, rfl, rfl, fun hr => ?_⟩
      simp only [NotFixed]
      omega
end Go.Proofs.YtnbcenmckeplbaaDoor
