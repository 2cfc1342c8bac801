import Derived.Test.YtkihaohdcgjioaaGreatDoorGp08
namespace Go.Proofs.YtkihaohdcgjioaaGreatDoor.Lx
open Go.RowKit
set_option linter.unusedVariables false
set_option linter.unusedSimpArgs false
def Tk.agg (x : Tk) : Value := .agg #[.int .i64 x.k, .string ⟨x.t.toArray⟩, .int .u64 x.n, .int .i64 x.l]
/-- what is wrong with a token by itself -/
def dotP (l : List UInt8) : Bool := Lib.hasPrefix l [46] && wordP (Lib.trimPrefix l [46])
def mayP (x : Tk) : Int :=
  if x.k = 1 then (if wordP x.t = true then (if x.n = 0 then 0 else 52) else 53)
  else if x.k = 2 then (if dotP x.t = true then (if x.n = 0 then 0 else 52) else 53)
  else if x.k = 3 then (if x.t = [] then 0 else 54)
  else if x.k = 4 then (if markB x.t = true then (if x.n = 0 then 0 else 52) else 52)
  else if x.k = 5 ∨ x.k = 0 then (if x.t = [] then (if x.n = 0 then 0 else 52) else 52)
  else 52
set_option maxHeartbeats 4000000 in
theorem may_any (x : Tk) (w : World) (ht : x.t.length ≤ 4611686018427387904) : Calls Tryz.prog 130 #[.agg #[.int .i64 x.k, .string ⟨x.t.toArray⟩, .int .u64 x.n, .int .i64 x.l]] w fun e w' => e = .returned (.int .i64 (mayP x)) ∧ Out w w' := by
  obtain ⟨k, t, n, l⟩ := x
  simp only at ht ⊢
  have c0 : ∀ cs : Array Value, ∀ j, (w.alloc (.cells cs 117)).cell? ⟨w.heap.size, j, none⟩ = cs[j]? := fun cs j => cell_fresh _ _ _ _ _ rfl
  have HO : Hid (Out w (w.alloc (.cells #[.int .i64 k, .string ⟨t.toArray⟩, .int .u64 n, .int .i64 l] 117))) := (Out.refl w).alloc _
  have d0 : (w.alloc (.cells #[.int .i64 k, .string ⟨t.toArray⟩, .int .u64 n, .int .i64 l] 117)).cell? ⟨w.heap.size, 0, none⟩ = some (.int .i64 k) := c0 _ 0
  have d1 : (w.alloc (.cells #[.int .i64 k, .string ⟨t.toArray⟩, .int .u64 n, .int .i64 l] 117)).cell? ⟨w.heap.size, 1, none⟩ = some (.string ⟨t.toArray⟩) := c0 _ 1
  have d2 : (w.alloc (.cells #[.int .i64 k, .string ⟨t.toArray⟩, .int .u64 n, .int .i64 l] 117)).cell? ⟨w.heap.size, 2, none⟩ = some (.int .u64 n) := c0 _ 2
  clear c0
  have CW : Hid (∀ (y : List UInt8) wx, y.length ≤ 4611686018427387904 → Calls Tryz.prog 170 #[.string ⟨y.toArray⟩] wx fun e w' => e = .returned (.bool (wordP y)) ∧ wx = w') := fun y wx hy => by
    have h := isWord_any ⟨y.toArray⟩ wx (by rw [mk_size]; exact hy)
    rw [mk_list] at h
    exact h
  have CM : Hid (∀ wx, Calls Tryz.prog 172 #[.string ⟨t.toArray⟩] wx fun e w' => e = .returned (.bool (markB t)) ∧ wx = w') := fun wx => by
    have h := isMark_any ⟨t.toArray⟩ wx
    rw [mk_list] at h
    exact h
  have CC : Hid (∀ wx, Calls Tryz.prog 171 #[.string ⟨t.toArray⟩, .string ⟨#[46]⟩] wx fun e w' => e = .returned (.tuple #[.string ⟨(Lib.trimPrefix t [46]).toArray⟩, .bool (Lib.hasPrefix t [46])]) ∧ w' = wx) := fun wx => Tryz.strings_CutPrefix ⟨t.toArray⟩ ⟨#[46]⟩ wx
  have htp : (Lib.trimPrefix t [46]).length ≤ 4611686018427387904 := by
    unfold Lib.trimPrefix
    split
    · rw [List.length_drop]; omega
    · exact ht
  have hn1 : n = 0 → (n == 0) = true := fun h => by simp [h]
  have hn2 : ¬ n = 0 → (n == 0) = false := fun h => by simpa using h
  have ht1 : t = [] → t.isEmpty = true := fun h => by simp [h]
  have ht2 : ¬ t = [] → t.isEmpty = false := fun h => by cases t with | nil => exact absurd rfl h | cons a b => rfl
  by_cases k1 : k = 1
  · subst k1
    cases hw : wordP t
    · have hP : mayP ⟨1, t, n, l⟩ = 53 := by simp [mayP, hw]
      rw [hP]
      go_enter Tryz.func130, Tryz.ntmps130
      go_wp2_with (go_at_call 170; refine (CW.out t _ ht).mono ?_; rw [hw]; rintro e w1 ⟨rfl, rfl⟩)
      go_ret
      exact ⟨rfl, (Out.refl w).alloc _⟩
    · by_cases hn : n = 0
      · have hP : mayP ⟨1, t, n, l⟩ = 0 := by simp [mayP, hw, hn]
        rw [hP]
        have hn' := hn1 hn
        go_enter Tryz.func130, Tryz.ntmps130
        go_wp2_with (go_at_call 170; refine (CW.out t _ ht).mono ?_; rw [hw]; rintro e w1 ⟨rfl, rfl⟩)
        go_ret
        exact ⟨rfl, (Out.refl w).alloc _⟩
      · have hP : mayP ⟨1, t, n, l⟩ = 52 := by simp [mayP, hw, hn]
        rw [hP]
        have hn' := hn2 hn
        go_enter Tryz.func130, Tryz.ntmps130
        go_wp2_with (go_at_call 170; refine (CW.out t _ ht).mono ?_; rw [hw]; rintro e w1 ⟨rfl, rfl⟩)
        go_ret
        exact ⟨rfl, (Out.refl w).alloc _⟩
  by_cases k2 : k = 2
  · subst k2
    cases hp : Lib.hasPrefix t [46]
    · have hP : mayP ⟨2, t, n, l⟩ = 53 := by simp [mayP, dotP, hp]
      rw [hP]
      go_enter Tryz.func130, Tryz.ntmps130
      go_wp2_with (go_at_call 171; refine (CC.out _).mono ?_; rw [hp]; rintro e w1 ⟨rfl, hw⟩; subst hw)
      go_ret
      exact ⟨rfl, (Out.refl w).alloc _⟩
    · cases hw : wordP (Lib.trimPrefix t [46])
      · have hP : mayP ⟨2, t, n, l⟩ = 53 := by simp [mayP, dotP, hp, hw]
        rw [hP]
        go_enter Tryz.func130, Tryz.ntmps130
        go_wp2_with (first | (go_at_call 171; refine (CC.out _).mono ?_; rw [hp]; rintro e w1 ⟨rfl, hw⟩; subst hw) | (go_at_call 170; refine (CW.out _ _ htp).mono ?_; rw [hw]; rintro e w1 ⟨rfl, rfl⟩))
        go_ret
        exact ⟨rfl, (Out.refl w).alloc _⟩
      · by_cases hn : n = 0
        · have hP : mayP ⟨2, t, n, l⟩ = 0 := by simp [mayP, dotP, hp, hw, hn]
          rw [hP]
          have hn' := hn1 hn
          go_enter Tryz.func130, Tryz.ntmps130
          go_wp2_with (first | (go_at_call 171; refine (CC.out _).mono ?_; rw [hp]; rintro e w1 ⟨rfl, hw⟩; subst hw) | (go_at_call 170; refine (CW.out _ _ htp).mono ?_; rw [hw]; rintro e w1 ⟨rfl, rfl⟩))
          go_ret
          exact ⟨rfl, (Out.refl w).alloc _⟩
        · have hP : mayP ⟨2, t, n, l⟩ = 52 := by simp [mayP, dotP, hp, hw, hn]
          rw [hP]
          have hn' := hn2 hn
          go_enter Tryz.func130, Tryz.ntmps130
          go_wp2_with (first | (go_at_call 171; refine (CC.out _).mono ?_; rw [hp]; rintro e w1 ⟨rfl, hw⟩; subst hw) | (go_at_call 170; refine (CW.out _ _ htp).mono ?_; rw [hw]; rintro e w1 ⟨rfl, rfl⟩))
          go_ret
          exact ⟨rfl, (Out.refl w).alloc _⟩
  have j1 : (k == 1) = false := by simpa using k1
  have j2 : (k == 2) = false := by simpa using k2
  by_cases k3 : k = 3
  · subst k3
    by_cases hte : t = []
    · have hP : mayP ⟨3, t, n, l⟩ = 0 := by simp [mayP, hte]
      rw [hP]
      have he := ht1 hte
      clear CC CM CW
      go_enter Tryz.func130, Tryz.ntmps130
      go_wp2
      go_ret
      exact ⟨rfl, (Out.refl w).alloc _⟩
    · have hP : mayP ⟨3, t, n, l⟩ = 54 := by simp [mayP, hte]
      rw [hP]
      have he := ht2 hte
      clear CC CM CW
      go_enter Tryz.func130, Tryz.ntmps130
      go_wp2
      go_ret
      exact ⟨rfl, (Out.refl w).alloc _⟩
  have j3 : (k == 3) = false := by simpa using k3
  by_cases k4 : k = 4
  · subst k4
    cases hw : markB t
    · have hP : mayP ⟨4, t, n, l⟩ = 52 := by simp [mayP, hw]
      rw [hP]
      go_enter Tryz.func130, Tryz.ntmps130
      go_wp2_with (go_at_call 172; refine (CM.out _).mono ?_; rw [hw]; rintro e w1 ⟨rfl, rfl⟩)
      go_ret
      exact ⟨rfl, (Out.refl w).alloc _⟩
    · by_cases hn : n = 0
      · have hP : mayP ⟨4, t, n, l⟩ = 0 := by simp [mayP, hw, hn]
        rw [hP]
        have hn' := hn1 hn
        go_enter Tryz.func130, Tryz.ntmps130
        go_wp2_with (go_at_call 172; refine (CM.out _).mono ?_; rw [hw]; rintro e w1 ⟨rfl, rfl⟩)
        go_ret
        exact ⟨rfl, (Out.refl w).alloc _⟩
      · have hP : mayP ⟨4, t, n, l⟩ = 52 := by simp [mayP, hw, hn]
        rw [hP]
        have hn' := hn2 hn
        go_enter Tryz.func130, Tryz.ntmps130
        go_wp2_with (go_at_call 172; refine (CM.out _).mono ?_; rw [hw]; rintro e w1 ⟨rfl, rfl⟩)
        go_ret
        exact ⟨rfl, (Out.refl w).alloc _⟩
  have j4 : (k == 4) = false := by simpa using k4
  clear CC CM CW
  by_cases k5 : k = 5 ∨ k = 0
  · have hP : mayP ⟨k, t, n, l⟩ = (if t = [] then (if n = 0 then 0 else 52) else 52) := by simp [mayP, k1, k2, k3, k4, k5]
    rw [hP]
    by_cases hte : t = []
    · have he := ht1 hte
      rw [if_pos hte]
      by_cases hn : n = 0
      · have hn' := hn1 hn
        rw [if_pos hn]
        rcases k5 with rfl | rfl
        all_goals (
          go_enter Tryz.func130, Tryz.ntmps130
          go_wp2
          go_ret
          exact ⟨rfl, (Out.refl w).alloc _⟩)
      · have hn' := hn2 hn
        rw [if_neg hn]
        rcases k5 with rfl | rfl
        all_goals (
          go_enter Tryz.func130, Tryz.ntmps130
          go_wp2
          go_ret
          exact ⟨rfl, (Out.refl w).alloc _⟩)
    · have he := ht2 hte
      rw [if_neg hte]
      rcases k5 with rfl | rfl
      all_goals (
        go_enter Tryz.func130, Tryz.ntmps130
        go_wp2
        go_ret
        exact ⟨rfl, (Out.refl w).alloc _⟩)
  · have hP : mayP ⟨k, t, n, l⟩ = 52 := by simp [mayP, k1, k2, k3, k4, k5]
    rw [hP]
    have j5 : (k == 5) = false := by simp only [beq_eq_false_iff_ne]; exact fun h => k5 (.inl h)
    have j0 : (k == 0) = false := by simp only [beq_eq_false_iff_ne]; exact fun h => k5 (.inr h)
    go_enter Tryz.func130, Tryz.ntmps130
    go_wp2
    go_ret
    exact ⟨rfl, (Out.refl w).alloc _⟩
end Go.Proofs.YtkihaohdcgjioaaGreatDoor.Lx
