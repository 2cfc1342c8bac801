import Derived.Test.YthififblejbleaaGreatDoorHy04
namespace Go.Proofs.YthififblejbleaaGreatDoor
open Go.RowKit
set_option linter.unusedVariables false
set_option linter.unusedSimpArgs false
def InsA (w : World) (a : Option Addr) (l : List Ins) : Prop :=
  l = [] ∨ ∃ b off, a = some ⟨b, off, none⟩ ∧ ∀ k x, l[k]? = some x → w.cell? ⟨b, off + k * 5, none⟩ = some (.int .i64 x.o) ∧ w.cell? ⟨b, off + k * 5 + 1, none⟩ = some (.int .i64 x.d) ∧
    w.cell? ⟨b, off + k * 5 + 2, none⟩ = some (.int .i64 x.s) ∧ w.cell? ⟨b, off + k * 5 + 3, none⟩ = some (.int .i64 x.f) ∧ w.cell? ⟨b, off + k * 5 + 4, none⟩ = some (.int .i64 x.i)
theorem InsA.out {w w' : World} {a : Option Addr} {l : List Ins} (h : InsA w a l) (o : Out w w') : InsA w' a l := by
  rcases h with h | ⟨b, off, rfl, h⟩
  · exact .inl h
  · exact .inr ⟨b, off, rfl, fun k x hx => by
      obtain ⟨h0, h1, h2, h3, h4⟩ := h k x hx
      exact ⟨cell_later o h0, cell_later o h1, cell_later o h2, cell_later o h3, cell_later o h4⟩⟩
theorem InsA.get {w : World} {a : Option Addr} {l : List Ins} (h : InsA w a l) {k : Nat} {x : Ins} (hx : l[k]? = some x) : ∃ b off, a = some ⟨b, off, none⟩ ∧ w.cell? ⟨b, off + k * 5, none⟩ = some (.int .i64 x.o) ∧ w.cell? ⟨b, off + k * 5 + 1, none⟩ = some (.int .i64 x.d) ∧
    w.cell? ⟨b, off + k * 5 + 2, none⟩ = some (.int .i64 x.s) ∧ w.cell? ⟨b, off + k * 5 + 3, none⟩ = some (.int .i64 x.f) ∧ w.cell? ⟨b, off + k * 5 + 4, none⟩ = some (.int .i64 x.i) := by
  rcases h with h | ⟨b, off, rfl, h⟩
  · simp [h] at hx
  · exact ⟨b, off, rfl, h k x hx⟩
def FnA (w : World) (a : Option Addr) (l : List Fn) : Prop :=
  l = [] ∨ ∃ b off, a = some ⟨b, off, none⟩ ∧ ∀ k x, l[k]? = some x → w.cell? ⟨b, off + k * 4, none⟩ = some (.string ⟨x.nm.toArray⟩) ∧ w.cell? ⟨b, off + k * 4 + 1, none⟩ = some (.int .i64 x.ob) ∧
    w.cell? ⟨b, off + k * 4 + 2, none⟩ = some (.int .i64 x.fi) ∧ w.cell? ⟨b, off + k * 4 + 3, none⟩ = some (.int .i64 x.ct)
theorem FnA.out {w w' : World} {a : Option Addr} {l : List Fn} (h : FnA w a l) (o : Out w w') : FnA w' a l := by
  rcases h with h | ⟨b, off, rfl, h⟩
  · exact .inl h
  · exact .inr ⟨b, off, rfl, fun k x hx => by
      obtain ⟨h0, h1, h2, h3⟩ := h k x hx
      exact ⟨cell_later o h0, cell_later o h1, cell_later o h2, cell_later o h3⟩⟩
theorem FnA.get {w : World} {a : Option Addr} {l : List Fn} (h : FnA w a l) {k : Nat} {x : Fn} (hx : l[k]? = some x) : ∃ b off, a = some ⟨b, off, none⟩ ∧ w.cell? ⟨b, off + k * 4, none⟩ = some (.string ⟨x.nm.toArray⟩) ∧ w.cell? ⟨b, off + k * 4 + 1, none⟩ = some (.int .i64 x.ob) ∧
    w.cell? ⟨b, off + k * 4 + 2, none⟩ = some (.int .i64 x.fi) ∧ w.cell? ⟨b, off + k * 4 + 3, none⟩ = some (.int .i64 x.ct) := by
  rcases h with h | ⟨b, off, rfl, h⟩
  · simp [h] at hx
  · exact ⟨b, off, rfl, h k x hx⟩
def TdA (w : World) (a : Option Addr) (l : List Td) : Prop :=
  l = [] ∨ ∃ b off, a = some ⟨b, off, none⟩ ∧ ∀ k x, l[k]? = some x → w.cell? ⟨b, off + k * 5, none⟩ = some (.string ⟨x.nm.toArray⟩) ∧ w.cell? ⟨b, off + k * 5 + 1, none⟩ = some (.int .i64 x.kd) ∧
    w.cell? ⟨b, off + k * 5 + 2, none⟩ = some (.int .i64 x.ky) ∧ w.cell? ⟨b, off + k * 5 + 3, none⟩ = some (.int .i64 x.vl) ∧ w.cell? ⟨b, off + k * 5 + 4, none⟩ = some (.int .i64 x.en)
theorem TdA.out {w w' : World} {a : Option Addr} {l : List Td} (h : TdA w a l) (o : Out w w') : TdA w' a l := by
  rcases h with h | ⟨b, off, rfl, h⟩
  · exact .inl h
  · exact .inr ⟨b, off, rfl, fun k x hx => by
      obtain ⟨h0, h1, h2, h3, h4⟩ := h k x hx
      exact ⟨cell_later o h0, cell_later o h1, cell_later o h2, cell_later o h3, cell_later o h4⟩⟩
theorem TdA.get {w : World} {a : Option Addr} {l : List Td} (h : TdA w a l) {k : Nat} {x : Td} (hx : l[k]? = some x) : ∃ b off, a = some ⟨b, off, none⟩ ∧ w.cell? ⟨b, off + k * 5, none⟩ = some (.string ⟨x.nm.toArray⟩) ∧ w.cell? ⟨b, off + k * 5 + 1, none⟩ = some (.int .i64 x.kd) ∧
    w.cell? ⟨b, off + k * 5 + 2, none⟩ = some (.int .i64 x.ky) ∧ w.cell? ⟨b, off + k * 5 + 3, none⟩ = some (.int .i64 x.vl) ∧ w.cell? ⟨b, off + k * 5 + 4, none⟩ = some (.int .i64 x.en) := by
  rcases h with h | ⟨b, off, rfl, h⟩
  · simp [h] at hx
  · exact ⟨b, off, rfl, h k x hx⟩
theorem wide_lit (w : World) (o d s f i : Int) : Calls Tryz.prog 88 #[.agg #[.int .i64 o, .int .i64 d, .int .i64 s, .int .i64 f, .int .i64 i]] w fun e w' => e = .returned (.bool (isW o)) ∧ Out w w' := by
  go_enter Tryz.func88, Tryz.ntmps88
  go_wp2
  go_ret
  exact ⟨rfl, Out.alloc (Out.refl _) _⟩
theorem take_filter (l : List Ins) (k : Nat) (x : Ins) (h : l[k]? = some x) : ((l.take (k + 1)).filter (fun x => isW x.o)).length = ((l.take k).filter (fun x => isW x.o)).length + (if isW x.o then 1 else 0) := by
  rw [List.take_add_one, h]
  simp only [Option.toList_some, List.filter_append, List.length_append, List.filter_cons, List.filter_nil]
  split <;> simp
theorem slotsI_any (w : World) (a : Option Addr) (n cap : Nat) (l : List Ins) (hn : l.length = n) (hi : InsA w a l) (hm : n ≤ 3518437208883) : Calls Tryz.prog 52 #[.slice a n cap] w fun e w' => e = .returned (.int .i64 (slotsP l : Nat)) ∧ Out w w' := by
  have hb0 : ∀ k : Nat, ((l.take k).filter (fun x => isW x.o)).length ≤ n := fun k => Nat.le_trans (List.length_filter_le _ _) (by simp; omega)
  go_enter Tryz.func52, Tryz.ntmps52
  go_wp2
  go_loopw [3, 10] (fun c i wr => ∃ k m : Nat, k ≤ n ∧ Hid (m = ((l.take k).filter (fun x => isW x.o)).length) ∧ m ≤ n ∧ c = .int .i64 ((n : Int) + m) ∧ i = .int .i64 k ∧ Out w wr) (fun _ i _ => n - (intOf i).toNat)
  case atStart => exact ⟨0, 0, by omega, by simp [Hid], by omega, by simp, rfl, Out.refl _⟩
  case round =>
    obtain ⟨k, m, hk, hm1, hm2, rfl, rfl, hor⟩ := hrel
    by_cases hkl : k < n
    · have hlt : (k : Int) < n := by omega
      rcases hi with hz | ⟨b, off, rfl, hc⟩
      · simp [hz] at hn; omega
      obtain ⟨x, hx⟩ : ∃ x, l[k]? = some x := ⟨_, List.getElem?_eq_getElem (by omega)⟩
      obtain ⟨c0, c1, c2, c3, c4⟩ := hc k x hx
      have q0 := cell_later hor c0
      have q1 := cell_later hor c1
      have q2 := cell_later hor c2
      have q3 := cell_later hor c3
      have q4 := cell_later hor c4
      have hF := take_filter l k x hx
      have hb1 := hb0 (k + 1)
      obtain ⟨o, d, s, f, i⟩ := x
      clear hc c0 c1 c2 c3 c4
      simp only at q0 q1 q2 q3 q4 hF
      cases hw : isW o
      · rw [hw] at hF
        go_wp2_with (go_at_call 88; refine (wide_lit _ _ _ _ _ _).mono ?_; rw [hw]; rintro e w1 ⟨rfl, h1⟩)
        go_roundw
        case rel => exact ⟨k + 1, m, by omega, by have := hm1.out; simp [Hid]; rw [hF]; simpa using this, hm2, rfl, by simp, Out.trans (hor.alloc _) h1⟩
        case measure => simp [intOf]; omega
      · rw [hw] at hF
        have hm3 : m + 1 ≤ n := by have := hm1.out; simp at hF; omega
        go_wp2_with (go_at_call 88; refine (wide_lit _ _ _ _ _ _).mono ?_; rw [hw]; rintro e w1 ⟨rfl, h1⟩)
        go_roundw
        case rel => exact ⟨k + 1, m + 1, by omega, by have := hm1.out; simp [Hid]; rw [hF]; simp; exact this, hm3, by simp; omega, by simp, Out.trans (hor.alloc _) h1⟩
        case measure => simp [intOf]; omega
    · have hlt : ¬ (k : Int) < n := by omega
      have hfin : Hid (slotsP l = n + m) := hidOf (by have := hm1.out; rw [List.take_of_length_le (by omega)] at this; unfold slotsP; omega)
      go_wp2
      go_ret
      exact ⟨by rw [hfin.out]; simp, hor⟩
theorem within_any (n a b : Int) (w : World) : Calls Tryz.prog 113 #[.int .i64 n, .int .i64 a, .int .i64 b] w fun e w' => e = .returned (.bool (decide (a ≤ n) && decide (n ≤ b))) ∧ w = w' := by
  go_enter Tryz.func113, Tryz.ntmps113
  go_wp2
  all_goals (go_ret; refine ret_bool ?_; simp_all <;> omega)
theorem sizeI_any (x : Td) (s : ByteArray) (w : World) (h1 : -1000000 ≤ x.ky ∧ x.ky ≤ 1000000) (h2 : 1 ≤ x.vl ∧ x.vl ≤ 1000000) (h3 : 1 ≤ x.en ∧ x.en ≤ 1000000) : Calls Tryz.prog 101 #[.agg #[.string s, .int .i64 x.kd, .int .i64 x.ky, .int .i64 x.vl, .int .i64 x.en]] w fun e w' => e = .returned (.int .i64 (szT x)) ∧ Out w w' := by
  obtain ⟨nm, kd, ky, vl, en⟩ := x
  simp only at h1 h2 h3 ⊢
  obtain ⟨a1, a2⟩ := h1
  obtain ⟨b1, b2⟩ := h2
  obtain ⟨c1, c2⟩ := h3
  have hq : Int.tdiv (vl + 8 - 1) 8 = (vl + 7) / 8 := by rw [Int.tdiv_eq_ediv_of_nonneg (by omega)]; congr 1; omega
  have hp : -9223372036854775808 ≤ en * (ky + (vl + 7) / 8 * 8 + 8) ∧ en * (ky + (vl + 7) / 8 * 8 + 8) ≤ 9223372036854775807 := by
    obtain ⟨z, hz⟩ : ∃ z, z = ky + (vl + 7) / 8 * 8 + 8 := ⟨_, rfl⟩
    rw [← hz]
    have z1 : -3000000 ≤ z := by omega
    have z2 : z ≤ 3000000 := by omega
    have e1 : en * z ≤ en * 3000000 := Int.mul_le_mul_of_nonneg_left z2 (by omega)
    have e2 : en * (-3000000) ≤ en * z := Int.mul_le_mul_of_nonneg_left z1 (by omega)
    omega
  unfold szT
  simp only
  go_enter Tryz.func101, Tryz.ntmps101
  go_wp2
  go_ret
  exact ⟨rfl, Out.alloc (Out.refl _) _⟩
theorem tableMay_any (x : Td) (s : ByteArray) (w : World) : Calls Tryz.prog 100 #[.agg #[.string s, .int .i64 x.kd, .int .i64 x.ky, .int .i64 x.vl, .int .i64 x.en]] w fun e w' => e = .returned (.bool (mayT x)) ∧ Out w w' := by
  have hS := sizeI_any x s
  have hM : ∀ lo hi : Int, (x.kd = 1 ∧ lo = 4 ∧ hi = 4 ∨ x.kd = 2 ∧ lo = 1 ∧ hi = 64) → mayT x = ((decide (lo ≤ x.ky) && decide (x.ky ≤ hi)) && (decide (1 ≤ x.vl) && decide (x.vl ≤ 4096)) && (decide (1 ≤ x.en) && decide (x.en ≤ 65536)) && decide (szT x ≤ 16777216)) := by
    intro lo hi h
    unfold mayT
    rcases h with ⟨h, rfl, rfl⟩ | ⟨h, rfl, rfl⟩
    · congr 3; simp [h]; rw [Bool.eq_iff_iff]; simp; omega
    · congr 3; simp [h]
  have hN : ¬ x.kd = 1 → ¬ x.kd = 2 → mayT x = false := fun h1 h2 => by unfold mayT; simp [h1, h2]
  generalize mayT x = M at *
  generalize szT x = Z at *
  obtain ⟨nm, kd, ky, vl, en⟩ := x
  simp only at *
  by_cases hk : kd = 1 ∨ kd = 2
  · obtain ⟨lo, hi, hlh⟩ : ∃ lo hi : Int, kd = 1 ∧ lo = 4 ∧ hi = 4 ∨ kd = 2 ∧ lo = 1 ∧ hi = 64 := by
      rcases hk with h | h
      · exact ⟨4, 4, .inl ⟨h, rfl, rfl⟩⟩
      · exact ⟨1, 64, .inr ⟨h, rfl, rfl⟩⟩
    have hM := hM lo hi hlh
    clear hN hk
    obtain ⟨b1, e1⟩ : ∃ b, (decide (lo ≤ ky) && decide (ky ≤ hi)) = b := ⟨_, rfl⟩
    obtain ⟨b2, e2⟩ : ∃ b, (decide (1 ≤ vl) && decide (vl ≤ 4096)) = b := ⟨_, rfl⟩
    obtain ⟨b3, e3⟩ : ∃ b, (decide (1 ≤ en) && decide (en ≤ 65536)) = b := ⟨_, rfl⟩
    rw [e1, e2, e3] at hM
    have hS2 : b1 = true → b2 = true → b3 = true → ∀ w, Calls Tryz.prog 101 #[.agg #[.string s, .int .i64 kd, .int .i64 ky, .int .i64 vl, .int .i64 en]] w fun e w' => e = .returned (.int .i64 Z) ∧ Out w w' := fun q1 q2 q3 w => by
      rw [q1] at e1; rw [q2] at e2; rw [q3] at e3
      simp only [Bool.and_eq_true, decide_eq_true_eq] at e1 e2 e3
      exact hS w (by omega) (by omega) (by omega)
    have E1 := hidOf e1
    have E2 := hidOf e2
    have E3 := hidOf e3
    clear hS e1 e2 e3
    subst hM
    rcases hlh with ⟨rfl, rfl, rfl⟩ | ⟨rfl, rfl, rfl⟩
    all_goals
      cases b1
      · go_enter Tryz.func100, Tryz.ntmps100
        go_wp2_with (go_at_call 113; refine (within_any _ _ _ _).mono ?_; rintro e wz ⟨rfl, rfl⟩; (simp only [E1.out, E2.out, E3.out]))
        go_ret
        exact ⟨by simp, Out.alloc (Out.refl _) _⟩
      · cases b2
        · go_enter Tryz.func100, Tryz.ntmps100
          go_wp2_with (go_at_call 113; refine (within_any _ _ _ _).mono ?_; rintro e wz ⟨rfl, rfl⟩; (simp only [E1.out, E2.out, E3.out]))
          go_ret
          exact ⟨by simp, Out.alloc (Out.refl _) _⟩
        · cases b3
          · go_enter Tryz.func100, Tryz.ntmps100
            go_wp2_with (go_at_call 113; refine (within_any _ _ _ _).mono ?_; rintro e wz ⟨rfl, rfl⟩; (simp only [E1.out, E2.out, E3.out]))
            go_ret
            exact ⟨by simp, Out.alloc (Out.refl _) _⟩
          · have hS3 := hS2 rfl rfl rfl
            go_enter Tryz.func100, Tryz.ntmps100
            go_wp2_with (first | (go_at_call 113; refine (within_any _ _ _ _).mono ?_; rintro e wz ⟨rfl, rfl⟩; (simp only [E1.out, E2.out, E3.out])) | (go_at_call 101; refine (hS3 _).mono ?_; rintro e wy ⟨rfl, o1⟩))
            all_goals (go_ret; exact ⟨by simp_all, Out.trans (Out.alloc (Out.refl _) _) o1⟩)
  · have h1 : ¬ kd = 1 := fun h => hk (.inl h)
    have h2 : ¬ kd = 2 := fun h => hk (.inr h)
    rw [hN h1 h2]
    clear hM hN hS hk
    go_enter Tryz.func100, Tryz.ntmps100
    go_wp2
    all_goals (go_ret; exact ⟨rfl, Out.alloc (Out.refl _) _⟩)
theorem insnFits_any (x : Ins) (w : World) : Calls Tryz.prog 102 #[.agg #[.int .i64 x.o, .int .i64 x.d, .int .i64 x.s, .int .i64 x.f, .int .i64 x.i]] w fun e w' => e = .returned (.bool (fitI x)) ∧ Out w w' := by
  obtain ⟨o, d, s, f, i⟩ := x
  unfold fitI
  simp only
  obtain ⟨b1, e1⟩ : ∃ b, (decide (0 ≤ o) && decide (o ≤ 255)) = b := ⟨_, rfl⟩
  obtain ⟨b2, e2⟩ : ∃ b, (decide (0 ≤ d) && decide (d ≤ 15)) = b := ⟨_, rfl⟩
  obtain ⟨b3, e3⟩ : ∃ b, (decide (0 ≤ s) && decide (s ≤ 15)) = b := ⟨_, rfl⟩
  obtain ⟨b4, e4⟩ : ∃ b, (decide (-32768 ≤ f) && decide (f ≤ 32767)) = b := ⟨_, rfl⟩
  obtain ⟨b5, e5⟩ : ∃ b, (decide (-2147483648 ≤ i) && decide (i ≤ 2147483647)) = b := ⟨_, rfl⟩
  obtain ⟨b6, e6⟩ : ∃ b, isW o = b := ⟨_, rfl⟩
  rw [e1, e2, e3, e4, e5, e6]
  replace e1 := hidOf e1
  replace e2 := hidOf e2
  replace e3 := hidOf e3
  replace e4 := hidOf e4
  replace e5 := hidOf e5
  replace e6 := hidOf e6
  have X : ∀ (b : Bool), b = true ∨ b = false := fun b => by cases b <;> simp
  rcases X b1 with rfl | rfl
  · rcases X b2 with rfl | rfl
    · rcases X b3 with rfl | rfl
      · rcases X b4 with rfl | rfl
        · rcases X b6 with rfl | rfl
          all_goals
            go_enter Tryz.func102, Tryz.ntmps102
            go_wp2_with (first | (go_at_call 113; refine (within_any _ _ _ _).mono ?_; rintro e wz ⟨rfl, rfl⟩; (simp only [e1.out, e2.out, e3.out, e4.out, e5.out])) | (go_at_call 88; refine (wide_lit _ _ _ _ _ _).mono ?_; rw [e6.out]; rintro e wy ⟨rfl, o1⟩; have x4 := cell_later o1 (cell_fresh w _ _ 4 _ rfl)))
            go_ret
            exact ⟨by simp, Out.trans (Out.alloc (Out.refl _) _) o1⟩
        · go_enter Tryz.func102, Tryz.ntmps102
          go_wp2_with (go_at_call 113; refine (within_any _ _ _ _).mono ?_; rintro e wz ⟨rfl, rfl⟩; (simp only [e1.out, e2.out, e3.out, e4.out, e5.out]))
          go_ret
          exact ⟨by simp, Out.alloc (Out.refl _) _⟩
      · go_enter Tryz.func102, Tryz.ntmps102
        go_wp2_with (go_at_call 113; refine (within_any _ _ _ _).mono ?_; rintro e wz ⟨rfl, rfl⟩; (simp only [e1.out, e2.out, e3.out, e4.out, e5.out]))
        go_ret
        exact ⟨by simp, Out.alloc (Out.refl _) _⟩
    · go_enter Tryz.func102, Tryz.ntmps102
      go_wp2_with (go_at_call 113; refine (within_any _ _ _ _).mono ?_; rintro e wz ⟨rfl, rfl⟩; (simp only [e1.out, e2.out, e3.out, e4.out, e5.out]))
      go_ret
      exact ⟨by simp, Out.alloc (Out.refl _) _⟩
  · go_enter Tryz.func102, Tryz.ntmps102
    go_wp2_with (go_at_call 113; refine (within_any _ _ _ _).mono ?_; rintro e wz ⟨rfl, rfl⟩; (simp only [e1.out, e2.out, e3.out, e4.out, e5.out]))
    go_ret
    exact ⟨by simp, Out.alloc (Out.refl _) _⟩
def FltE (r : Option Nat) (w : World) (e : Ending) (w' : World) : Prop := ∃ k : Int, e = .returned (.tuple #[.int .i64 k, .bool r.isSome]) ∧ (∀ z, r = some z → k = z) ∧ Out w w'
theorem countFault_any (m : Img) (w : World) (ta fa da : Option Addr) (tc fc dc : Nat) (hT : InsA w ta m.T) (hm : m.T.length ≤ 3518437208883) : Calls Tryz.prog 78 #[.agg #[.slice ta m.T.length tc, .slice fa m.F.length fc, .slice da m.D.length dc, .int .i64 m.en]] w (FltE (cntP m) w) := by
  have CS : Hid (∀ wx, Out w wx → Calls Tryz.prog 52 #[.slice ta m.T.length tc] wx fun e w' => e = .returned (.int .i64 (slotsP m.T : Nat)) ∧ Out wx w') := fun wx ox => slotsI_any wx ta _ tc m.T rfl (hT.out ox) hm
  unfold cntP
  generalize slotsP m.T = s at *
  generalize m.T.length = tn at *
  generalize m.F.length = fn at *
  generalize m.D.length = dn at *
  clear hT hm
  have HO : ∀ {w1 : World} {O : Obj}, Out (w.alloc O) w1 → Out w w1 := fun o => Out.trans (Out.alloc (Out.refl _) _) o
  by_cases h1 : 1048576 < s
  · rw [if_pos h1]
    have g1 : (1048576 : Int) < s := by omega
    go_enter Tryz.func78, Tryz.ntmps78
    go_wp2_with (go_at_call 52; refine (CS.out _ (Out.alloc (Out.refl _) _)).mono ?_; rintro e w1 ⟨rfl, o1⟩)
    go_ret2
    exact ⟨0, rfl, fun z hz => by cases hz; rfl, HO o1⟩
  · have g1 : ¬ (1048576 : Int) < s := by omega
    rw [if_neg h1]
    by_cases h2 : 4096 < fn
    · rw [if_pos h2]
      have g2 : (4096 : Int) < fn := by omega
      go_enter Tryz.func78, Tryz.ntmps78
      go_wp2_with (go_at_call 52; refine (CS.out _ (Out.alloc (Out.refl _) _)).mono ?_; rintro e w1 ⟨rfl, o1⟩; have x1 := cell_later o1 (cell_fresh w _ _ 1 _ rfl))
      go_ret2
      exact ⟨1, rfl, fun z hz => by cases hz; rfl, HO o1⟩
    · rw [if_neg h2]
      have g2 : ¬ (4096 : Int) < fn := by omega
      by_cases h3 : 1024 < dn
      · rw [if_pos h3]
        have g3 : (1024 : Int) < dn := by omega
        go_enter Tryz.func78, Tryz.ntmps78
        go_wp2_with (go_at_call 52; refine (CS.out _ (Out.alloc (Out.refl _) _)).mono ?_; rintro e w1 ⟨rfl, o1⟩; have x1 := cell_later o1 (cell_fresh w _ _ 1 _ rfl); have x2 := cell_later o1 (cell_fresh w _ _ 2 _ rfl))
        go_ret2
        exact ⟨2, rfl, fun z hz => by cases hz; rfl, HO o1⟩
      · rw [if_neg h3]
        have g3 : ¬ (1024 : Int) < dn := by omega
        go_enter Tryz.func78, Tryz.ntmps78
        go_wp2_with (go_at_call 52; refine (CS.out _ (Out.alloc (Out.refl _) _)).mono ?_; rintro e w1 ⟨rfl, o1⟩; have x1 := cell_later o1 (cell_fresh w _ _ 1 _ rfl); have x2 := cell_later o1 (cell_fresh w _ _ 2 _ rfl))
        go_ret2
        exact ⟨0, rfl, (fun z hz => by cases hz), HO o1⟩
theorem entryFault_any (m : Img) (w : World) (ta fa da : Option Addr) (tc fc dc : Nat) : Calls Tryz.prog 82 #[.agg #[.slice ta m.T.length tc, .slice fa m.F.length fc, .slice da m.D.length dc, .int .i64 m.en]] w (FltE (entP m) w) := by
  unfold entP
  generalize m.T.length = tn at *
  generalize m.F.length = fn at *
  generalize m.D.length = dn at *
  generalize m.en = en at *
  by_cases h1 : en < 0
  · rw [if_pos (.inl h1)]
    have g1 : decide (en < 0) = true := by simpa using h1
    go_enter Tryz.func82, Tryz.ntmps82
    go_wp2
    go_quiet (fail)
    go_wp2
    go_ret2
    exact ⟨0, rfl, fun z hz => by cases hz; rfl, Out.drewN (Out.alloc (Out.refl _) _) _⟩
  · have g1 : decide (en < 0) = false := by simpa using h1
    by_cases h2 : (fn : Int) ≤ en
    · rw [if_pos (.inr h2)]
      go_enter Tryz.func82, Tryz.ntmps82
      go_wp2
      go_quiet (fail)
      go_wp2
      go_ret2
      exact ⟨0, rfl, fun z hz => by cases hz; rfl, Out.drewN (Out.alloc (Out.refl _) _) _⟩
    · rw [if_neg (by omega)]
      have h2 : en < (fn : Int) := by omega
      go_enter Tryz.func82, Tryz.ntmps82
      go_wp2
      go_quiet (fail)
      go_wp2
      go_ret2
      exact ⟨0, by simp; omega, (fun z hz => by cases hz), Out.drewN (Out.alloc (Out.refl _) _) _⟩
theorem insnFault_any (m : Img) (w : World) (ta fa da : Option Addr) (tc fc dc : Nat) (hT : InsA w ta m.T) (hm : m.T.length ≤ 3518437208883) : Calls Tryz.prog 83 #[.agg #[.slice ta m.T.length tc, .slice fa m.F.length fc, .slice da m.D.length dc, .int .i64 m.en]] w (FltE (insP m) w) := by
  unfold insP
  generalize m.F.length = fn at *
  generalize m.D.length = dn at *
  generalize m.T = T at *
  obtain ⟨n, hn⟩ : ∃ n, Hid (n = T.length) := ⟨_, rfl⟩
  rw [← hn.out] at hm ⊢
  go_enter Tryz.func83, Tryz.ntmps83
  go_wp2
  go_loopw [9] (fun i wr => ∃ k : Nat, k ≤ n ∧ i = .int .i64 k ∧ Hid (∀ j, j < k → inB T j = false) ∧ Hid (Out w wr)) (fun i _ => n - (intOf i).toNat)
  case atStart => exact ⟨0, by omega, rfl, hidOf (fun j hj => by omega), hidOf (Out.alloc (Out.refl _) _)⟩
  case round =>
    obtain ⟨k, hk, rfl, hg, hor⟩ := hrel
    by_cases hkl : k < n
    · have hlt : (k : Int) < n := by omega
      obtain ⟨x, hx⟩ : ∃ x, T[k]? = some x := ⟨_, List.getElem?_eq_getElem (by rw [← hn.out]; exact hkl)⟩
      obtain ⟨b, off, rfl, q0, q1, q2, q3, q4⟩ := (hT.out hor.out).get hx
      have hB : inB T k = !fitI x := by simp [inB, hx]
      have CF : Hid (∀ wx, Calls Tryz.prog 102 #[.agg #[.int .i64 x.o, .int .i64 x.d, .int .i64 x.s, .int .i64 x.f, .int .i64 x.i]] wx fun e w' => e = .returned (.bool (fitI x)) ∧ Out wx w') := fun wx => insnFits_any x wx
      clear hT
      generalize fitI x = bf at *
      cases bf
      · have hfin : Hid (fstB (inB T) n = some k) := hidOf (fstB_some hkl hg.out hB)
        clear hB
        go_wp2_with (go_at_call 102; refine (CF.out _).mono ?_; rintro e w1 ⟨rfl, o1⟩)
        go_ret2
        exact ⟨k, by rw [hfin.out]; rfl, fun z hz => by rw [hfin.out] at hz; cases hz; rfl, Out.trans (Out.alloc hor.out _) o1⟩
      · have Hg2 : Hid (∀ j, j < k + 1 → inB T j = false) := hidOf (fun j hj => by
          by_cases e : j = k
          · rw [e, hB]; rfl
          · exact hg.out j (by omega))
        clear hB
        go_wp2_with (go_at_call 102; refine (CF.out _).mono ?_; rintro e w1 ⟨rfl, o1⟩)
        go_roundw
        case rel => exact ⟨k + 1, by omega, by simp, Hg2, hidOf (Out.trans (Out.alloc hor.out _) o1)⟩
        case measure => simp [intOf]; omega
    · have hlt : ¬ (k : Int) < n := by omega
      have hfin : Hid (fstB (inB T) n = none) := hidOf (fstB_none fun j hj => hg.out j (by omega))
      go_wp2
      go_ret2
      exact ⟨0, by rw [hfin.out]; rfl, (fun z hz => by rw [hfin.out] at hz; cases hz), hor.out⟩
end Go.Proofs.YthififblejbleaaGreatDoor
