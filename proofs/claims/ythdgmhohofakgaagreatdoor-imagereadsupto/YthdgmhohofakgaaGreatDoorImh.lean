import Derived.Test.YthdgmhohofakgaaGreatDoorImg
namespace Go.Proofs.YthdgmhohofakgaaGreatDoor
open Go.RowKit
set_option linter.unusedVariables false
set_option linter.unusedSimpArgs false
/-- a slice of instructions at an address, that reads l -/
def InsA (w : World) (a : Option Addr) (l : List Ins) : Prop :=
  l = [] ∨ ∃ b off, a = some ⟨b, off, none⟩ ∧ ∀ k x, l[k]? = some x → w.cell? ⟨b, off + k * 5, none⟩ = some (.int .i64 x.o) ∧ w.cell? ⟨b, off + k * 5 + 1, none⟩ = some (.int .i64 x.d) ∧
    w.cell? ⟨b, off + k * 5 + 2, none⟩ = some (.int .i64 x.s) ∧ w.cell? ⟨b, off + k * 5 + 3, none⟩ = some (.int .i64 x.f) ∧ w.cell? ⟨b, off + k * 5 + 4, none⟩ = some (.int .i64 x.i)
theorem InsA.out {w w' : World} {a : Option Addr} {l : List Ins} (h : InsA w a l) (o : Out w w') : InsA w' a l := by
  rcases h with h | ⟨b, off, rfl, h⟩
  · exact .inl h
  · exact .inr ⟨b, off, rfl, fun k x hx => by
      obtain ⟨h0, h1, h2, h3, h4⟩ := h k x hx
      exact ⟨cell_later o h0, cell_later o h1, cell_later o h2, cell_later o h3, cell_later o h4⟩⟩
theorem InsA.get {w : World} {a : Option Addr} {l : List Ins} (h : InsA w a l) {k : Nat} {x : Ins} (hx : l[k]? = some x) : ∃ b off, a = some ⟨b, off, none⟩ ∧ w.cell? ⟨b, off + k * 5, none⟩ = some (.int .i64 x.o) ∧ w.cell? ⟨b, off + k * 5 + 1, none⟩ = some (.int .i64 x.d) ∧
    w.cell? ⟨b, off + k * 5 + 2, none⟩ = some (.int .i64 x.s) ∧ w.cell? ⟨b, off + k * 5 + 3, none⟩ = some (.int .i64 x.f) ∧ w.cell? ⟨b, off + k * 5 + 4, none⟩ = some (.int .i64 x.i) := by
  rcases h with h | ⟨b, off, rfl, h⟩
  · simp [h] at hx
  · exact ⟨b, off, rfl, h k x hx⟩
/-- functions -/
def FnA (w : World) (a : Option Addr) (l : List Fn) : Prop :=
  l = [] ∨ ∃ b off, a = some ⟨b, off, none⟩ ∧ ∀ k x, l[k]? = some x → w.cell? ⟨b, off + k * 4, none⟩ = some (.string ⟨x.nm.toArray⟩) ∧ w.cell? ⟨b, off + k * 4 + 1, none⟩ = some (.int .i64 x.ob) ∧
    w.cell? ⟨b, off + k * 4 + 2, none⟩ = some (.int .i64 x.fi) ∧ w.cell? ⟨b, off + k * 4 + 3, none⟩ = some (.int .i64 x.ct)
theorem FnA.out {w w' : World} {a : Option Addr} {l : List Fn} (h : FnA w a l) (o : Out w w') : FnA w' a l := by
  rcases h with h | ⟨b, off, rfl, h⟩
  · exact .inl h
  · exact .inr ⟨b, off, rfl, fun k x hx => by
      obtain ⟨h0, h1, h2, h3⟩ := h k x hx
      exact ⟨cell_later o h0, cell_later o h1, cell_later o h2, cell_later o h3⟩⟩
theorem FnA.get {w : World} {a : Option Addr} {l : List Fn} (h : FnA w a l) {k : Nat} {x : Fn} (hx : l[k]? = some x) : ∃ b off, a = some ⟨b, off, none⟩ ∧ w.cell? ⟨b, off + k * 4, none⟩ = some (.string ⟨x.nm.toArray⟩) ∧ w.cell? ⟨b, off + k * 4 + 1, none⟩ = some (.int .i64 x.ob) ∧
    w.cell? ⟨b, off + k * 4 + 2, none⟩ = some (.int .i64 x.fi) ∧ w.cell? ⟨b, off + k * 4 + 3, none⟩ = some (.int .i64 x.ct) := by
  rcases h with h | ⟨b, off, rfl, h⟩
  · simp [h] at hx
  · exact ⟨b, off, rfl, h k x hx⟩
/-- tables -/
def TdA (w : World) (a : Option Addr) (l : List Td) : Prop :=
  l = [] ∨ ∃ b off, a = some ⟨b, off, none⟩ ∧ ∀ k x, l[k]? = some x → w.cell? ⟨b, off + k * 5, none⟩ = some (.string ⟨x.nm.toArray⟩) ∧ w.cell? ⟨b, off + k * 5 + 1, none⟩ = some (.int .i64 x.kd) ∧
    w.cell? ⟨b, off + k * 5 + 2, none⟩ = some (.int .i64 x.ky) ∧ w.cell? ⟨b, off + k * 5 + 3, none⟩ = some (.int .i64 x.vl) ∧ w.cell? ⟨b, off + k * 5 + 4, none⟩ = some (.int .i64 x.en)
theorem TdA.out {w w' : World} {a : Option Addr} {l : List Td} (h : TdA w a l) (o : Out w w') : TdA w' a l := by
  rcases h with h | ⟨b, off, rfl, h⟩
  · exact .inl h
  · exact .inr ⟨b, off, rfl, fun k x hx => by
      obtain ⟨h0, h1, h2, h3, h4⟩ := h k x hx
      exact ⟨cell_later o h0, cell_later o h1, cell_later o h2, cell_later o h3, cell_later o h4⟩⟩
theorem TdA.get {w : World} {a : Option Addr} {l : List Td} (h : TdA w a l) {k : Nat} {x : Td} (hx : l[k]? = some x) : ∃ b off, a = some ⟨b, off, none⟩ ∧ w.cell? ⟨b, off + k * 5, none⟩ = some (.string ⟨x.nm.toArray⟩) ∧ w.cell? ⟨b, off + k * 5 + 1, none⟩ = some (.int .i64 x.kd) ∧
    w.cell? ⟨b, off + k * 5 + 2, none⟩ = some (.int .i64 x.ky) ∧ w.cell? ⟨b, off + k * 5 + 3, none⟩ = some (.int .i64 x.vl) ∧ w.cell? ⟨b, off + k * 5 + 4, none⟩ = some (.int .i64 x.en) := by
  rcases h with h | ⟨b, off, rfl, h⟩
  · simp [h] at hx
  · exact ⟨b, off, rfl, h k x hx⟩
theorem wide_lit (w : World) (o d s f i : Int) : Calls Tryz.prog 72 #[.agg #[.int .i64 o, .int .i64 d, .int .i64 s, .int .i64 f, .int .i64 i]] w fun e w' => e = .returned (.bool (isW o)) ∧ Out w w' := by
  go_enter Tryz.func72, Tryz.ntmps72
  go_wp2
  go_ret
  exact ⟨rfl, Out.alloc (Out.refl _) _⟩
theorem take_filter (l : List Ins) (k : Nat) (x : Ins) (h : l[k]? = some x) : ((l.take (k + 1)).filter (fun x => isW x.o)).length = ((l.take k).filter (fun x => isW x.o)).length + (if isW x.o then 1 else 0) := by
  rw [List.take_add_one, h]
  simp only [Option.toList_some, List.filter_append, List.length_append, List.filter_cons, List.filter_nil]
  split <;> simp
theorem slotsI_any (w : World) (a : Option Addr) (n cap : Nat) (l : List Ins) (hn : l.length = n) (hi : InsA w a l) (hm : n ≤ 3518437208883) : Calls Tryz.prog 46 #[.slice a n cap] w fun e w' => e = .returned (.int .i64 (slotsP l : Nat)) ∧ Out w w' := by
  have hb0 : ∀ k : Nat, ((l.take k).filter (fun x => isW x.o)).length ≤ n := fun k => Nat.le_trans (List.length_filter_le _ _) (by simp; omega)
  go_enter Tryz.func46, Tryz.ntmps46
  go_wp2
  go_loopw [3, 10] (fun c i wr => ∃ k m : Nat, k ≤ n ∧ Hid (m = ((l.take k).filter (fun x => isW x.o)).length) ∧ m ≤ n ∧ c = .int .i64 ((n : Int) + m) ∧ i = .int .i64 k ∧ Out w wr) (fun _ i _ => n - (intOf i).toNat)
  case atStart => exact ⟨0, 0, by omega, by simp [Hid], by omega, by simp, rfl, Out.refl _⟩
  case round =>
    obtain ⟨k, m, hk, hm1, hm2, rfl, rfl, hor⟩ := hrel
    by_cases hkl : k < n
    · have hlt : (k : Int) < n := by omega
      rcases hi with hz | ⟨b, off, rfl, hc⟩
      · simp [hz] at hn; omega
      obtain ⟨x, hx⟩ : ∃ x, l[k]? = some x := ⟨_, List.getElem?_eq_getElem (by omega)⟩
      obtain ⟨c0, c1, c2, c3, c4⟩ := hc k x hx
      have q0 := cell_later hor c0
      have q1 := cell_later hor c1
      have q2 := cell_later hor c2
      have q3 := cell_later hor c3
      have q4 := cell_later hor c4
      have hF := take_filter l k x hx
      have hb1 := hb0 (k + 1)
      obtain ⟨o, d, s, f, i⟩ := x
      clear hc c0 c1 c2 c3 c4
      simp only at q0 q1 q2 q3 q4 hF
      cases hw : isW o
      · rw [hw] at hF
        go_wp2_with (go_at_call 72; refine (wide_lit _ _ _ _ _ _).mono ?_; rw [hw]; rintro e w1 ⟨rfl, h1⟩)
        go_roundw
        case rel => exact ⟨k + 1, m, by omega, by have := hm1.out; simp [Hid]; rw [hF]; simpa using this, hm2, rfl, by simp, Out.trans (hor.alloc _) h1⟩
        case measure => simp [intOf]; omega
      · rw [hw] at hF
        have hm3 : m + 1 ≤ n := by have := hm1.out; simp at hF; omega
        go_wp2_with (go_at_call 72; refine (wide_lit _ _ _ _ _ _).mono ?_; rw [hw]; rintro e w1 ⟨rfl, h1⟩)
        go_roundw
        case rel => exact ⟨k + 1, m + 1, by omega, by have := hm1.out; simp [Hid]; rw [hF]; simp; exact this, hm3, by simp; omega, by simp, Out.trans (hor.alloc _) h1⟩
        case measure => simp [intOf]; omega
    · have hlt : ¬ (k : Int) < n := by omega
      have hfin : Hid (slotsP l = n + m) := hidOf (by have := hm1.out; rw [List.take_of_length_le (by omega)] at this; unfold slotsP; omega)
      go_wp2
      go_ret
      exact ⟨by rw [hfin.out]; simp, hor⟩
theorem within_any (n a b : Int) (w : World) : Calls Tryz.prog 96 #[.int .i64 n, .int .i64 a, .int .i64 b] w fun e w' => e = .returned (.bool (decide (a ≤ n) && decide (n ≤ b))) ∧ w = w' := by
  go_enter Tryz.func96, Tryz.ntmps96
  go_wp2
  all_goals (go_ret; refine ret_bool ?_; simp_all <;> omega)
/-- a table's value size, rounded up -/
theorem sizeI_any (x : Td) (s : ByteArray) (w : World) (h1 : -1000000 ≤ x.ky ∧ x.ky ≤ 1000000) (h2 : 1 ≤ x.vl ∧ x.vl ≤ 1000000) (h3 : 1 ≤ x.en ∧ x.en ≤ 1000000) : Calls Tryz.prog 87 #[.agg #[.string s, .int .i64 x.kd, .int .i64 x.ky, .int .i64 x.vl, .int .i64 x.en]] w fun e w' => e = .returned (.int .i64 (szT x)) ∧ Out w w' := by
  obtain ⟨nm, kd, ky, vl, en⟩ := x
  simp only at h1 h2 h3 ⊢
  obtain ⟨a1, a2⟩ := h1
  obtain ⟨b1, b2⟩ := h2
  obtain ⟨c1, c2⟩ := h3
  have hq : Int.tdiv (vl + 8 - 1) 8 = (vl + 7) / 8 := by rw [Int.tdiv_eq_ediv_of_nonneg (by omega)]; congr 1; omega
  have hp : -9223372036854775808 ≤ en * (ky + (vl + 7) / 8 * 8 + 8) ∧ en * (ky + (vl + 7) / 8 * 8 + 8) ≤ 9223372036854775807 := by
    obtain ⟨z, hz⟩ : ∃ z, z = ky + (vl + 7) / 8 * 8 + 8 := ⟨_, rfl⟩
    rw [← hz]
    have z1 : -3000000 ≤ z := by omega
    have z2 : z ≤ 3000000 := by omega
    have e1 : en * z ≤ en * 3000000 := Int.mul_le_mul_of_nonneg_left z2 (by omega)
    have e2 : en * (-3000000) ≤ en * z := Int.mul_le_mul_of_nonneg_left z1 (by omega)
    omega
  unfold szT
  simp only
  go_enter Tryz.func87, Tryz.ntmps87
  go_wp2
  go_ret
  exact ⟨rfl, Out.alloc (Out.refl _) _⟩
theorem within_of {n a b : Int} {r : Bool} (h : (decide (a ≤ n) && decide (n ≤ b)) = r) (w : World) : Calls Tryz.prog 96 #[.int .i64 n, .int .i64 a, .int .i64 b] w fun e w' => e = .returned (.bool r) ∧ w = w' := h ▸ within_any n a b w
theorem tableMay_any (x : Td) (s : ByteArray) (w : World) : Calls Tryz.prog 86 #[.agg #[.string s, .int .i64 x.kd, .int .i64 x.ky, .int .i64 x.vl, .int .i64 x.en]] w fun e w' => e = .returned (.bool (mayT x)) ∧ Out w w' := by
  have hS := sizeI_any x s
  have hM : ∀ lo hi : Int, (x.kd = 1 ∧ lo = 4 ∧ hi = 4 ∨ x.kd = 2 ∧ lo = 1 ∧ hi = 64) → mayT x = ((decide (lo ≤ x.ky) && decide (x.ky ≤ hi)) && (decide (1 ≤ x.vl) && decide (x.vl ≤ 4096)) && (decide (1 ≤ x.en) && decide (x.en ≤ 65536)) && decide (szT x ≤ 16777216)) := by
    intro lo hi h
    unfold mayT
    rcases h with ⟨h, rfl, rfl⟩ | ⟨h, rfl, rfl⟩
    · congr 3; simp [h]; rw [Bool.eq_iff_iff]; simp; omega
    · congr 3; simp [h]
  have hN : ¬ x.kd = 1 → ¬ x.kd = 2 → mayT x = false := fun h1 h2 => by unfold mayT; simp [h1, h2]
  generalize mayT x = M at *
  generalize szT x = Z at *
  obtain ⟨nm, kd, ky, vl, en⟩ := x
  simp only at *
  by_cases hk : kd = 1 ∨ kd = 2
  · obtain ⟨lo, hi, hlh⟩ : ∃ lo hi : Int, kd = 1 ∧ lo = 4 ∧ hi = 4 ∨ kd = 2 ∧ lo = 1 ∧ hi = 64 := by
      rcases hk with h | h
      · exact ⟨4, 4, .inl ⟨h, rfl, rfl⟩⟩
      · exact ⟨1, 64, .inr ⟨h, rfl, rfl⟩⟩
    have hM := hM lo hi hlh
    clear hN hk
    obtain ⟨b1, e1⟩ : ∃ b, (decide (lo ≤ ky) && decide (ky ≤ hi)) = b := ⟨_, rfl⟩
    obtain ⟨b2, e2⟩ : ∃ b, (decide (1 ≤ vl) && decide (vl ≤ 4096)) = b := ⟨_, rfl⟩
    obtain ⟨b3, e3⟩ : ∃ b, (decide (1 ≤ en) && decide (en ≤ 65536)) = b := ⟨_, rfl⟩
    rw [e1, e2, e3] at hM
    have hS2 : b1 = true → b2 = true → b3 = true → ∀ w, Calls Tryz.prog 87 #[.agg #[.string s, .int .i64 kd, .int .i64 ky, .int .i64 vl, .int .i64 en]] w fun e w' => e = .returned (.int .i64 Z) ∧ Out w w' := fun q1 q2 q3 w => by
      rw [q1] at e1; rw [q2] at e2; rw [q3] at e3
      simp only [Bool.and_eq_true, decide_eq_true_eq] at e1 e2 e3
      exact hS w (by omega) (by omega) (by omega)
    have E1 := hidOf e1
    have E2 := hidOf e2
    have E3 := hidOf e3
    clear hS e1 e2 e3
    subst hM
    rcases hlh with ⟨rfl, rfl, rfl⟩ | ⟨rfl, rfl, rfl⟩
    all_goals
      cases b1
      · go_enter Tryz.func86, Tryz.ntmps86
        go_wp2_with (go_at_call 96; refine (within_any _ _ _ _).mono ?_; rintro e wz ⟨rfl, rfl⟩; (simp only [E1.out, E2.out, E3.out]))
        go_ret
        exact ⟨by simp, Out.alloc (Out.refl _) _⟩
      · cases b2
        · go_enter Tryz.func86, Tryz.ntmps86
          go_wp2_with (go_at_call 96; refine (within_any _ _ _ _).mono ?_; rintro e wz ⟨rfl, rfl⟩; (simp only [E1.out, E2.out, E3.out]))
          go_ret
          exact ⟨by simp, Out.alloc (Out.refl _) _⟩
        · cases b3
          · go_enter Tryz.func86, Tryz.ntmps86
            go_wp2_with (go_at_call 96; refine (within_any _ _ _ _).mono ?_; rintro e wz ⟨rfl, rfl⟩; (simp only [E1.out, E2.out, E3.out]))
            go_ret
            exact ⟨by simp, Out.alloc (Out.refl _) _⟩
          · have hS3 := hS2 rfl rfl rfl
            go_enter Tryz.func86, Tryz.ntmps86
            go_wp2_with (first | (go_at_call 96; refine (within_any _ _ _ _).mono ?_; rintro e wz ⟨rfl, rfl⟩; (simp only [E1.out, E2.out, E3.out])) | (go_at_call 87; refine (hS3 _).mono ?_; rintro e wy ⟨rfl, o1⟩))
            all_goals (go_ret; exact ⟨by simp_all, Out.trans (Out.alloc (Out.refl _) _) o1⟩)
  · have h1 : ¬ kd = 1 := fun h => hk (.inl h)
    have h2 : ¬ kd = 2 := fun h => hk (.inr h)
    rw [hN h1 h2]
    clear hM hN hS hk
    go_enter Tryz.func86, Tryz.ntmps86
    go_wp2
    all_goals (go_ret; exact ⟨rfl, Out.alloc (Out.refl _) _⟩)
end Go.Proofs.YthdgmhohofakgaaGreatDoor
