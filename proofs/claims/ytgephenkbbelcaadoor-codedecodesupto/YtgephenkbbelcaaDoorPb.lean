import Derived.Test.YtgephenkbbelcaaDoorMe
import Derived.Deep.RegionHeld3
import Derived.Deep.QuietTactic
import Derived.BigQuiet
import Derived.Lib.EndianBits
namespace Go.Proofs.YtgephenkbbelcaaDoor
open Go.RowKit
set_option linter.unusedVariables false
set_option linter.unusedSimpArgs false

/-- the first instruction that may not be, and why -/
def RefIs (l : List Ins) (k e : Int) : Prop := ((∀ x ∈ l, may x = 0) ∧ k = 0 ∧ e = 0) ∨ ∃ q : Nat, ∃ x, k = q ∧ l[q]? = some x ∧ may x = e ∧ e ≠ 0 ∧ ∀ j y, j < q → l[j]? = some y → may y = 0
theorem RefIs.one {l : List Ins} {k e k' e' : Int} (h : RefIs l k e) (g : RefIs l k' e') : k = k' ∧ e = e' := by
  rcases h with ⟨h1, rfl, rfl⟩ | ⟨q, x, rfl, h1, rfl, h2, h3⟩ <;> rcases g with ⟨g1, rfl, rfl⟩ | ⟨q', x', rfl, g1, rfl, g2, g3⟩
  · exact ⟨rfl, rfl⟩
  · exact absurd (h1 x' (List.mem_of_getElem? g1)) g2
  · exact absurd (g1 x (List.mem_of_getElem? h1)) h2
  · have : q = q' := by
      rcases Nat.lt_trichotomy q q' with l | l | l
      · exact absurd (g3 q x l h1) h2
      · exact l
      · exact absurd (h3 q' x' l g1) g2
    subst this
    rw [h1] at g1
    cases g1
    exact ⟨rfl, rfl⟩
theorem refused_any (w : World) (ht : Tabs w) (a : Option Addr) (n cap : Nat) (l : List Ins) (hn : l.length = n) (hi : InsA w a l) (hm : n ≤ 3518437208883) : Calls Tryd.prog 22 #[.slice a n cap] w fun e w' => ∃ k f, e = .returned (.tuple #[.int .i64 k, .int .i64 f]) ∧ RefIs l k f ∧ Out w w' := by
  go_enter Tryd.func22, Tryd.ntmps22
  go_wp2
  go_loopw [9] (fun i wr => ∃ k : Nat, k ≤ n ∧ i = .int .i64 k ∧ Hid (∀ j y, j < k → l[j]? = some y → may y = 0) ∧ Out w wr) (fun i _ => n - (intOf i).toNat)
  case atStart => exact ⟨0, by omega, rfl, by intro j y hj; omega, Out.refl _⟩
  case round =>
    obtain ⟨k, hk, rfl, hz, hor⟩ := hrel
    by_cases hkl : k < n
    · have hlt : (k : Int) < n := by omega
      rcases hi with hz | ⟨b, off, rfl, hc⟩
      · simp [hz] at hn; omega
      obtain ⟨x, hx⟩ : ∃ x, l[k]? = some x := ⟨_, List.getElem?_eq_getElem (by omega)⟩
      obtain ⟨c0, c1, c2, c3, c4⟩ := hc k x hx
      have q0 := cell_later hor c0
      have q1 := cell_later hor c1
      have q2 := cell_later hor c2
      have q3 := cell_later hor c3
      have q4 := cell_later hor c4
      obtain ⟨o, d, s, f, i⟩ := x
      clear hc c0 c1 c2 c3 c4
      simp only at q0 q1 q2 q3 q4
      cases hw : (mayP o d s f i != 0)
      · go_wp2_with (go_at_call 31; refine (may_lit _ (ht.1.out (hor.alloc _)) (ht.2.out (hor.alloc _)) _ _ _ _ _).mono ?_; rintro e w1 ⟨rfl, h1⟩)
        go_roundw
        case rel =>
          refine ⟨k + 1, by omega, by simp, ?_, Out.trans (hor.alloc _) h1⟩
          intro j y hj hy
          by_cases e : j = k
          · subst e
            rw [hx] at hy; cases hy
            simpa [may] using hw
          · exact hz.out j y (by omega) hy
        case measure => simp [intOf]; omega
      · go_wp2_with (go_at_call 31; refine (may_lit _ (ht.1.out (hor.alloc _)) (ht.2.out (hor.alloc _)) _ _ _ _ _).mono ?_; rintro e w1 ⟨rfl, h1⟩)
        go_ret2
        exact ⟨_, _, rfl, .inr ⟨k, _, rfl, hx, rfl, by simpa using hw, hz.out⟩, Out.trans (hor.alloc _) h1⟩
    · have hlt : ¬ (k : Int) < n := by omega
      obtain rfl : k = n := by omega
      go_wp2
      go_ret2
      refine ⟨_, _, rfl, .inl ⟨fun x hx => ?_, rfl, rfl⟩, hor⟩
      obtain ⟨j, hj, e⟩ := List.getElem_of_mem hx
      exact hz.out j x (by omega) (by rw [List.getElem?_eq_getElem hj, e])

/-- a row in which the bytes B lie from o on -/
def lay (f : Nat → Value) (o : Nat) (B : List Int) : Nat → Value := fun j => if o ≤ j ∧ j < o + B.length then .int .u8 (gB B (j - o)) else f j
theorem lay_lay (f : Nat → Value) (o : Nat) (A B : List Int) (j : Nat) : lay (lay f o A) (o + A.length) B j = lay f o (A ++ B) j := by
  unfold lay
  simp only [List.length_append]
  by_cases h1 : o ≤ j ∧ j < o + A.length
  · rw [if_neg (by omega), if_pos h1, if_pos (by omega), gB_app _ _ _ (by omega)]
  · by_cases h2 : o + A.length ≤ j ∧ j < o + A.length + B.length
    · rw [if_pos h2, if_pos (by omega)]
      have : gB (A ++ B) (j - o) = gB B (j - (o + A.length)) := by
        simp only [gB, List.getD]
        rw [List.getElem?_append_right (by omega)]
        congr 2; omega
      rw [this]
    · rw [if_neg h2, if_neg h1, if_neg (by omega)]
theorem lay_one (f : Nat → Value) (o : Nat) (z : Int) (j : Nat) : (if j = o then Value.int .u8 z else f j) = lay f o [z] j := by
  unfold lay
  by_cases h : j = o
  · subst h; rw [if_pos rfl, if_pos (by simp)]; simp [gB]
  · rw [if_neg h, if_neg (by simp; omega)]
/-- what a call that lays bytes leaves -/
def Lays (g n o : Nat) (f : Nat → Value) (B : List Int) (w w' : World) : Prop := w'.rowIs g 5 n (lay f o B) ∧ Chg (fun k => k = g) w w'
theorem layN1 (w : World) (g n o len cap : Nat) (f : Nat → Value) (v : Int) (hr : w.rowIs g 5 n f) (ho : o + 1 ≤ n) (hl : 1 ≤ len) (hll : len ≤ 1000000000000000) (h0 : 0 ≤ v) (h1 : v < 18446744073709551616) :
    Calls Tryd.prog 35 #[.slice (some ⟨g, o, none⟩) len cap, .int .u64 v, .int .i64 1] w fun e w' => (∃ r, e = .returned r) ∧ Lays g n o f [v % 256] w w' := by
  have hc0 := hr.cell (i := o) (by omega)
  have hf0 := hr.frozen o
  have hl' : (1 : Int) ≤ len := by omega
  go_enter Tryd.func35, Tryd.ntmps35
  go_wp2
  go_end0
  exact ⟨⟨_, rfl⟩, (hr.set o _).congr (fun j _ => lay_one f o _ j), Chg.setCell (S := fun k => k = g) (Chg.refl _ _) (p := ⟨g, o, none⟩) rfl _⟩
theorem lay_two (f : Nat → Value) (o : Nat) (x y : Int) (j : Nat) : (if j = o then Value.int .u8 x else if j = o + 1 then .int .u8 y else f j) = lay f o [x, y] j := by
  unfold lay
  by_cases h : j = o
  · subst h; rw [if_pos rfl, if_pos (by simp)]; simp [gB]
  by_cases h1 : j = o + 1
  · subst h1; rw [if_neg h, if_pos rfl, if_pos (by simp)]; simp [gB]
  · rw [if_neg h, if_neg h1, if_neg (by simp; omega)]
theorem lay_four (f : Nat → Value) (o : Nat) (x y z u : Int) (j : Nat) : (if j = o then Value.int .u8 x else if j = o + 1 then .int .u8 y else if j = o + 2 then .int .u8 z else if j = o + 3 then .int .u8 u else f j) = lay f o [x, y, z, u] j := by
  unfold lay
  by_cases h : j = o
  · subst h; rw [if_pos rfl, if_pos (by simp)]; simp [gB]
  by_cases h1 : j = o + 1
  · subst h1; rw [if_neg h, if_pos rfl, if_pos (by simp)]; simp [gB]
  by_cases h2 : j = o + 2
  · subst h2; rw [if_neg h, if_neg h1, if_pos rfl, if_pos (by simp)]; simp [gB]
  by_cases h3 : j = o + 3
  · subst h3; rw [if_neg h, if_neg h1, if_neg h2, if_pos rfl, if_pos (by simp)]; simp [gB]
  · rw [if_neg h, if_neg h1, if_neg h2, if_neg h3, if_neg (by simp; omega)]
theorem layN2 (w : World) (g n o len cap : Nat) (f : Nat → Value) (v : Int) (hr : w.rowIs g 5 n f) (ho : o + 2 ≤ n) (hl : 2 ≤ len) (hll : len ≤ 1000000000000000) (h0 : 0 ≤ v) (h1 : v < 18446744073709551616) :
    Calls Tryd.prog 35 #[.slice (some ⟨g, o, none⟩) len cap, .int .u64 v, .int .i64 2] w fun e w' => (∃ r, e = .returned r) ∧ Lays g n o f [v % 256, v / 256 % 256] w w' := by
  have hc0 := hr.cell (i := o) (by omega)
  have hf0 := hr.frozen o
  have hc1 := hr.cell (i := o + 1) (by omega)
  have hf1 := hr.frozen (o + 1)
  have hl' : (2 : Int) ≤ len := by omega
  go_enter Tryd.func35, Tryd.ntmps35
  go_wp2
  go_end0
  exact ⟨⟨_, rfl⟩, ((hr.set (o + 1) _).set o _).congr (fun j _ => lay_two f o _ _ j), Chg.setCell (S := fun k => k = g) (Chg.setCell (S := fun k => k = g) (Chg.refl _ _) (p := ⟨g, o + 1, none⟩) rfl _) (p := ⟨g, o, none⟩) rfl _⟩
theorem layN4 (w : World) (g n o len cap : Nat) (f : Nat → Value) (v : Int) (hr : w.rowIs g 5 n f) (ho : o + 4 ≤ n) (hl : 4 ≤ len) (hll : len ≤ 1000000000000000) (h0 : 0 ≤ v) (h1 : v < 18446744073709551616) :
    Calls Tryd.prog 35 #[.slice (some ⟨g, o, none⟩) len cap, .int .u64 v, .int .i64 4] w fun e w' => (∃ r, e = .returned r) ∧ Lays g n o f (by4 v) w w' := by
  have hc0 := hr.cell (i := o) (by omega)
  have hf0 := hr.frozen o
  have hc1 := hr.cell (i := o + 1) (by omega)
  have hf1 := hr.frozen (o + 1)
  have hc2 := hr.cell (i := o + 2) (by omega)
  have hf2 := hr.frozen (o + 2)
  have hc3 := hr.cell (i := o + 3) (by omega)
  have hf3 := hr.frozen (o + 3)
  have hl' : (4 : Int) ≤ len := by omega
  go_enter Tryd.func35, Tryd.ntmps35
  go_wp2
  go_end0
  exact ⟨⟨_, rfl⟩, ((((hr.set (o + 3) _).set (o + 2) _).set (o + 1) _).set o _).congr (fun j _ => lay_four f o _ _ _ _ j), Chg.setCell (S := fun k => k = g) (Chg.setCell (S := fun k => k = g) (Chg.setCell (S := fun k => k = g) (Chg.setCell (S := fun k => k = g) (Chg.refl _ _) (p := ⟨g, o + 3, none⟩) rfl _) (p := ⟨g, o + 2, none⟩) rfl _) (p := ⟨g, o + 1, none⟩) rfl _) (p := ⟨g, o, none⟩) rfl _⟩
end Go.Proofs.YtgephenkbbelcaaDoor
