import Derived.Test.YtekjfbmebekmeaaGreatGa01
import Derived.Laws.BitsAllLaws
import Derived.Laws.CopyOwn
namespace Go.Proofs.YtekjfbmebekmeaaGreat
open Go.RowKit
set_option linter.unusedVariables false
set_option linter.unusedSimpArgs false
def numL : List UInt8 → Nat
  | [] => 0
  | b :: r => b.toNat + 256 * numL r
theorem numL_app (a b : List UInt8) : numL (a ++ b) = numL a + 2 ^ (8 * a.length) * numL b := by
  induction a with
  | nil => simp [numL]
  | cons x r ih =>
    simp only [List.cons_append, numL, ih, List.length_cons]
    rw [show 8 * (r.length + 1) = 8 + 8 * r.length by omega, Nat.pow_add, Nat.mul_add, show (2 : Nat) ^ 8 = 256 by decide, Nat.mul_assoc]
    omega
theorem numL_lt (a : List UInt8) : numL a < 2 ^ (8 * a.length) := by
  induction a with
  | nil => simp [numL]
  | cons x r ih =>
    have hx := x.toNat_lt
    simp only [numL, List.length_cons]
    rw [show 8 * (r.length + 1) = 8 + 8 * r.length by omega, Nat.pow_add, show (2 : Nat) ^ 8 = 256 by decide]
    omega
theorem numL_next {l : List UInt8} {k : Nat} {x : UInt8} (h : l[k]? = some x) : numL (l.take (k + 1)) = (numL (l.take k) ||| x.toNat * 2 ^ (8 * k)) ∧ numL (l.take k) < 2 ^ (8 * k) ∧ x.toNat * 2 ^ (8 * k) + 2 ^ (8 * k) ≤ 2 ^ (8 * (k + 1)) := by
  have hk : k < l.length := (List.getElem?_eq_some_iff.1 h).1
  have hl : (l.take k).length = k := by rw [List.length_take]; omega
  have h1 := numL_lt (l.take k)
  rw [hl] at h1
  have hx := x.toNat_lt
  refine ⟨?_, h1, ?_⟩
  · rw [List.take_add_one, h, Option.toList_some, numL_app, hl]
    have := Nat.two_pow_add_eq_or_of_lt h1 x.toNat
    simp only [numL, Nat.mul_zero, Nat.add_zero]
    rw [Nat.or_comm, Nat.mul_comm x.toNat, ← this]; omega
  · rw [show 8 * (k + 1) = 8 + 8 * k by omega, Nat.pow_add, show (2 : Nat) ^ 8 = 256 by decide, ← Nat.succ_mul]
    exact Nat.mul_le_mul_right _ (by omega)
def By (w : World) (g o : Nat) (l : List UInt8) : Prop := ∀ k x, l[k]? = some x → w.cell? ⟨g, o + k, none⟩ = some (.int .u8 (x.toNat : Int))
set_option maxHeartbeats 1000000 in
theorem number8 (w : World) (g o n c : Nat) (l : List UInt8) (hl : l.length = n) (h : By w g o l) (h8 : n ≤ 1) (hnc : n ≤ c) : Calls Tryz.prog 86 #[.slice (some ⟨g, o, none⟩) n c] w fun e w' => e = .returned (.int .u8 (numL l : Nat)) ∧ w = w' := by
  have H := hidOf h
  have Hl := hidOf hl
  clear h hl
  go_enter Tryz.func86, Tryz.ntmps86
  go_wp2
  go_loopw [3, 8] (fun xv kv wr => ∃ k v : Nat, xv = .int .u8 v ∧ kv = .int .i64 k ∧ k ≤ n ∧ Hid (v = numL (l.take k)) ∧ Hid (wr = w)) (fun _ kv _ => n - (intOf kv).toNat)
  case atStart => exact ⟨0, 0, rfl, rfl, by omega, hidOf (by simp [numL]), hidOf rfl⟩
  case round =>
    obtain ⟨k, v, rfl, rfl, hk, HV, HW⟩ := hrel
    have hww := HW.out
    clear HW
    subst hww
    by_cases hkn : k < n
    · have hlt : (k : Int) < n := by omega
      have hk8 : k < 1 := by omega
      obtain ⟨x, hx⟩ : ∃ x, l[k]? = some x := ⟨_, List.getElem?_eq_getElem (by rw [Hl.out]; exact hkn)⟩
      have hc := H.out k x hx
      obtain ⟨e1, e2, e3⟩ := numL_next hx
      obtain ⟨p, hp⟩ : ∃ p, Hid (p = x.toNat) := ⟨_, rfl⟩
      rw [← hp.out] at hc e1 e3
      rw [← HV.out] at e1 e2
      have e4 : 2 ^ (8 * (k + 1)) ≤ 256 := by
        have : 2 ^ (8 * (k + 1)) ≤ 2 ^ 8 := Nat.pow_le_pow_right (by decide) (by omega)
        exact this
      have hw : IntKind.u8.wrap ((p : Int) * 2 ^ (8 * k)) = ((p * 2 ^ (8 * k) : Nat) : Int) := by
        rw [IntKind.wrap_u8]
        have : (p : Int) * 2 ^ (8 * k) = ((p * 2 ^ (8 * k) : Nat) : Int) := by push_cast; rfl
        rw [this]; omega
      have hor : bits BinOp.or IntKind.u8 (v : Int) (IntKind.u8.wrap ((p : Int) * 2 ^ (8 * k))) = ((v ||| p * 2 ^ (8 * k) : Nat) : Int) := by
        rw [hw]
        exact u8_or_nat v (p * 2 ^ (8 * k)) (by omega) (by omega)
      have hor2 : bits BinOp.or IntKind.u8 (v : Int) ((p : Int) * 2 ^ (8 * k) % 256) = ((v ||| p * 2 ^ (8 * k) : Nat) : Int) := by rw [← hor, IntKind.wrap_u8]
      obtain ⟨v2, hv2⟩ : ∃ v2, v2 = v ||| p * 2 ^ (8 * k) := ⟨_, rfl⟩
      rw [← hv2] at hor hor2 e1
      have E1 := hidOf e1
      have hp8 : p < 256 := by rw [hp.out]; exact x.toNat_lt
      clear hx hw e1 e2 e3 e4 hv2
      go_wp2
      go_roundw
      case rel => exact ⟨k + 1, v2, by simp, by simp, by omega, hidOf E1.out.symm, (by first | exact hidOf rfl | exact hidOf trivial)⟩
      case measure => simp [intOf]; omega
    · have hlt : ¬ (k : Int) < n := by omega
      obtain rfl : n = k := by omega
      go_wp2
      go_ret
      have hv : v = numL l := by rw [HV.out, List.take_of_length_le (by rw [Hl.out]; exact Nat.le_refl _)]
      exact ⟨by rw [hv]; rfl, rfl⟩
set_option maxHeartbeats 1000000 in
theorem number16 (w : World) (g o n c : Nat) (l : List UInt8) (hl : l.length = n) (h : By w g o l) (h8 : n ≤ 2) (hnc : n ≤ c) : Calls Tryz.prog 88 #[.slice (some ⟨g, o, none⟩) n c] w fun e w' => e = .returned (.int .u16 (numL l : Nat)) ∧ w = w' := by
  have H := hidOf h
  have Hl := hidOf hl
  clear h hl
  go_enter Tryz.func88, Tryz.ntmps88
  go_wp2
  go_loopw [3, 8] (fun xv kv wr => ∃ k v : Nat, xv = .int .u16 v ∧ kv = .int .i64 k ∧ k ≤ n ∧ Hid (v = numL (l.take k)) ∧ Hid (wr = w)) (fun _ kv _ => n - (intOf kv).toNat)
  case atStart => exact ⟨0, 0, rfl, rfl, by omega, hidOf (by simp [numL]), hidOf rfl⟩
  case round =>
    obtain ⟨k, v, rfl, rfl, hk, HV, HW⟩ := hrel
    have hww := HW.out
    clear HW
    subst hww
    by_cases hkn : k < n
    · have hlt : (k : Int) < n := by omega
      have hk8 : k < 2 := by omega
      obtain ⟨x, hx⟩ : ∃ x, l[k]? = some x := ⟨_, List.getElem?_eq_getElem (by rw [Hl.out]; exact hkn)⟩
      have hc := H.out k x hx
      obtain ⟨e1, e2, e3⟩ := numL_next hx
      obtain ⟨p, hp⟩ : ∃ p, Hid (p = x.toNat) := ⟨_, rfl⟩
      rw [← hp.out] at hc e1 e3
      rw [← HV.out] at e1 e2
      have e4 : 2 ^ (8 * (k + 1)) ≤ 65536 := by
        have : 2 ^ (8 * (k + 1)) ≤ 2 ^ 16 := Nat.pow_le_pow_right (by decide) (by omega)
        exact this
      have hw : IntKind.u16.wrap ((p : Int) * 2 ^ (8 * k)) = ((p * 2 ^ (8 * k) : Nat) : Int) := by
        rw [IntKind.wrap_u16]
        have : (p : Int) * 2 ^ (8 * k) = ((p * 2 ^ (8 * k) : Nat) : Int) := by push_cast; rfl
        rw [this]; omega
      have hor : bits BinOp.or IntKind.u16 (v : Int) (IntKind.u16.wrap ((p : Int) * 2 ^ (8 * k))) = ((v ||| p * 2 ^ (8 * k) : Nat) : Int) := by
        rw [hw]
        exact u16_or_nat v (p * 2 ^ (8 * k)) (by omega) (by omega)
      have hor2 : bits BinOp.or IntKind.u16 (v : Int) ((p : Int) * 2 ^ (8 * k) % 65536) = ((v ||| p * 2 ^ (8 * k) : Nat) : Int) := by rw [← hor, IntKind.wrap_u16]
      obtain ⟨v2, hv2⟩ : ∃ v2, v2 = v ||| p * 2 ^ (8 * k) := ⟨_, rfl⟩
      rw [← hv2] at hor hor2 e1
      have E1 := hidOf e1
      have hp8 : p < 256 := by rw [hp.out]; exact x.toNat_lt
      clear hx hw e1 e2 e3 e4 hv2
      go_wp2
      go_roundw
      case rel => exact ⟨k + 1, v2, by simp, by simp, by omega, hidOf E1.out.symm, (by first | exact hidOf rfl | exact hidOf trivial)⟩
      case measure => simp [intOf]; omega
    · have hlt : ¬ (k : Int) < n := by omega
      obtain rfl : n = k := by omega
      go_wp2
      go_ret
      have hv : v = numL l := by rw [HV.out, List.take_of_length_le (by rw [Hl.out]; exact Nat.le_refl _)]
      exact ⟨by rw [hv]; rfl, rfl⟩
set_option maxHeartbeats 1000000 in
theorem number32 (w : World) (g o n c : Nat) (l : List UInt8) (hl : l.length = n) (h : By w g o l) (h8 : n ≤ 4) (hnc : n ≤ c) : Calls Tryz.prog 90 #[.slice (some ⟨g, o, none⟩) n c] w fun e w' => e = .returned (.int .u32 (numL l : Nat)) ∧ w = w' := by
  have H := hidOf h
  have Hl := hidOf hl
  clear h hl
  go_enter Tryz.func90, Tryz.ntmps90
  go_wp2
  go_loopw [3, 8] (fun xv kv wr => ∃ k v : Nat, xv = .int .u32 v ∧ kv = .int .i64 k ∧ k ≤ n ∧ Hid (v = numL (l.take k)) ∧ Hid (wr = w)) (fun _ kv _ => n - (intOf kv).toNat)
  case atStart => exact ⟨0, 0, rfl, rfl, by omega, hidOf (by simp [numL]), hidOf rfl⟩
  case round =>
    obtain ⟨k, v, rfl, rfl, hk, HV, HW⟩ := hrel
    have hww := HW.out
    clear HW
    subst hww
    by_cases hkn : k < n
    · have hlt : (k : Int) < n := by omega
      have hk8 : k < 4 := by omega
      obtain ⟨x, hx⟩ : ∃ x, l[k]? = some x := ⟨_, List.getElem?_eq_getElem (by rw [Hl.out]; exact hkn)⟩
      have hc := H.out k x hx
      obtain ⟨e1, e2, e3⟩ := numL_next hx
      obtain ⟨p, hp⟩ : ∃ p, Hid (p = x.toNat) := ⟨_, rfl⟩
      rw [← hp.out] at hc e1 e3
      rw [← HV.out] at e1 e2
      have e4 : 2 ^ (8 * (k + 1)) ≤ 4294967296 := by
        have : 2 ^ (8 * (k + 1)) ≤ 2 ^ 32 := Nat.pow_le_pow_right (by decide) (by omega)
        exact this
      have hw : IntKind.u32.wrap ((p : Int) * 2 ^ (8 * k)) = ((p * 2 ^ (8 * k) : Nat) : Int) := by
        rw [IntKind.wrap_u32]
        have : (p : Int) * 2 ^ (8 * k) = ((p * 2 ^ (8 * k) : Nat) : Int) := by push_cast; rfl
        rw [this]; omega
      have hor : bits BinOp.or IntKind.u32 (v : Int) (IntKind.u32.wrap ((p : Int) * 2 ^ (8 * k))) = ((v ||| p * 2 ^ (8 * k) : Nat) : Int) := by
        rw [hw]
        exact u32_or_nat v (p * 2 ^ (8 * k)) (by omega) (by omega)
      have hor2 : bits BinOp.or IntKind.u32 (v : Int) ((p : Int) * 2 ^ (8 * k) % 4294967296) = ((v ||| p * 2 ^ (8 * k) : Nat) : Int) := by rw [← hor, IntKind.wrap_u32]
      obtain ⟨v2, hv2⟩ : ∃ v2, v2 = v ||| p * 2 ^ (8 * k) := ⟨_, rfl⟩
      rw [← hv2] at hor hor2 e1
      have E1 := hidOf e1
      have hp8 : p < 256 := by rw [hp.out]; exact x.toNat_lt
      clear hx hw e1 e2 e3 e4 hv2
      go_wp2
      go_roundw
      case rel => exact ⟨k + 1, v2, by simp, by simp, by omega, hidOf E1.out.symm, (by first | exact hidOf rfl | exact hidOf trivial)⟩
      case measure => simp [intOf]; omega
    · have hlt : ¬ (k : Int) < n := by omega
      obtain rfl : n = k := by omega
      go_wp2
      go_ret
      have hv : v = numL l := by rw [HV.out, List.take_of_length_le (by rw [Hl.out]; exact Nat.le_refl _)]
      exact ⟨by rw [hv]; rfl, rfl⟩
set_option maxHeartbeats 1000000 in
theorem number64 (w : World) (g o n c : Nat) (l : List UInt8) (hl : l.length = n) (h : By w g o l) (h8 : n ≤ 8) (hnc : n ≤ c) : Calls Tryz.prog 92 #[.slice (some ⟨g, o, none⟩) n c] w fun e w' => e = .returned (.int .u64 (numL l : Nat)) ∧ w = w' := by
  have H := hidOf h
  have Hl := hidOf hl
  clear h hl
  go_enter Tryz.func92, Tryz.ntmps92
  go_wp2
  go_loopw [3, 8] (fun xv kv wr => ∃ k v : Nat, xv = .int .u64 v ∧ kv = .int .i64 k ∧ k ≤ n ∧ Hid (v = numL (l.take k)) ∧ Hid (wr = w)) (fun _ kv _ => n - (intOf kv).toNat)
  case atStart => exact ⟨0, 0, rfl, rfl, by omega, hidOf (by simp [numL]), hidOf rfl⟩
  case round =>
    obtain ⟨k, v, rfl, rfl, hk, HV, HW⟩ := hrel
    have hww := HW.out
    clear HW
    subst hww
    by_cases hkn : k < n
    · have hlt : (k : Int) < n := by omega
      have hk8 : k < 8 := by omega
      obtain ⟨x, hx⟩ : ∃ x, l[k]? = some x := ⟨_, List.getElem?_eq_getElem (by rw [Hl.out]; exact hkn)⟩
      have hc := H.out k x hx
      obtain ⟨e1, e2, e3⟩ := numL_next hx
      obtain ⟨p, hp⟩ : ∃ p, Hid (p = x.toNat) := ⟨_, rfl⟩
      rw [← hp.out] at hc e1 e3
      rw [← HV.out] at e1 e2
      have e4 : 2 ^ (8 * (k + 1)) ≤ 18446744073709551616 := by
        have : 2 ^ (8 * (k + 1)) ≤ 2 ^ 64 := Nat.pow_le_pow_right (by decide) (by omega)
        exact this
      have hw : IntKind.u64.wrap ((p : Int) * 2 ^ (8 * k)) = ((p * 2 ^ (8 * k) : Nat) : Int) := by
        rw [IntKind.wrap_u64]
        have : (p : Int) * 2 ^ (8 * k) = ((p * 2 ^ (8 * k) : Nat) : Int) := by push_cast; rfl
        rw [this]; omega
      have hor : bits BinOp.or IntKind.u64 (v : Int) (IntKind.u64.wrap ((p : Int) * 2 ^ (8 * k))) = ((v ||| p * 2 ^ (8 * k) : Nat) : Int) := by
        rw [hw]
        exact u64_or_nat v (p * 2 ^ (8 * k)) (by omega) (by omega)
      have hor2 : bits BinOp.or IntKind.u64 (v : Int) ((p : Int) * 2 ^ (8 * k) % 18446744073709551616) = ((v ||| p * 2 ^ (8 * k) : Nat) : Int) := by rw [← hor, IntKind.wrap_u64]
      obtain ⟨v2, hv2⟩ : ∃ v2, v2 = v ||| p * 2 ^ (8 * k) := ⟨_, rfl⟩
      rw [← hv2] at hor hor2 e1
      have E1 := hidOf e1
      have hp8 : p < 256 := by rw [hp.out]; exact x.toNat_lt
      clear hx hw e1 e2 e3 e4 hv2
      go_wp2
      go_roundw
      case rel => exact ⟨k + 1, v2, by simp, by simp, by omega, hidOf E1.out.symm, (by first | exact hidOf rfl | exact hidOf trivial)⟩
      case measure => simp [intOf]; omega
    · have hlt : ¬ (k : Int) < n := by omega
      obtain rfl : n = k := by omega
      go_wp2
      go_ret
      have hv : v = numL l := by rw [HV.out, List.take_of_length_le (by rw [Hl.out]; exact Nat.le_refl _)]
      exact ⟨by rw [hv]; rfl, rfl⟩
structure Rg where
  f : Nat
  a : Option Nat
  c : Nat
  d : List UInt8
structure Rw where
  g : Nat
  c : Nat
  L : List Rg
def flat (X : List Rw) : List Rg := X.flatMap Rw.L
theorem flat_app (X Y : List Rw) : flat (X ++ Y) = flat X ++ flat Y := by simp [flat]
theorem flat_cons (x : Rw) (X : List Rw) : flat (x :: X) = x.L ++ flat X := by simp [flat]
def Srt (F : List Rg) : Prop := F.Pairwise (fun x y => x.f < y.f)
def upF (F : List Rg) (at_ : Nat) : Option Rg := (F.filter (fun x => decide (x.f ≤ at_))).getLast?
theorem upF_none {F : List Rg} {at_ : Nat} (h : ∀ x ∈ F, at_ < x.f) : upF F at_ = none := by
  unfold upF
  rw [List.filter_eq_nil_iff.2 (fun x hx => by have := h x hx; simp; omega)]
  rfl
theorem upF_some {P Q : List Rg} {y : Rg} {at_ : Nat} (hy : y.f ≤ at_) (h : ∀ x ∈ Q, at_ < x.f) : upF (P ++ y :: Q) at_ = some y := by
  unfold upF
  have hq : Q.filter (fun x => decide (x.f ≤ at_)) = [] := List.filter_eq_nil_iff.2 (fun x hx => by have := h x hx; simp; omega)
  rw [List.filter_append, List.filter_cons_of_pos (by simpa using hy), hq]
  simp
inductive PlIs (X : List Rw) (at_ : Nat) : Int → Int → Prop
  | no : (∀ x ∈ flat X, at_ < x.f) → PlIs X at_ (-1) (-1)
  | yes (A B : List Rw) (x : Rw) (P Q : List Rg) (y : Rg) : X = A ++ x :: B → x.L = P ++ y :: Q → y.f ≤ at_ → (∀ z ∈ Q, at_ < z.f) → (∀ z ∈ flat B, at_ < z.f) → PlIs X at_ A.length P.length
theorem PlIs.up {X : List Rw} {at_ : Nat} {r k : Int} (h : PlIs X at_ r k) : (r = -1 ∧ k = -1 ∧ upF (flat X) at_ = none) ∨ ∃ (i j : Nat) (x : Rw) (y : Rg), r = i ∧ k = j ∧ X[i]? = some x ∧ x.L[j]? = some y ∧ upF (flat X) at_ = some y := by
  cases h with
  | no h => exact .inl ⟨rfl, rfl, upF_none h⟩
  | yes A B x P Q y hX hL hy hQ hB =>
    refine .inr ⟨A.length, P.length, x, y, rfl, rfl, by simp [hX], by simp [hL], ?_⟩
    rw [hX, flat_app, flat_cons, hL]
    rw [show flat A ++ (P ++ y :: Q ++ flat B) = (flat A ++ P) ++ y :: (Q ++ flat B) by simp]
    exact upF_some hy (fun z hz => by
      rcases List.mem_append.1 hz with hz | hz
      · exact hQ z hz
      · exact hB z hz)
theorem upF_hit {F : List Rg} (hs : Srt F) (at_ : Nat) : (∃ y, upF F at_ = some y ∧ y ∈ F ∧ y.f ≤ at_ ∧ (y.f = at_ ↔ ∃ x ∈ F, x.f = at_) ∧ (∀ x ∈ F, x.f ≤ at_ → x.f ≤ y.f)) ∨ (upF F at_ = none ∧ ∀ x ∈ F, at_ < x.f) := by
  cases hu : upF F at_ with
  | none =>
    right
    refine ⟨rfl, fun x hx => ?_⟩
    have := List.getLast?_eq_none_iff.1 hu
    rw [List.filter_eq_nil_iff] at this
    have := this x hx
    simp at this; omega
  | some y =>
    left
    have hm := List.mem_of_getLast? hu
    have hm2 := List.mem_filter.1 hm
    have hle : y.f ≤ at_ := by simpa using hm2.2
    have hall : ∀ x ∈ F, x.f ≤ at_ → x.f ≤ y.f := fun x hx hxa => by
      have hxm : x ∈ F.filter (fun x => decide (x.f ≤ at_)) := List.mem_filter.2 ⟨hx, by simpa using hxa⟩
      have hps : (F.filter (fun x => decide (x.f ≤ at_))).Pairwise (fun x y => x.f < y.f) := List.Pairwise.filter _ hs
      obtain ⟨P, hP⟩ : ∃ P, F.filter (fun x => decide (x.f ≤ at_)) = P ++ [y] := by
        obtain ⟨h0, h1⟩ := List.getLast?_eq_some_iff.1 hu
        exact ⟨_, h1⟩
      rw [hP] at hxm hps
      rcases List.mem_append.1 hxm with h | h
      · have := (List.pairwise_append.1 hps).2.2 x h y (by simp)
        omega
      · simp at h; subst h; omega
    refine ⟨y, rfl, hm2.1, hle, ⟨fun h => ⟨y, hm2.1, h⟩, fun ⟨x, hx, hxa⟩ => ?_⟩, hall⟩
    have := hall x hx (by omega)
    omega
def InsP (F : List Rg) (r : Rg) (F' : List Rg) : Prop := ∃ P Q, F = P ++ Q ∧ F' = P ++ r :: Q ∧ (∀ z ∈ P, z.f ≤ r.f) ∧ ∀ z ∈ Q, r.f < z.f
theorem InsP.srt {F F' : List Rg} {r : Rg} (h : InsP F r F') (hs : Srt F) (hn : ∀ z ∈ F, z.f ≠ r.f) : Srt F' := by
  obtain ⟨P, Q, rfl, rfl, hP, hQ⟩ := h
  obtain ⟨h1, h2, h3⟩ := List.pairwise_append.1 hs
  refine List.pairwise_append.2 ⟨h1, List.pairwise_cons.2 ⟨hQ, h2⟩, fun x hx y hy => ?_⟩
  rcases List.mem_cons.1 hy with rfl | hy
  · have := hP x hx; have := hn x (by simp [hx]); omega
  · exact h3 x hx y hy
theorem InsP.perm {F F' : List Rg} {r : Rg} (h : InsP F r F') : F'.Perm (r :: F) := by
  obtain ⟨P, Q, rfl, rfl, _, _⟩ := h
  exact List.perm_middle
theorem InsP.mem {F F' : List Rg} {r : Rg} (h : InsP F r F') (x : Rg) : x ∈ F' ↔ x = r ∨ x ∈ F := by
  rw [h.perm.mem_iff, List.mem_cons]
structure SpOk (F E : List Rg) : Prop where
  sf : Srt F
  se : Srt E
  fd : ∀ x ∈ F, 0 < x.d.length ∧ x.f + x.d.length ≤ 18446744073709551616
  ap : F.Pairwise (fun x y => x.f + x.d.length ≤ y.f)
  ed : ∀ x ∈ E, x.d = [] ∧ x.f < 18446744073709551616
  ne : ∀ x ∈ F, ∀ y ∈ E, x.f ≠ y.f
theorem SpOk.nil : SpOk [] [] := ⟨List.Pairwise.nil, List.Pairwise.nil, by simp, List.Pairwise.nil, by simp, by simp⟩
def clP (F E : List Rg) (f : Nat) (n : Nat) : Bool :=
  F.any (fun x => x.f == f) || E.any (fun x => x.f == f) || (!(n == 0) && match upF F (f + (n - 1)) with | none => false | some y => decide (f ≤ y.f + (y.d.length - 1)))
theorem clP_no {F E : List Rg} {f n : Nat} (h : clP F E f n = false) : (∀ x ∈ F, x.f ≠ f) ∧ (∀ x ∈ E, x.f ≠ f) ∧ (0 < n → ∀ y, upF F (f + (n - 1)) = some y → y.f + (y.d.length - 1) < f) := by
  unfold clP at h
  simp only [Bool.or_eq_false_iff, List.any_eq_false, beq_iff_eq] at h
  obtain ⟨⟨h1, h2⟩, h3⟩ := h
  refine ⟨h1, h2, fun hn y hy => ?_⟩
  have hn0 : (n == 0) = false := by simpa using Nat.pos_iff_ne_zero.1 hn
  simp [hn0, hy] at h3
  omega
theorem InsP.pair {R : Rg → Rg → Prop} {F F' : List Rg} {r : Rg} (h : InsP F r F') (hs : F.Pairwise R) (h1 : ∀ x ∈ F, x.f ≤ r.f → R x r) (h2 : ∀ x ∈ F, r.f < x.f → R r x) : F'.Pairwise R := by
  obtain ⟨P, Q, rfl, rfl, hP, hQ⟩ := h
  obtain ⟨p1, p2, p3⟩ := List.pairwise_append.1 hs
  refine List.pairwise_append.2 ⟨p1, List.pairwise_cons.2 ⟨fun y hy => h2 y (by simp [hy]) (hQ y hy), p2⟩, fun x hx y hy => ?_⟩
  rcases List.mem_cons.1 hy with rfl | hy
  · exact h1 x (by simp [hx]) (hP x hx)
  · exact p3 x hx y hy
theorem pair_of {R : Rg → Rg → Prop} {F : List Rg} (h : F.Pairwise R) (hs : Srt F) {x y : Rg} (hx : x ∈ F) (hy : y ∈ F) (hl : x.f < y.f) : R x y := by
  induction F with
  | nil => simp at hx
  | cons z F ih =>
    obtain ⟨a1, a2⟩ := List.pairwise_cons.1 h
    obtain ⟨s1, s2⟩ := List.pairwise_cons.1 hs
    rcases List.mem_cons.1 hx with e | hx'
    · rcases List.mem_cons.1 hy with e2 | hy'
      · subst e; subst e2; omega
      · subst e; exact a1 y hy'
    · rcases List.mem_cons.1 hy with e2 | hy'
      · have := s1 x hx'; subst e2; omega
      · exact ih a2 s2 hx' hy'
theorem srt_one {F : List Rg} (hs : Srt F) {x y : Rg} (hx : x ∈ F) (hy : y ∈ F) (he : x.f = y.f) : x = y := by
  induction F with
  | nil => simp at hx
  | cons z F ih =>
    obtain ⟨s1, s2⟩ := List.pairwise_cons.1 hs
    rcases List.mem_cons.1 hx with e | hx'
    · rcases List.mem_cons.1 hy with e2 | hy'
      · rw [e, e2]
      · have := s1 y hy'; subst e; omega
    · rcases List.mem_cons.1 hy with e2 | hy'
      · have := s1 x hx'; subst e2; omega
      · exact ih s2 hx' hy'
theorem SpOk.addF {F F' E : List Rg} {r : Rg} (h : SpOk F E) (hi : InsP F r F') (hc : clP F E r.f r.d.length = false) (hd : 0 < r.d.length) (hm : r.f + r.d.length ≤ 18446744073709551616) : SpOk F' E := by
  obtain ⟨c1, c2, c3⟩ := clP_no hc
  refine ⟨hi.srt h.sf c1, h.se, fun x hx => ?_, hi.pair h.ap (fun x hx hxr => ?_) (fun x hx hxr => ?_), h.ed, fun x hx y hy => ?_⟩
  · rcases (hi.mem x).1 hx with rfl | hx
    · exact ⟨hd, hm⟩
    · exact h.fd x hx
  · have hne := c1 x hx
    have hf := h.fd x hx
    rcases upF_hit h.sf (r.f + (r.d.length - 1)) with ⟨y, hu, hyF, hy1, hy2, hy3⟩ | ⟨_, hu⟩
    · have := c3 hd y hu
      by_cases e : x.f = y.f
      · rw [srt_one h.sf hx hyF e]; have := h.fd y hyF; omega
      · have h9 := hy3 x hx (by omega)
        have := pair_of h.ap h.sf hx hyF (by omega)
        have := h.fd y hyF
        omega
    · have := hu x hx; omega
  · rcases upF_hit h.sf (r.f + (r.d.length - 1)) with ⟨y, hu, hyF, hy1, hy2, hy3⟩ | ⟨_, hu⟩
    · have h8 := c3 hd y hu
      have h6 := (h.fd y hyF).1
      by_cases h9 : r.f + (r.d.length - 1) < x.f
      · omega
      · have h7 := hy3 x hx (Nat.le_of_not_lt h9)
        exfalso
        clear hy2 hy3 hu c1 c2 c3
        omega
    · have := hu x hx; omega
  · rcases (hi.mem x).1 hx with rfl | hx
    · exact fun e => c2 y hy e.symm
    · exact h.ne x hx y hy
theorem SpOk.addE {F E E' : List Rg} {r : Rg} (h : SpOk F E) (hi : InsP E r E') (hc : clP F E r.f r.d.length = false) (hd : r.d = []) (hm : r.f < 18446744073709551616) : SpOk F E' := by
  obtain ⟨c1, c2, c3⟩ := clP_no hc
  refine ⟨h.sf, hi.srt h.se c2, h.fd, h.ap, fun x hx => ?_, fun x hx y hy => ?_⟩
  · rcases (hi.mem x).1 hx with rfl | hx
    · exact ⟨hd, hm⟩
    · exact h.ed x hx
  · rcases (hi.mem y).1 hy with rfl | hy
    · exact c1 x hx
    · exact h.ne x hx y hy
def acP (F : List Rg) (at_ n : Nat) : Option (Rg × Nat) := match upF F at_ with
  | none => none
  | some y => if at_ - y.f < y.d.length ∧ n ≤ y.d.length - (at_ - y.f) then some (y, at_ - y.f) else none
theorem acP_some {F : List Rg} {at_ n o : Nat} {y : Rg} (hs : Srt F) (h : acP F at_ n = some (y, o)) : y ∈ F ∧ y.f + o = at_ ∧ o < y.d.length ∧ n ≤ y.d.length - o := by
  unfold acP at h
  rcases upF_hit hs at_ with ⟨z, hu, hz, hz1, _, _⟩ | ⟨hu, _⟩
  · rw [hu] at h
    simp only at h
    split at h
    · rename_i hc
      simp only [Option.some.injEq, Prod.mk.injEq] at h
      obtain ⟨rfl, rfl⟩ := h
      exact ⟨hz, by omega, hc.1, hc.2⟩
    · cases h
  · rw [hu] at h; cases h
theorem acP_in {F E : List Rg} (h : SpOk F E) {x : Rg} (hx : x ∈ F) {o n : Nat} (ho : o < x.d.length) (hn : n ≤ x.d.length - o) : acP F (x.f + o) n = some (x, o) := by
  unfold acP
  rcases upF_hit h.sf (x.f + o) with ⟨z, hu, hz, hz1, _, hz3⟩ | ⟨_, hu⟩
  · rw [hu]
    have h9 := hz3 x hx (by omega)
    have e : x = z := by
      by_cases e : x.f = z.f
      · exact srt_one h.sf hx hz e
      · have := pair_of h.ap h.sf hx hz (by omega)
        omega
    subst e
    simp only
    rw [show x.f + o - x.f = o by omega, if_pos ⟨ho, hn⟩]
  · have := hu x hx; omega
def layL (d : List UInt8) (o : Nat) (b : List UInt8) : List UInt8 := d.take o ++ b ++ d.drop (o + b.length)
theorem layL_len (d : List UInt8) (o : Nat) (b : List UInt8) (h : o + b.length ≤ d.length) : (layL d o b).length = d.length := by
  simp only [layL, List.length_append, List.length_take, List.length_drop]
  rw [Nat.min_eq_left (by omega)]; omega
theorem layL_get (d : List UInt8) (o : Nat) (b : List UInt8) (h : o + b.length ≤ d.length) (j : Nat) : (layL d o b)[j]? = if o ≤ j ∧ j < o + b.length then b[j - o]? else d[j]? := by
  unfold layL
  by_cases h1 : j < o
  · rw [if_neg (by omega), List.append_assoc, List.getElem?_append_left (by rw [List.length_take]; omega), List.getElem?_take_of_lt h1]
  · by_cases h2 : j < o + b.length
    · rw [if_pos (by omega), List.append_assoc, List.getElem?_append_right (by rw [List.length_take]; omega), List.length_take, Nat.min_eq_left (by omega), List.getElem?_append_left (by omega)]
    · rw [if_neg (by omega), List.getElem?_append_right (by rw [List.length_append, List.length_take]; omega), List.length_append, List.length_take, Nat.min_eq_left (by omega), List.getElem?_drop]
      congr 1; omega
def updR (f : Nat) (d : List UInt8) (z : Rg) : Rg := if z.f = f then { z with d := d } else z
theorem updR_f (f : Nat) (d : List UInt8) (z : Rg) : (updR f d z).f = z.f := by unfold updR; split <;> rfl
theorem updR_len {f : Nat} {d : List UInt8} {z : Rg} (h : z.f = f → d.length = z.d.length) : (updR f d z).d.length = z.d.length := by
  unfold updR
  split
  · rename_i e; exact h e
  · rfl
theorem srt_map {F : List Rg} {φ : Rg → Rg} (h : ∀ x, (φ x).f = x.f) (hs : Srt F) : Srt (F.map φ) := List.pairwise_map.2 (hs.imp (fun {a b} hab => by rw [h a, h b]; exact hab))
theorem SpOk.upd {F E : List Rg} (h : SpOk F E) (f : Nat) (d : List UInt8) (hd : ∀ x ∈ F, x.f = f → d.length = x.d.length) : SpOk (F.map (updR f d)) E := by
  have hl : ∀ x ∈ F, (updR f d x).d.length = x.d.length := fun x hx => updR_len (hd x hx)
  refine ⟨srt_map (updR_f f d) h.sf, h.se, fun x hx => ?_, List.pairwise_map.2 (h.ap.imp_of_mem (fun {a b} ha hb hab => by rw [updR_f, updR_f, hl a ha]; exact hab)), h.ed, fun x hx y hy => ?_⟩
  · obtain ⟨z, hz, rfl⟩ := List.mem_map.1 hx
    rw [updR_f, hl z hz]; exact h.fd z hz
  · obtain ⟨z, hz, rfl⟩ := List.mem_map.1 hx
    rw [updR_f]; exact h.ne z hz y hy
theorem run_copyK {P : Program} (w : World) (dT sT ty elem : TypeId) (k g o dLen dCap : Nat) (a : Addr) (sLen sCap : Nat) (cur : Array Value) (t : TypeId) (cs : List Value)
    (hu : P.underlying dT = some (.slice elem)) (hs : (P.info? elem).map (·.size) = some k)
    (hg : w.heap[g]? = some (.cells cur t (0, 0))) (hn : cs.length = Nat.min sLen dLen * k)
    (hsrc : ∀ j v, cs[j]? = some v → w.cell? (a.add j) = some v) (hfit : o + cs.length ≤ cur.size) (h1 : ∀ v ∈ cs, v.oneCell' = true) :
    (Builtin.copy_ #[dT, sT] ty #[.slice (some ⟨g, o, none⟩) dLen dCap, .slice (some a) sLen sCap]).run P w =
      .ok (goInt (Nat.min sLen dLen : Nat)) (w.setRow g (splice cur.toList o cs).toArray) := by
  have hl := run_loadCells_list (P := P) w a cs hsrc
  have hst := run_storeCells_at P g o t cs 0 cur w hg (by simpa using hfit) h1
  have e : (splice cur.toList o cs).toArray = (cur.toList.take (o + 0) ++ cs ++ cur.toList.drop (o + 0 + cs.length)).toArray := by
    simp only [splice, Nat.add_zero, List.append_assoc]
  rw [e]
  cases hq : P.info? elem with
  | none => simp [hq] at hs
  | some i =>
    have hi : i.size = k := by simpa [hq] using hs
    simp [Builtin.copy_, run_underlying hu, Builtin.lenOf, Builtin.firstCells, sizeOf, typeInfo, hq, hi, ← hn, hl, hst]
theorem chg_setRow {w : World} {g : Nat} {cur : Array Value} : Chg (fun b => b = g) w (w.setRow g cur) := ⟨rfl, rfl, rfl, by simp [World.setRow], fun k hk hs => setRow_other w g k _ hs⟩
theorem step_copyK {P : Program} {ops : Array Oper} {o : Oper} {a : Act} {w : World} {K : Act → World → Prop} {Q : Exit → Act → World → Prop} {E : Prop} (hgd : o.guard = none) (d s : Operand) (dT sT : TypeId)
    (ho : o.op = .call { callee := .builtin .copy, args := #[d, s], argTypes := #[dT, sT] }) (elem : TypeId) (k : Nat) (hu : P.underlying dT = some (.slice elem)) (hsz : (P.info? elem).map (·.size) = some k)
    (g off dLen dCap : Nat) (ad : Addr) (sLen sCap : Nat) (hd : a.eval d = .slice (some ⟨g, off, none⟩) dLen dCap) (hs : a.eval s = .slice (some ad) sLen sCap)
    (cur : List Value) (t : TypeId) (hg : w.heap[g]? = some (.cells cur.toArray t (0, 0))) (cs : List Value) (hn : cs.length = Nat.min sLen dLen * k)
    (hsrc : ∀ j v, cs[j]? = some v → w.cell? (ad.add j) = some v) (hfit : off + cs.length ≤ cur.length) (h1 : ∀ v ∈ cs, v.oneCell' = true)
    (h : ∀ w', Hid (w'.heap[g]? = some (.cells (splice cur off cs).toArray t (0, 0))) → Hid (Chg (fun b => b = g) w w') → K (a.put o.dst (goInt (Nat.min sLen dLen : Nat))) w') :
    if Region.wanted o (yielded ops a.tmps) = true then Oper.wp P o a w K Q else E := by
  have hw : Region.wanted o (yielded ops a.tmps) = true := by simp [Region.wanted, hgd]
  rw [if_pos hw]
  have hrun := run_copyK (P := P) w dT sT o.type elem k g off dLen dCap ad sLen sCap cur.toArray t cs hu hsz hg hn hsrc (by simpa using hfit) h1
  unfold Oper.wp
  simp [execOp, ho, resolve, invoke, builtin, hd, hs, hrun, Result.andThen]
  exact h _ (setRow_heap w g _ _ t _ hg) chg_setRow
theorem copyK_ex {P : Program} (w : World) (dT sT ty elem : TypeId) (k g o dLen dCap : Nat) (a : Addr) (sLen sCap : Nat) (cur : List Value) (t : TypeId) (cs : List Value) (m : Nat)
    (hu : P.underlying dT = some (.slice elem)) (hs : (P.info? elem).map (·.size) = some k)
    (hg : w.heap[g]? = some (.cells cur.toArray t (0, 0))) (hm : Nat.min sLen dLen = m) (hn : cs.length = m * k)
    (hsrc : ∀ j v, cs[j]? = some v → w.cell? (a.add j) = some v) (hfit : o + cs.length ≤ cur.length) (h1 : ∀ v ∈ cs, v.oneCell' = true) :
    ∃ w', (Builtin.copy_ #[dT, sT] ty #[.slice (some ⟨g, o, none⟩) dLen dCap, .slice (some a) sLen sCap]).run P w = .ok (.int .i64 (m : Nat)) w' ∧ Hid (w'.heap[g]? = some (.cells (splice cur o cs).toArray t (0, 0))) ∧ Hid (Chg (fun b => b = g) w w') := by
  subst hm
  exact ⟨_, run_copyK (P := P) w dT sT ty elem k g o dLen dCap a sLen sCap cur.toArray t cs hu hs hg hn hsrc (by simpa using hfit) h1, setRow_heap w g _ _ t _ hg, chg_setRow⟩
theorem splice_ins {L vs : List Value} {a n k : Nat} (hv : vs.length = k) (han : a ≤ n) (hn : n + k ≤ L.length) : (splice (splice L (a + k) ((L.take n).drop a)) a vs).take (n + k) = (L.take n).take a ++ (vs ++ (L.take n).drop a) := by
  have hl : ((L.take n).drop a).length = n - a := by rw [List.length_drop, List.length_take]; omega
  have e1 : splice L (a + k) ((L.take n).drop a) = L.take (a + k) ++ ((L.take n).drop a ++ L.drop (n + k)) := by
    unfold splice
    rw [hl, show a + k + (n - a) = n + k by omega]
  have e2 : splice (splice L (a + k) ((L.take n).drop a)) a vs = L.take a ++ (vs ++ ((L.take n).drop a ++ L.drop (n + k))) := by
    rw [e1]
    conv => lhs; unfold splice
    rw [List.take_append_of_le_length (by rw [List.length_take]; omega), List.take_take, Nat.min_eq_left (by omega), hv, List.drop_append_of_le_length (by rw [List.length_take]; omega), List.drop_eq_nil_of_le (by rw [List.length_take]; omega), List.nil_append]
  rw [e2, List.take_take, Nat.min_eq_left han, ← List.append_assoc, ← List.append_assoc, List.take_append_of_le_length (by simp [hl, hv]; omega), List.take_of_length_le (by simp [hl, hv]; omega), List.append_assoc]
theorem splice_new {xs vs Z : List Value} {a n k : Nat} (hx : xs.length = n) (hv : vs.length = k) (han : a ≤ n) (hz : n + k - a ≤ Z.length) : (splice (splice (xs.take a ++ Z) a vs) (a + k) (xs.drop a)).take (n + k) = xs.take a ++ (vs ++ xs.drop a) := by
  have hl : (xs.drop a).length = n - a := by rw [List.length_drop, hx]
  have hl2 : (xs.take a).length = a := by rw [List.length_take, hx, Nat.min_eq_left han]
  have hl3 : (xs.take a ++ vs).length = a + k := by rw [List.length_append, hl2, hv]
  have t1 : (xs.take a ++ Z).take a = xs.take a := by rw [List.take_append_of_le_length (by omega), List.take_take, Nat.min_self]
  have t2 : (xs.take a ++ Z).drop (a + k) = Z.drop k := by
    have h := List.drop_length_add_append (l₁ := xs.take a) (l₂ := Z) k
    rwa [hl2] at h
  have e1 : splice (xs.take a ++ Z) a vs = (xs.take a ++ vs) ++ Z.drop k := by
    unfold splice
    rw [t1, hv, t2, List.append_assoc]
  have t3 : ((xs.take a ++ vs) ++ Z.drop k).take (a + k) = xs.take a ++ vs := List.take_left' hl3
  have t4 : ((xs.take a ++ vs) ++ Z.drop k).drop (a + k + (n - a)) = Z.drop (k + (n - a)) := by
    have h := List.drop_length_add_append (l₁ := xs.take a ++ vs) (l₂ := Z.drop k) (n - a)
    rw [hl3, List.drop_drop] at h
    exact h
  have e2 : splice (splice (xs.take a ++ Z) a vs) (a + k) (xs.drop a) = (xs.take a ++ vs ++ xs.drop a) ++ Z.drop (k + (n - a)) := by
    rw [e1]
    conv => lhs; unfold splice
    rw [hl, t3, t4]
    simp only [List.append_assoc]
  rw [e2, List.take_append_of_le_length (by simp only [List.length_append]; omega), List.take_of_length_le (by simp only [List.length_append]; omega), List.append_assoc]
end Go.Proofs.YtekjfbmebekmeaaGreat
