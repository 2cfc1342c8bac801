import Derived.Test.YtekjfbmebekmeaaGreatGc00
import Derived.Laws.BitsAllLaws
namespace Go.Proofs.YtekjfbmebekmeaaGreat
open Go.RowKit
set_option linter.unusedVariables false
set_option linter.unusedSimpArgs false
/-- a block of bytes -/
def By8 (w : World) (g : Nat) (cs : Array Value) : Prop := w.heap[g]? = some (.cells cs 5 (0, 0))
theorem By8.set {w : World} {g : Nat} {cs : Array Value} (h : By8 w g cs) (j : Nat) (u : Value) : By8 (w.setCell ⟨g, j, none⟩ u) g (cs.setIfInBounds j u) := by
  have h' : w.heap[g]? = _ := h
  simp [By8, World.setCell, Array.getElem?_modify, h']
theorem By8.cell {w : World} {g : Nat} {cs : Array Value} (h : By8 w g cs) (j : Nat) : w.cell? ⟨g, j, none⟩ = cs[j]? := by
  have h' : w.heap[g]? = _ := h
  simp [World.cell?, h']
theorem By8.frozen {w : World} {g : Nat} {cs : Array Value} (h : By8 w g cs) (j : Nat) : w.frozen? ⟨g, j, none⟩ = false := by
  have h' : w.heap[g]? = _ := h
  simp [World.frozen?, h']
/-- x's first k bytes laid from o on -/
def layC (cs : Array Value) (o x : Nat) : Nat → Array Value
  | 0 => cs
  | k + 1 => (layC cs o x k).setIfInBounds (o + k) (.int .u8 ((x : Int) / 2 ^ (8 * k) % 256))
theorem layC_size (cs : Array Value) (o x k : Nat) : (layC cs o x k).size = cs.size := by
  induction k with
  | zero => rfl
  | succ k ih => simp [layC, ih]
set_option maxHeartbeats 1000000 in
theorem lay8 (w : World) (g o n c x : Nat) (cs : Array Value) (h : By8 w g cs) (hn : o + n ≤ cs.size) (h8 : n ≤ 1) (hnc : n ≤ c) (hx : x < 256) : Calls Tryz.prog 93 #[.slice (some ⟨g, o, none⟩) n c, .int .u8 x] w fun e w' => (∃ q, e = .returned q) ∧ By8 w' g (layC cs o x n) ∧ Chg (fun b => b = g) w w' := by
  have H := hidOf h
  clear h
  go_enter Tryz.func93, Tryz.ntmps93
  go_wp2
  go_loopw [7] (fun kv wr => ∃ k : Nat, kv = .int .i64 k ∧ k ≤ n ∧ Hid (By8 wr g (layC cs o x k)) ∧ Hid (Chg (fun b => b = g) w wr)) (fun kv _ => n - (intOf kv).toNat)
  case atStart => exact ⟨0, rfl, by omega, H, hidOf (Chg.refl _ _)⟩
  case round =>
    obtain ⟨k, rfl, hk, HB, HC⟩ := hrel
    by_cases hkn : k < n
    · have hlt : (k : Int) < n := by omega
      have hk8 : k < 1 := by omega
      obtain ⟨u, hu⟩ : ∃ u, wr.cell? ⟨g, o + k, none⟩ = some u := ⟨_, by rw [HB.out.cell, Array.getElem?_eq_getElem (by rw [layC_size]; omega)]⟩
      have hf := HB.out.frozen (o + k)
      have NB : Hid (By8 (wr.setCell ⟨g, o + k, none⟩ (.int .u8 ((x : Int) / 2 ^ (8 * k) % 256))) g (layC cs o x (k + 1))) := hidOf (HB.out.set _ _)
      have NC : Hid (Chg (fun b => b = g) w (wr.setCell ⟨g, o + k, none⟩ (.int .u8 ((x : Int) / 2 ^ (8 * k) % 256)))) := hidOf (Chg.setCell (S := fun b => b = g) HC.out (p := ⟨g, o + k, none⟩) rfl _)
      have e8 : (x : Int) / 2 ^ (8 * k) = (x : Int) / 2 ^ (8 * k) % 256 := by
        obtain rfl : k = 0 := by omega
        simp; omega
      have E8 := hidOf e8
      clear e8
      go_upto_region 4 with fail
      rw [E8.out]
      generalize wr.setCell ⟨g, o + k, none⟩ (.int .u8 ((x : Int) / 2 ^ (8 * k) % 256)) = wB at NB NC ⊢
      go_wp2
      go_roundw
      case rel => exact ⟨k + 1, by simp, by omega, NB, NC⟩
      case measure => simp [intOf]; omega
    · have hlt : ¬ (k : Int) < n := by omega
      obtain rfl : n = k := by omega
      go_wp2
      go_end0
      exact ⟨⟨_, rfl⟩, HB.out, HC.out⟩
set_option maxHeartbeats 1000000 in
theorem lay16 (w : World) (g o n c x : Nat) (cs : Array Value) (h : By8 w g cs) (hn : o + n ≤ cs.size) (h8 : n ≤ 2) (hnc : n ≤ c) (hx : x < 65536) : Calls Tryz.prog 94 #[.slice (some ⟨g, o, none⟩) n c, .int .u16 x] w fun e w' => (∃ q, e = .returned q) ∧ By8 w' g (layC cs o x n) ∧ Chg (fun b => b = g) w w' := by
  have H := hidOf h
  clear h
  go_enter Tryz.func94, Tryz.ntmps94
  go_wp2
  go_loopw [7] (fun kv wr => ∃ k : Nat, kv = .int .i64 k ∧ k ≤ n ∧ Hid (By8 wr g (layC cs o x k)) ∧ Hid (Chg (fun b => b = g) w wr)) (fun kv _ => n - (intOf kv).toNat)
  case atStart => exact ⟨0, rfl, by omega, H, hidOf (Chg.refl _ _)⟩
  case round =>
    obtain ⟨k, rfl, hk, HB, HC⟩ := hrel
    by_cases hkn : k < n
    · have hlt : (k : Int) < n := by omega
      have hk8 : k < 2 := by omega
      obtain ⟨u, hu⟩ : ∃ u, wr.cell? ⟨g, o + k, none⟩ = some u := ⟨_, by rw [HB.out.cell, Array.getElem?_eq_getElem (by rw [layC_size]; omega)]⟩
      have hf := HB.out.frozen (o + k)
      have NB : Hid (By8 (wr.setCell ⟨g, o + k, none⟩ (.int .u8 ((x : Int) / 2 ^ (8 * k) % 256))) g (layC cs o x (k + 1))) := hidOf (HB.out.set _ _)
      have NC : Hid (Chg (fun b => b = g) w (wr.setCell ⟨g, o + k, none⟩ (.int .u8 ((x : Int) / 2 ^ (8 * k) % 256)))) := hidOf (Chg.setCell (S := fun b => b = g) HC.out (p := ⟨g, o + k, none⟩) rfl _)
      go_upto_region 4 with fail
      generalize wr.setCell ⟨g, o + k, none⟩ (.int .u8 ((x : Int) / 2 ^ (8 * k) % 256)) = wB at NB NC ⊢
      go_wp2
      go_roundw
      case rel => exact ⟨k + 1, by simp, by omega, NB, NC⟩
      case measure => simp [intOf]; omega
    · have hlt : ¬ (k : Int) < n := by omega
      obtain rfl : n = k := by omega
      go_wp2
      go_end0
      exact ⟨⟨_, rfl⟩, HB.out, HC.out⟩
set_option maxHeartbeats 1000000 in
theorem lay32 (w : World) (g o n c x : Nat) (cs : Array Value) (h : By8 w g cs) (hn : o + n ≤ cs.size) (h8 : n ≤ 4) (hnc : n ≤ c) (hx : x < 4294967296) : Calls Tryz.prog 95 #[.slice (some ⟨g, o, none⟩) n c, .int .u32 x] w fun e w' => (∃ q, e = .returned q) ∧ By8 w' g (layC cs o x n) ∧ Chg (fun b => b = g) w w' := by
  have H := hidOf h
  clear h
  go_enter Tryz.func95, Tryz.ntmps95
  go_wp2
  go_loopw [7] (fun kv wr => ∃ k : Nat, kv = .int .i64 k ∧ k ≤ n ∧ Hid (By8 wr g (layC cs o x k)) ∧ Hid (Chg (fun b => b = g) w wr)) (fun kv _ => n - (intOf kv).toNat)
  case atStart => exact ⟨0, rfl, by omega, H, hidOf (Chg.refl _ _)⟩
  case round =>
    obtain ⟨k, rfl, hk, HB, HC⟩ := hrel
    by_cases hkn : k < n
    · have hlt : (k : Int) < n := by omega
      have hk8 : k < 4 := by omega
      obtain ⟨u, hu⟩ : ∃ u, wr.cell? ⟨g, o + k, none⟩ = some u := ⟨_, by rw [HB.out.cell, Array.getElem?_eq_getElem (by rw [layC_size]; omega)]⟩
      have hf := HB.out.frozen (o + k)
      have NB : Hid (By8 (wr.setCell ⟨g, o + k, none⟩ (.int .u8 ((x : Int) / 2 ^ (8 * k) % 256))) g (layC cs o x (k + 1))) := hidOf (HB.out.set _ _)
      have NC : Hid (Chg (fun b => b = g) w (wr.setCell ⟨g, o + k, none⟩ (.int .u8 ((x : Int) / 2 ^ (8 * k) % 256)))) := hidOf (Chg.setCell (S := fun b => b = g) HC.out (p := ⟨g, o + k, none⟩) rfl _)
      go_upto_region 4 with fail
      generalize wr.setCell ⟨g, o + k, none⟩ (.int .u8 ((x : Int) / 2 ^ (8 * k) % 256)) = wB at NB NC ⊢
      go_wp2
      go_roundw
      case rel => exact ⟨k + 1, by simp, by omega, NB, NC⟩
      case measure => simp [intOf]; omega
    · have hlt : ¬ (k : Int) < n := by omega
      obtain rfl : n = k := by omega
      go_wp2
      go_end0
      exact ⟨⟨_, rfl⟩, HB.out, HC.out⟩
set_option maxHeartbeats 1000000 in
theorem lay64 (w : World) (g o n c x : Nat) (cs : Array Value) (h : By8 w g cs) (hn : o + n ≤ cs.size) (h8 : n ≤ 8) (hnc : n ≤ c) (hx : x < 18446744073709551616) : Calls Tryz.prog 96 #[.slice (some ⟨g, o, none⟩) n c, .int .u64 x] w fun e w' => (∃ q, e = .returned q) ∧ By8 w' g (layC cs o x n) ∧ Chg (fun b => b = g) w w' := by
  have H := hidOf h
  clear h
  go_enter Tryz.func96, Tryz.ntmps96
  go_wp2
  go_loopw [7] (fun kv wr => ∃ k : Nat, kv = .int .i64 k ∧ k ≤ n ∧ Hid (By8 wr g (layC cs o x k)) ∧ Hid (Chg (fun b => b = g) w wr)) (fun kv _ => n - (intOf kv).toNat)
  case atStart => exact ⟨0, rfl, by omega, H, hidOf (Chg.refl _ _)⟩
  case round =>
    obtain ⟨k, rfl, hk, HB, HC⟩ := hrel
    by_cases hkn : k < n
    · have hlt : (k : Int) < n := by omega
      have hk8 : k < 8 := by omega
      obtain ⟨u, hu⟩ : ∃ u, wr.cell? ⟨g, o + k, none⟩ = some u := ⟨_, by rw [HB.out.cell, Array.getElem?_eq_getElem (by rw [layC_size]; omega)]⟩
      have hf := HB.out.frozen (o + k)
      have NB : Hid (By8 (wr.setCell ⟨g, o + k, none⟩ (.int .u8 ((x : Int) / 2 ^ (8 * k) % 256))) g (layC cs o x (k + 1))) := hidOf (HB.out.set _ _)
      have NC : Hid (Chg (fun b => b = g) w (wr.setCell ⟨g, o + k, none⟩ (.int .u8 ((x : Int) / 2 ^ (8 * k) % 256)))) := hidOf (Chg.setCell (S := fun b => b = g) HC.out (p := ⟨g, o + k, none⟩) rfl _)
      go_upto_region 4 with fail
      generalize wr.setCell ⟨g, o + k, none⟩ (.int .u8 ((x : Int) / 2 ^ (8 * k) % 256)) = wB at NB NC ⊢
      go_wp2
      go_roundw
      case rel => exact ⟨k + 1, by simp, by omega, NB, NC⟩
      case measure => simp [intOf]; omega
    · have hlt : ¬ (k : Int) < n := by omega
      obtain rfl : n = k := by omega
      go_wp2
      go_end0
      exact ⟨⟨_, rfl⟩, HB.out, HC.out⟩
end Go.Proofs.YtekjfbmebekmeaaGreat
namespace Go.Proofs.YtekjfbmebekmeaaGreat
open Go.RowKit
set_option linter.unusedVariables false
set_option linter.unusedSimpArgs false
/-- the number of bytes, the lowest first -/
def numL : List UInt8 → Nat
  | [] => 0
  | b :: r => b.toNat + 256 * numL r
theorem numL_app (a b : List UInt8) : numL (a ++ b) = numL a + 2 ^ (8 * a.length) * numL b := by
  induction a with
  | nil => simp [numL]
  | cons x r ih =>
    simp only [List.cons_append, numL, ih, List.length_cons]
    rw [show 8 * (r.length + 1) = 8 + 8 * r.length by omega, Nat.pow_add, Nat.mul_add, show (2 : Nat) ^ 8 = 256 by decide, Nat.mul_assoc]
    omega
theorem numL_lt (a : List UInt8) : numL a < 2 ^ (8 * a.length) := by
  induction a with
  | nil => simp [numL]
  | cons x r ih =>
    have hx := x.toNat_lt
    simp only [numL, List.length_cons]
    rw [show 8 * (r.length + 1) = 8 + 8 * r.length by omega, Nat.pow_add, show (2 : Nat) ^ 8 = 256 by decide]
    omega
theorem numL_next {l : List UInt8} {k : Nat} {x : UInt8} (h : l[k]? = some x) : numL (l.take (k + 1)) = (numL (l.take k) ||| x.toNat * 2 ^ (8 * k)) ∧ numL (l.take k) < 2 ^ (8 * k) ∧ x.toNat * 2 ^ (8 * k) + 2 ^ (8 * k) ≤ 2 ^ (8 * (k + 1)) := by
  have hk : k < l.length := (List.getElem?_eq_some_iff.1 h).1
  have hl : (l.take k).length = k := by rw [List.length_take]; omega
  have h1 := numL_lt (l.take k)
  rw [hl] at h1
  have hx := x.toNat_lt
  refine ⟨?_, h1, ?_⟩
  · rw [List.take_add_one, h, Option.toList_some, numL_app, hl]
    have := Nat.two_pow_add_eq_or_of_lt h1 x.toNat
    simp only [numL, Nat.mul_zero, Nat.add_zero]
    rw [Nat.or_comm, Nat.mul_comm x.toNat, ← this]; omega
  · rw [show 8 * (k + 1) = 8 + 8 * k by omega, Nat.pow_add, show (2 : Nat) ^ 8 = 256 by decide, ← Nat.succ_mul]
    exact Nat.mul_le_mul_right _ (by omega)
/-- bytes at an address -/
def By (w : World) (g o : Nat) (l : List UInt8) : Prop := ∀ k x, l[k]? = some x → w.cell? ⟨g, o + k, none⟩ = some (.int .u8 (x.toNat : Int))
set_option maxHeartbeats 1000000 in
theorem number8 (w : World) (g o n c : Nat) (l : List UInt8) (hl : l.length = n) (h : By w g o l) (h8 : n ≤ 1) (hnc : n ≤ c) : Calls Tryz.prog 86 #[.slice (some ⟨g, o, none⟩) n c] w fun e w' => e = .returned (.int .u8 (numL l : Nat)) ∧ w = w' := by
  have H := hidOf h
  have Hl := hidOf hl
  clear h hl
  go_enter Tryz.func86, Tryz.ntmps86
  go_wp2
  go_loopw [3, 8] (fun xv kv wr => ∃ k v : Nat, xv = .int .u8 v ∧ kv = .int .i64 k ∧ k ≤ n ∧ Hid (v = numL (l.take k)) ∧ Hid (wr = w)) (fun _ kv _ => n - (intOf kv).toNat)
  case atStart => exact ⟨0, 0, rfl, rfl, by omega, hidOf (by simp [numL]), hidOf rfl⟩
  case round =>
    obtain ⟨k, v, rfl, rfl, hk, HV, HW⟩ := hrel
    have hww := HW.out
    clear HW
    subst hww
    by_cases hkn : k < n
    · have hlt : (k : Int) < n := by omega
      have hk8 : k < 1 := by omega
      obtain ⟨x, hx⟩ : ∃ x, l[k]? = some x := ⟨_, List.getElem?_eq_getElem (by rw [Hl.out]; exact hkn)⟩
      have hc := H.out k x hx
      obtain ⟨e1, e2, e3⟩ := numL_next hx
      obtain ⟨p, hp⟩ : ∃ p, Hid (p = x.toNat) := ⟨_, rfl⟩
      rw [← hp.out] at hc e1 e3
      rw [← HV.out] at e1 e2
      have e4 : 2 ^ (8 * (k + 1)) ≤ 256 := by
        have : 2 ^ (8 * (k + 1)) ≤ 2 ^ 8 := Nat.pow_le_pow_right (by decide) (by omega)
        exact this
      have hw : IntKind.u8.wrap ((p : Int) * 2 ^ (8 * k)) = ((p * 2 ^ (8 * k) : Nat) : Int) := by
        rw [IntKind.wrap_u8]
        have : (p : Int) * 2 ^ (8 * k) = ((p * 2 ^ (8 * k) : Nat) : Int) := by push_cast; rfl
        rw [this]; omega
      have hor : bits BinOp.or IntKind.u8 (v : Int) (IntKind.u8.wrap ((p : Int) * 2 ^ (8 * k))) = ((v ||| p * 2 ^ (8 * k) : Nat) : Int) := by
        rw [hw]
        exact u8_or_nat v (p * 2 ^ (8 * k)) (by omega) (by omega)
      have hor2 : bits BinOp.or IntKind.u8 (v : Int) ((p : Int) * 2 ^ (8 * k) % 256) = ((v ||| p * 2 ^ (8 * k) : Nat) : Int) := by rw [← hor, IntKind.wrap_u8]
      obtain ⟨v2, hv2⟩ : ∃ v2, v2 = v ||| p * 2 ^ (8 * k) := ⟨_, rfl⟩
      rw [← hv2] at hor hor2 e1
      have E1 := hidOf e1
      have hp8 : p < 256 := by rw [hp.out]; exact x.toNat_lt
      clear hx hw e1 e2 e3 e4 hv2
      go_wp2
      go_roundw
      case rel => exact ⟨k + 1, v2, by simp, by simp, by omega, hidOf E1.out.symm, (by first | exact hidOf rfl | exact hidOf trivial)⟩
      case measure => simp [intOf]; omega
    · have hlt : ¬ (k : Int) < n := by omega
      obtain rfl : n = k := by omega
      go_wp2
      go_ret
      have hv : v = numL l := by rw [HV.out, List.take_of_length_le (by rw [Hl.out]; exact Nat.le_refl _)]
      exact ⟨by rw [hv]; rfl, rfl⟩
set_option maxHeartbeats 1000000 in
theorem number16 (w : World) (g o n c : Nat) (l : List UInt8) (hl : l.length = n) (h : By w g o l) (h8 : n ≤ 2) (hnc : n ≤ c) : Calls Tryz.prog 88 #[.slice (some ⟨g, o, none⟩) n c] w fun e w' => e = .returned (.int .u16 (numL l : Nat)) ∧ w = w' := by
  have H := hidOf h
  have Hl := hidOf hl
  clear h hl
  go_enter Tryz.func88, Tryz.ntmps88
  go_wp2
  go_loopw [3, 8] (fun xv kv wr => ∃ k v : Nat, xv = .int .u16 v ∧ kv = .int .i64 k ∧ k ≤ n ∧ Hid (v = numL (l.take k)) ∧ Hid (wr = w)) (fun _ kv _ => n - (intOf kv).toNat)
  case atStart => exact ⟨0, 0, rfl, rfl, by omega, hidOf (by simp [numL]), hidOf rfl⟩
  case round =>
    obtain ⟨k, v, rfl, rfl, hk, HV, HW⟩ := hrel
    have hww := HW.out
    clear HW
    subst hww
    by_cases hkn : k < n
    · have hlt : (k : Int) < n := by omega
      have hk8 : k < 2 := by omega
      obtain ⟨x, hx⟩ : ∃ x, l[k]? = some x := ⟨_, List.getElem?_eq_getElem (by rw [Hl.out]; exact hkn)⟩
      have hc := H.out k x hx
      obtain ⟨e1, e2, e3⟩ := numL_next hx
      obtain ⟨p, hp⟩ : ∃ p, Hid (p = x.toNat) := ⟨_, rfl⟩
      rw [← hp.out] at hc e1 e3
      rw [← HV.out] at e1 e2
      have e4 : 2 ^ (8 * (k + 1)) ≤ 65536 := by
        have : 2 ^ (8 * (k + 1)) ≤ 2 ^ 16 := Nat.pow_le_pow_right (by decide) (by omega)
        exact this
      have hw : IntKind.u16.wrap ((p : Int) * 2 ^ (8 * k)) = ((p * 2 ^ (8 * k) : Nat) : Int) := by
        rw [IntKind.wrap_u16]
        have : (p : Int) * 2 ^ (8 * k) = ((p * 2 ^ (8 * k) : Nat) : Int) := by push_cast; rfl
        rw [this]; omega
      have hor : bits BinOp.or IntKind.u16 (v : Int) (IntKind.u16.wrap ((p : Int) * 2 ^ (8 * k))) = ((v ||| p * 2 ^ (8 * k) : Nat) : Int) := by
        rw [hw]
        exact u16_or_nat v (p * 2 ^ (8 * k)) (by omega) (by omega)
      have hor2 : bits BinOp.or IntKind.u16 (v : Int) ((p : Int) * 2 ^ (8 * k) % 65536) = ((v ||| p * 2 ^ (8 * k) : Nat) : Int) := by rw [← hor, IntKind.wrap_u16]
      obtain ⟨v2, hv2⟩ : ∃ v2, v2 = v ||| p * 2 ^ (8 * k) := ⟨_, rfl⟩
      rw [← hv2] at hor hor2 e1
      have E1 := hidOf e1
      have hp8 : p < 256 := by rw [hp.out]; exact x.toNat_lt
      clear hx hw e1 e2 e3 e4 hv2
      go_wp2
      go_roundw
      case rel => exact ⟨k + 1, v2, by simp, by simp, by omega, hidOf E1.out.symm, (by first | exact hidOf rfl | exact hidOf trivial)⟩
      case measure => simp [intOf]; omega
    · have hlt : ¬ (k : Int) < n := by omega
      obtain rfl : n = k := by omega
      go_wp2
      go_ret
      have hv : v = numL l := by rw [HV.out, List.take_of_length_le (by rw [Hl.out]; exact Nat.le_refl _)]
      exact ⟨by rw [hv]; rfl, rfl⟩
set_option maxHeartbeats 1000000 in
theorem number32 (w : World) (g o n c : Nat) (l : List UInt8) (hl : l.length = n) (h : By w g o l) (h8 : n ≤ 4) (hnc : n ≤ c) : Calls Tryz.prog 90 #[.slice (some ⟨g, o, none⟩) n c] w fun e w' => e = .returned (.int .u32 (numL l : Nat)) ∧ w = w' := by
  have H := hidOf h
  have Hl := hidOf hl
  clear h hl
  go_enter Tryz.func90, Tryz.ntmps90
  go_wp2
  go_loopw [3, 8] (fun xv kv wr => ∃ k v : Nat, xv = .int .u32 v ∧ kv = .int .i64 k ∧ k ≤ n ∧ Hid (v = numL (l.take k)) ∧ Hid (wr = w)) (fun _ kv _ => n - (intOf kv).toNat)
  case atStart => exact ⟨0, 0, rfl, rfl, by omega, hidOf (by simp [numL]), hidOf rfl⟩
  case round =>
    obtain ⟨k, v, rfl, rfl, hk, HV, HW⟩ := hrel
    have hww := HW.out
    clear HW
    subst hww
    by_cases hkn : k < n
    · have hlt : (k : Int) < n := by omega
      have hk8 : k < 4 := by omega
      obtain ⟨x, hx⟩ : ∃ x, l[k]? = some x := ⟨_, List.getElem?_eq_getElem (by rw [Hl.out]; exact hkn)⟩
      have hc := H.out k x hx
      obtain ⟨e1, e2, e3⟩ := numL_next hx
      obtain ⟨p, hp⟩ : ∃ p, Hid (p = x.toNat) := ⟨_, rfl⟩
      rw [← hp.out] at hc e1 e3
      rw [← HV.out] at e1 e2
      have e4 : 2 ^ (8 * (k + 1)) ≤ 4294967296 := by
        have : 2 ^ (8 * (k + 1)) ≤ 2 ^ 32 := Nat.pow_le_pow_right (by decide) (by omega)
        exact this
      have hw : IntKind.u32.wrap ((p : Int) * 2 ^ (8 * k)) = ((p * 2 ^ (8 * k) : Nat) : Int) := by
        rw [IntKind.wrap_u32]
        have : (p : Int) * 2 ^ (8 * k) = ((p * 2 ^ (8 * k) : Nat) : Int) := by push_cast; rfl
        rw [this]; omega
      have hor : bits BinOp.or IntKind.u32 (v : Int) (IntKind.u32.wrap ((p : Int) * 2 ^ (8 * k))) = ((v ||| p * 2 ^ (8 * k) : Nat) : Int) := by
        rw [hw]
        exact u32_or_nat v (p * 2 ^ (8 * k)) (by omega) (by omega)
      have hor2 : bits BinOp.or IntKind.u32 (v : Int) ((p : Int) * 2 ^ (8 * k) % 4294967296) = ((v ||| p * 2 ^ (8 * k) : Nat) : Int) := by rw [← hor, IntKind.wrap_u32]
      obtain ⟨v2, hv2⟩ : ∃ v2, v2 = v ||| p * 2 ^ (8 * k) := ⟨_, rfl⟩
      rw [← hv2] at hor hor2 e1
      have E1 := hidOf e1
      have hp8 : p < 256 := by rw [hp.out]; exact x.toNat_lt
      clear hx hw e1 e2 e3 e4 hv2
      go_wp2
      go_roundw
      case rel => exact ⟨k + 1, v2, by simp, by simp, by omega, hidOf E1.out.symm, (by first | exact hidOf rfl | exact hidOf trivial)⟩
      case measure => simp [intOf]; omega
    · have hlt : ¬ (k : Int) < n := by omega
      obtain rfl : n = k := by omega
      go_wp2
      go_ret
      have hv : v = numL l := by rw [HV.out, List.take_of_length_le (by rw [Hl.out]; exact Nat.le_refl _)]
      exact ⟨by rw [hv]; rfl, rfl⟩
set_option maxHeartbeats 1000000 in
theorem number64 (w : World) (g o n c : Nat) (l : List UInt8) (hl : l.length = n) (h : By w g o l) (h8 : n ≤ 8) (hnc : n ≤ c) : Calls Tryz.prog 92 #[.slice (some ⟨g, o, none⟩) n c] w fun e w' => e = .returned (.int .u64 (numL l : Nat)) ∧ w = w' := by
  have H := hidOf h
  have Hl := hidOf hl
  clear h hl
  go_enter Tryz.func92, Tryz.ntmps92
  go_wp2
  go_loopw [3, 8] (fun xv kv wr => ∃ k v : Nat, xv = .int .u64 v ∧ kv = .int .i64 k ∧ k ≤ n ∧ Hid (v = numL (l.take k)) ∧ Hid (wr = w)) (fun _ kv _ => n - (intOf kv).toNat)
  case atStart => exact ⟨0, 0, rfl, rfl, by omega, hidOf (by simp [numL]), hidOf rfl⟩
  case round =>
    obtain ⟨k, v, rfl, rfl, hk, HV, HW⟩ := hrel
    have hww := HW.out
    clear HW
    subst hww
    by_cases hkn : k < n
    · have hlt : (k : Int) < n := by omega
      have hk8 : k < 8 := by omega
      obtain ⟨x, hx⟩ : ∃ x, l[k]? = some x := ⟨_, List.getElem?_eq_getElem (by rw [Hl.out]; exact hkn)⟩
      have hc := H.out k x hx
      obtain ⟨e1, e2, e3⟩ := numL_next hx
      obtain ⟨p, hp⟩ : ∃ p, Hid (p = x.toNat) := ⟨_, rfl⟩
      rw [← hp.out] at hc e1 e3
      rw [← HV.out] at e1 e2
      have e4 : 2 ^ (8 * (k + 1)) ≤ 18446744073709551616 := by
        have : 2 ^ (8 * (k + 1)) ≤ 2 ^ 64 := Nat.pow_le_pow_right (by decide) (by omega)
        exact this
      have hw : IntKind.u64.wrap ((p : Int) * 2 ^ (8 * k)) = ((p * 2 ^ (8 * k) : Nat) : Int) := by
        rw [IntKind.wrap_u64]
        have : (p : Int) * 2 ^ (8 * k) = ((p * 2 ^ (8 * k) : Nat) : Int) := by push_cast; rfl
        rw [this]; omega
      have hor : bits BinOp.or IntKind.u64 (v : Int) (IntKind.u64.wrap ((p : Int) * 2 ^ (8 * k))) = ((v ||| p * 2 ^ (8 * k) : Nat) : Int) := by
        rw [hw]
        exact u64_or_nat v (p * 2 ^ (8 * k)) (by omega) (by omega)
      have hor2 : bits BinOp.or IntKind.u64 (v : Int) ((p : Int) * 2 ^ (8 * k) % 18446744073709551616) = ((v ||| p * 2 ^ (8 * k) : Nat) : Int) := by rw [← hor, IntKind.wrap_u64]
      obtain ⟨v2, hv2⟩ : ∃ v2, v2 = v ||| p * 2 ^ (8 * k) := ⟨_, rfl⟩
      rw [← hv2] at hor hor2 e1
      have E1 := hidOf e1
      have hp8 : p < 256 := by rw [hp.out]; exact x.toNat_lt
      clear hx hw e1 e2 e3 e4 hv2
      go_wp2
      go_roundw
      case rel => exact ⟨k + 1, v2, by simp, by simp, by omega, hidOf E1.out.symm, (by first | exact hidOf rfl | exact hidOf trivial)⟩
      case measure => simp [intOf]; omega
    · have hlt : ¬ (k : Int) < n := by omega
      obtain rfl : n = k := by omega
      go_wp2
      go_ret
      have hv : v = numL l := by rw [HV.out, List.take_of_length_le (by rw [Hl.out]; exact Nat.le_refl _)]
      exact ⟨by rw [hv]; rfl, rfl⟩
end Go.Proofs.YtekjfbmebekmeaaGreat
