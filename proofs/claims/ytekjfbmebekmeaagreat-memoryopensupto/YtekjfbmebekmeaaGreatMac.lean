import Derived.Test.YtekjfbmebekmeaaGreatMab
namespace Go.Proofs.YtekjfbmebekmeaaGreat
open Go.RowKit
set_option linter.unusedVariables false
set_option linter.unusedSimpArgs false
/-- a block of bytes -/
def By8 (w : World) (g : Nat) (cs : Array Value) : Prop := w.heap[g]? = some (.cells cs 5 (0, 0))
theorem By8.set {w : World} {g : Nat} {cs : Array Value} (h : By8 w g cs) (j : Nat) (u : Value) : By8 (w.setCell ⟨g, j, none⟩ u) g (cs.setIfInBounds j u) := by
  have h' : w.heap[g]? = _ := h
  simp [By8, World.setCell, Array.getElem?_modify, h']
theorem By8.cell {w : World} {g : Nat} {cs : Array Value} (h : By8 w g cs) (j : Nat) : w.cell? ⟨g, j, none⟩ = cs[j]? := by
  have h' : w.heap[g]? = _ := h
  simp [World.cell?, h']
theorem By8.frozen {w : World} {g : Nat} {cs : Array Value} (h : By8 w g cs) (j : Nat) : w.frozen? ⟨g, j, none⟩ = false := by
  have h' : w.heap[g]? = _ := h
  simp [World.frozen?, h']
/-- x's first k bytes laid from o on -/
def layC (cs : Array Value) (o x : Nat) : Nat → Array Value
  | 0 => cs
  | k + 1 => (layC cs o x k).setIfInBounds (o + k) (.int .u8 ((x : Int) / 2 ^ (8 * k) % 256))
theorem layC_size (cs : Array Value) (o x k : Nat) : (layC cs o x k).size = cs.size := by
  induction k with
  | zero => rfl
  | succ k ih => simp [layC, ih]
set_option maxHeartbeats 1000000 in
theorem lay8 (w : World) (g o n c x : Nat) (cs : Array Value) (h : By8 w g cs) (hn : o + n ≤ cs.size) (h8 : n ≤ 1) (hnc : n ≤ c) (hx : x < 256) : Calls Tryz.prog 93 #[.slice (some ⟨g, o, none⟩) n c, .int .u8 x] w fun e w' => (∃ q, e = .returned q) ∧ By8 w' g (layC cs o x n) ∧ Chg (fun b => b = g) w w' := by
  have H := hidOf h
  clear h
  go_enter Tryz.func93, Tryz.ntmps93
  go_wp2
  go_loopw [7] (fun kv wr => ∃ k : Nat, kv = .int .i64 k ∧ k ≤ n ∧ Hid (By8 wr g (layC cs o x k)) ∧ Hid (Chg (fun b => b = g) w wr)) (fun kv _ => n - (intOf kv).toNat)
  case atStart => exact ⟨0, rfl, by omega, H, hidOf (Chg.refl _ _)⟩
  case round =>
    obtain ⟨k, rfl, hk, HB, HC⟩ := hrel
    by_cases hkn : k < n
    · have hlt : (k : Int) < n := by omega
      have hk8 : k < 1 := by omega
      obtain ⟨u, hu⟩ : ∃ u, wr.cell? ⟨g, o + k, none⟩ = some u := ⟨_, by rw [HB.out.cell, Array.getElem?_eq_getElem (by rw [layC_size]; omega)]⟩
      have hf := HB.out.frozen (o + k)
      have NB : Hid (By8 (wr.setCell ⟨g, o + k, none⟩ (.int .u8 ((x : Int) / 2 ^ (8 * k) % 256))) g (layC cs o x (k + 1))) := hidOf (HB.out.set _ _)
      have NC : Hid (Chg (fun b => b = g) w (wr.setCell ⟨g, o + k, none⟩ (.int .u8 ((x : Int) / 2 ^ (8 * k) % 256)))) := hidOf (Chg.setCell (S := fun b => b = g) HC.out (p := ⟨g, o + k, none⟩) rfl _)
      have e8 : (x : Int) / 2 ^ (8 * k) = (x : Int) / 2 ^ (8 * k) % 256 := by
        obtain rfl : k = 0 := by omega
        simp; omega
      have E8 := hidOf e8
      clear e8
      go_upto_region 4 with fail
      rw [E8.out]
      generalize wr.setCell ⟨g, o + k, none⟩ (.int .u8 ((x : Int) / 2 ^ (8 * k) % 256)) = wB at NB NC ⊢
      go_wp2
      go_roundw
      case rel => exact ⟨k + 1, by simp, by omega, NB, NC⟩
      case measure => simp [intOf]; omega
    · have hlt : ¬ (k : Int) < n := by omega
      obtain rfl : n = k := by omega
      go_wp2
      go_end0
      exact ⟨⟨_, rfl⟩, HB.out, HC.out⟩
set_option maxHeartbeats 1000000 in
theorem lay16 (w : World) (g o n c x : Nat) (cs : Array Value) (h : By8 w g cs) (hn : o + n ≤ cs.size) (h8 : n ≤ 2) (hnc : n ≤ c) (hx : x < 65536) : Calls Tryz.prog 94 #[.slice (some ⟨g, o, none⟩) n c, .int .u16 x] w fun e w' => (∃ q, e = .returned q) ∧ By8 w' g (layC cs o x n) ∧ Chg (fun b => b = g) w w' := by
  have H := hidOf h
  clear h
  go_enter Tryz.func94, Tryz.ntmps94
  go_wp2
  go_loopw [7] (fun kv wr => ∃ k : Nat, kv = .int .i64 k ∧ k ≤ n ∧ Hid (By8 wr g (layC cs o x k)) ∧ Hid (Chg (fun b => b = g) w wr)) (fun kv _ => n - (intOf kv).toNat)
  case atStart => exact ⟨0, rfl, by omega, H, hidOf (Chg.refl _ _)⟩
  case round =>
    obtain ⟨k, rfl, hk, HB, HC⟩ := hrel
    by_cases hkn : k < n
    · have hlt : (k : Int) < n := by omega
      have hk8 : k < 2 := by omega
      obtain ⟨u, hu⟩ : ∃ u, wr.cell? ⟨g, o + k, none⟩ = some u := ⟨_, by rw [HB.out.cell, Array.getElem?_eq_getElem (by rw [layC_size]; omega)]⟩
      have hf := HB.out.frozen (o + k)
      have NB : Hid (By8 (wr.setCell ⟨g, o + k, none⟩ (.int .u8 ((x : Int) / 2 ^ (8 * k) % 256))) g (layC cs o x (k + 1))) := hidOf (HB.out.set _ _)
      have NC : Hid (Chg (fun b => b = g) w (wr.setCell ⟨g, o + k, none⟩ (.int .u8 ((x : Int) / 2 ^ (8 * k) % 256)))) := hidOf (Chg.setCell (S := fun b => b = g) HC.out (p := ⟨g, o + k, none⟩) rfl _)
      go_upto_region 4 with fail
      generalize wr.setCell ⟨g, o + k, none⟩ (.int .u8 ((x : Int) / 2 ^ (8 * k) % 256)) = wB at NB NC ⊢
      go_wp2
      go_roundw
      case rel => exact ⟨k + 1, by simp, by omega, NB, NC⟩
      case measure => simp [intOf]; omega
    · have hlt : ¬ (k : Int) < n := by omega
      obtain rfl : n = k := by omega
      go_wp2
      go_end0
      exact ⟨⟨_, rfl⟩, HB.out, HC.out⟩
set_option maxHeartbeats 1000000 in
theorem lay32 (w : World) (g o n c x : Nat) (cs : Array Value) (h : By8 w g cs) (hn : o + n ≤ cs.size) (h8 : n ≤ 4) (hnc : n ≤ c) (hx : x < 4294967296) : Calls Tryz.prog 95 #[.slice (some ⟨g, o, none⟩) n c, .int .u32 x] w fun e w' => (∃ q, e = .returned q) ∧ By8 w' g (layC cs o x n) ∧ Chg (fun b => b = g) w w' := by
  have H := hidOf h
  clear h
  go_enter Tryz.func95, Tryz.ntmps95
  go_wp2
  go_loopw [7] (fun kv wr => ∃ k : Nat, kv = .int .i64 k ∧ k ≤ n ∧ Hid (By8 wr g (layC cs o x k)) ∧ Hid (Chg (fun b => b = g) w wr)) (fun kv _ => n - (intOf kv).toNat)
  case atStart => exact ⟨0, rfl, by omega, H, hidOf (Chg.refl _ _)⟩
  case round =>
    obtain ⟨k, rfl, hk, HB, HC⟩ := hrel
    by_cases hkn : k < n
    · have hlt : (k : Int) < n := by omega
      have hk8 : k < 4 := by omega
      obtain ⟨u, hu⟩ : ∃ u, wr.cell? ⟨g, o + k, none⟩ = some u := ⟨_, by rw [HB.out.cell, Array.getElem?_eq_getElem (by rw [layC_size]; omega)]⟩
      have hf := HB.out.frozen (o + k)
      have NB : Hid (By8 (wr.setCell ⟨g, o + k, none⟩ (.int .u8 ((x : Int) / 2 ^ (8 * k) % 256))) g (layC cs o x (k + 1))) := hidOf (HB.out.set _ _)
      have NC : Hid (Chg (fun b => b = g) w (wr.setCell ⟨g, o + k, none⟩ (.int .u8 ((x : Int) / 2 ^ (8 * k) % 256)))) := hidOf (Chg.setCell (S := fun b => b = g) HC.out (p := ⟨g, o + k, none⟩) rfl _)
      go_upto_region 4 with fail
      generalize wr.setCell ⟨g, o + k, none⟩ (.int .u8 ((x : Int) / 2 ^ (8 * k) % 256)) = wB at NB NC ⊢
      go_wp2
      go_roundw
      case rel => exact ⟨k + 1, by simp, by omega, NB, NC⟩
      case measure => simp [intOf]; omega
    · have hlt : ¬ (k : Int) < n := by omega
      obtain rfl : n = k := by omega
      go_wp2
      go_end0
      exact ⟨⟨_, rfl⟩, HB.out, HC.out⟩
set_option maxHeartbeats 1000000 in
theorem lay64 (w : World) (g o n c x : Nat) (cs : Array Value) (h : By8 w g cs) (hn : o + n ≤ cs.size) (h8 : n ≤ 8) (hnc : n ≤ c) (hx : x < 18446744073709551616) : Calls Tryz.prog 96 #[.slice (some ⟨g, o, none⟩) n c, .int .u64 x] w fun e w' => (∃ q, e = .returned q) ∧ By8 w' g (layC cs o x n) ∧ Chg (fun b => b = g) w w' := by
  have H := hidOf h
  clear h
  go_enter Tryz.func96, Tryz.ntmps96
  go_wp2
  go_loopw [7] (fun kv wr => ∃ k : Nat, kv = .int .i64 k ∧ k ≤ n ∧ Hid (By8 wr g (layC cs o x k)) ∧ Hid (Chg (fun b => b = g) w wr)) (fun kv _ => n - (intOf kv).toNat)
  case atStart => exact ⟨0, rfl, by omega, H, hidOf (Chg.refl _ _)⟩
  case round =>
    obtain ⟨k, rfl, hk, HB, HC⟩ := hrel
    by_cases hkn : k < n
    · have hlt : (k : Int) < n := by omega
      have hk8 : k < 8 := by omega
      obtain ⟨u, hu⟩ : ∃ u, wr.cell? ⟨g, o + k, none⟩ = some u := ⟨_, by rw [HB.out.cell, Array.getElem?_eq_getElem (by rw [layC_size]; omega)]⟩
      have hf := HB.out.frozen (o + k)
      have NB : Hid (By8 (wr.setCell ⟨g, o + k, none⟩ (.int .u8 ((x : Int) / 2 ^ (8 * k) % 256))) g (layC cs o x (k + 1))) := hidOf (HB.out.set _ _)
      have NC : Hid (Chg (fun b => b = g) w (wr.setCell ⟨g, o + k, none⟩ (.int .u8 ((x : Int) / 2 ^ (8 * k) % 256)))) := hidOf (Chg.setCell (S := fun b => b = g) HC.out (p := ⟨g, o + k, none⟩) rfl _)
      go_upto_region 4 with fail
      generalize wr.setCell ⟨g, o + k, none⟩ (.int .u8 ((x : Int) / 2 ^ (8 * k) % 256)) = wB at NB NC ⊢
      go_wp2
      go_roundw
      case rel => exact ⟨k + 1, by simp, by omega, NB, NC⟩
      case measure => simp [intOf]; omega
    · have hlt : ¬ (k : Int) < n := by omega
      obtain rfl : n = k := by omega
      go_wp2
      go_end0
      exact ⟨⟨_, rfl⟩, HB.out, HC.out⟩
end Go.Proofs.YtekjfbmebekmeaaGreat
