import Derived.Test.YthdgmhohofakgaaGreatDoorImp
namespace Go.Proofs.YthdgmhohofakgaaGreatDoor
open Go.RowKit
set_option linter.unusedVariables false
set_option linter.unusedSimpArgs false
def FldE (h n : Nat) (w : World) (e : Ending) (w' : World) : Prop := ∃ q, e = .returned (.slice (some ⟨q, 0, none⟩) n n) ∧ w.heap.size ≤ q ∧ q < w'.heap.size ∧ (∀ i, i < n → w'.cell? ⟨q, i, none⟩ = some (.pointer (some ⟨h, i, none⟩))) ∧ Out w w'
theorem headFields_any (h : Nat) (w : World) : Calls Tryz.prog 49 #[.pointer (some ⟨h, 0, none⟩)] w (FldE h 5 w) := by
  go_enter Tryz.func49, Tryz.ntmps49
  go_upto_region 1 with fail
  go_region_held3 (fun _ => True) (trivial) (fail)
  go_wp2
  go_ret
  refine ⟨_, rfl, Nat.le_refl _, ?_, ?_, ?_⟩
  · simp
  · intro i hi
    obtain rfl | rfl | rfl | rfl | rfl : i = 0 ∨ i = 1 ∨ i = 2 ∨ i = 3 ∨ i = 4 := by omega
    all_goals exact cell_fresh _ _ _ _ _ rfl
  · first | exact Out.alloc (Out.drew (Out.refl _)) _ | exact Out.drew (Out.alloc (Out.drew (Out.refl _)) _)
theorem tableFields_any (h : Nat) (w : World) : Calls Tryz.prog 74 #[.pointer (some ⟨h, 0, none⟩)] w (FldE h 5 w) := by
  go_enter Tryz.func74, Tryz.ntmps74
  go_upto_region 1 with fail
  go_region_held3 (fun _ => True) (trivial) (fail)
  go_wp2
  go_ret
  refine ⟨_, rfl, Nat.le_refl _, ?_, ?_, ?_⟩
  · simp
  · intro i hi
    obtain rfl | rfl | rfl | rfl | rfl : i = 0 ∨ i = 1 ∨ i = 2 ∨ i = 3 ∨ i = 4 := by omega
    all_goals exact cell_fresh _ _ _ _ _ rfl
  · first | exact Out.alloc (Out.drew (Out.refl _)) _ | exact Out.drew (Out.alloc (Out.drew (Out.refl _)) _)
theorem funcFields_any (h : Nat) (w : World) : Calls Tryz.prog 73 #[.pointer (some ⟨h, 0, none⟩)] w (FldE h 4 w) := by
  go_enter Tryz.func73, Tryz.ntmps73
  go_upto_region 1 with fail
  go_region_held3 (fun _ => True) (trivial) (fail)
  go_wp2
  go_ret
  refine ⟨_, rfl, Nat.le_refl _, ?_, ?_, ?_⟩
  · simp
  · intro i hi
    obtain rfl | rfl | rfl | rfl : i = 0 ∨ i = 1 ∨ i = 2 ∨ i = 3 := by omega
    all_goals exact cell_fresh _ _ _ _ _ rfl
  · first | exact Out.alloc (Out.drew (Out.refl _)) _ | exact Out.drew (Out.alloc (Out.drew (Out.refl _)) _)
theorem headSize_any (h : Nat) (w : World) (s f d n : Nat) (c0 : w.cell? ⟨h, 0, none⟩ = some (.int .i64 s)) (c1 : w.cell? ⟨h, 1, none⟩ = some (.int .i64 f)) (c2 : w.cell? ⟨h, 2, none⟩ = some (.int .i64 d)) (c3 : w.cell? ⟨h, 3, none⟩ = some (.int .i64 n)) (hs : s < 4294967296) (hf : f < 4294967296) (hd : d < 4294967296) (hn : n < 4294967296) : Calls Tryz.prog 47 #[.pointer (some ⟨h, 0, none⟩)] w fun e w' => e = .returned (.int .i64 (sizP s f d n : Nat)) ∧ ∃ m, w' = w.drewN m := by
  have e1 : ((sizP s f d n : Nat) : Int) = 28 + 8 * (s : Int) + 16 * (f : Int) + 20 * (d : Int) + (n : Int) := by unfold sizP; omega
  rw [e1]
  have g1 : (s : Int) < 4294967296 := by omega
  have g2 : (f : Int) < 4294967296 := by omega
  have g3 : (d : Int) < 4294967296 := by omega
  have g4 : (n : Int) < 4294967296 := by omega
  go_enter Tryz.func47, Tryz.ntmps47
  go_upto_region 1 with fail
  go_quiet (fail)
  go_wp2
  go_ret
  exact ⟨rfl, _, rfl⟩
/-- bits side by side -/
theorem bits_or_i64 (a b : Nat) (ha : a < 18446744073709551616) (hb : b < 18446744073709551616) : bits BinOp.or IntKind.i64 (wrap64 (a : Int)) (wrap64 (b : Int)) = wrap64 ((a ||| b : Nat) : Int) := by
  have hx : a ||| b < 2 ^ 64 := Nat.or_lt_two_pow (by omega) (by omega)
  have key : ∀ n : Nat, n < 18446744073709551616 → (BitVec.ofInt 64 (wrap64 (n : Int))).toNat = n := by
    intro n hn
    rw [BitVec.toNat_ofInt]
    have : wrap64 (n : Int) % (2 ^ 64 : Nat) = n := by
      unfold wrap64
      first | omega | (rw [IntKind.wrap_i64]; omega) | (simp; omega)
    rw [this]; rfl
  show IntKind.i64.wrap ((BitVec.ofInt 64 (wrap64 (a : Int)) ||| BitVec.ofInt 64 (wrap64 (b : Int))).toNat : Int) = _
  rw [BitVec.toNat_or, key a ha, key b hb]
  first | rfl | (unfold wrap64; rw [IntKind.wrap_i64])
theorem or_join {k x z c : Nat} {a u : Int} (hzl : z < 18446744073709551616) (hc : z = 2 ^ k * c) (hxM : x < 2 ^ k) (hx : (x : Int) = a) (w1 : wrap64 (z : Int) = u) (w2 : wrap64 (x : Int) = a) (w3 : wrap64 ((z + x : Nat) : Int) = a + u) (hxl : x < 18446744073709551616 := by omega) : bits BinOp.or IntKind.i64 a u = a + u := by
  have h1 := bits_or_i64 x z hxl hzl
  rw [w1, w2] at h1
  rw [h1, Nat.or_comm, hc, ← Nat.two_pow_add_eq_or_of_lt hxM, ← hc, w3]
theorem or_8 (a b : Int) (ha : 0 ≤ a) (hk : a < 256) (hb : -9223372036854775808 ≤ b * 256) (hb2 : b * 256 + a ≤ 9223372036854775807) : bits BinOp.or IntKind.i64 a (b * 256) = a + b * 256 := by
  obtain ⟨z, hz⟩ : ∃ z : Nat, (z : Int) = (b * 256) % 18446744073709551616 := ⟨((b * 256) % 18446744073709551616).toNat, by omega⟩
  obtain ⟨x, hx⟩ : ∃ x : Nat, (x : Int) = a := ⟨a.toNat, by omega⟩
  exact or_join (z := z) (x := x) (k := 8) (c := z / 256) (by omega) (by have : (2 : Nat) ^ 8 = 256 := rfl; omega) (by have : (2 : Nat) ^ 8 = 256 := rfl; omega) hx (by unfold wrap64; omega) (by unfold wrap64; omega) (by unfold wrap64; omega)
theorem or_12 (a b : Int) (ha : 0 ≤ a) (hk : a < 4096) (hb : -9223372036854775808 ≤ b * 4096) (hb2 : b * 4096 + a ≤ 9223372036854775807) : bits BinOp.or IntKind.i64 a (b * 4096) = a + b * 4096 := by
  obtain ⟨z, hz⟩ : ∃ z : Nat, (z : Int) = (b * 4096) % 18446744073709551616 := ⟨((b * 4096) % 18446744073709551616).toNat, by omega⟩
  obtain ⟨x, hx⟩ : ∃ x : Nat, (x : Int) = a := ⟨a.toNat, by omega⟩
  exact or_join (z := z) (x := x) (k := 12) (c := z / 4096) (by omega) (by have : (2 : Nat) ^ 12 = 4096 := rfl; omega) (by have : (2 : Nat) ^ 12 = 4096 := rfl; omega) hx (by unfold wrap64; omega) (by unfold wrap64; omega) (by unfold wrap64; omega)
theorem or_16 (a b : Int) (ha : 0 ≤ a) (hk : a < 65536) (hb : -9223372036854775808 ≤ b * 65536) (hb2 : b * 65536 + a ≤ 9223372036854775807) : bits BinOp.or IntKind.i64 a (b * 65536) = a + b * 65536 := by
  obtain ⟨z, hz⟩ : ∃ z : Nat, (z : Int) = (b * 65536) % 18446744073709551616 := ⟨((b * 65536) % 18446744073709551616).toNat, by omega⟩
  obtain ⟨x, hx⟩ : ∃ x : Nat, (x : Int) = a := ⟨a.toNat, by omega⟩
  exact or_join (z := z) (x := x) (k := 16) (c := z / 65536) (by omega) (by have : (2 : Nat) ^ 16 = 65536 := rfl; omega) (by have : (2 : Nat) ^ 16 = 65536 := rfl; omega) hx (by unfold wrap64; omega) (by unfold wrap64; omega) (by unfold wrap64; omega)
theorem or_24 (a b : Int) (ha : 0 ≤ a) (hk : a < 16777216) (hb : -9223372036854775808 ≤ b * 16777216) (hb2 : b * 16777216 + a ≤ 9223372036854775807) : bits BinOp.or IntKind.i64 a (b * 16777216) = a + b * 16777216 := by
  obtain ⟨z, hz⟩ : ∃ z : Nat, (z : Int) = (b * 16777216) % 18446744073709551616 := ⟨((b * 16777216) % 18446744073709551616).toNat, by omega⟩
  obtain ⟨x, hx⟩ : ∃ x : Nat, (x : Int) = a := ⟨a.toNat, by omega⟩
  exact or_join (z := z) (x := x) (k := 24) (c := z / 16777216) (by omega) (by have : (2 : Nat) ^ 24 = 16777216 := rfl; omega) (by have : (2 : Nat) ^ 24 = 16777216 := rfl; omega) hx (by unfold wrap64; omega) (by unfold wrap64; omega) (by unfold wrap64; omega)
theorem or_32 (a b : Int) (ha : 0 ≤ a) (hk : a < 4294967296) (hb : -9223372036854775808 ≤ b * 4294967296) (hb2 : b * 4294967296 + a ≤ 9223372036854775807) : bits BinOp.or IntKind.i64 a (b * 4294967296) = a + b * 4294967296 := by
  obtain ⟨z, hz⟩ : ∃ z : Nat, (z : Int) = (b * 4294967296) % 18446744073709551616 := ⟨((b * 4294967296) % 18446744073709551616).toNat, by omega⟩
  obtain ⟨x, hx⟩ : ∃ x : Nat, (x : Int) = a := ⟨a.toNat, by omega⟩
  exact or_join (z := z) (x := x) (k := 32) (c := z / 4294967296) (by omega) (by have : (2 : Nat) ^ 32 = 4294967296 := rfl; omega) (by have : (2 : Nat) ^ 32 = 4294967296 := rfl; omega) hx (by unfold wrap64; omega) (by unfold wrap64; omega) (by unfold wrap64; omega)
end Go.Proofs.YthdgmhohofakgaaGreatDoor
