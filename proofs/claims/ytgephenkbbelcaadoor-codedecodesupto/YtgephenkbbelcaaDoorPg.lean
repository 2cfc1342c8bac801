import Derived.Test.YtgephenkbbelcaaDoorPd
namespace Go.Proofs.YtgephenkbbelcaaDoor
open Go.RowKit
set_option linter.unusedVariables false
set_option linter.unusedSimpArgs false
theorem or0 (x : Int) (h0 : 0 ≤ x) (h1 : x < 18446744073709551616) : bits .or .u64 0 x = x := by
  rw [bits_join .u64 64 (by decide) wraps_u64 64 0 x (by omega) (by omega) (by omega) h0 (by omega) (by omega)]; omega
theorem orHi (i : Nat) (x y : Int) (hx0 : 0 ≤ x) (hx : x % 2 ^ i = 0) (hx1 : x < 18446744073709551616) (hy0 : 0 ≤ y) (hy : y < 2 ^ i) (hy1 : y < 18446744073709551616) : bits .or .u64 x y = x + y :=
  bits_join .u64 64 (by decide) wraps_u64 i x y hx0 hx (by omega) hy0 hy (by omega)
theorem or_1 (z0 : Int) (a0 : 0 ≤ z0) (a1 : z0 < 256) : bits .or .u64 0 z0 = z0 := or0 z0 a0 (by omega)
theorem or_2 (z0 z1 : Int) (a0 : 0 ≤ z0) (a1 : z0 < 256) (b0 : 0 ≤ z1) (b1 : z1 < 256) : bits .or .u64 (bits .or .u64 0 (z1 * 256)) z0 = z0 + 256 * z1 := by
  rw [or0 _ (by omega) (by omega), orHi 8 _ _ (by omega) (by omega) (by omega) a0 (by omega) (by omega)]; omega
theorem or_4 (z0 z1 z2 z3 : Int) (a0 : 0 ≤ z0) (a1 : z0 < 256) (b0 : 0 ≤ z1) (b1 : z1 < 256) (c0 : 0 ≤ z2) (c1 : z2 < 256) (d0 : 0 ≤ z3) (d1 : z3 < 256) :
    bits .or .u64 (bits .or .u64 (bits .or .u64 0 (bits .or .u64 (z3 * 16777216) (z2 * 65536))) (z1 * 256)) z0 = z0 + 256 * z1 + 65536 * z2 + 16777216 * z3 := by
  rw [orHi 24 (z3 * 16777216) _ (by omega) (by omega) (by omega) (by omega) (by omega) (by omega), or0 _ (by omega) (by omega), orHi 16 _ (z1 * 256) (by omega) (by omega) (by omega) (by omega) (by omega) (by omega), orHi 8 _ _ (by omega) (by omega) (by omega) a0 (by omega) (by omega)]; omega
theorem take1 (w : World) (b o len cap : Nat) (z0 : Int) (h0 : w.cell? ⟨b, o, none⟩ = some (.int .u8 z0)) (a0 : 0 ≤ z0) (a1 : z0 < 256) (hl : 1 ≤ len) :
    Calls Tryd.prog 30 #[.slice (some ⟨b, o, none⟩) len cap, .int .i64 1] w fun e w' => e = .returned (.int .u64 z0) ∧ ∃ m, w' = w.drewN m := by
  have hl' : (1 : Int) ≤ len := by omega
  go_enter Tryd.func30, Tryd.ntmps30
  go_wp2
  go_ret
  exact ⟨congrArg (fun z => Ending.returned (Value.int .u64 z)) (or_1 z0 a0 a1), 0, rfl⟩
theorem take2 (w : World) (b o len cap : Nat) (z0 z1 : Int) (h0 : w.cell? ⟨b, o, none⟩ = some (.int .u8 z0)) (h1 : w.cell? ⟨b, o + 1, none⟩ = some (.int .u8 z1)) (a0 : 0 ≤ z0) (a1 : z0 < 256) (b0 : 0 ≤ z1) (b1 : z1 < 256) (hl : 2 ≤ len) :
    Calls Tryd.prog 30 #[.slice (some ⟨b, o, none⟩) len cap, .int .i64 2] w fun e w' => e = .returned (.int .u64 (z0 + 256 * z1)) ∧ ∃ m, w' = w.drewN m := by
  have hl' : (2 : Int) ≤ len := by omega
  go_enter Tryd.func30, Tryd.ntmps30
  go_wp2
  go_ret
  exact ⟨congrArg (fun z => Ending.returned (Value.int .u64 z)) (or_2 z0 z1 a0 a1 b0 b1), 0, rfl⟩
theorem take4 (w : World) (b o len cap : Nat) (z0 z1 z2 z3 : Int) (h0 : w.cell? ⟨b, o, none⟩ = some (.int .u8 z0)) (h1 : w.cell? ⟨b, o + 1, none⟩ = some (.int .u8 z1)) (h2 : w.cell? ⟨b, o + 2, none⟩ = some (.int .u8 z2)) (h3 : w.cell? ⟨b, o + 3, none⟩ = some (.int .u8 z3)) (a0 : 0 ≤ z0) (a1 : z0 < 256) (b0 : 0 ≤ z1) (b1 : z1 < 256) (c0 : 0 ≤ z2) (c1 : z2 < 256) (d0 : 0 ≤ z3) (d1 : z3 < 256) (hl : 4 ≤ len) :
    Calls Tryd.prog 30 #[.slice (some ⟨b, o, none⟩) len cap, .int .i64 4] w fun e w' => e = .returned (.int .u64 (z0 + 256 * z1 + 65536 * z2 + 16777216 * z3)) ∧ ∃ m, w' = w.drewN m := by
  have hl' : (4 : Int) ≤ len := by omega
  go_enter Tryd.func30, Tryd.ntmps30
  go_wp2
  go_quiet (fail)
  go_wp2
  go_ret
  exact ⟨congrArg (fun z => Ending.returned (Value.int .u64 z)) (or_4 z0 z1 z2 z3 a0 a1 b0 b1 c0 c1 d0 d1), _, rfl⟩
end Go.Proofs.YtgephenkbbelcaaDoor
