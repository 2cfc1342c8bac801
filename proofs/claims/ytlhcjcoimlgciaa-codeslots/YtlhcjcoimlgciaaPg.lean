import Derived.Test.YtlhcjcoimlgciaaPd
namespace Go.Proofs.Ytlhcjcoimlgciaa
open Go.RowKit
set_option linter.unusedVariables false
set_option linter.unusedSimpArgs false
theorem or0 (x : Int) (h0 : 0 ≤ x) (h1 : x < 18446744073709551616) : bits .or .u64 0 x = x := by
  rw [bits_join .u64 64 (by decide) wraps_u64 64 0 x (by omega) (by omega) (by omega) h0 (by omega) (by omega)]; omega
theorem orHi (i : Nat) (x y : Int) (hx0 : 0 ≤ x) (hx : x % 2 ^ i = 0) (hx1 : x < 18446744073709551616) (hy0 : 0 ≤ y) (hy : y < 2 ^ i) (hy1 : y < 18446744073709551616) : bits .or .u64 x y = x + y :=
  bits_join .u64 64 (by decide) wraps_u64 i x y hx0 hx (by omega) hy0 hy (by omega)
theorem or_1 (z0 : Int) (a0 : 0 ≤ z0) (a1 : z0 < 256) : bits .or .u64 0 z0 = z0 := or0 z0 a0 (by omega)
theorem or_2 (z0 z1 : Int) (a0 : 0 ≤ z0) (a1 : z0 < 256) (b0 : 0 ≤ z1) (b1 : z1 < 256) : bits .or .u64 (bits .or .u64 0 (z1 * 256)) z0 = z0 + 256 * z1 := by
  rw [or0 _ (by omega) (by omega), orHi 8 _ _ (by omega) (by omega) (by omega) a0 (by omega) (by omega)]; omega
theorem or_4 (z0 z1 z2 z3 : Int) (a0 : 0 ≤ z0) (a1 : z0 < 256) (b0 : 0 ≤ z1) (b1 : z1 < 256) (c0 : 0 ≤ z2) (c1 : z2 < 256) (d0 : 0 ≤ z3) (d1 : z3 < 256) :
    bits .or .u64 (bits .or .u64 (bits .or .u64 0 (bits .or .u64 (z3 * 16777216) (z2 * 65536))) (z1 * 256)) z0 = z0 + 256 * z1 + 65536 * z2 + 16777216 * z3 := by
  rw [orHi 24 (z3 * 16777216) _ (by omega) (by omega) (by omega) (by omega) (by omega) (by omega), or0 _ (by omega) (by omega), orHi 16 _ (z1 * 256) (by omega) (by omega) (by omega) (by omega) (by omega) (by omega), orHi 8 _ _ (by omega) (by omega) (by omega) a0 (by omega) (by omega)]; omega
end Go.Proofs.Ytlhcjcoimlgciaa
