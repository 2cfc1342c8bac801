import Derived.Test.YtdffhnboehjeoaaRows
import Derived.WalkKit
import Derived.ProofKit
import Derived.OpenShut
import Derived.Deep.Slices
import Derived.Below
namespace Go.Proofs.Ytdffhnboehjeoaa
open Go.ChangeShapes Go.WideShapes Go.ChangeAt Go.RowKit Go.Deep
set_option linter.unusedVariables false

theorem cellsCase : Try.prog.cellsOf 26 = 4 := by kernel_rfl
theorem cellsU64 : Try.prog.cellsOf 24 = 1 := by kernel_rfl
theorem cellsInt : Try.prog.cellsOf 3 = 1 := by kernel_rfl
/-- what a walk is told of the cases that came in: nil, or a row of cells, four a case -/
def IsCases (w : World) (a : Option Addr) (len : Nat) : Prop :=
  len = 0 ∨ ∃ b off : Nat, a = some ⟨b, off, none⟩ ∧ ∀ i, i < len → ∃ A B K V : Int, w.cell? ⟨b, off + i * 4, none⟩ = some (.int .u64 A) ∧ w.cell? ⟨b, off + i * 4 + 1, none⟩ = some (.int .u64 B) ∧
    w.cell? ⟨b, off + i * 4 + 2, none⟩ = some (.int .u64 K) ∧ w.cell? ⟨b, off + i * 4 + 3, none⟩ = some (.int .i64 V) ∧ 0 ≤ A ∧ A < 18446744073709551616 ∧ 0 ≤ B ∧ B < 18446744073709551616 ∧ 0 ≤ K ∧ K < 18446744073709551616
theorem open_cases {H : Type} {enc : TypeId × Value → H} {w : World} {base : Nat} {spare : Nat → Bool} {held : Bool} {fuel : Nat} {a : Option Addr} {len cap : Nat} {x : DataW H × List MemPlace}
    (h : DataW.trod enc Try.prog w base spare held fuel 22 [.slice a len cap] = some x) : IsCases w a len := by
  rcases open_slice Try.underlying22 h with ⟨hcs, _⟩ | ⟨ad, l, c, m, n, D, Pl, hcs, hb, hl, hm, hmm, _, hx⟩
  · simp at hcs
    obtain ⟨rfl, rfl, rfl⟩ := hcs
    exact .inl rfl
  · simp at hcs
    obtain ⟨rfl, rfl, rfl⟩ := hcs
    have hlm : len ≤ m := by rw [hmm]; split <;> omega
    by_cases z : len = 0
    · exact .inl z
    right
    obtain ⟨b, off, spot⟩ := ad
    have hs : spot = none := by
      obtain ⟨cs', h1, h2⟩ := hx 0 (by omega)
      rw [cellsCase] at h1
      obtain ⟨_, hlen, hcell⟩ := World.cells?_some h1
      match cs', hlen with
      | [v0, v1, v2, v3], _ =>
        have e0 : w.cell? (((⟨b, off, spot⟩ : Addr).add (0 * 4)).add 0) = some v0 := hcell 0 (by simp)
        simpa [Addr.add] using World.cell?_spot e0
    subst hs
    refine ⟨b, off, rfl, ?_⟩
    intro i hi
    obtain ⟨cs', h1, h2⟩ := hx i (by omega)
    rw [cellsCase] at h1
    obtain ⟨_, hlen, hcell⟩ := World.cells?_some h1
    obtain ⟨xs, k, hk, hxy, _, hxl, hf⟩ := DataW.trod_struct Try.underlying26 h2
    match xs, hxl, cs', hlen with
    | [y0, y1, y2, y3], _, [v0, v1, v2, v3], _ =>
      have g0 := hf 0 _ rfl
      have g1 := hf 1 _ rfl
      have g2 := hf 2 _ rfl
      have g3 := hf 3 _ rfl
      simp [cellsU64, cellsInt] at g0 g1 g2 g3
      obtain ⟨A, r0, _, wA⟩ := DataW.trod_int Try.underlying24 g0
      obtain ⟨B, r1, _, wB⟩ := DataW.trod_int Try.underlying24 g1
      obtain ⟨K, r2, _, wK⟩ := DataW.trod_int Try.underlying24 g2
      obtain ⟨V, r3, _, wV⟩ := DataW.trod_int Try.underlying3 g3
      have e0 := hcell 0 (by simp)
      have e1 := hcell 1 (by simp)
      have e2 := hcell 2 (by simp)
      have e3 := hcell 3 (by simp)
      simp at r0 r1 r2 r3
      subst r0 r1 r2 r3
      simp only [add_plain] at e0 e1 e2 e3
      simp at e0 e1 e2 e3
      have bA := bounds_u64 wA
      have bB := bounds_u64 wB
      have bK := bounds_u64 wK
      exact ⟨A, B, K, V, e0, e1, e2, e3, by omega, by omega, by omega, by omega, by omega, by omega⟩
theorem len_cases {H : Type} {enc : TypeId × Value → H} {w : World} {base : Nat} {spare : Nat → Bool} {held : Bool} {fuel : Nat} {a : Option Addr} {len cap : Nat} {x : DataW H × List MemPlace}
    (h : DataW.trod enc Try.prog w base spare held fuel 22 [.slice a len cap] = some x) : len ≤ maxLen := by
  rcases open_slice Try.underlying22 h with ⟨hcs, _⟩ | ⟨ad, l, c, m, n, D, Pl, hcs, hb, hl, hm, hmm, _, hx⟩
  · simp at hcs
    obtain ⟨rfl, rfl, rfl⟩ := hcs
    exact Nat.zero_le _
  · simp at hcs
    obtain ⟨rfl, rfl, rfl⟩ := hcs
    omega
end Go.Proofs.Ytdffhnboehjeoaa
