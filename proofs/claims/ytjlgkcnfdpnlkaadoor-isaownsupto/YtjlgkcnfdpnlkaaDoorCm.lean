import Derived.Test.YtjlgkcnfdpnlkaaDoorJb
import Derived.WalkKit
import Derived.ProofKit
import Derived.OpenShut
import Derived.Deep.Slices
import Derived.Below
namespace Go.Proofs.YtjlgkcnfdpnlkaaDoor
open Go.ChangeShapes Go.WideShapes Go.ChangeAt Go.RowKit Go.Deep
set_option linter.unusedVariables false

theorem cellsInsn : Tryd.prog.cellsOf 30 = 5 := by kernel_rfl
theorem cellsInt : Tryd.prog.cellsOf 3 = 1 := by kernel_rfl
/-- what a walk is told of the instructions that came in: nil, or a row of cells, five an instruction -/
def IsInsns (w : World) (a : Option Addr) (len : Nat) : Prop :=
  len = 0 ∨ ∃ b off : Nat, a = some ⟨b, off, none⟩ ∧ ∀ i, i < len → ∃ A B C D E : Int, w.cell? ⟨b, off + i * 5, none⟩ = some (.int .i64 A) ∧ w.cell? ⟨b, off + i * 5 + 1, none⟩ = some (.int .i64 B) ∧
    w.cell? ⟨b, off + i * 5 + 2, none⟩ = some (.int .i64 C) ∧ w.cell? ⟨b, off + i * 5 + 3, none⟩ = some (.int .i64 D) ∧ w.cell? ⟨b, off + i * 5 + 4, none⟩ = some (.int .i64 E)
set_option maxRecDepth 20000 in
theorem open_insns {H : Type} {enc : TypeId × Value → H} {w : World} {base : Nat} {spare : Nat → Bool} {held : Bool} {fuel : Nat} {a : Option Addr} {len cap : Nat} {x : DataW H × List MemPlace}
    (h : DataW.trod enc Tryd.prog w base spare held fuel 22 [.slice a len cap] = some x) : IsInsns w a len := by
  rcases open_slice Tryd.underlying22 h with ⟨hcs, _⟩ | ⟨ad, l, c, m, n, D, Pl, hcs, hb, hl, hm, hmm, _, hx⟩
  · simp at hcs
    obtain ⟨rfl, rfl, rfl⟩ := hcs
    exact .inl rfl
  · simp at hcs
    obtain ⟨rfl, rfl, rfl⟩ := hcs
    have hlm : len ≤ m := by rw [hmm]; split <;> omega
    by_cases z : len = 0
    · exact .inl z
    right
    obtain ⟨b, off, spot⟩ := ad
    have hs : spot = none := by
      obtain ⟨cs', h1, h2⟩ := hx 0 (by omega)
      simp only [cellsInsn] at h1
      obtain ⟨_, hlen, hcell⟩ := World.cells?_some h1
      match cs', hlen with
      | [v0, v1, v2, v3, v4], _ =>
        have e0 : w.cell? (((⟨b, off, spot⟩ : Addr).add (0 * 5)).add 0) = some v0 := hcell 0 (by simp)
        simpa [Addr.add] using World.cell?_spot e0
    subst hs
    refine ⟨b, off, rfl, ?_⟩
    intro i hi
    obtain ⟨cs', h1, h2⟩ := hx i (by omega)
    simp only [cellsInsn] at h1
    obtain ⟨_, hlen, hcell⟩ := World.cells?_some h1
    obtain ⟨xs, k, hk, hxy, _, hxl, hf⟩ := DataW.trod_struct Tryd.underlying30 h2
    match xs, hxl, cs', hlen with
    | [y0, y1, y2, y3, y4], _, [v0, v1, v2, v3, v4], _ =>
      have g0 := hf 0 _ rfl
      have g1 := hf 1 _ rfl
      have g2 := hf 2 _ rfl
      have g3 := hf 3 _ rfl
      have g4 := hf 4 _ rfl
      simp [cellsInt] at g0 g1 g2 g3 g4
      obtain ⟨A, r0, _, _⟩ := DataW.trod_int Tryd.underlying3 g0
      obtain ⟨B, r1, _, _⟩ := DataW.trod_int Tryd.underlying3 g1
      obtain ⟨C, r2, _, _⟩ := DataW.trod_int Tryd.underlying3 g2
      obtain ⟨E, r3, _, _⟩ := DataW.trod_int Tryd.underlying3 g3
      obtain ⟨F, r4, _, _⟩ := DataW.trod_int Tryd.underlying3 g4
      have e0 := hcell 0 (by simp)
      have e1 := hcell 1 (by simp)
      have e2 := hcell 2 (by simp)
      have e3 := hcell 3 (by simp)
      have e4 := hcell 4 (by simp)
      simp at r0 r1 r2 r3 r4
      subst r0 r1 r2 r3 r4
      simp only [add_plain] at e0 e1 e2 e3 e4
      simp at e0 e1 e2 e3 e4
      exact ⟨A, B, C, E, F, e0, e1, e2, e3, e4⟩
theorem len_insns {H : Type} {enc : TypeId × Value → H} {w : World} {base : Nat} {spare : Nat → Bool} {held : Bool} {fuel : Nat} {a : Option Addr} {len cap : Nat} {x : DataW H × List MemPlace}
    (h : DataW.trod enc Tryd.prog w base spare held fuel 22 [.slice a len cap] = some x) : len ≤ maxLen := by
  rcases open_slice Tryd.underlying22 h with ⟨hcs, _⟩ | ⟨ad, l, c, m, n, D, Pl, hcs, hb, hl, hm, hmm, _, hx⟩
  · simp at hcs
    obtain ⟨rfl, rfl, rfl⟩ := hcs
    exact Nat.zero_le _
  · simp at hcs
    obtain ⟨rfl, rfl, rfl⟩ := hcs
    omega
end Go.Proofs.YtjlgkcnfdpnlkaaDoor
