import Derived.Test.YtoobdcjkhphlcaaRel
import Derived.Test.YtoobdcjkhphlcaaRows
import Derived.WalkKit
import Derived.ProofKit
import Derived.OpenShut
import Derived.ChangeOld
import Derived.LaidMore
import Derived.Deep.Slices
import Derived.ChangeSlices
namespace Go.Proofs.Ytoobdcjkhphlcaa
open Go.ChangeShapes Go.WideShapes Go.ChangeAt Go.RowKit Go.Deep
set_option linter.unusedVariables false
set_option linter.unusedSimpArgs false
theorem byte_cells : Try.prog.cellsOf 5 = 1 := by kernel_rfl
theorem byte_bytes : Try.prog.bytesOf 5 = 1 := by kernel_rfl
theorem byte_wf {n : Int} (h : (Lit.int .u8 n).wf = true) : 0 ≤ n ∧ n < 256 := by
  simp [Lit.wf, IntKind.min, IntKind.max, IntKind.bits, IntKind.signed] at h; omega
/-- a byte that came in -/
theorem byte_of {n : Int} (h : 0 ≤ n ∧ n < 256) : ∃ c : UInt8, (c.toNat : Int) = n := by
  refine ⟨UInt8.ofNat n.toNat, ?_⟩
  have : n.toNat < 256 := by omega
  rw [UInt8.toNat_ofNat_of_lt' (by simpa [UInt8.size] using this)]
  omega
/-- bytes that came in -/
theorem open_gaps {H : Type} {enc : TypeId × Value → H} {w : World} {base : Nat} {spare : Nat → Bool} {held : Bool} {fuel : Nat} {a : Option Addr} {len cap : Nat} {x : DataW H × List MemPlace}
    (h : DataW.trod enc Try.prog w base spare held fuel 30 [.slice a len cap] = some x) :
    (∃ G : Nat → Int, ∀ k, k < len → ∃ b off, a = some ⟨b, off, none⟩ ∧ w.cell? ⟨b, off + k, none⟩ = some (.int .u8 (G k)) ∧ 0 ≤ G k ∧ G k < 256) ∧ ((x.1.weights Try.prog 30).all (· ≤ reachBytes) = true → len ≤ 140737488351232) := by
  rcases open_ints Try.underlying30 Try.underlying5 byte_cells h with ⟨hcs, rfl⟩ | ⟨ad, len', cap', zs, hcs, _, hl, hm, hz, rfl, hcell, hwz⟩
  · simp at hcs
    obtain ⟨rfl, rfl, rfl⟩ := hcs
    exact ⟨⟨fun _ => 0, fun k hk => absurd hk (by omega)⟩, fun _ => Nat.zero_le _⟩
  · simp at hcs
    obtain ⟨rfl, rfl, rfl⟩ := hcs
    have hlz : len ≤ zs.length := by rw [hz]; split <;> omega
    refine ⟨⟨fun k => zs.getD k 0, fun k hk => ?_⟩, ?_⟩
    · obtain ⟨b, off, spot⟩ := ad
      have hs : spot = none := by simpa [Addr.add] using World.cell?_spot (hcell 0 (by omega))
      subst hs
      have hk' : k < zs.length := by omega
      have e1 := hcell k hk'
      rw [add_plain] at e1
      have e2 : zs.getD k 0 = zs[k] := by simp [List.getD, List.getElem?_eq_getElem hk']
      have := byte_wf (hwz _ (List.getElem_mem hk'))
      rw [← e2] at this
      exact ⟨b, off, rfl, e1, this.1, this.2⟩
    · intro hw
      have e : (lits (H := H) .u8 (zs.take len)).length = len := by simp [lits]; omega
      simp only [DataW.weights, Try.underlying30, byte_bytes, List.all_cons, Bool.and_eq_true, e] at hw
      have h2 : (len + (lits (H := H) .u8 (zs.drop len)).length) * 1 ≤ 140737488351232 := of_decide_eq_true hw.1
      omega
theorem list_of {α : Type} (P : Nat → α → Prop) : ∀ n, (∀ i, i < n → ∃ x, P i x) → ∃ l : List α, l.length = n ∧ ∀ i x, l[i]? = some x → P i x
  | 0, _ => ⟨[], rfl, fun i x h => by simp at h⟩
  | n + 1, h => by
    obtain ⟨l, hl, hp⟩ := list_of P n (fun i hi => h i (by omega))
    obtain ⟨x, hx⟩ := h n (by omega)
    refine ⟨l ++ [x], by simp [hl], fun i y hy => ?_⟩
    by_cases hi : i < n
    · rw [List.getElem?_append_left (by omega)] at hy; exact hp i y hy
    · have : i < n + 1 := by have := (List.getElem?_eq_some_iff.1 hy).1; simp [hl] at this; exact this
      obtain rfl : i = n := by omega
      rw [List.getElem?_append_right (by omega)] at hy
      simp [hl] at hy
      subst hy; exact hx
/-- bytes that came in -/
theorem open_bytesS {H : Type} {enc : TypeId × Value → H} {w : World} {base : Nat} {spare : Nat → Bool} {held : Bool} {fuel : Nat} {a : Option Addr} {len cap : Nat} {x : DataW H × List MemPlace}
    (h : DataW.trod enc Try.prog w base spare held fuel 30 [.slice a len cap] = some x) (hw : (x.1.weights Try.prog 30).all (· ≤ reachBytes) = true) :
    ∃ l : List UInt8, l.length = len ∧ RestAt w.heap.size w a l ∧ len ≤ cap ∧ len ≤ 140737488355328 := by
  have hcap : len ≤ cap := by
    rcases open_ints Try.underlying30 Try.underlying5 byte_cells h with ⟨hcs, rfl⟩ | ⟨ad, len', cap', zs, hcs, _, hl, hm, hz, rfl, hcell, hwz⟩
    · simp at hcs
      obtain ⟨rfl, rfl, rfl⟩ := hcs
      exact Nat.le_refl _
    · simp at hcs
      obtain ⟨rfl, rfl, rfl⟩ := hcs
      exact hl
  obtain ⟨⟨G, hG⟩, hbd⟩ := open_gaps h
  have hbd := hbd hw
  by_cases z : len = 0
  · exact ⟨[], z.symm, .inl rfl, hcap, by omega⟩
  obtain ⟨b, off, ha, _⟩ := hG 0 (by omega)
  obtain ⟨l, hl, hp⟩ := list_of (fun i (x : UInt8) => w.cell? ⟨b, off + i, none⟩ = some (.int .u8 (x.toNat : Int))) len (fun i hi => by
    obtain ⟨b', off', ha', hc, h0, h1⟩ := hG i hi
    rw [ha] at ha'
    simp only [Option.some.injEq, Addr.mk.injEq] at ha'
    obtain ⟨rfl, rfl, _⟩ := ha'
    obtain ⟨c, hc2⟩ := byte_of ⟨h0, h1⟩
    exact ⟨c, by rw [hc, hc2]⟩)
  obtain ⟨x0, hx0⟩ : ∃ x0, l[0]? = some x0 := ⟨_, List.getElem?_eq_getElem (by omega)⟩
  have hblk : b < w.heap.size := World.block_lt_of_cell? w _ (hp 0 x0 hx0)
  exact ⟨l, hl, .inr ⟨b, off, hblk, ha, hp⟩, hcap, by omega⟩
theorem int_cells : Try.prog.cellsOf 3 = 1 := by kernel_rfl
theorem rel_cells : Try.prog.cellsOf 27 = 3 := by kernel_rfl
theorem rel_bytes : Try.prog.bytesOf 27 = 24 := by kernel_rfl
set_option maxRecDepth 20000 in
set_option maxHeartbeats 1000000 in
/-- relocations that came in -/
theorem open_rels {H : Type} {enc : TypeId × Value → H} {w : World} {base : Nat} {spare : Nat → Bool} {held : Bool} {fuel : Nat} {a : Option Addr} {len cap : Nat} {x : DataW H × List MemPlace}
    (h : DataW.trod enc Try.prog w base spare held fuel 22 [.slice a len cap] = some x) (hw : (x.1.weights Try.prog 22).all (· ≤ reachBytes) = true) : ∃ ts : List Rl, ts.length = len ∧ RlAt w.heap.size w a ts ∧ len ≤ cap ∧ len ≤ 140737488355328 := by
  rcases open_slice Try.underlying22 h with ⟨hcs, rfl⟩ | ⟨ad, l, c, m, n, D, Pl, hcs, hb, hl, hm, hmm, rfl, hx⟩
  · simp at hcs
    obtain ⟨rfl, rfl, rfl⟩ := hcs
    exact ⟨[], rfl, .inl rfl, Nat.le_refl _, Nat.zero_le _⟩
  · simp at hcs
    obtain ⟨rfl, rfl, rfl⟩ := hcs
    have hwl : len ≤ 140737488355328 := by
      simp only [DataW.weights, Try.underlying22, rel_bytes, List.all_cons, Bool.and_eq_true, List.length_map, List.length_range] at hw
      have h2 : (len + (m - len)) * 24 ≤ 140737488351232 := of_decide_eq_true hw.1
      omega
    by_cases z : len = 0
    · subst z; exact ⟨[], rfl, .inl rfl, hl, by omega⟩
    have hlm : len ≤ m := by rw [hmm]; split <;> omega
    obtain ⟨b, off, spot⟩ := ad
    have hs : spot = none := by
      obtain ⟨cs', h1, h2⟩ := hx 0 (by omega)
      simp only [rel_cells] at h1
      obtain ⟨_, hlen, hcell⟩ := World.cells?_some h1
      match cs', hlen with
      | [v0, v1, v2], _ =>
        have e0 : w.cell? (((⟨b, off, spot⟩ : Addr).add (0 * 3)).add 0) = some v0 := hcell 0 (by simp)
        simpa [Addr.add] using World.cell?_spot e0
    subst hs
    have key : ∀ i, i < len → ∃ y : Rl, Cells3 w b (off + i * 3) y := by
      intro i hi
      obtain ⟨cs', h1, h2⟩ := hx i (by omega)
      simp only [rel_cells] at h1
      obtain ⟨_, hlen, hcell⟩ := World.cells?_some h1
      obtain ⟨xs, k, hk, hxy, _, hxl, hf⟩ := DataW.trod_struct Try.underlying27 h2
      match xs, hxl, cs', hlen with
      | [y0, y1, y2], _, [v0, v1, v2], _ =>
        have g0 := hf 0 _ rfl
        have g1 := hf 1 _ rfl
        have g2 := hf 2 _ rfl
        simp [int_cells] at g0 g1 g2
        obtain ⟨A0, r0, _, f0⟩ := DataW.trod_int Try.underlying3 g0
        obtain ⟨A1, r1, _, f1⟩ := DataW.trod_int Try.underlying3 g1
        obtain ⟨A2, r2, _, f2⟩ := DataW.trod_int Try.underlying3 g2
        have e0 := hcell 0 (by simp)
        have e1 := hcell 1 (by simp)
        have e2 := hcell 2 (by simp)
        simp at r0 r1 r2
        subst r0 r1 r2
        simp only [add_plain] at e0 e1 e2
        simp at e0 e1 e2
        exact ⟨⟨A0, A1, A2⟩, ⟨e0, e1, e2⟩⟩
    obtain ⟨l, hl1, hp⟩ := list_of _ len key
    obtain ⟨x0, hx0⟩ : ∃ x0, l[0]? = some x0 := ⟨_, List.getElem?_eq_getElem (by omega)⟩
    have hblk : b < w.heap.size := World.block_lt_of_cell? w _ (hp 0 x0 hx0).c0
    refine ⟨l, hl1, .inr ⟨b, off, hblk, rfl, ?_⟩, hl, hwl⟩
    intro k u hu
    have hk : k < l.length * 3 := by have := (List.getElem?_eq_some_iff.1 hu).1; rwa [rlV_len] at this
    obtain ⟨y, hy⟩ : ∃ y, l[k / 3]? = some y := ⟨_, List.getElem?_eq_getElem (by omega)⟩
    have h8 := hp _ y hy
    have e : (rlV l)[k / 3 * 3 + k % 3]? = y.cs[k % 3]? := rlV_get l (k / 3) y (k % 3) hy (by omega)
    rw [show k / 3 * 3 + k % 3 = k by omega, hu] at e
    have hko : off + k = off + k / 3 * 3 + k % 3 := by omega
    rw [hko]
    have hm8 : k % 3 < 3 := by omega
    match k % 3, hm8, e with
    | 0, _, e => rw [e]; exact h8.c0
    | 1, _, e => rw [e]; exact h8.c1
    | 2, _, e => rw [e]; exact h8.c2
end Go.Proofs.Ytoobdcjkhphlcaa
