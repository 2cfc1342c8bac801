import Derived.Test.YtgephenkbbelcaaDoorPl
import Derived.WalkKit
import Derived.ProofKit
import Derived.OpenShut
import Derived.Deep.Slices
import Derived.ChangeSlices
namespace Go.Proofs.YtgephenkbbelcaaDoor
open Go.ChangeShapes Go.WideShapes Go.ChangeAt Go.RowKit Go.Deep
set_option linter.unusedVariables false

theorem cellsInsn : Tryd.prog.cellsOf 42 = 5 := by kernel_rfl
theorem cellsInt : Tryd.prog.cellsOf 3 = 1 := by kernel_rfl
theorem bytesInsn : Tryd.prog.bytesOf 42 = 40 := by kernel_rfl
theorem bytesByt : Tryd.prog.bytesOf 5 = 1 := by kernel_rfl
theorem cellsByt : Tryd.prog.cellsOf 5 = 1 := by kernel_rfl
theorem wf64 {n : Int} (h : (Lit.int .i64 n).wf = true) : -9223372036854775808 ≤ n ∧ n ≤ 9223372036854775807 := by
  simp [Lit.wf, IntKind.min, IntKind.max, IntKind.bits, IntKind.signed] at h; omega
theorem wf8 {n : Int} (h : (Lit.int .u8 n).wf = true) : 0 ≤ n ∧ n < 256 := by
  simp [Lit.wf, IntKind.min, IntKind.max, IntKind.bits, IntKind.signed] at h; omega
theorem list_of {α : Type} (P : Nat → α → Prop) : ∀ n, (∀ i, i < n → ∃ x, P i x) → ∃ l : List α, l.length = n ∧ ∀ i x, l[i]? = some x → P i x
  | 0, _ => ⟨[], rfl, fun i x h => by simp at h⟩
  | n + 1, h => by
    obtain ⟨l, hl, hp⟩ := list_of P n (fun i hi => h i (by omega))
    obtain ⟨x, hx⟩ := h n (by omega)
    refine ⟨l ++ [x], by simp [hl], fun i y hy => ?_⟩
    by_cases hi : i < n
    · rw [List.getElem?_append_left (by omega)] at hy; exact hp i y hy
    · have : i < n + 1 := by have := (List.getElem?_eq_some_iff.1 hy).1; simp [hl] at this; exact this
      obtain rfl : i = n := by omega
      rw [List.getElem?_append_right (by omega)] at hy
      simp [hl] at hy
      subst hy; exact hx
theorem bulk_one {H : Type} (d : DataW H) : 1 ≤ Rows.uptoBulk d := by
  cases d with
  | lit l => cases l <;> simp [Rows.uptoBulk]
  | nil => simp [Rows.uptoBulk]
  | ptr d => simp [Rows.uptoBulk]
  | slice elems spare => simp [Rows.uptoBulk]
  | agg parts => simp [Rows.uptoBulk]
  | iface t d => simp [Rows.uptoBulk]
  | map entries => simp [Rows.uptoBulk]
  | held h => simp [Rows.uptoBulk]
theorem bulk_len {H : Type} (l : List (DataW H)) : l.length ≤ Rows.uptoBulkAll l := by
  induction l with
  | nil => simp [Rows.uptoBulkAll]
  | cons x r ih => have := bulk_one x; simp only [Rows.uptoBulkAll, List.length_cons]; omega
/-- what came in as instructions -/
structure InsIn (w : World) (a : Option Addr) (len cap : Nat) (l : List Ins) : Prop where
  len_ : l.length = len
  at_ : InsA w a l
  rng : ∀ x ∈ l, -9223372036854775808 ≤ x.i ∧ x.i ≤ 9223372036854775807
  cap_ : len ≤ cap
set_option maxRecDepth 20000 in
theorem open_ins {H : Type} {enc : TypeId × Value → H} {w : World} {base : Nat} {spare : Nat → Bool} {held : Bool} {fuel : Nat} {a : Option Addr} {len cap : Nat} {x : DataW H × List MemPlace}
    (h : DataW.trod enc Tryd.prog w base spare held fuel 30 [.slice a len cap] = some x) : (∃ l, InsIn w a len cap l) ∧ len ≤ Rows.uptoBulk x.1 ∧ ((x.1.weights Tryd.prog 30).all (· ≤ reachBytes) = true → len ≤ 3518437208780) := by
  rcases open_slice Tryd.underlying30 h with ⟨hcs, rfl⟩ | ⟨ad, l, c, m, n, D, Pl, hcs, hb, hl, hm, hmm, rfl, hx⟩
  · simp at hcs
    obtain ⟨rfl, rfl, rfl⟩ := hcs
    exact ⟨⟨[], rfl, .inl rfl, fun x hx => (by cases hx), Nat.le_refl _⟩, Nat.zero_le _, fun _ => Nat.zero_le _⟩
  · simp at hcs
    obtain ⟨rfl, rfl, rfl⟩ := hcs
    refine ⟨?_, ?_, ?_⟩
    · by_cases z : len = 0
      · subst z; exact ⟨[], rfl, .inl rfl, fun x hx => (by cases hx), hl⟩
      have hlm : len ≤ m := by rw [hmm]; split <;> omega
      obtain ⟨b, off, spot⟩ := ad
      have hs : spot = none := by
        obtain ⟨cs', h1, h2⟩ := hx 0 (by omega)
        simp only [cellsInsn] at h1
        obtain ⟨_, hlen, hcell⟩ := World.cells?_some h1
        match cs', hlen with
        | [v0, v1, v2, v3, v4], _ =>
          have e0 : w.cell? (((⟨b, off, spot⟩ : Addr).add (0 * 5)).add 0) = some v0 := hcell 0 (by simp)
          simpa [Addr.add] using World.cell?_spot e0
      subst hs
      have key : ∀ i, i < len → ∃ x : Ins, (w.cell? ⟨b, off + i * 5, none⟩ = some (.int .i64 x.o) ∧ w.cell? ⟨b, off + i * 5 + 1, none⟩ = some (.int .i64 x.d) ∧
          w.cell? ⟨b, off + i * 5 + 2, none⟩ = some (.int .i64 x.s) ∧ w.cell? ⟨b, off + i * 5 + 3, none⟩ = some (.int .i64 x.f) ∧ w.cell? ⟨b, off + i * 5 + 4, none⟩ = some (.int .i64 x.i)) ∧ (-9223372036854775808 ≤ x.i ∧ x.i ≤ 9223372036854775807) := by
        intro i hi
        obtain ⟨cs', h1, h2⟩ := hx i (by omega)
        simp only [cellsInsn] at h1
        obtain ⟨_, hlen, hcell⟩ := World.cells?_some h1
        obtain ⟨xs, k, hk, hxy, _, hxl, hf⟩ := DataW.trod_struct Tryd.underlying42 h2
        match xs, hxl, cs', hlen with
        | [y0, y1, y2, y3, y4], _, [v0, v1, v2, v3, v4], _ =>
          have g0 := hf 0 _ rfl
          have g1 := hf 1 _ rfl
          have g2 := hf 2 _ rfl
          have g3 := hf 3 _ rfl
          have g4 := hf 4 _ rfl
          simp [cellsInt] at g0 g1 g2 g3 g4
          obtain ⟨A, r0, _, _⟩ := DataW.trod_int Tryd.underlying3 g0
          obtain ⟨B, r1, _, _⟩ := DataW.trod_int Tryd.underlying3 g1
          obtain ⟨C, r2, _, _⟩ := DataW.trod_int Tryd.underlying3 g2
          obtain ⟨E, r3, _, _⟩ := DataW.trod_int Tryd.underlying3 g3
          obtain ⟨F, r4, _, wf⟩ := DataW.trod_int Tryd.underlying3 g4
          have e0 := hcell 0 (by simp)
          have e1 := hcell 1 (by simp)
          have e2 := hcell 2 (by simp)
          have e3 := hcell 3 (by simp)
          have e4 := hcell 4 (by simp)
          simp at r0 r1 r2 r3 r4
          subst r0 r1 r2 r3 r4
          simp only [add_plain] at e0 e1 e2 e3 e4
          simp at e0 e1 e2 e3 e4
          exact ⟨⟨A, B, C, E, F⟩, ⟨e0, e1, e2, e3, e4⟩, wf64 wf⟩
      obtain ⟨l, hl1, hp⟩ := list_of _ len key
      refine ⟨l, hl1, .inr ⟨b, off, rfl, fun k x hx => (hp k x hx).1⟩, fun x hx => ?_, hl⟩
      obtain ⟨k, hk, e⟩ := List.getElem_of_mem hx
      exact (hp k x (by rw [List.getElem?_eq_getElem hk, e])).2
    · have := bulk_len ((List.range len).map D)
      simp only [Rows.uptoBulk, List.length_map, List.length_range] at this ⊢
      omega
    · intro hw
      simp only [DataW.weights, Tryd.underlying30, bytesInsn, List.all_cons, Bool.and_eq_true, List.length_map, List.length_range] at hw
      have h2 : (len + (m - len)) * 40 ≤ 140737488351232 := of_decide_eq_true hw.1
      omega
/-- what came in as bytes -/
structure BytIn (w : World) (a : Option Addr) (len cap : Nat) (B : List Int) : Prop where
  len_ : B.length = len
  at_ : BytA w a B
  byts : Byts B
  cap_ : len ≤ cap
theorem open_byt {H : Type} {enc : TypeId × Value → H} {w : World} {base : Nat} {spare : Nat → Bool} {held : Bool} {fuel : Nat} {a : Option Addr} {len cap : Nat} {x : DataW H × List MemPlace}
    (h : DataW.trod enc Tryd.prog w base spare held fuel 22 [.slice a len cap] = some x) : (∃ B, BytIn w a len cap B) ∧ len ≤ Rows.uptoBulk x.1 ∧ ((x.1.weights Tryd.prog 22).all (· ≤ reachBytes) = true → len ≤ 140737488351232) := by
  rcases open_ints Tryd.underlying22 Tryd.underlying5 cellsByt h with ⟨hcs, rfl⟩ | ⟨ad, len', cap', zs, hcs, _, hl, hm, hz, rfl, hcell, hwz⟩
  · simp at hcs
    obtain ⟨rfl, rfl, rfl⟩ := hcs
    exact ⟨⟨[], rfl, .inl rfl, Byts.nil, Nat.le_refl _⟩, Nat.zero_le _, fun _ => Nat.zero_le _⟩
  · simp at hcs
    obtain ⟨rfl, rfl, rfl⟩ := hcs
    have hlz : len ≤ zs.length := by rw [hz]; split <;> omega
    refine ⟨?_, ?_, ?_⟩
    · refine ⟨zs.take len, by simp; omega, ?_, ?_, hl⟩
      · by_cases z : len = 0
        · subst z; exact .inl (by simp)
        right
        obtain ⟨b, off, spot⟩ := ad
        have hs : spot = none := by simpa [Addr.add] using World.cell?_spot (hcell 0 (by omega))
        subst hs
        refine ⟨b, off, rfl, fun k hk => ?_⟩
        have hk' : k < len := by simp at hk; omega
        have := hcell k (by omega)
        rw [add_plain] at this
        rw [gB_take _ _ _ hk']; exact this
      · intro k
        by_cases hk : k < (zs.take len).length
        · have hk' : k < zs.length := by simp at hk; omega
          have hk2 : k < len := by simp at hk; omega
          rw [gB_take _ _ _ hk2]
          have : gB zs k ∈ zs := by simp [gB, List.getD, List.getElem?_eq_getElem hk']
          exact wf8 (hwz _ this)
        · rw [gB_out _ _ (by omega)]; omega
    · simp only [Rows.uptoBulk]
      have := bulk_len (H := H) (lits .u8 (zs.take len))
      have e : (lits (H := H) .u8 (zs.take len)).length = len := by simp [lits]; omega
      omega
    · intro hw
      have e : (lits (H := H) .u8 (zs.take len)).length = len := by simp [lits]; omega
      simp only [DataW.weights, Tryd.underlying22, bytesByt, List.all_cons, Bool.and_eq_true, e] at hw
      have h2 : (len + (lits (H := H) .u8 (zs.drop len)).length) * 1 ≤ 140737488351232 := of_decide_eq_true hw.1
      omega
end Go.Proofs.YtgephenkbbelcaaDoor
