import Derived.Test.YtgakmbeooobhjaaAp
import Derived.Test.YtgakmbeooobhjaaAc
namespace Go.Proofs.Ytgakmbeooobhjaa
open Go.ChangeShapes Go.WideShapes Go.ChangeAt Go.RowKit Go.Deep
set_option linter.unusedVariables false
set_option linter.unusedSimpArgs false
theorem byte_cells : Try.prog.cellsOf 5 = 1 := by kernel_rfl
theorem byte_bytes : Try.prog.bytesOf 5 = 1 := by kernel_rfl
theorem byte_wf {n : Int} (h : (Lit.int .u8 n).wf = true) : 0 ≤ n ∧ n < 256 := by
  simp [Lit.wf, IntKind.min, IntKind.max, IntKind.bits, IntKind.signed] at h; omega
/-- a byte that came in -/
theorem byte_of {n : Int} (h : 0 ≤ n ∧ n < 256) : ∃ c : UInt8, (c.toNat : Int) = n := by
  refine ⟨UInt8.ofNat n.toNat, ?_⟩
  have : n.toNat < 256 := by omega
  rw [UInt8.toNat_ofNat_of_lt' (by simpa [UInt8.size] using this)]
  omega
/-- bytes that came in -/
theorem open_gaps {H : Type} {enc : TypeId × Value → H} {w : World} {base : Nat} {spare : Nat → Bool} {held : Bool} {fuel : Nat} {a : Option Addr} {len cap : Nat} {x : DataW H × List MemPlace}
    (h : DataW.trod enc Try.prog w base spare held fuel 22 [.slice a len cap] = some x) :
    (∃ G : Nat → Int, ∀ k, k < len → ∃ b off, a = some ⟨b, off, none⟩ ∧ w.cell? ⟨b, off + k, none⟩ = some (.int .u8 (G k)) ∧ 0 ≤ G k ∧ G k < 256) ∧ ((x.1.weights Try.prog 22).all (· ≤ reachBytes) = true → len ≤ 140737488351232) := by
  rcases open_ints Try.underlying22 Try.underlying5 byte_cells h with ⟨hcs, rfl⟩ | ⟨ad, len', cap', zs, hcs, _, hl, hm, hz, rfl, hcell, hwz⟩
  · simp at hcs
    obtain ⟨rfl, rfl, rfl⟩ := hcs
    exact ⟨⟨fun _ => 0, fun k hk => absurd hk (by omega)⟩, fun _ => Nat.zero_le _⟩
  · simp at hcs
    obtain ⟨rfl, rfl, rfl⟩ := hcs
    have hlz : len ≤ zs.length := by rw [hz]; split <;> omega
    refine ⟨⟨fun k => zs.getD k 0, fun k hk => ?_⟩, ?_⟩
    · obtain ⟨b, off, spot⟩ := ad
      have hs : spot = none := by simpa [Addr.add] using World.cell?_spot (hcell 0 (by omega))
      subst hs
      have hk' : k < zs.length := by omega
      have e1 := hcell k hk'
      rw [add_plain] at e1
      have e2 : zs.getD k 0 = zs[k] := by simp [List.getD, List.getElem?_eq_getElem hk']
      have := byte_wf (hwz _ (List.getElem_mem hk'))
      rw [← e2] at this
      exact ⟨b, off, rfl, e1, this.1, this.2⟩
    · intro hw
      have e : (lits (H := H) .u8 (zs.take len)).length = len := by simp [lits]; omega
      simp only [DataW.weights, Try.underlying22, byte_bytes, List.all_cons, Bool.and_eq_true, e] at hw
      have h2 : (len + (lits (H := H) .u8 (zs.drop len)).length) * 1 ≤ 140737488351232 := of_decide_eq_true hw.1
      omega
theorem list_of {α : Type} (P : Nat → α → Prop) : ∀ n, (∀ i, i < n → ∃ x, P i x) → ∃ l : List α, l.length = n ∧ ∀ i x, l[i]? = some x → P i x
  | 0, _ => ⟨[], rfl, fun i x h => by simp at h⟩
  | n + 1, h => by
    obtain ⟨l, hl, hp⟩ := list_of P n (fun i hi => h i (by omega))
    obtain ⟨x, hx⟩ := h n (by omega)
    refine ⟨l ++ [x], by simp [hl], fun i y hy => ?_⟩
    by_cases hi : i < n
    · rw [List.getElem?_append_left (by omega)] at hy; exact hp i y hy
    · have : i < n + 1 := by have := (List.getElem?_eq_some_iff.1 hy).1; simp [hl] at this; exact this
      obtain rfl : i = n := by omega
      rw [List.getElem?_append_right (by omega)] at hy
      simp [hl] at hy
      subst hy; exact hx
theorem bulk_one {H : Type} (d : DataW H) : 1 ≤ Rows.uptoBulk d := by
  cases d with
  | lit l => cases l <;> simp [Rows.uptoBulk]
  | nil => simp [Rows.uptoBulk]
  | ptr d => simp [Rows.uptoBulk]
  | slice elems spare => simp [Rows.uptoBulk]
  | agg parts => simp [Rows.uptoBulk]
  | iface t d => simp [Rows.uptoBulk]
  | map entries => simp [Rows.uptoBulk]
  | held h => simp [Rows.uptoBulk]
theorem bulk_len {H : Type} (l : List (DataW H)) : l.length ≤ Rows.uptoBulkAll l := by
  induction l with
  | nil => simp [Rows.uptoBulkAll]
  | cons x r ih => have := bulk_one x; simp only [Rows.uptoBulkAll, List.length_cons]; omega
/-- bytes that came in, in a small row -/
theorem open_bytesU {H : Type} {enc : TypeId × Value → H} {w : World} {base : Nat} {spare : Nat → Bool} {held : Bool} {fuel : Nat} {a : Option Addr} {len cap : Nat} {x : DataW H × List MemPlace}
    (h : DataW.trod enc Try.prog w base spare held fuel 22 [.slice a len cap] = some x) :
    ∃ l : List UInt8, l.length = len ∧ RestAt w.heap.size w a l ∧ len ≤ cap ∧ len ≤ Rows.uptoBulk x.1 := by
  have hcap : len ≤ cap ∧ len ≤ Rows.uptoBulk x.1 := by
    rcases open_ints Try.underlying22 Try.underlying5 byte_cells h with ⟨hcs, rfl⟩ | ⟨ad, len', cap', zs, hcs, _, hl, hm, hz, rfl, hcell, hwz⟩
    · simp at hcs
      obtain ⟨rfl, rfl, rfl⟩ := hcs
      exact ⟨Nat.le_refl _, Nat.zero_le _⟩
    · simp at hcs
      obtain ⟨rfl, rfl, rfl⟩ := hcs
      have hlz : len ≤ zs.length := by rw [hz]; split <;> omega
      refine ⟨hl, ?_⟩
      simp only [Rows.uptoBulk]
      have := bulk_len (H := H) (lits .u8 (zs.take len))
      have e : (lits (H := H) .u8 (zs.take len)).length = len := by simp [lits]; omega
      omega
  obtain ⟨⟨G, hG⟩, _⟩ := open_gaps h
  by_cases z : len = 0
  · exact ⟨[], z.symm, .inl rfl, hcap⟩
  obtain ⟨b, off, ha, _⟩ := hG 0 (by omega)
  obtain ⟨l, hl, hp⟩ := list_of (fun i (x : UInt8) => w.cell? ⟨b, off + i, none⟩ = some (.int .u8 (x.toNat : Int))) len (fun i hi => by
    obtain ⟨b', off', ha', hc, h0, h1⟩ := hG i hi
    rw [ha] at ha'
    simp only [Option.some.injEq, Addr.mk.injEq] at ha'
    obtain ⟨rfl, rfl, _⟩ := ha'
    obtain ⟨c, hc2⟩ := byte_of ⟨h0, h1⟩
    exact ⟨c, by rw [hc, hc2]⟩)
  obtain ⟨x0, hx0⟩ : ∃ x0, l[0]? = some x0 := ⟨_, List.getElem?_eq_getElem (by omega)⟩
  have hblk : b < w.heap.size := World.block_lt_of_cell? w _ (hp 0 x0 hx0)
  exact ⟨l, hl, .inr ⟨b, off, hblk, ha, hp⟩, hcap⟩
theorem bulk_mem {H : Type} (d : DataW H) : ∀ l : List (DataW H), d ∈ l → Rows.uptoBulk d ≤ Rows.uptoBulkAll l
  | [], h => by cases h
  | x :: r, h => by
    simp only [Rows.uptoBulkAll]
    rcases List.mem_cons.1 h with rfl | h
    · omega
    · have := bulk_mem d r h; omega
theorem act_cells : Try.prog.cellsOf 29 = 4 := by kernel_rfl
theorem int_cells : Try.prog.cellsOf 3 = 1 := by kernel_rfl
/-- an act of a script -/
structure Ac where
  w : Int
  k : Int
  s : List UInt8
  p : Int
def ActsAt (B : Nat) (w : World) (a : Option Addr) (l : List Ac) : Prop := l = [] ∨ ∃ b off, b < B ∧ a = some ⟨b, off, none⟩ ∧ ∀ i x, l[i]? = some x → w.cell? ⟨b, off + i * 4, none⟩ = some (.int .i64 x.w) ∧ w.cell? ⟨b, off + i * 4 + 1, none⟩ = some (.int .i64 x.k) ∧ w.cell? ⟨b, off + i * 4 + 2, none⟩ = some (.string ⟨x.s.toArray⟩) ∧ w.cell? ⟨b, off + i * 4 + 3, none⟩ = some (.int .i64 x.p)
def ActsOk (l : List Ac) (n : Nat) : Prop := ∀ x ∈ l, x.s.length ≤ n
set_option maxRecDepth 20000 in
/-- acts that came in -/
theorem open_actsU {H : Type} {enc : TypeId × Value → H} {w : World} {base : Nat} {spare : Nat → Bool} {held : Bool} {fuel : Nat} {a : Option Addr} {len cap : Nat} {x : DataW H × List MemPlace}
    (h : DataW.trod enc Try.prog w base spare held fuel 23 [.slice a len cap] = some x) : ∃ ts : List Ac, ts.length = len ∧ ActsAt w.heap.size w a ts ∧ len ≤ cap ∧ len ≤ Rows.uptoBulk x.1 ∧ ActsOk ts (Rows.uptoBulk x.1) := by
  rcases open_slice Try.underlying23 h with ⟨hcs, rfl⟩ | ⟨ad, l, c, m, n, D, Pl, hcs, hb, hl, hm, hmm, rfl, hx⟩
  · simp at hcs
    obtain ⟨rfl, rfl, rfl⟩ := hcs
    exact ⟨[], rfl, .inl rfl, Nat.le_refl _, Nat.zero_le _, fun x hx => (by cases hx)⟩
  · simp at hcs
    obtain ⟨rfl, rfl, rfl⟩ := hcs
    obtain ⟨bk, hbk⟩ : ∃ bk, bk = Rows.uptoBulk (DataW.slice ((List.range len).map D) ((List.range (m - len)).map fun i => D (len + i))) := ⟨_, rfl⟩
    have hb2 := hbk
    simp only [Rows.uptoBulk] at hb2
    have hwl : len ≤ bk := by
      have := bulk_len (H := H) ((List.range len).map D)
      simp only [List.length_map, List.length_range] at this
      omega
    have hwe : Rows.uptoBulkAll ((List.range len).map D) ≤ bk := by omega
    simp only
    rw [← hbk]
    by_cases z : len = 0
    · subst z; exact ⟨[], rfl, .inl rfl, hl, by omega, fun x hx => (by cases hx)⟩
    have hlm : len ≤ m := by rw [hmm]; split <;> omega
    obtain ⟨b, off, spot⟩ := ad
    have hs : spot = none := by
      obtain ⟨cs', h1, h2⟩ := hx 0 (by omega)
      simp only [act_cells] at h1
      obtain ⟨_, hlen, hcell⟩ := World.cells?_some h1
      match cs', hlen with
      | [v0, v1, v2, v3], _ =>
        have e0 : w.cell? (((⟨b, off, spot⟩ : Addr).add (0 * 4)).add 0) = some v0 := hcell 0 (by simp)
        simpa [Addr.add] using World.cell?_spot e0
    subst hs
    have key : ∀ i, i < len → ∃ x : Ac, (w.cell? ⟨b, off + i * 4, none⟩ = some (.int .i64 x.w) ∧ w.cell? ⟨b, off + i * 4 + 1, none⟩ = some (.int .i64 x.k) ∧
        w.cell? ⟨b, off + i * 4 + 2, none⟩ = some (.string ⟨x.s.toArray⟩) ∧ w.cell? ⟨b, off + i * 4 + 3, none⟩ = some (.int .i64 x.p)) ∧ x.s.length ≤ bk := by
      intro i hi
      obtain ⟨cs', h1, h2⟩ := hx i (by omega)
      simp only [act_cells] at h1
      obtain ⟨_, hlen, hcell⟩ := World.cells?_some h1
      have hwi := Nat.le_trans (bulk_mem (D i) _ (List.mem_map.2 ⟨i, List.mem_range.2 hi, rfl⟩)) hwe
      obtain ⟨xs, k, hk, hxy, _, hxl, hf⟩ := DataW.trod_struct Try.underlying29 h2
      match xs, hxl, cs', hlen with
      | [y0, y1, y2, y3], _, [v0, v1, v2, v3], _ =>
        have g0 := hf 0 _ rfl
        have g1 := hf 1 _ rfl
        have g2 := hf 2 _ rfl
        have g3 := hf 3 _ rfl
        simp [int_cells, str_cells] at g0 g1 g2 g3
        obtain ⟨A, r0, _, _⟩ := DataW.trod_int Try.underlying3 g0
        obtain ⟨C, r1, _, _⟩ := DataW.trod_int Try.underlying3 g1
        obtain ⟨B, r2, q1, _⟩ := DataW.trod_string Try.underlying9 g2
        obtain ⟨E, r3, _, _⟩ := DataW.trod_int Try.underlying3 g3
        have e0 := hcell 0 (by simp)
        have e1 := hcell 1 (by simp)
        have e2 := hcell 2 (by simp)
        have e3 := hcell 3 (by simp)
        simp at r0 r1 r2 r3
        subst r0 r1 r2 r3
        simp only [add_plain] at e0 e1 e2 e3
        simp at e0 e1 e2 e3
        have hB : B.data.toList.length ≤ bk := by
          simp only [Prod.mk.injEq] at hxy
          rw [hxy.1] at hwi
          simp only [List.map_cons, List.map_nil, Rows.uptoBulk, Rows.uptoBulkAll] at hwi
          have h1 : Rows.uptoBulk y2.1 ≤ bk := by omega
          rw [q1] at h1
          simp only [Rows.uptoBulk] at h1
          omega
        exact ⟨⟨A, C, B.data.toList, E⟩, ⟨e0, e1, by simpa using e2, e3⟩, hB⟩
    obtain ⟨l, hl1, hp⟩ := list_of _ len key
    obtain ⟨x0, hx0⟩ : ∃ x0, l[0]? = some x0 := ⟨_, List.getElem?_eq_getElem (by omega)⟩
    have hblk : b < w.heap.size := World.block_lt_of_cell? w _ (hp 0 x0 hx0).1.1
    refine ⟨l, hl1, .inr ⟨b, off, hblk, rfl, fun k x hx => (hp k x hx).1⟩, hl, hwl, fun x hx => ?_⟩
    obtain ⟨k, hk, e⟩ := List.getElem_of_mem hx
    exact (hp k x (by rw [List.getElem?_eq_getElem hk, e])).2
end Go.Proofs.Ytgakmbeooobhjaa
