import Derived.Test.YtlfcjbeldnkkoaaGb23
import Derived.Test.YtlfcjbeldnkkoaaRows
import Derived.WalkKit
import Derived.ProofKit
import Derived.OpenShut
import Derived.ChangeOld
import Derived.LaidMore
import Derived.Deep.Slices
import Derived.ChangeSlices
import Derived.SliceStrings
import Derived.Test.YtlfcjbeldnkkoaaGb52
namespace Go.Proofs.Ytlfcjbeldnkkoaa
open Go.ChangeShapes Go.WideShapes Go.ChangeAt Go.RowKit Go.Deep
set_option linter.unusedVariables false
set_option linter.unusedSimpArgs false
theorem str_cells : Try.prog.cellsOf 9 = 1 := by kernel_rfl
theorem str_bytes : Try.prog.bytesOf 9 = 16 := by kernel_rfl
theorem byte_cells : Try.prog.cellsOf 5 = 1 := by kernel_rfl
theorem byte_bytes : Try.prog.bytesOf 5 = 1 := by kernel_rfl
theorem byte_wf {n : Int} (h : (Lit.int .u8 n).wf = true) : 0 ≤ n ∧ n < 256 := by
  simp [Lit.wf, IntKind.min, IntKind.max, IntKind.bits, IntKind.signed] at h; omega
/-- a byte that came in -/
theorem byte_of {n : Int} (h : 0 ≤ n ∧ n < 256) : ∃ c : UInt8, (c.toNat : Int) = n := by
  refine ⟨UInt8.ofNat n.toNat, ?_⟩
  have : n.toNat < 256 := by omega
  rw [UInt8.toNat_ofNat_of_lt' (by simpa [UInt8.size] using this)]
  omega
/-- bytes that came in -/
theorem open_gaps {H : Type} {enc : TypeId × Value → H} {w : World} {base : Nat} {spare : Nat → Bool} {held : Bool} {fuel : Nat} {a : Option Addr} {len cap : Nat} {x : DataW H × List MemPlace}
    (h : DataW.trod enc Try.prog w base spare held fuel 24 [.slice a len cap] = some x) :
    (∃ G : Nat → Int, ∀ k, k < len → ∃ b off, a = some ⟨b, off, none⟩ ∧ w.cell? ⟨b, off + k, none⟩ = some (.int .u8 (G k)) ∧ 0 ≤ G k ∧ G k < 256) ∧ ((x.1.weights Try.prog 24).all (· ≤ reachBytes) = true → len ≤ 140737488351232) := by
  rcases open_ints Try.underlying24 Try.underlying5 byte_cells h with ⟨hcs, rfl⟩ | ⟨ad, len', cap', zs, hcs, _, hl, hm, hz, rfl, hcell, hwz⟩
  · simp at hcs
    obtain ⟨rfl, rfl, rfl⟩ := hcs
    exact ⟨⟨fun _ => 0, fun k hk => absurd hk (by omega)⟩, fun _ => Nat.zero_le _⟩
  · simp at hcs
    obtain ⟨rfl, rfl, rfl⟩ := hcs
    have hlz : len ≤ zs.length := by rw [hz]; split <;> omega
    refine ⟨⟨fun k => zs.getD k 0, fun k hk => ?_⟩, ?_⟩
    · obtain ⟨b, off, spot⟩ := ad
      have hs : spot = none := by simpa [Addr.add] using World.cell?_spot (hcell 0 (by omega))
      subst hs
      have hk' : k < zs.length := by omega
      have e1 := hcell k hk'
      rw [add_plain] at e1
      have e2 : zs.getD k 0 = zs[k] := by simp [List.getD, List.getElem?_eq_getElem hk']
      have := byte_wf (hwz _ (List.getElem_mem hk'))
      rw [← e2] at this
      exact ⟨b, off, rfl, e1, this.1, this.2⟩
    · intro hw
      have e : (lits (H := H) .u8 (zs.take len)).length = len := by simp [lits]; omega
      simp only [DataW.weights, Try.underlying24, byte_bytes, List.all_cons, Bool.and_eq_true, e] at hw
      have h2 : (len + (lits (H := H) .u8 (zs.drop len)).length) * 1 ≤ 140737488351232 := of_decide_eq_true hw.1
      omega
theorem list_of {α : Type} (P : Nat → α → Prop) : ∀ n, (∀ i, i < n → ∃ x, P i x) → ∃ l : List α, l.length = n ∧ ∀ i x, l[i]? = some x → P i x
  | 0, _ => ⟨[], rfl, fun i x h => by simp at h⟩
  | n + 1, h => by
    obtain ⟨l, hl, hp⟩ := list_of P n (fun i hi => h i (by omega))
    obtain ⟨x, hx⟩ := h n (by omega)
    refine ⟨l ++ [x], by simp [hl], fun i y hy => ?_⟩
    by_cases hi : i < n
    · rw [List.getElem?_append_left (by omega)] at hy; exact hp i y hy
    · have : i < n + 1 := by have := (List.getElem?_eq_some_iff.1 hy).1; simp [hl] at this; exact this
      obtain rfl : i = n := by omega
      rw [List.getElem?_append_right (by omega)] at hy
      simp [hl] at hy
      subst hy; exact hx
theorem bulk_one {H : Type} (d : DataW H) : 1 ≤ Rows.uptoBulk d := by
  cases d with
  | lit l => cases l <;> simp [Rows.uptoBulk]
  | nil => simp [Rows.uptoBulk]
  | ptr d => simp [Rows.uptoBulk]
  | slice elems spare => simp [Rows.uptoBulk]
  | agg parts => simp [Rows.uptoBulk]
  | iface t d => simp [Rows.uptoBulk]
  | map entries => simp [Rows.uptoBulk]
  | held h => simp [Rows.uptoBulk]
theorem bulk_len {H : Type} (l : List (DataW H)) : l.length ≤ Rows.uptoBulkAll l := by
  induction l with
  | nil => simp [Rows.uptoBulkAll]
  | cons x r ih => have := bulk_one x; simp only [Rows.uptoBulkAll, List.length_cons]; omega
/-- bytes that came in, in a small row -/
theorem open_bytesU {H : Type} {enc : TypeId × Value → H} {w : World} {base : Nat} {spare : Nat → Bool} {held : Bool} {fuel : Nat} {a : Option Addr} {len cap : Nat} {x : DataW H × List MemPlace}
    (h : DataW.trod enc Try.prog w base spare held fuel 24 [.slice a len cap] = some x) :
    ∃ l : List UInt8, l.length = len ∧ RestAt w.heap.size w a l ∧ len ≤ cap ∧ len ≤ Rows.uptoBulk x.1 := by
  have hcap : len ≤ cap ∧ len ≤ Rows.uptoBulk x.1 := by
    rcases open_ints Try.underlying24 Try.underlying5 byte_cells h with ⟨hcs, rfl⟩ | ⟨ad, len', cap', zs, hcs, _, hl, hm, hz, rfl, hcell, hwz⟩
    · simp at hcs
      obtain ⟨rfl, rfl, rfl⟩ := hcs
      exact ⟨Nat.le_refl _, Nat.zero_le _⟩
    · simp at hcs
      obtain ⟨rfl, rfl, rfl⟩ := hcs
      have hlz : len ≤ zs.length := by rw [hz]; split <;> omega
      refine ⟨hl, ?_⟩
      simp only [Rows.uptoBulk]
      have := bulk_len (H := H) (lits .u8 (zs.take len))
      have e : (lits (H := H) .u8 (zs.take len)).length = len := by simp [lits]; omega
      omega
  obtain ⟨⟨G, hG⟩, _⟩ := open_gaps h
  by_cases z : len = 0
  · exact ⟨[], z.symm, .inl rfl, hcap⟩
  obtain ⟨b, off, ha, _⟩ := hG 0 (by omega)
  obtain ⟨l, hl, hp⟩ := list_of (fun i (x : UInt8) => w.cell? ⟨b, off + i, none⟩ = some (.int .u8 (x.toNat : Int))) len (fun i hi => by
    obtain ⟨b', off', ha', hc, h0, h1⟩ := hG i hi
    rw [ha] at ha'
    simp only [Option.some.injEq, Addr.mk.injEq] at ha'
    obtain ⟨rfl, rfl, _⟩ := ha'
    obtain ⟨c, hc2⟩ := byte_of ⟨h0, h1⟩
    exact ⟨c, by rw [hc, hc2]⟩)
  obtain ⟨x0, hx0⟩ : ∃ x0, l[0]? = some x0 := ⟨_, List.getElem?_eq_getElem (by omega)⟩
  have hblk : b < w.heap.size := World.block_lt_of_cell? w _ (hp 0 x0 hx0)
  exact ⟨l, hl, .inr ⟨b, off, hblk, ha, hp⟩, hcap⟩
theorem bulk_mem {H : Type} (d : DataW H) : ∀ l : List (DataW H), d ∈ l → Rows.uptoBulk d ≤ Rows.uptoBulkAll l
  | [], h => by cases h
  | x :: r, h => by
    simp only [Rows.uptoBulkAll]
    rcases List.mem_cons.1 h with rfl | h
    · omega
    · have := bulk_mem d r h; omega
theorem int_cells : Try.prog.cellsOf 3 = 1 := by kernel_rfl
theorem row_cells : Try.prog.cellsOf 24 = 1 := by kernel_rfl
theorem sec_cells : Try.prog.cellsOf 46 = 8 := by kernel_rfl
theorem int_wf {n : Int} (h : (Lit.int .i64 n).wf = true) : n ≤ 9223372036854775807 := by
  simp [Lit.wf, IntKind.min, IntKind.max, IntKind.bits, IntKind.signed] at h; omega
theorem sum_bulk {H : Type} : ∀ (l : List SV) (ds : List (DataW H)), l.length = ds.length → (∀ (i : Nat) x d, l[i]? = some x → ds[i]? = some d → x.s.d.length ≤ Rows.uptoBulk d) → sumD (secs l) ≤ Rows.uptoBulkAll ds
  | [], [], _, _ => by simp [secs, sumD]
  | [], d :: r, h, _ => by simp at h
  | x :: l, [], h, _ => by simp at h
  | x :: l, d :: r, h, hh => by
    have h1 := hh 0 x d rfl rfl
    have h2 := sum_bulk l r (by simpa using h) (fun i x' d' a b => hh (i + 1) x' d' (by simpa using a) (by simpa using b))
    have h3 : sumD (secs (x :: l)) = x.s.d.length + sumD (secs l) := by simp [secs, sumD]
    simp only [Rows.uptoBulkAll]
    omega
set_option maxRecDepth 20000 in
set_option maxHeartbeats 1000000 in
/-- sections that came in -/
theorem open_secsU {H : Type} {enc : TypeId × Value → H} {w : World} {base : Nat} {spare : Nat → Bool} {held : Bool} {fuel : Nat} {a : Option Addr} {len cap : Nat} {x : DataW H × List MemPlace}
    (h : DataW.trod enc Try.prog w base spare held fuel 38 [.slice a len cap] = some x) : ∃ ts : List SV, ts.length = len ∧ ScAt w.heap.size w a ts ∧ (∀ y ∈ ts, DR w y) ∧ len ≤ cap ∧ len ≤ Rows.uptoBulk x.1 ∧ (∀ s ∈ secs ts, I64 s) ∧ sumD (secs ts) ≤ Rows.uptoBulk x.1 ∧ ∀ y ∈ ts, y.s.d.length ≤ Rows.uptoBulk x.1 := by
  rcases open_slice Try.underlying38 h with ⟨hcs, rfl⟩ | ⟨ad, l, c, m, n, D, Pl, hcs, hb, hl, hm, hmm, rfl, hx⟩
  · simp at hcs
    obtain ⟨rfl, rfl, rfl⟩ := hcs
    exact ⟨[], rfl, .inl rfl, by simp, Nat.le_refl _, Nat.zero_le _, by simp [secs], by simp [secs, sumD], by simp⟩
  · simp at hcs
    obtain ⟨rfl, rfl, rfl⟩ := hcs
    obtain ⟨bk, hbk⟩ : ∃ bk, bk = Rows.uptoBulk (DataW.slice ((List.range len).map D) ((List.range (m - len)).map fun i => D (len + i))) := ⟨_, rfl⟩
    have hb2 := hbk
    simp only [Rows.uptoBulk] at hb2
    have hwl : len ≤ bk := by
      have := bulk_len (H := H) ((List.range len).map D)
      simp only [List.length_map, List.length_range] at this
      omega
    have hwe : Rows.uptoBulkAll ((List.range len).map D) ≤ bk := by omega
    simp only
    rw [← hbk]
    by_cases z : len = 0
    · subst z; exact ⟨[], rfl, .inl rfl, by simp, hl, by omega, by simp [secs], by simp [secs, sumD], by simp⟩
    have hlm : len ≤ m := by rw [hmm]; split <;> omega
    obtain ⟨b, off, spot⟩ := ad
    have hs : spot = none := by
      obtain ⟨cs', h1, h2⟩ := hx 0 (by omega)
      simp only [sec_cells] at h1
      obtain ⟨_, hlen, hcell⟩ := World.cells?_some h1
      match cs', hlen with
      | [v0, v1, v2, v3, v4, v5, v6, v7], _ =>
        have e0 : w.cell? (((⟨b, off, spot⟩ : Addr).add (0 * 8)).add 0) = some v0 := hcell 0 (by simp)
        simpa [Addr.add] using World.cell?_spot e0
    subst hs
    have key : ∀ i, i < len → ∃ y : SV, Cells8 w b (off + i * 8) y ∧ DR w y ∧ I64 y.s ∧ y.s.d.length ≤ Rows.uptoBulk (D i) := by
      intro i hi
      obtain ⟨cs', h1, h2⟩ := hx i (by omega)
      simp only [sec_cells] at h1
      obtain ⟨_, hlen, hcell⟩ := World.cells?_some h1
      obtain ⟨xs, k, hk, hxy, _, hxl, hf⟩ := DataW.trod_struct Try.underlying46 h2
      match xs, hxl, cs', hlen with
      | [y0, y1, y2, y3, y4, y5, y6, y7], _, [v0, v1, v2, v3, v4, v5, v6, v7], _ =>
        have g0 := hf 0 _ rfl
        have g1 := hf 1 _ rfl
        have g2 := hf 2 _ rfl
        have g3 := hf 3 _ rfl
        have g4 := hf 4 _ rfl
        have g5 := hf 5 _ rfl
        have g6 := hf 6 _ rfl
        have g7 := hf 7 _ rfl
        simp [int_cells, str_cells, row_cells] at g0 g1 g2 g3 g4 g5 g6 g7
        obtain ⟨B, r0, q0, _⟩ := DataW.trod_string Try.underlying9 g0
        obtain ⟨A1, r1, _, f1⟩ := DataW.trod_int Try.underlying3 g1
        obtain ⟨A2, r2, _, f2⟩ := DataW.trod_int Try.underlying3 g2
        obtain ⟨A3, r3, _, f3⟩ := DataW.trod_int Try.underlying3 g3
        obtain ⟨A4, r4, _, f4⟩ := DataW.trod_int Try.underlying3 g4
        obtain ⟨A5, r5, _, f5⟩ := DataW.trod_int Try.underlying3 g5
        obtain ⟨A6, r6, _, f6⟩ := DataW.trod_int Try.underlying3 g6
        obtain ⟨la, ll, lc, r7⟩ : ∃ la ll lc, v7 = .slice la ll lc := by
          rcases open_ints Try.underlying24 Try.underlying5 byte_cells g7 with ⟨hcs, _⟩ | ⟨ad, len', cap', zs, hcs, _⟩
          · simp at hcs; exact ⟨_, _, _, hcs⟩
          · simp at hcs; exact ⟨_, _, _, hcs⟩
        have e0 := hcell 0 (by simp)
        have e1 := hcell 1 (by simp)
        have e2 := hcell 2 (by simp)
        have e3 := hcell 3 (by simp)
        have e4 := hcell 4 (by simp)
        have e5 := hcell 5 (by simp)
        have e6 := hcell 6 (by simp)
        have e7 := hcell 7 (by simp)
        simp at r0 r1 r2 r3 r4 r5 r6
        subst r0 r1 r2 r3 r4 r5 r6 r7
        simp only [add_plain] at e0 e1 e2 e3 e4 e5 e6 e7
        simp at e0 e1 e2 e3 e4 e5 e6 e7
        obtain ⟨dl, hl1, hr, hc, hb3⟩ := open_bytesU g7
        subst hl1
        have hB : dl.length ≤ Rows.uptoBulk (D i) := by
          simp only [Prod.mk.injEq] at hxy
          rw [hxy.1]
          simp only [List.map_cons, List.map_nil, Rows.uptoBulk, Rows.uptoBulkAll]
          omega
        refine ⟨⟨⟨B.data.toList, A1, A2, A3, A4, A5, A6, dl⟩, la, lc⟩, ⟨by simpa using e0, e1, e2, e3, e4, e5, e6, e7⟩, ⟨hr, hc⟩, ⟨int_wf f2, int_wf f5, int_wf f6⟩, hB⟩
    obtain ⟨l, hl1, hp⟩ := list_of _ len key
    obtain ⟨x0, hx0⟩ : ∃ x0, l[0]? = some x0 := ⟨_, List.getElem?_eq_getElem (by omega)⟩
    have hblk : b < w.heap.size := World.block_lt_of_cell? w _ (hp 0 x0 hx0).1.c0
    have hmemD : ∀ y ∈ l, y.s.d.length ≤ bk := by
      intro y hy
      obtain ⟨i, hi⟩ := List.getElem?_of_mem hy
      have hil := (List.getElem?_eq_some_iff.1 hi).1
      have h1 := (hp i y hi).2.2.2
      have h2 := bulk_mem (D i) ((List.range len).map D) (List.mem_map.2 ⟨i, List.mem_range.2 (by omega), rfl⟩)
      omega
    refine ⟨l, hl1, .inr ⟨b, off, hblk, rfl, ?_⟩, ?_, hl, hwl, ?_, ?_, hmemD⟩
    · intro k u hu
      have hk : k < l.length * 8 := by have := (List.getElem?_eq_some_iff.1 hu).1; rwa [svV_len] at this
      obtain ⟨y, hy⟩ : ∃ y, l[k / 8]? = some y := ⟨_, List.getElem?_eq_getElem (by omega)⟩
      have h8 := (hp _ y hy).1
      have e : (svV l)[k / 8 * 8 + k % 8]? = y.cs[k % 8]? := svV_get l (k / 8) y (k % 8) hy (by omega)
      rw [show k / 8 * 8 + k % 8 = k by omega, hu] at e
      have hko : off + k = off + k / 8 * 8 + k % 8 := by omega
      rw [hko]
      have hm8 : k % 8 < 8 := by omega
      match k % 8, hm8, e with
      | 0, _, e => rw [e]; exact h8.c0
      | 1, _, e => rw [e]; exact h8.c1
      | 2, _, e => rw [e]; exact h8.c2
      | 3, _, e => rw [e]; exact h8.c3
      | 4, _, e => rw [e]; exact h8.c4
      | 5, _, e => rw [e]; exact h8.c5
      | 6, _, e => rw [e]; exact h8.c6
      | 7, _, e => rw [e]; exact h8.c7
    · intro y hy
      obtain ⟨i, hi⟩ := List.getElem?_of_mem hy
      exact (hp i y hi).2.1
    · intro s hs
      obtain ⟨y, hy, rfl⟩ := List.mem_map.1 hs
      obtain ⟨i, hi⟩ := List.getElem?_of_mem hy
      exact (hp i y hi).2.2.1
    · refine Nat.le_trans (sum_bulk l _ (by simp [hl1]) (fun i y d h1 h2 => ?_)) hwe
      have := (hp i y h1).2.2.2
      rw [List.getElem?_map] at h2
      obtain ⟨j, hj, rfl⟩ := Option.map_eq_some_iff.1 h2
      have : j = i := by
        obtain ⟨_, e⟩ := List.getElem?_eq_some_iff.1 hj
        simpa using e.symm
      rw [this]; assumption
end Go.Proofs.Ytlfcjbeldnkkoaa
namespace Go.Proofs.Ytlfcjbeldnkkoaa
open Go.ChangeShapes Go.WideShapes Go.ChangeAt Go.RowKit Go.Deep
set_option linter.unusedVariables false
set_option linter.unusedSimpArgs false
theorem rowB_cells : Try.prog.cellsOf 24 = 1 := by kernel_rfl
theorem bulk_memP {H : Type} {l : List (DataW H)} {d : DataW H} (h : d ∈ l) : Rows.uptoBulk d ≤ Rows.uptoBulkAll l := by
  induction l with
  | nil => cases h
  | cons x r ih =>
    simp only [Rows.uptoBulkAll]
    rcases List.mem_cons.1 h with rfl | h
    · omega
    · have := ih h; omega
set_option maxRecDepth 20000 in
/-- texts that came in -/
theorem open_bytessU {H : Type} {enc : TypeId × Value → H} {w : World} {base : Nat} {spare : Nat → Bool} {held : Bool} {fuel : Nat} {a : Option Addr} {len cap : Nat} {x : DataW H × List MemPlace}
    (h : DataW.trod enc Try.prog w base spare held fuel 22 [.slice a len cap] = some x) : ∃ LL : List (List UInt8), LL.length = len ∧ LbAt w a LL ∧ len ≤ cap ∧ len ≤ Rows.uptoBulk x.1 ∧ (∀ l ∈ LL, l.length ≤ Rows.uptoBulk x.1) := by
  rcases open_slice Try.underlying22 h with ⟨hcs, rfl⟩ | ⟨ad, l, c, m, n, D, Pl, hcs, hb, hl, hm, hmm, rfl, hx⟩
  · simp at hcs
    obtain ⟨rfl, rfl, rfl⟩ := hcs
    exact ⟨[], rfl, .inl rfl, Nat.le_refl _, Nat.zero_le _, by simp⟩
  · simp at hcs
    obtain ⟨rfl, rfl, rfl⟩ := hcs
    obtain ⟨bk, hbk⟩ : ∃ bk, bk = Rows.uptoBulk (DataW.slice ((List.range len).map D) ((List.range (m - len)).map fun i => D (len + i))) := ⟨_, rfl⟩
    have hb2 := hbk
    simp only [Rows.uptoBulk] at hb2
    have hwl : len ≤ bk := by
      have := bulk_len (H := H) ((List.range len).map D)
      simp only [List.length_map, List.length_range] at this
      omega
    have hwd : ∀ i, i < len → Rows.uptoBulk (D i) ≤ bk := fun i hi => by
      have := bulk_memP (l := (List.range len).map D) (List.mem_map.2 ⟨i, List.mem_range.2 hi, rfl⟩)
      omega
    simp only
    rw [← hbk]
    by_cases z : len = 0
    · subst z; exact ⟨[], rfl, .inl rfl, hl, by omega, by simp⟩
    have hlm : len ≤ m := by rw [hmm]; split <;> omega
    obtain ⟨b, off, spot⟩ := ad
    have hs : spot = none := by
      obtain ⟨cs', h1, h2⟩ := hx 0 (by omega)
      simp only [rowB_cells] at h1
      obtain ⟨_, hlen, hcell⟩ := World.cells?_some h1
      match cs', hlen with
      | [v0], _ =>
        have e0 : w.cell? (((⟨b, off, spot⟩ : Addr).add (0 * 1)).add 0) = some v0 := hcell 0 (by simp)
        simpa [Addr.add] using World.cell?_spot e0
    subst hs
    have key : ∀ i, i < len → ∃ l : List UInt8, (∃ la lc, w.cell? ⟨b, off + i, none⟩ = some (.slice la l.length lc) ∧ RestAt w.heap.size w la l ∧ l.length ≤ lc) ∧ l.length ≤ bk := by
      intro i hi
      obtain ⟨cs', h1, h2⟩ := hx i (by omega)
      simp only [rowB_cells] at h1
      obtain ⟨_, hlen, hcell⟩ := World.cells?_some h1
      match cs', hlen with
      | [v0], _ =>
        have e0 := hcell 0 (by simp)
        simp only [add_plain] at e0
        simp at e0
        obtain ⟨la, ll, lc, rfl⟩ : ∃ la ll lc, v0 = .slice la ll lc := by
          rcases open_slice Try.underlying24 h2 with ⟨hcs, _⟩ | ⟨ad, l, c, m, n, D, Pl, hcs, _⟩
          · simp at hcs; exact ⟨_, _, _, hcs⟩
          · simp at hcs; exact ⟨_, _, _, hcs⟩
        obtain ⟨l, hl1, hr, hc, hb2⟩ := open_bytesU h2
        subst hl1
        have := hwd i hi
        exact ⟨l, ⟨la, lc, e0, hr, hc⟩, Nat.le_trans hb2 this⟩
    obtain ⟨l, hl1, hp⟩ := list_of _ len key
    refine ⟨l, hl1, .inr ⟨b, off, rfl, fun k x hx => (hp k x hx).1⟩, hl, hwl, fun x hx => ?_⟩
    obtain ⟨k, hk, e⟩ := List.getElem_of_mem hx
    exact (hp k x (by rw [List.getElem?_eq_getElem hk, e])).2
end Go.Proofs.Ytlfcjbeldnkkoaa
