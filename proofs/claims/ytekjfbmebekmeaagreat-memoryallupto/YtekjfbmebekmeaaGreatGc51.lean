import Derived.Test.YtekjfbmebekmeaaGreatGc13
import Derived.Test.YtekjfbmebekmeaaGreatRows
import Derived.ProofKit
import Derived.OpenShut
import Derived.ChangeOld
import Derived.LaidMore
import Derived.Deep.Slices
import Derived.ChangeSlices
import Derived.SliceStrings
import Derived.Test.YtekjfbmebekmeaaGreatGc50
namespace Go.Proofs.YtekjfbmebekmeaaGreat
open Go.ChangeShapes Go.WideShapes Go.ChangeAt Go.RowKit Go.Deep
set_option linter.unusedVariables false
set_option linter.unusedSimpArgs false
theorem byte_cells : Tryz.prog.cellsOf 5 = 1 := by kernel_rfl
theorem byte_bytes : Tryz.prog.bytesOf 5 = 1 := by kernel_rfl
theorem row_cells : Tryz.prog.cellsOf 29 = 1 := by kernel_rfl
theorem u64_cells : Tryz.prog.cellsOf 28 = 1 := by kernel_rfl
theorem reg_cells : Tryz.prog.cellsOf 36 = 2 := by kernel_rfl
theorem reg_bytes : Tryz.prog.bytesOf 36 = 32 := by kernel_rfl
theorem byte_wf {n : Int} (h : (Lit.int .u8 n).wf = true) : 0 ≤ n ∧ n < 256 := by
  simp [Lit.wf, IntKind.min, IntKind.max, IntKind.bits, IntKind.signed] at h; omega
theorem u64_wf {n : Int} (h : (Lit.int .u64 n).wf = true) : 0 ≤ n ∧ n < 18446744073709551616 := by
  simp [Lit.wf, IntKind.min, IntKind.max, IntKind.bits, IntKind.signed] at h; omega
theorem byV_of {n : Int} (h : 0 ≤ n ∧ n < 256) : ∃ c : UInt8, byV c = .int .u8 n := by
  refine ⟨UInt8.ofNat n.toNat, ?_⟩
  have h2 : n.toNat < 256 := by omega
  unfold byV
  rw [UInt8.toNat_ofNat_of_lt' (by simpa [UInt8.size] using h2)]
  exact congrArg _ (Int.toNat_of_nonneg h.1)
theorem weights_mem {H : Type} {P : Program} {e : TypeId} {p : Nat → Bool} : ∀ {l : List (DataW H)}, (DataW.weightsAll P e l).all p = true → ∀ d ∈ l, (d.weights P e).all p = true
  | [], _, d, hd => by cases hd
  | x :: r, h, d, hd => by
    have h' : (x.weights P e ++ DataW.weightsAll P e r).all p = true := h
    rw [List.all_append, Bool.and_eq_true] at h'
    rcases List.mem_cons.1 hd with rfl | hd
    · exact h'.1
    · exact weights_mem h'.2 d hd
theorem list_of {α : Type} (P : Nat → α → Prop) : ∀ n, (∀ i, i < n → ∃ x, P i x) → ∃ l : List α, l.length = n ∧ ∀ i x, l[i]? = some x → P i x
  | 0, _ => ⟨[], rfl, fun i x h => by simp at h⟩
  | n + 1, h => by
    obtain ⟨l, hl, hp⟩ := list_of P n (fun i hi => h i (by omega))
    obtain ⟨x, hx⟩ := h n (by omega)
    refine ⟨l ++ [x], by simp [hl], fun i y hy => ?_⟩
    by_cases hi : i < n
    · rw [List.getElem?_append_left (by omega)] at hy; exact hp i y hy
    · have : i < n + 1 := by have := (List.getElem?_eq_some_iff.1 hy).1; simp [hl] at this; exact this
      obtain rfl : i = n := by omega
      rw [List.getElem?_append_right (by omega)] at hy
      simp [hl] at hy
      subst hy; exact hx
/-- bytes that came in -/
theorem open_rest {H : Type} {enc : TypeId × Value → H} {w : World} {base : Nat} {spare : Nat → Bool} {held : Bool} {fuel : Nat} {a : Option Addr} {len cap : Nat} {x : DataW H × List MemPlace}
    (h : DataW.trod enc Tryz.prog w base spare held fuel 29 [.slice a len cap] = some x) (hw : (x.1.weights Tryz.prog 29).all (· ≤ reachBytes) = true) :
    ∃ l : List UInt8, l.length = len ∧ RestA w a l ∧ len ≤ 140737488351232 := by
  rcases open_ints Tryz.underlying29 Tryz.underlying5 byte_cells h with ⟨hcs, rfl⟩ | ⟨ad, len', cap', zs, hcs, _, hl, hm, hz, rfl, hcell, hwz⟩
  · simp at hcs
    obtain ⟨rfl, rfl, rfl⟩ := hcs
    exact ⟨[], rfl, .inl rfl, Nat.zero_le _⟩
  · simp at hcs
    obtain ⟨rfl, rfl, rfl⟩ := hcs
    have hlz : len ≤ zs.length := by rw [hz]; split <;> omega
    have hb : len ≤ 140737488351232 := by
      have e : (lits (H := H) .u8 (zs.take len)).length = len := by simp [lits]; omega
      simp only [DataW.weights, Tryz.underlying29, byte_bytes, List.all_cons, Bool.and_eq_true, e] at hw
      have h2 : (len + (lits (H := H) .u8 (zs.drop len)).length) * 1 ≤ 140737488351232 := of_decide_eq_true hw.1
      omega
    obtain ⟨l, hl2, hp⟩ := list_of (fun i (x : UInt8) => w.cell? (ad.add i) = some (byV x)) len (fun i hi => by
      have hk' : i < zs.length := by omega
      have e1 := hcell i hk'
      have h8 := byte_wf (hwz _ (List.getElem_mem hk'))
      obtain ⟨c, hc⟩ := byV_of h8
      rw [show zs.getD i 0 = zs[i] by simp [List.getD, List.getElem?_eq_getElem hk']] at e1
      exact ⟨c, by rw [hc]; exact e1⟩)
    exact ⟨l, hl2, .inr ⟨ad, rfl, fun j u hj => by
      rw [List.getElem?_map] at hj
      cases hlj : l[j]? with
      | none => rw [hlj] at hj; cases hj
      | some b =>
        rw [hlj] at hj
        cases hj
        exact hp j b hlj⟩, hb⟩
set_option maxRecDepth 20000 in
/-- regions that came in -/
theorem open_regs {H : Type} {enc : TypeId × Value → H} {w : World} {base : Nat} {spare : Nat → Bool} {held : Bool} {fuel : Nat} {a : Option Addr} {len cap : Nat} {x : DataW H × List MemPlace}
    (h : DataW.trod enc Tryz.prog w base spare held fuel 22 [.slice a len cap] = some x) (hw : (x.1.weights Tryz.prog 22).all (· ≤ reachBytes) = true) : ∃ L : List RI, L.length = len ∧ InR w a L ∧ (∀ y ∈ L, y.f < 18446744073709551616 ∧ y.d.length ≤ 140737488355328) ∧ L.length ≤ 4398046511104 := by
  rcases open_slice Tryz.underlying22 h with ⟨hcs, rfl⟩ | ⟨ad, l, c, m, n, D, Pl, hcs, hb, hl, hm, hmm, rfl, hx⟩
  · simp at hcs
    obtain ⟨rfl, rfl, rfl⟩ := hcs
    exact ⟨[], rfl, .inl rfl, by simp, Nat.zero_le _⟩
  · simp at hcs
    obtain ⟨rfl, rfl, rfl⟩ := hcs
    simp only [DataW.weights, Tryz.underlying22, reg_bytes, List.all_cons, List.all_append, Bool.and_eq_true, List.length_map, List.length_range] at hw
    have hwl : (len + (m - len)) * 32 ≤ 140737488351232 := of_decide_eq_true hw.1
    have hwe := hw.2.1
    by_cases z : len = 0
    · subst z; exact ⟨[], rfl, .inl rfl, by simp, by simp⟩
    have hlm : len ≤ m := by rw [hmm]; split <;> omega
    obtain ⟨b, off, spot⟩ := ad
    have hs : spot = none := by
      obtain ⟨cs', h1, h2⟩ := hx 0 (by omega)
      simp only [reg_cells] at h1
      obtain ⟨_, hlen, hcell⟩ := World.cells?_some h1
      match cs', hlen with
      | [v0, v1], _ =>
        have e0 : w.cell? (((⟨b, off, spot⟩ : Addr).add (0 * 2)).add 0) = some v0 := hcell 0 (by simp)
        simpa [Addr.add] using World.cell?_spot e0
    subst hs
    have key : ∀ i, i < len → ∃ y : RI, (w.cell? ⟨b, off + i * 2, none⟩ = some (.int .u64 (y.f : Nat)) ∧ w.cell? ⟨b, off + i * 2 + 1, none⟩ = some (.slice y.a y.d.length y.c) ∧ RestA w y.a y.d) ∧ y.f < 18446744073709551616 ∧ y.d.length ≤ 140737488355328 := by
      intro i hi
      obtain ⟨cs', h1, h2⟩ := hx i (by omega)
      simp only [reg_cells] at h1
      obtain ⟨_, hlen, hcell⟩ := World.cells?_some h1
      have hwi := weights_mem hwe (D i) (List.mem_map.2 ⟨i, List.mem_range.2 hi, rfl⟩)
      obtain ⟨xs, k, hk, hxy, _, hxl, hf⟩ := DataW.trod_struct Tryz.underlying36 h2
      match xs, hxl, cs', hlen with
      | [y0, y1], _, [v0, v1], _ =>
        have g0 := hf 0 _ rfl
        have g1 := hf 1 _ rfl
        simp [u64_cells, row_cells] at g0 g1
        obtain ⟨A0, r0, _, f0⟩ := DataW.trod_int Tryz.underlying28 g0
        obtain ⟨la, ll, lc, r1⟩ : ∃ la ll lc, v1 = .slice la ll lc := by
          rcases open_ints Tryz.underlying29 Tryz.underlying5 byte_cells g1 with ⟨hcs, _⟩ | ⟨ad, len', cap', zs, hcs, _⟩
          · simp at hcs; exact ⟨_, _, _, hcs⟩
          · simp at hcs; exact ⟨_, _, _, hcs⟩
        have e0 := hcell 0 (by simp)
        have e1 := hcell 1 (by simp)
        simp at r0
        subst r0 r1
        simp only [add_plain] at e0 e1
        simp at e0 e1
        simp only [Prod.mk.injEq] at hxy
        rw [hxy.1] at hwi
        have hw1 : (y1.1.weights Tryz.prog 29).all (· ≤ reachBytes) = true := by
          simp only [List.map_cons, List.map_nil, DataW.weights, Tryz.underlying36, DataW.weightsEach, List.all_append, Bool.and_eq_true] at hwi
          exact hwi.2.1
        obtain ⟨dl, hl1, hr, hb3⟩ := open_rest g1 hw1
        subst hl1
        have hA := u64_wf f0
        obtain ⟨A, rfl⟩ : ∃ A : Nat, A0 = (A : Int) := ⟨A0.toNat, by omega⟩
        exact ⟨⟨A, la, lc, dl⟩, ⟨by simpa using e0, e1, hr⟩, by show A < _; omega, by show dl.length ≤ _; omega⟩
    obtain ⟨L, hl1, hp⟩ := list_of _ len key
    refine ⟨L, hl1, .inr ⟨b, off, rfl, fun k x hx => (hp k x hx).1⟩, fun x hx => ?_, by omega⟩
    obtain ⟨k, hk, e⟩ := List.getElem_of_mem hx
    exact (hp k x (by rw [List.getElem?_eq_getElem hk, e])).2
end Go.Proofs.YtekjfbmebekmeaaGreat
namespace Go.Proofs.YtekjfbmebekmeaaGreat
open Go.ChangeShapes Go.WideShapes Go.ChangeAt Go.RowKit Go.Deep
set_option linter.unusedVariables false
set_option linter.unusedSimpArgs false
theorem bulk_one {H : Type} (d : DataW H) : 1 ≤ Rows.uptoBulk d := by
  cases d with
  | lit l => cases l <;> simp [Rows.uptoBulk]
  | nil => simp [Rows.uptoBulk]
  | ptr d => simp [Rows.uptoBulk]
  | slice elems spare => simp [Rows.uptoBulk]
  | agg parts => simp [Rows.uptoBulk]
  | iface t d => simp [Rows.uptoBulk]
  | map entries => simp [Rows.uptoBulk]
  | held h => simp [Rows.uptoBulk]
theorem bulk_len {H : Type} (l : List (DataW H)) : l.length ≤ Rows.uptoBulkAll l := by
  induction l with
  | nil => simp [Rows.uptoBulkAll]
  | cons x r ih => have := bulk_one x; simp only [Rows.uptoBulkAll, List.length_cons]; omega
theorem bulk_memR {H : Type} {l : List (DataW H)} {d : DataW H} (h : d ∈ l) : Rows.uptoBulk d ≤ Rows.uptoBulkAll l := by
  induction l with
  | nil => cases h
  | cons x r ih =>
    simp only [Rows.uptoBulkAll]
    rcases List.mem_cons.1 h with rfl | h
    · omega
    · have := ih h; omega
/-- bytes that came in -/
theorem open_restU {H : Type} {enc : TypeId × Value → H} {w : World} {base : Nat} {spare : Nat → Bool} {held : Bool} {fuel : Nat} {a : Option Addr} {len cap : Nat} {x : DataW H × List MemPlace}
    (h : DataW.trod enc Tryz.prog w base spare held fuel 29 [.slice a len cap] = some x) :
    ∃ l : List UInt8, l.length = len ∧ RestA w a l ∧ len ≤ Rows.uptoBulk x.1 := by
  rcases open_ints Tryz.underlying29 Tryz.underlying5 byte_cells h with ⟨hcs, rfl⟩ | ⟨ad, len', cap', zs, hcs, _, hl, hm, hz, rfl, hcell, hwz⟩
  · simp at hcs
    obtain ⟨rfl, rfl, rfl⟩ := hcs
    exact ⟨[], rfl, .inl rfl, Nat.zero_le _⟩
  · simp at hcs
    obtain ⟨rfl, rfl, rfl⟩ := hcs
    have hlz : len ≤ zs.length := by rw [hz]; split <;> omega
    have hb : len ≤ Rows.uptoBulk (DataW.slice (lits (H := H) .u8 (zs.take len)) (lits .u8 (zs.drop len))) := by
      have e : (lits (H := H) .u8 (zs.take len)).length = len := by simp [lits]; omega
      have := bulk_len (H := H) (lits .u8 (zs.take len))
      simp only [Rows.uptoBulk]
      omega
    obtain ⟨l, hl2, hp⟩ := list_of (fun i (x : UInt8) => w.cell? (ad.add i) = some (byV x)) len (fun i hi => by
      have hk' : i < zs.length := by omega
      have e1 := hcell i hk'
      have h8 := byte_wf (hwz _ (List.getElem_mem hk'))
      obtain ⟨c, hc⟩ := byV_of h8
      rw [show zs.getD i 0 = zs[i] by simp [List.getD, List.getElem?_eq_getElem hk']] at e1
      exact ⟨c, by rw [hc]; exact e1⟩)
    exact ⟨l, hl2, .inr ⟨ad, rfl, fun j u hj => by
      rw [List.getElem?_map] at hj
      cases hlj : l[j]? with
      | none => rw [hlj] at hj; cases hj
      | some b =>
        rw [hlj] at hj
        cases hj
        exact hp j b hlj⟩, hb⟩
set_option maxRecDepth 20000 in
/-- regions that came in -/
theorem open_regsU {H : Type} {enc : TypeId × Value → H} {w : World} {base : Nat} {spare : Nat → Bool} {held : Bool} {fuel : Nat} {a : Option Addr} {len cap : Nat} {x : DataW H × List MemPlace}
    (h : DataW.trod enc Tryz.prog w base spare held fuel 22 [.slice a len cap] = some x) : ∃ L : List RI, L.length = len ∧ InR w a L ∧ (∀ y ∈ L, y.f < 18446744073709551616 ∧ y.d.length ≤ Rows.uptoBulk x.1) ∧ L.length ≤ Rows.uptoBulk x.1 := by
  rcases open_slice Tryz.underlying22 h with ⟨hcs, rfl⟩ | ⟨ad, l, c, m, n, D, Pl, hcs, hb, hl, hm, hmm, rfl, hx⟩
  · simp at hcs
    obtain ⟨rfl, rfl, rfl⟩ := hcs
    exact ⟨[], rfl, .inl rfl, by simp, Nat.zero_le _⟩
  · simp at hcs
    obtain ⟨rfl, rfl, rfl⟩ := hcs
    obtain ⟨bk, hbk⟩ : ∃ bk, bk = Rows.uptoBulk (DataW.slice ((List.range len).map D) ((List.range (m - len)).map fun i => D (len + i))) := ⟨_, rfl⟩
    have hb2 := hbk
    simp only [Rows.uptoBulk] at hb2
    have hwl : len ≤ bk := by
      have := bulk_len (H := H) ((List.range len).map D)
      simp only [List.length_map, List.length_range] at this
      omega
    have hwd : ∀ i, i < len → Rows.uptoBulk (D i) ≤ bk := fun i hi => by
      have := bulk_memR (l := (List.range len).map D) (List.mem_map.2 ⟨i, List.mem_range.2 hi, rfl⟩)
      omega
    simp only
    rw [← hbk]
    by_cases z : len = 0
    · subst z; exact ⟨[], rfl, .inl rfl, by simp, by simp⟩
    have hlm : len ≤ m := by rw [hmm]; split <;> omega
    obtain ⟨b, off, spot⟩ := ad
    have hs : spot = none := by
      obtain ⟨cs', h1, h2⟩ := hx 0 (by omega)
      simp only [reg_cells] at h1
      obtain ⟨_, hlen, hcell⟩ := World.cells?_some h1
      match cs', hlen with
      | [v0, v1], _ =>
        have e0 : w.cell? (((⟨b, off, spot⟩ : Addr).add (0 * 2)).add 0) = some v0 := hcell 0 (by simp)
        simpa [Addr.add] using World.cell?_spot e0
    subst hs
    have key : ∀ i, i < len → ∃ y : RI, (w.cell? ⟨b, off + i * 2, none⟩ = some (.int .u64 (y.f : Nat)) ∧ w.cell? ⟨b, off + i * 2 + 1, none⟩ = some (.slice y.a y.d.length y.c) ∧ RestA w y.a y.d) ∧ y.f < 18446744073709551616 ∧ y.d.length ≤ bk := by
      intro i hi
      obtain ⟨cs', h1, h2⟩ := hx i (by omega)
      simp only [reg_cells] at h1
      obtain ⟨_, hlen, hcell⟩ := World.cells?_some h1
      have hwi := hwd i hi
      obtain ⟨xs, k, hk, hxy, _, hxl, hf⟩ := DataW.trod_struct Tryz.underlying36 h2
      match xs, hxl, cs', hlen with
      | [y0, y1], _, [v0, v1], _ =>
        have g0 := hf 0 _ rfl
        have g1 := hf 1 _ rfl
        simp [u64_cells, row_cells] at g0 g1
        obtain ⟨A0, r0, _, f0⟩ := DataW.trod_int Tryz.underlying28 g0
        obtain ⟨la, ll, lc, r1⟩ : ∃ la ll lc, v1 = .slice la ll lc := by
          rcases open_ints Tryz.underlying29 Tryz.underlying5 byte_cells g1 with ⟨hcs, _⟩ | ⟨ad, len', cap', zs, hcs, _⟩
          · simp at hcs; exact ⟨_, _, _, hcs⟩
          · simp at hcs; exact ⟨_, _, _, hcs⟩
        have e0 := hcell 0 (by simp)
        have e1 := hcell 1 (by simp)
        simp at r0
        subst r0 r1
        simp only [add_plain] at e0 e1
        simp at e0 e1
        simp only [Prod.mk.injEq] at hxy
        rw [hxy.1] at hwi
        have hw1 : Rows.uptoBulk y1.1 ≤ bk := by
          simp only [List.map_cons, List.map_nil, Rows.uptoBulk, Rows.uptoBulkAll] at hwi
          omega
        obtain ⟨dl, hl1, hr, hb3⟩ := open_restU g1
        subst hl1
        have hA := u64_wf f0
        obtain ⟨A, rfl⟩ : ∃ A : Nat, A0 = (A : Int) := ⟨A0.toNat, by omega⟩
        exact ⟨⟨A, la, lc, dl⟩, ⟨by simpa using e0, e1, hr⟩, by show A < _; omega, by show dl.length ≤ _; omega⟩
    obtain ⟨L, hl1, hp⟩ := list_of _ len key
    refine ⟨L, hl1, .inr ⟨b, off, rfl, fun k x hx => (hp k x hx).1⟩, fun x hx => ?_, by omega⟩
    obtain ⟨k, hk, e⟩ := List.getElem_of_mem hx
    exact (hp k x (by rw [List.getElem?_eq_getElem hk, e])).2
end Go.Proofs.YtekjfbmebekmeaaGreat
namespace Go.Proofs.YtekjfbmebekmeaaGreat
open Go.ChangeShapes Go.WideShapes Go.ChangeAt Go.RowKit Go.Deep
set_option linter.unusedVariables false
set_option linter.unusedSimpArgs false
theorem act_cells : Tryz.prog.cellsOf 31 = 6 := by kernel_rfl
theorem int_cells : Tryz.prog.cellsOf 3 = 1 := by kernel_rfl
theorem i64_wf {n : Int} (h : (Lit.int .i64 n).wf = true) : -9223372036854775808 ≤ n ∧ n < 9223372036854775808 := by
  simp [Lit.wf, IntKind.min, IntKind.max, IntKind.bits, IntKind.signed] at h; omega
theorem RestA.at {w : World} {a : Option Addr} {l : List UInt8} (h : RestA w a l) : RestAt w.heap.size w a l := by
  rcases h with h | ⟨⟨b, o, sp⟩, rfl, hc⟩
  · exact .inl h
  · cases hl : l with
    | nil => exact .inl rfl
    | cons x r =>
      have h0 := hc 0 (byV x) (by rw [hl]; rfl)
      have hs : sp = none := by simpa [Addr.add] using World.cell?_spot h0
      subst hs
      refine .inr ⟨b, o, ?_, rfl, fun k y hy => ?_⟩
      · by_cases hb : b < w.heap.size
        · exact hb
        · rw [add_B] at h0
          simp [World.cell?, Array.getElem?_eq_none (Nat.le_of_not_lt hb)] at h0
      · have h1 := hc k (byV y) (by rw [hl, List.getElem?_map, hy]; rfl)
        rw [add_B] at h1
        exact h1
set_option maxRecDepth 20000 in
/-- acts that came in -/
theorem open_actsU {H : Type} {enc : TypeId × Value → H} {w : World} {base : Nat} {spare : Nat → Bool} {held : Bool} {fuel : Nat} {a : Option Addr} {len cap : Nat} {x : DataW H × List MemPlace}
    (h : DataW.trod enc Tryz.prog w base spare held fuel 23 [.slice a len cap] = some x) (hbk0 : Rows.uptoBulk x.1 ≤ 1048576) : ∃ A : List AcI, A.length = len ∧ AcR w a A ∧ (∀ z ∈ A, AcOk z) ∧ A.length ≤ Rows.uptoBulk x.1 := by
  rcases open_slice Tryz.underlying23 h with ⟨hcs, rfl⟩ | ⟨ad, l, c, m, n, D, Pl, hcs, hb, hl, hm, hmm, rfl, hx⟩
  · simp at hcs
    obtain ⟨rfl, rfl, rfl⟩ := hcs
    exact ⟨[], rfl, .inl rfl, by simp, Nat.zero_le _⟩
  · simp at hcs
    obtain ⟨rfl, rfl, rfl⟩ := hcs
    obtain ⟨bk, hbk⟩ : ∃ bk, bk = Rows.uptoBulk (DataW.slice ((List.range len).map D) ((List.range (m - len)).map fun i => D (len + i))) := ⟨_, rfl⟩
    have hb2 := hbk
    simp only [Rows.uptoBulk] at hb2
    have hwl : len ≤ bk := by
      have := bulk_len (H := H) ((List.range len).map D)
      simp only [List.length_map, List.length_range] at this
      omega
    have hwd : ∀ i, i < len → Rows.uptoBulk (D i) ≤ bk := fun i hi => by
      have := bulk_memR (l := (List.range len).map D) (List.mem_map.2 ⟨i, List.mem_range.2 hi, rfl⟩)
      omega
    simp only at hbk0 ⊢
    rw [← hbk] at hbk0 ⊢
    by_cases z : len = 0
    · subst z; exact ⟨[], rfl, .inl rfl, by simp, by simp⟩
    have hlm : len ≤ m := by rw [hmm]; split <;> omega
    obtain ⟨b, off, spot⟩ := ad
    have hs : spot = none := by
      obtain ⟨cs', h1, h2⟩ := hx 0 (by omega)
      simp only [act_cells] at h1
      obtain ⟨_, hlen, hcell⟩ := World.cells?_some h1
      match cs', hlen with
      | [v0, v1, v2, v3, v4, v5], _ =>
        have e0 : w.cell? (((⟨b, off, spot⟩ : Addr).add (0 * 6)).add 0) = some v0 := hcell 0 (by simp)
        simpa [Addr.add] using World.cell?_spot e0
    subst hs
    have key : ∀ i, i < len → ∃ z : AcI, ((w.cell? ⟨b, off + i * 6, none⟩ = some (.int .i64 z.which) ∧ w.cell? ⟨b, off + i * 6 + 1, none⟩ = some (.int .i64 z.kind) ∧ w.cell? ⟨b, off + i * 6 + 2, none⟩ = some (.int .u64 z.at_) ∧ w.cell? ⟨b, off + i * 6 + 3, none⟩ = some (.int .i64 z.N) ∧ w.cell? ⟨b, off + i * 6 + 4, none⟩ = some (.int .u64 z.x) ∧ w.cell? ⟨b, off + i * 6 + 5, none⟩ = some (.slice z.a z.d.length z.c)) ∧ RestAt w.heap.size w z.a z.d) ∧ AcOk z := by
      intro i hi
      obtain ⟨cs', h1, h2⟩ := hx i (by omega)
      simp only [act_cells] at h1
      obtain ⟨_, hlen, hcell⟩ := World.cells?_some h1
      have hwi := hwd i hi
      obtain ⟨xs, k, hk, hxy, _, hxl, hf⟩ := DataW.trod_struct Tryz.underlying31 h2
      match xs, hxl, cs', hlen with
      | [y0, y1, y2, y3, y4, y5], _, [v0, v1, v2, v3, v4, v5], _ =>
        have g0 := hf 0 _ rfl
        have g1 := hf 1 _ rfl
        have g2 := hf 2 _ rfl
        have g3 := hf 3 _ rfl
        have g4 := hf 4 _ rfl
        have g5 := hf 5 _ rfl
        simp [u64_cells, row_cells, int_cells] at g0 g1 g2 g3 g4 g5
        obtain ⟨A0, r0, _, f0⟩ := DataW.trod_int Tryz.underlying3 g0
        obtain ⟨A1, r1, _, f1⟩ := DataW.trod_int Tryz.underlying3 g1
        obtain ⟨A2, r2, _, f2⟩ := DataW.trod_int Tryz.underlying28 g2
        obtain ⟨A3, r3, _, f3⟩ := DataW.trod_int Tryz.underlying3 g3
        obtain ⟨A4, r4, _, f4⟩ := DataW.trod_int Tryz.underlying28 g4
        obtain ⟨la, ll, lc, r5⟩ : ∃ la ll lc, v5 = .slice la ll lc := by
          rcases open_ints Tryz.underlying29 Tryz.underlying5 byte_cells g5 with ⟨hcs, _⟩ | ⟨ad, len', cap', zs, hcs, _⟩
          · simp at hcs; exact ⟨_, _, _, hcs⟩
          · simp at hcs; exact ⟨_, _, _, hcs⟩
        have e0 := hcell 0 (by simp)
        have e1 := hcell 1 (by simp)
        have e2 := hcell 2 (by simp)
        have e3 := hcell 3 (by simp)
        have e4 := hcell 4 (by simp)
        have e5 := hcell 5 (by simp)
        simp at r0 r1 r2 r3 r4
        subst r0 r1 r2 r3 r4 r5
        simp only [add_plain] at e0 e1 e2 e3 e4 e5
        simp at e0 e1 e2 e3 e4 e5
        simp only [Prod.mk.injEq] at hxy
        rw [hxy.1] at hwi
        have hw1 : Rows.uptoBulk y5.1 ≤ bk := by
          simp only [List.map_cons, List.map_nil, Rows.uptoBulk, Rows.uptoBulkAll] at hwi
          omega
        obtain ⟨dl, hl1, hr, hb3⟩ := open_restU g5
        subst hl1
        have hA2 := u64_wf f2
        have hA4 := u64_wf f4
        have hA3 := i64_wf f3
        obtain ⟨A, rfl⟩ : ∃ A : Nat, A2 = (A : Int) := ⟨A2.toNat, by omega⟩
        obtain ⟨C, rfl⟩ : ∃ C : Nat, A4 = (C : Int) := ⟨A4.toNat, by omega⟩
        exact ⟨⟨A0, A1, A, A3, C, la, lc, dl⟩, ⟨⟨by simpa using e0, e1, e2, e3, e4, e5⟩, hr.at⟩, by show A < _; omega, hA3, by show C < _; omega, by show dl.length ≤ _; omega⟩
    obtain ⟨L, hl1, hp⟩ := list_of _ len key
    refine ⟨L, hl1, .inr ⟨b, off, rfl, fun k x hx => (hp k x hx).1⟩, fun x hx => ?_, by omega⟩
    obtain ⟨k, hk, e⟩ := List.getElem_of_mem hx
    exact (hp k x (by rw [List.getElem?_eq_getElem hk, e])).2
end Go.Proofs.YtekjfbmebekmeaaGreat
