import Derived.Test.YthififblejbleaaGreatDoorHy13
import Derived.Test.YthififblejbleaaGreatDoorRows
import Derived.ProofKit
import Derived.OpenShut
import Derived.ChangeOld
import Derived.LaidMore
import Derived.Lib.LaidTab
import Derived.Deep.Slices
import Derived.ChangeSlices
namespace Go.Proofs.YthififblejbleaaGreatDoor
open Go.ChangeShapes Go.WideShapes Go.ChangeAt Go.RowKit Go.Deep
set_option linter.unusedVariables false
set_option linter.unusedSimpArgs false
theorem laid_at {P : Program} {W : World} {n : String} {D : DataW Unit} : ∀ {laid : List (String × DataW Unit)} {ps : List MemPlace}, DataW.LaidVars P W laid ps → (n, D) ∈ laid →
    ∃ g t cs fuel p, P.globalNamed n = some g ∧ (P.globals[g]?).map (·.type) = some t ∧ W.var? P n = some cs ∧ DataW.trod (fun _ => ()) P W 0 (fun _ => true) false fuel t cs.toList = some (D, p)
  | [], _, h, hm => by cases hm
  | (m, E) :: L, ps, h, hm => by
    obtain ⟨g, t, cs, f, p, q, hg, ht, hv, hd, hr, _⟩ := h
    rcases List.mem_cons.1 hm with e | hm'
    · cases e
      exact ⟨g, t, cs, f, p, hg, ht, hv, hd⟩
    · exact laid_at hr hm'
theorem arr_flat {H : Type} {enc : TypeId × Value → H} {P : Program} {W : World} {base : Nat} {sp : Nat → Bool} {held : Bool} {fuel : Nat} {t e : TypeId} {n c : Nat} {cs : List Value} {ds : List (DataW H)} {p : List MemPlace}
    (ht : P.underlying t = some (.array n e)) (hc : P.cellsOf e = c) (hcl : P.cellsOf t = n * c) (F : DataW H → List Value)
    (hF : ∀ m cs d p, DataW.trod enc P W base sp held m e cs = some (d, p) → cs = F d)
    (h : DataW.trod enc P W base sp held fuel t cs = some (.agg ds, p)) : cs = ds.flatMap F := by
  obtain ⟨xs, m, rfl, hx, hlen, hxl, hel⟩ := DataW.trod_array ht h
  simp only [Prod.mk.injEq, DataW.agg.injEq] at hx
  obtain ⟨hds, _⟩ := hx
  rw [hc] at hel
  rw [hcl] at hlen
  have key : ∀ (n : Nat) (cs : List Value) (xs : List (DataW H × List MemPlace)), cs.length = n * c → xs.length = n → (∀ i, i < n → DataW.trod enc P W base sp held m e ((cs.drop (i * c)).take c) = xs[i]?) → cs = (xs.map (·.1)).flatMap F := by
    intro n
    induction n with
    | zero =>
      intro cs xs h1 h2 _
      rw [Nat.zero_mul] at h1
      rw [List.length_eq_zero_iff.1 h1, List.length_eq_zero_iff.1 h2]
      rfl
    | succ n ih =>
      intro cs xs h1 h2 h3
      cases xs with
      | nil => simp at h2
      | cons x xs =>
        have e0 := h3 0 (by omega)
        simp only [Nat.zero_mul, List.drop_zero, List.getElem?_cons_zero] at e0
        have e1 := hF m _ x.1 x.2 e0
        have e2 := ih (cs.drop c) xs (by rw [List.length_drop, h1, Nat.succ_mul]; omega) (by simpa using h2) (fun i hi => by
          have := h3 (i + 1) (by omega)
          rw [List.getElem?_cons_succ] at this
          rw [List.drop_drop, show c + i * c = (i + 1) * c from by rw [Nat.succ_mul]; omega]
          exact this)
        simp only [List.map_cons, List.flatMap_cons]
        rw [← e1, ← e2, List.take_append_drop]
  rw [hds]
  exact key n cs xs hlen hxl hel
def fI {H : Type} : DataW H → List Value
  | .lit (.int k n) => [.int k n]
  | _ => []
theorem int_flat {H : Type} {enc : TypeId × Value → H} {P : Program} {W : World} {base : Nat} {sp : Nat → Bool} {held : Bool} {t : TypeId} {k : IntKind} (ht : P.underlying t = some (.int k)) (m : Nat) (cs : List Value) (d : DataW H) (p : List MemPlace) (h : DataW.trod enc P W base sp held m t cs = some (d, p)) : cs = fI d := by
  obtain ⟨n, hs, hx, _⟩ := DataW.trod_int ht h
  simp only [Prod.mk.injEq] at hx
  rw [hs, hx.1]
  rfl
theorem range_of {W : World} {P : Program} {n : String} {g : Nat} {cs : Array Value} {vs : List Value} (hg : P.globalNamed n = some g) (hv : W.var? P n = some cs) (h : cs.toList = vs) : W.rangeAt g 0 vs := fun j v hj => by
  have := World.var?_cell hg hv j
  rw [Nat.zero_add]
  rw [this, ← hj, ← h]
  simp
theorem db_of {W : World} {fuel : Nat} {enc : TypeId × Value → Unit} {sp : Nat → Bool} {held : Bool} {cs : List Value} {p : List MemPlace} (h : DataW.trod enc Tryz.prog W 0 sp held fuel 182 cs = some (Rows.laid_math_bits_deBruijn64tab, p)) : cs = db64.map (fun z => Value.int .u8 (z : Nat)) :=
  (arr_flat (c := 1) Tryz.underlying182 (by kernel_rfl) (by kernel_rfl) fI (int_flat Tryz.underlying5) h).trans (by rfl)
theorem env17 {W : World} (laid : List (String × DataW Unit)) (hp : (laid.all fun x => x.2.handleName?.isNone) = true) (h : laidMetH Tryz.prog laid W)
    (m9 : ("math/bits.deBruijn64tab", Rows.laid_math_bits_deBruijn64tab) ∈ laid) : Tb64 W ∧ 1 < W.heap.size := by
  rw [MakeChecks.laidMetH_plain _ _ _ hp] at h
  obtain ⟨ps, h, _, _⟩ := h
  obtain ⟨g, t, cs, f, p, hg, ht, hv, hd⟩ := laid_at h m9
  obtain rfl := Option.some.inj ((show Tryz.prog.globalNamed "math/bits.deBruijn64tab" = some 1 by kernel_rfl).symm.trans hg)
  obtain rfl := Option.some.inj ((show (Tryz.prog.globals[1]?).map (·.type) = some 182 by kernel_rfl).symm.trans ht)
  have hr := range_of hg hv (db_of hd)
  have hT : Tb64 W := fun k x hx => by
    have := hr k (.int .u8 (x : Nat)) (by simp [hx])
    rw [Nat.zero_add] at this; exact this
  exact ⟨hT, World.block_lt_of_cell? W _ (hT 0 0 rfl)⟩
theorem byte_cells : Tryz.prog.cellsOf 5 = 1 := by kernel_rfl
theorem byte_bytes : Tryz.prog.bytesOf 5 = 1 := by kernel_rfl
theorem byte_wf {n : Int} (h : (Lit.int .u8 n).wf = true) : 0 ≤ n ∧ n < 256 := by
  simp [Lit.wf, IntKind.min, IntKind.max, IntKind.bits, IntKind.signed] at h; omega
theorem byte_of {n : Int} (h : 0 ≤ n ∧ n < 256) : ∃ c : UInt8, (c.toNat : Int) = n := by
  refine ⟨UInt8.ofNat n.toNat, ?_⟩
  have : n.toNat < 256 := by omega
  rw [UInt8.toNat_ofNat_of_lt' (by simpa [UInt8.size] using this)]
  omega
theorem open_gaps {H : Type} {enc : TypeId × Value → H} {w : World} {base : Nat} {spare : Nat → Bool} {held : Bool} {fuel : Nat} {a : Option Addr} {len cap : Nat} {x : DataW H × List MemPlace}
    (h : DataW.trod enc Tryz.prog w base spare held fuel 27 [.slice a len cap] = some x) :
    (∃ G : Nat → Int, ∀ k, k < len → ∃ b off, a = some ⟨b, off, none⟩ ∧ w.cell? ⟨b, off + k, none⟩ = some (.int .u8 (G k)) ∧ 0 ≤ G k ∧ G k < 256) ∧ ((x.1.weights Tryz.prog 27).all (· ≤ reachBytes) = true → len ≤ 140737488351232) := by
  rcases open_ints Tryz.underlying27 Tryz.underlying5 byte_cells h with ⟨hcs, rfl⟩ | ⟨ad, len', cap', zs, hcs, _, hl, hm, hz, rfl, hcell, hwz⟩
  · simp at hcs
    obtain ⟨rfl, rfl, rfl⟩ := hcs
    exact ⟨⟨fun _ => 0, fun k hk => absurd hk (by omega)⟩, fun _ => Nat.zero_le _⟩
  · simp at hcs
    obtain ⟨rfl, rfl, rfl⟩ := hcs
    have hlz : len ≤ zs.length := by rw [hz]; split <;> omega
    refine ⟨⟨fun k => zs.getD k 0, fun k hk => ?_⟩, ?_⟩
    · obtain ⟨b, off, spot⟩ := ad
      have hs : spot = none := by simpa [Addr.add] using World.cell?_spot (hcell 0 (by omega))
      subst hs
      have hk' : k < zs.length := by omega
      have e1 := hcell k hk'
      rw [add_plain] at e1
      have e2 : zs.getD k 0 = zs[k] := by simp [List.getD, List.getElem?_eq_getElem hk']
      have := byte_wf (hwz _ (List.getElem_mem hk'))
      rw [← e2] at this
      exact ⟨b, off, rfl, e1, this.1, this.2⟩
    · intro hw
      have e : (lits (H := H) .u8 (zs.take len)).length = len := by simp [lits]; omega
      simp only [DataW.weights, Tryz.underlying27, byte_bytes, List.all_cons, Bool.and_eq_true, e] at hw
      have h2 : (len + (lits (H := H) .u8 (zs.drop len)).length) * 1 ≤ 140737488351232 := of_decide_eq_true hw.1
      omega
theorem list_of {α : Type} (P : Nat → α → Prop) : ∀ n, (∀ i, i < n → ∃ x, P i x) → ∃ l : List α, l.length = n ∧ ∀ i x, l[i]? = some x → P i x
  | 0, _ => ⟨[], rfl, fun i x h => by simp at h⟩
  | n + 1, h => by
    obtain ⟨l, hl, hp⟩ := list_of P n (fun i hi => h i (by omega))
    obtain ⟨x, hx⟩ := h n (by omega)
    refine ⟨l ++ [x], by simp [hl], fun i y hy => ?_⟩
    by_cases hi : i < n
    · rw [List.getElem?_append_left (by omega)] at hy; exact hp i y hy
    · have : i < n + 1 := by have := (List.getElem?_eq_some_iff.1 hy).1; simp [hl] at this; exact this
      obtain rfl : i = n := by omega
      rw [List.getElem?_append_right (by omega)] at hy
      simp [hl] at hy
      subst hy; exact hx
theorem open_bytes {H : Type} {enc : TypeId × Value → H} {w : World} {base : Nat} {spare : Nat → Bool} {held : Bool} {fuel : Nat} {a : Option Addr} {len cap : Nat} {x : DataW H × List MemPlace}
    (h : DataW.trod enc Tryz.prog w base spare held fuel 27 [.slice a len cap] = some x) (hw : (x.1.weights Tryz.prog 27).all (· ≤ reachBytes) = true) :
    ∃ l : List UInt8, l.length = len ∧ RestAt w.heap.size w a l ∧ len ≤ cap ∧ len ≤ 140737488351232 := by
  have hcap : len ≤ cap := by
    rcases open_ints Tryz.underlying27 Tryz.underlying5 byte_cells h with ⟨hcs, rfl⟩ | ⟨ad, len', cap', zs, hcs, _, hl, hm, hz, rfl, hcell, hwz⟩
    · simp at hcs
      obtain ⟨rfl, rfl, rfl⟩ := hcs
      exact Nat.le_refl _
    · simp at hcs
      obtain ⟨rfl, rfl, rfl⟩ := hcs
      exact hl
  obtain ⟨⟨G, hG⟩, hb⟩ := open_gaps h
  by_cases z : len = 0
  · exact ⟨[], z.symm, .inl rfl, hcap, hb hw⟩
  obtain ⟨b, off, ha, _⟩ := hG 0 (by omega)
  obtain ⟨l, hl, hp⟩ := list_of (fun i (x : UInt8) => w.cell? ⟨b, off + i, none⟩ = some (.int .u8 (x.toNat : Int))) len (fun i hi => by
    obtain ⟨b', off', ha', hc, h0, h1⟩ := hG i hi
    rw [ha] at ha'
    simp only [Option.some.injEq, Addr.mk.injEq] at ha'
    obtain ⟨rfl, rfl, _⟩ := ha'
    obtain ⟨c, hc2⟩ := byte_of ⟨h0, h1⟩
    exact ⟨c, by rw [hc, hc2]⟩)
  obtain ⟨x0, hx0⟩ : ∃ x0, l[0]? = some x0 := ⟨_, List.getElem?_eq_getElem (by omega)⟩
  have hblk : b < w.heap.size := World.block_lt_of_cell? w _ (hp 0 x0 hx0)
  exact ⟨l, hl, .inr ⟨b, off, hblk, ha, hp⟩, hcap, hb hw⟩
theorem int_cells : Tryz.prog.cellsOf 3 = 1 := by kernel_rfl
theorem str_cells : Tryz.prog.cellsOf 9 = 1 := by kernel_rfl
theorem weights_mem {H : Type} {P : Program} {e : TypeId} {p : Nat → Bool} : ∀ {l : List (DataW H)}, (DataW.weightsAll P e l).all p = true → ∀ d ∈ l, (d.weights P e).all p = true
  | [], _, d, hd => by cases hd
  | x :: r, h, d, hd => by
    have h' : (x.weights P e ++ DataW.weightsAll P e r).all p = true := h
    rw [List.all_append, Bool.and_eq_true] at h'
    rcases List.mem_cons.1 hd with rfl | hd
    · exact h'.1
    · exact weights_mem h'.2 d hd
theorem int_wf {n : Int} (h : (Lit.int .i64 n).wf = true) : -9223372036854775808 ≤ n ∧ n ≤ 9223372036854775807 := by
  simp [Lit.wf, IntKind.min, IntKind.max, IntKind.bits, IntKind.signed] at h; omega
theorem ins_cells : Tryz.prog.cellsOf 67 = 5 := by kernel_rfl
theorem ins_bytes : Tryz.prog.bytesOf 67 = 40 := by kernel_rfl
def InsK (l : List Ins) : Prop := ∀ x ∈ l, (-9223372036854775808 ≤ x.o ∧ x.o ≤ 9223372036854775807) ∧ (-9223372036854775808 ≤ x.d ∧ x.d ≤ 9223372036854775807) ∧ (-9223372036854775808 ≤ x.s ∧ x.s ≤ 9223372036854775807) ∧ (-9223372036854775808 ≤ x.f ∧ x.f ≤ 9223372036854775807) ∧ (-9223372036854775808 ≤ x.i ∧ x.i ≤ 9223372036854775807)
set_option maxRecDepth 20000 in
theorem open_ins {H : Type} {enc : TypeId × Value → H} {w : World} {base : Nat} {spare : Nat → Bool} {held : Bool} {fuel : Nat} {v : Value} {x : DataW H × List MemPlace}
    (h : DataW.trod enc Tryz.prog w base spare held fuel 22 [v] = some x) (hw : (x.1.weights Tryz.prog 22).all (· ≤ reachBytes) = true) : ∃ (a : Option Addr) (cap : Nat) (ts : List Ins), v = .slice a ts.length cap ∧ InsA w a ts ∧ InsK ts ∧ ts.length ≤ cap ∧ ts.length ≤ 3518437208780 := by
  rcases open_slice Tryz.underlying22 h with ⟨hcs, rfl⟩ | ⟨ad, l, c, m, n, D, Pl, hcs, hb, hl, hm, hmm, rfl, hx⟩
  · simp at hcs
    exact ⟨none, 0, [], hcs, .inl rfl, fun x hx => (by cases hx), Nat.le_refl _, Nat.zero_le _⟩
  · simp at hcs
    obtain rfl := hcs
    simp only [DataW.weights, Tryz.underlying22, ins_bytes, List.all_cons, List.all_append, Bool.and_eq_true, List.length_map, List.length_range] at hw
    have hwl : (l + (m - l)) * 40 ≤ 140737488351232 := of_decide_eq_true hw.1
    have hwe := hw.2.1
    by_cases z : l = 0
    · subst z; exact ⟨_, _, [], rfl, .inl rfl, fun x hx => (by cases hx), hl, by simp⟩
    have hlm : l ≤ m := by rw [hmm]; split <;> omega
    obtain ⟨b, off, spot⟩ := ad
    have hs : spot = none := by
      obtain ⟨cs', h1, h2⟩ := hx 0 (by omega)
      simp only [ins_cells] at h1
      obtain ⟨_, hlen, hcell⟩ := World.cells?_some h1
      match cs', hlen with
      | [v0, v1, v2, v3, v4], _ =>
        have e0 : w.cell? (((⟨b, off, spot⟩ : Addr).add (0 * 5)).add 0) = some v0 := hcell 0 (by simp)
        simpa [Addr.add] using World.cell?_spot e0
    subst hs
    have key : ∀ i, i < l → ∃ x : Ins, (w.cell? ⟨b, off + i * 5, none⟩ = some (.int .i64 x.o) ∧ w.cell? ⟨b, off + i * 5 + 1, none⟩ = some (.int .i64 x.d) ∧ w.cell? ⟨b, off + i * 5 + 2, none⟩ = some (.int .i64 x.s) ∧ w.cell? ⟨b, off + i * 5 + 3, none⟩ = some (.int .i64 x.f) ∧ w.cell? ⟨b, off + i * 5 + 4, none⟩ = some (.int .i64 x.i)) ∧ ((-9223372036854775808 ≤ x.o ∧ x.o ≤ 9223372036854775807) ∧ (-9223372036854775808 ≤ x.d ∧ x.d ≤ 9223372036854775807) ∧ (-9223372036854775808 ≤ x.s ∧ x.s ≤ 9223372036854775807) ∧ (-9223372036854775808 ≤ x.f ∧ x.f ≤ 9223372036854775807) ∧ (-9223372036854775808 ≤ x.i ∧ x.i ≤ 9223372036854775807)) := by
      intro i hi
      obtain ⟨cs', h1, h2⟩ := hx i (by omega)
      simp only [ins_cells] at h1
      obtain ⟨_, hlen, hcell⟩ := World.cells?_some h1
      have hwi := weights_mem hwe (D i) (List.mem_map.2 ⟨i, List.mem_range.2 hi, rfl⟩)
      obtain ⟨xs, k, hk, hxy, _, hxl, hf⟩ := DataW.trod_struct Tryz.underlying67 h2
      match xs, hxl, cs', hlen with
      | [y0, y1, y2, y3, y4], _, [v0, v1, v2, v3, v4], _ =>
        have g0 := hf 0 _ rfl
        have g1 := hf 1 _ rfl
        have g2 := hf 2 _ rfl
        have g3 := hf 3 _ rfl
        have g4 := hf 4 _ rfl
        simp [int_cells, str_cells] at g0 g1 g2 g3 g4
        obtain ⟨x0, r0, _, f0⟩ := DataW.trod_int Tryz.underlying3 g0
        obtain ⟨x1, r1, _, f1⟩ := DataW.trod_int Tryz.underlying3 g1
        obtain ⟨x2, r2, _, f2⟩ := DataW.trod_int Tryz.underlying3 g2
        obtain ⟨x3, r3, _, f3⟩ := DataW.trod_int Tryz.underlying3 g3
        obtain ⟨x4, r4, _, f4⟩ := DataW.trod_int Tryz.underlying3 g4
        have e0 := hcell 0 (by simp)
        have e1 := hcell 1 (by simp)
        have e2 := hcell 2 (by simp)
        have e3 := hcell 3 (by simp)
        have e4 := hcell 4 (by simp)
        simp at r0 r1 r2 r3 r4
        subst r0 r1 r2 r3 r4
        simp only [add_plain] at e0 e1 e2 e3 e4
        simp at e0 e1 e2 e3 e4
        exact ⟨⟨x0, x1, x2, x3, x4⟩, ⟨e0, e1, e2, e3, e4⟩, int_wf f0, int_wf f1, int_wf f2, int_wf f3, int_wf f4⟩
    obtain ⟨L, hl1, hp⟩ := list_of _ l key
    subst hl1
    refine ⟨_, _, L, rfl, .inr ⟨b, off, rfl, fun k x hx => (hp k x hx).1⟩, fun x hx => ?_, hl, by omega⟩
    obtain ⟨k, hk, e⟩ := List.getElem_of_mem hx
    exact (hp k x (by rw [List.getElem?_eq_getElem hk, e])).2
theorem fn_cells : Tryz.prog.cellsOf 69 = 4 := by kernel_rfl
theorem fn_bytes : Tryz.prog.bytesOf 69 = 40 := by kernel_rfl
def FnK (l : List Fn) : Prop := ∀ x ∈ l, x.nm.length ≤ 140737488355328 ∧ (-9223372036854775808 ≤ x.ob ∧ x.ob ≤ 9223372036854775807) ∧ (-9223372036854775808 ≤ x.fi ∧ x.fi ≤ 9223372036854775807) ∧ (-9223372036854775808 ≤ x.ct ∧ x.ct ≤ 9223372036854775807)
set_option maxRecDepth 20000 in
theorem open_fn {H : Type} {enc : TypeId × Value → H} {w : World} {base : Nat} {spare : Nat → Bool} {held : Bool} {fuel : Nat} {v : Value} {x : DataW H × List MemPlace}
    (h : DataW.trod enc Tryz.prog w base spare held fuel 23 [v] = some x) (hw : (x.1.weights Tryz.prog 23).all (· ≤ reachBytes) = true) : ∃ (a : Option Addr) (cap : Nat) (ts : List Fn), v = .slice a ts.length cap ∧ FnA w a ts ∧ FnK ts ∧ ts.length ≤ cap ∧ ts.length ≤ 3518437208780 := by
  rcases open_slice Tryz.underlying23 h with ⟨hcs, rfl⟩ | ⟨ad, l, c, m, n, D, Pl, hcs, hb, hl, hm, hmm, rfl, hx⟩
  · simp at hcs
    exact ⟨none, 0, [], hcs, .inl rfl, fun x hx => (by cases hx), Nat.le_refl _, Nat.zero_le _⟩
  · simp at hcs
    obtain rfl := hcs
    simp only [DataW.weights, Tryz.underlying23, fn_bytes, List.all_cons, List.all_append, Bool.and_eq_true, List.length_map, List.length_range] at hw
    have hwl : (l + (m - l)) * 40 ≤ 140737488351232 := of_decide_eq_true hw.1
    have hwe := hw.2.1
    by_cases z : l = 0
    · subst z; exact ⟨_, _, [], rfl, .inl rfl, fun x hx => (by cases hx), hl, by simp⟩
    have hlm : l ≤ m := by rw [hmm]; split <;> omega
    obtain ⟨b, off, spot⟩ := ad
    have hs : spot = none := by
      obtain ⟨cs', h1, h2⟩ := hx 0 (by omega)
      simp only [fn_cells] at h1
      obtain ⟨_, hlen, hcell⟩ := World.cells?_some h1
      match cs', hlen with
      | [v0, v1, v2, v3], _ =>
        have e0 : w.cell? (((⟨b, off, spot⟩ : Addr).add (0 * 4)).add 0) = some v0 := hcell 0 (by simp)
        simpa [Addr.add] using World.cell?_spot e0
    subst hs
    have key : ∀ i, i < l → ∃ x : Fn, (w.cell? ⟨b, off + i * 4, none⟩ = some (.string ⟨x.nm.toArray⟩) ∧ w.cell? ⟨b, off + i * 4 + 1, none⟩ = some (.int .i64 x.ob) ∧ w.cell? ⟨b, off + i * 4 + 2, none⟩ = some (.int .i64 x.fi) ∧ w.cell? ⟨b, off + i * 4 + 3, none⟩ = some (.int .i64 x.ct)) ∧ (x.nm.length ≤ 140737488355328 ∧ (-9223372036854775808 ≤ x.ob ∧ x.ob ≤ 9223372036854775807) ∧ (-9223372036854775808 ≤ x.fi ∧ x.fi ≤ 9223372036854775807) ∧ (-9223372036854775808 ≤ x.ct ∧ x.ct ≤ 9223372036854775807)) := by
      intro i hi
      obtain ⟨cs', h1, h2⟩ := hx i (by omega)
      simp only [fn_cells] at h1
      obtain ⟨_, hlen, hcell⟩ := World.cells?_some h1
      have hwi := weights_mem hwe (D i) (List.mem_map.2 ⟨i, List.mem_range.2 hi, rfl⟩)
      obtain ⟨xs, k, hk, hxy, _, hxl, hf⟩ := DataW.trod_struct Tryz.underlying69 h2
      match xs, hxl, cs', hlen with
      | [y0, y1, y2, y3], _, [v0, v1, v2, v3], _ =>
        have g0 := hf 0 _ rfl
        have g1 := hf 1 _ rfl
        have g2 := hf 2 _ rfl
        have g3 := hf 3 _ rfl
        simp [int_cells, str_cells] at g0 g1 g2 g3
        obtain ⟨x0, r0, q0, _⟩ := DataW.trod_string Tryz.underlying9 g0
        obtain ⟨x1, r1, _, f1⟩ := DataW.trod_int Tryz.underlying3 g1
        obtain ⟨x2, r2, _, f2⟩ := DataW.trod_int Tryz.underlying3 g2
        obtain ⟨x3, r3, _, f3⟩ := DataW.trod_int Tryz.underlying3 g3
        have e0 := hcell 0 (by simp)
        have e1 := hcell 1 (by simp)
        have e2 := hcell 2 (by simp)
        have e3 := hcell 3 (by simp)
        simp at r0 r1 r2 r3
        subst r0 r1 r2 r3
        simp only [add_plain] at e0 e1 e2 e3
        simp at e0 e1 e2 e3
        have hB : x0.data.toList.length ≤ 140737488351232 := by
          simp only [Prod.mk.injEq] at hxy
          rw [hxy.1] at hwi
          simp only [List.map_cons, List.map_nil, DataW.weights, Tryz.underlying69, DataW.weightsEach, List.all_append, Bool.and_eq_true] at hwi
          have h1 := hwi.1
          rw [q0] at h1
          simp only [DataW.weights, List.all_cons, Bool.and_eq_true] at h1
          exact of_decide_eq_true h1.1
        exact ⟨⟨x0.data.toList, x1, x2, x3⟩, ⟨by simpa using e0, e1, e2, e3⟩, by simp only; omega, int_wf f1, int_wf f2, int_wf f3⟩
    obtain ⟨L, hl1, hp⟩ := list_of _ l key
    subst hl1
    refine ⟨_, _, L, rfl, .inr ⟨b, off, rfl, fun k x hx => (hp k x hx).1⟩, fun x hx => ?_, hl, by omega⟩
    obtain ⟨k, hk, e⟩ := List.getElem_of_mem hx
    exact (hp k x (by rw [List.getElem?_eq_getElem hk, e])).2
theorem td_cells : Tryz.prog.cellsOf 72 = 5 := by kernel_rfl
theorem td_bytes : Tryz.prog.bytesOf 72 = 48 := by kernel_rfl
def TdK (l : List Td) : Prop := ∀ x ∈ l, x.nm.length ≤ 140737488355328 ∧ (-9223372036854775808 ≤ x.kd ∧ x.kd ≤ 9223372036854775807) ∧ (-9223372036854775808 ≤ x.ky ∧ x.ky ≤ 9223372036854775807) ∧ (-9223372036854775808 ≤ x.vl ∧ x.vl ≤ 9223372036854775807) ∧ (-9223372036854775808 ≤ x.en ∧ x.en ≤ 9223372036854775807)
set_option maxRecDepth 20000 in
theorem open_td {H : Type} {enc : TypeId × Value → H} {w : World} {base : Nat} {spare : Nat → Bool} {held : Bool} {fuel : Nat} {v : Value} {x : DataW H × List MemPlace}
    (h : DataW.trod enc Tryz.prog w base spare held fuel 24 [v] = some x) (hw : (x.1.weights Tryz.prog 24).all (· ≤ reachBytes) = true) : ∃ (a : Option Addr) (cap : Nat) (ts : List Td), v = .slice a ts.length cap ∧ TdA w a ts ∧ TdK ts ∧ ts.length ≤ cap ∧ ts.length ≤ 2932031007317 := by
  rcases open_slice Tryz.underlying24 h with ⟨hcs, rfl⟩ | ⟨ad, l, c, m, n, D, Pl, hcs, hb, hl, hm, hmm, rfl, hx⟩
  · simp at hcs
    exact ⟨none, 0, [], hcs, .inl rfl, fun x hx => (by cases hx), Nat.le_refl _, Nat.zero_le _⟩
  · simp at hcs
    obtain rfl := hcs
    simp only [DataW.weights, Tryz.underlying24, td_bytes, List.all_cons, List.all_append, Bool.and_eq_true, List.length_map, List.length_range] at hw
    have hwl : (l + (m - l)) * 48 ≤ 140737488351232 := of_decide_eq_true hw.1
    have hwe := hw.2.1
    by_cases z : l = 0
    · subst z; exact ⟨_, _, [], rfl, .inl rfl, fun x hx => (by cases hx), hl, by simp⟩
    have hlm : l ≤ m := by rw [hmm]; split <;> omega
    obtain ⟨b, off, spot⟩ := ad
    have hs : spot = none := by
      obtain ⟨cs', h1, h2⟩ := hx 0 (by omega)
      simp only [td_cells] at h1
      obtain ⟨_, hlen, hcell⟩ := World.cells?_some h1
      match cs', hlen with
      | [v0, v1, v2, v3, v4], _ =>
        have e0 : w.cell? (((⟨b, off, spot⟩ : Addr).add (0 * 5)).add 0) = some v0 := hcell 0 (by simp)
        simpa [Addr.add] using World.cell?_spot e0
    subst hs
    have key : ∀ i, i < l → ∃ x : Td, (w.cell? ⟨b, off + i * 5, none⟩ = some (.string ⟨x.nm.toArray⟩) ∧ w.cell? ⟨b, off + i * 5 + 1, none⟩ = some (.int .i64 x.kd) ∧ w.cell? ⟨b, off + i * 5 + 2, none⟩ = some (.int .i64 x.ky) ∧ w.cell? ⟨b, off + i * 5 + 3, none⟩ = some (.int .i64 x.vl) ∧ w.cell? ⟨b, off + i * 5 + 4, none⟩ = some (.int .i64 x.en)) ∧ (x.nm.length ≤ 140737488355328 ∧ (-9223372036854775808 ≤ x.kd ∧ x.kd ≤ 9223372036854775807) ∧ (-9223372036854775808 ≤ x.ky ∧ x.ky ≤ 9223372036854775807) ∧ (-9223372036854775808 ≤ x.vl ∧ x.vl ≤ 9223372036854775807) ∧ (-9223372036854775808 ≤ x.en ∧ x.en ≤ 9223372036854775807)) := by
      intro i hi
      obtain ⟨cs', h1, h2⟩ := hx i (by omega)
      simp only [td_cells] at h1
      obtain ⟨_, hlen, hcell⟩ := World.cells?_some h1
      have hwi := weights_mem hwe (D i) (List.mem_map.2 ⟨i, List.mem_range.2 hi, rfl⟩)
      obtain ⟨xs, k, hk, hxy, _, hxl, hf⟩ := DataW.trod_struct Tryz.underlying72 h2
      match xs, hxl, cs', hlen with
      | [y0, y1, y2, y3, y4], _, [v0, v1, v2, v3, v4], _ =>
        have g0 := hf 0 _ rfl
        have g1 := hf 1 _ rfl
        have g2 := hf 2 _ rfl
        have g3 := hf 3 _ rfl
        have g4 := hf 4 _ rfl
        simp [int_cells, str_cells] at g0 g1 g2 g3 g4
        obtain ⟨x0, r0, q0, _⟩ := DataW.trod_string Tryz.underlying9 g0
        obtain ⟨x1, r1, _, f1⟩ := DataW.trod_int Tryz.underlying3 g1
        obtain ⟨x2, r2, _, f2⟩ := DataW.trod_int Tryz.underlying3 g2
        obtain ⟨x3, r3, _, f3⟩ := DataW.trod_int Tryz.underlying3 g3
        obtain ⟨x4, r4, _, f4⟩ := DataW.trod_int Tryz.underlying3 g4
        have e0 := hcell 0 (by simp)
        have e1 := hcell 1 (by simp)
        have e2 := hcell 2 (by simp)
        have e3 := hcell 3 (by simp)
        have e4 := hcell 4 (by simp)
        simp at r0 r1 r2 r3 r4
        subst r0 r1 r2 r3 r4
        simp only [add_plain] at e0 e1 e2 e3 e4
        simp at e0 e1 e2 e3 e4
        have hB : x0.data.toList.length ≤ 140737488351232 := by
          simp only [Prod.mk.injEq] at hxy
          rw [hxy.1] at hwi
          simp only [List.map_cons, List.map_nil, DataW.weights, Tryz.underlying72, DataW.weightsEach, List.all_append, Bool.and_eq_true] at hwi
          have h1 := hwi.1
          rw [q0] at h1
          simp only [DataW.weights, List.all_cons, Bool.and_eq_true] at h1
          exact of_decide_eq_true h1.1
        exact ⟨⟨x0.data.toList, x1, x2, x3, x4⟩, ⟨by simpa using e0, e1, e2, e3, e4⟩, by simp only; omega, int_wf f1, int_wf f2, int_wf f3, int_wf f4⟩
    obtain ⟨L, hl1, hp⟩ := list_of _ l key
    subst hl1
    refine ⟨_, _, L, rfl, .inr ⟨b, off, rfl, fun k x hx => (hp k x hx).1⟩, fun x hx => ?_, hl, by omega⟩
    obtain ⟨k, hk, e⟩ := List.getElem_of_mem hx
    exact (hp k x (by rw [List.getElem?_eq_getElem hk, e])).2
theorem sl_cells1 : Tryz.prog.cellsOf 22 = 1 := by kernel_rfl
theorem sl_cells2 : Tryz.prog.cellsOf 23 = 1 := by kernel_rfl
theorem sl_cells3 : Tryz.prog.cellsOf 24 = 1 := by kernel_rfl
theorem img_cells : Tryz.prog.cellsOf 26 = 4 := by kernel_rfl
set_option maxRecDepth 20000 in
theorem open_img {H : Type} {enc : TypeId × Value → H} {W : World} {base b2 : Nat} {sp : Nat → Bool} {held : Bool} {v : Value} {d : DataW H} {p : List MemPlace} (hv : Value.okWide Tryz.prog W .any base 26 v) (h : DataW.Trod enc Tryz.prog W b2 sp held 26 v d p) (hw : (d.weights Tryz.prog 26).all (· ≤ reachBytes) = true) :
    ∃ (ta fa da : Option Addr) (tc fc dc : Nat) (m : Img), v = .agg #[.slice ta m.T.length tc, .slice fa m.F.length fc, .slice da m.D.length dc, .int .i64 m.en] ∧ (InsA W ta m.T ∧ FnA W fa m.F ∧ TdA W da m.D) ∧ (InsK m.T ∧ FnK m.F ∧ TdK m.D) ∧ (m.T.length ≤ tc ∧ m.F.length ≤ fc ∧ m.D.length ≤ dc) ∧ m.T.length ≤ 3518437208780 ∧ m.F.length ≤ 3518437208780 ∧ m.D.length ≤ 3518437208780 := by
  obtain ⟨cs, rfl, hsz⟩ := okWide_struct Tryz.underlying26 hv
  rw [img_cells] at hsz
  obtain ⟨fuel, hf⟩ := h
  obtain ⟨xs, k, hk, hxy, _, hxl, hg⟩ := DataW.trod_struct Tryz.underlying26 hf
  obtain ⟨cl⟩ := cs
  match xs, hxl, cl, hsz with
  | [y0, y1, y2, y3], _, [v0, v1, v2, v3], _ =>
    have g0 := hg 0 _ rfl
    have g1 := hg 1 _ rfl
    have g2 := hg 2 _ rfl
    have g3 := hg 3 _ rfl
    simp [int_cells, sl_cells1, sl_cells2, sl_cells3, Value.cells] at g0 g1 g2 g3
    simp only [Prod.mk.injEq] at hxy
    rw [hxy.1] at hw
    simp only [List.map_cons, List.map_nil, DataW.weights, Tryz.underlying26, DataW.weightsEach, List.all_append, Bool.and_eq_true] at hw
    obtain ⟨ta, tc, TT, rfl, h1, h2, h3, h4⟩ := open_ins g0 hw.1
    obtain ⟨fa, fc, FF, rfl, i1, i2, i3, i4⟩ := open_fn g1 hw.2.1
    obtain ⟨da, dc, DD, rfl, j1, j2, j3, j4⟩ := open_td g2 hw.2.2.1
    obtain ⟨en, r3, _, f3⟩ := DataW.trod_int Tryz.underlying3 g3
    simp at r3
    subst r3
    exact ⟨ta, fa, da, tc, fc, dc, ⟨TT, FF, DD, en⟩, rfl, ⟨h1, i1, j1⟩, ⟨h2, i2, j2⟩, ⟨h3, i3, j3⟩, by simp only; omega, by simp only; omega, by simp only; omega⟩
end Go.Proofs.YthififblejbleaaGreatDoor
