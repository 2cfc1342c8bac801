import Derived.Test.YtfhmhdhaibmcfaaDoorFb
import Derived.Test.YtfhmhdhaibmcfaaDoorRows
import Derived.WalkKit
import Derived.ProofKit
import Derived.OpenShut
import Derived.ChangeOld
import Derived.LaidMore
import Derived.Lib.LaidTab
import Derived.Deep.Slices
import Derived.ChangeSlices
namespace Go.Proofs.YtfhmhdhaibmcfaaDoor
open Go.ChangeShapes Go.WideShapes Go.ChangeAt Go.RowKit Go.Deep
set_option linter.unusedVariables false
set_option linter.unusedSimpArgs false
theorem laid_at {P : Program} {W : World} {n : String} {D : DataW Unit} : ∀ {laid : List (String × DataW Unit)} {ps : List MemPlace}, DataW.LaidVars P W laid ps → (n, D) ∈ laid →
    ∃ g t cs fuel p, P.globalNamed n = some g ∧ (P.globals[g]?).map (·.type) = some t ∧ W.var? P n = some cs ∧ DataW.trod (fun _ => ()) P W 0 (fun _ => true) false fuel t cs.toList = some (D, p)
  | [], _, h, hm => by cases hm
  | (m, E) :: L, ps, h, hm => by
    obtain ⟨g, t, cs, f, p, q, hg, ht, hv, hd, hr, _⟩ := h
    rcases List.mem_cons.1 hm with e | hm'
    · cases e
      exact ⟨g, t, cs, f, p, hg, ht, hv, hd⟩
    · exact laid_at hr hm'
theorem arr_flat {H : Type} {enc : TypeId × Value → H} {P : Program} {W : World} {base : Nat} {sp : Nat → Bool} {held : Bool} {fuel : Nat} {t e : TypeId} {n c : Nat} {cs : List Value} {ds : List (DataW H)} {p : List MemPlace}
    (ht : P.underlying t = some (.array n e)) (hc : P.cellsOf e = c) (hcl : P.cellsOf t = n * c) (F : DataW H → List Value)
    (hF : ∀ m cs d p, DataW.trod enc P W base sp held m e cs = some (d, p) → cs = F d)
    (h : DataW.trod enc P W base sp held fuel t cs = some (.agg ds, p)) : cs = ds.flatMap F := by
  obtain ⟨xs, m, rfl, hx, hlen, hxl, hel⟩ := DataW.trod_array ht h
  simp only [Prod.mk.injEq, DataW.agg.injEq] at hx
  obtain ⟨hds, _⟩ := hx
  rw [hc] at hel
  rw [hcl] at hlen
  have key : ∀ (n : Nat) (cs : List Value) (xs : List (DataW H × List MemPlace)), cs.length = n * c → xs.length = n → (∀ i, i < n → DataW.trod enc P W base sp held m e ((cs.drop (i * c)).take c) = xs[i]?) → cs = (xs.map (·.1)).flatMap F := by
    intro n
    induction n with
    | zero =>
      intro cs xs h1 h2 _
      rw [Nat.zero_mul] at h1
      rw [List.length_eq_zero_iff.1 h1, List.length_eq_zero_iff.1 h2]
      rfl
    | succ n ih =>
      intro cs xs h1 h2 h3
      cases xs with
      | nil => simp at h2
      | cons x xs =>
        have e0 := h3 0 (by omega)
        simp only [Nat.zero_mul, List.drop_zero, List.getElem?_cons_zero] at e0
        have e1 := hF m _ x.1 x.2 e0
        have e2 := ih (cs.drop c) xs (by rw [List.length_drop, h1, Nat.succ_mul]; omega) (by simpa using h2) (fun i hi => by
          have := h3 (i + 1) (by omega)
          rw [List.getElem?_cons_succ] at this
          rw [List.drop_drop, show c + i * c = (i + 1) * c from by rw [Nat.succ_mul]; omega]
          exact this)
        simp only [List.map_cons, List.flatMap_cons]
        rw [← e1, ← e2, List.take_append_drop]
  rw [hds]
  exact key n cs xs hlen hxl hel
def fI {H : Type} : DataW H → List Value
  | .lit (.int k n) => [.int k n]
  | _ => []
theorem int_flat {H : Type} {enc : TypeId × Value → H} {P : Program} {W : World} {base : Nat} {sp : Nat → Bool} {held : Bool} {t : TypeId} {k : IntKind} (ht : P.underlying t = some (.int k)) (m : Nat) (cs : List Value) (d : DataW H) (p : List MemPlace) (h : DataW.trod enc P W base sp held m t cs = some (d, p)) : cs = fI d := by
  obtain ⟨n, hs, hx, _⟩ := DataW.trod_int ht h
  simp only [Prod.mk.injEq] at hx
  rw [hs, hx.1]
  rfl
theorem range_of {W : World} {P : Program} {n : String} {g : Nat} {cs : Array Value} {vs : List Value} (hg : P.globalNamed n = some g) (hv : W.var? P n = some cs) (h : cs.toList = vs) : W.rangeAt g 0 vs := fun j v hj => by
  have := World.var?_cell hg hv j
  rw [Nat.zero_add]
  rw [this, ← hj, ← h]
  simp
theorem iface_flat {H : Type} {enc : TypeId × Value → H} {P : Program} {W : World} {base : Nat} {sp : Nat → Bool} {held : Bool} {fuel : Nat} {t : TypeId} {cs : List Value} {x : DataW H × List MemPlace} (ht : ∃ z, P.underlying t = some (.interface z)) (h : DataW.trod enc P W base sp held fuel t cs = some x) : cs = [.nilIface] ∨ ∃ u v, cs = [.iface u v] := by
  obtain ⟨z, ht⟩ := ht
  cases fuel with
  | zero => simp [DataW.trod] at h
  | succ n =>
    unfold DataW.trod at h
    rw [ht] at h
    split at h <;> simp_all
theorem pow_of {W : World} {fuel : Nat} {enc : TypeId × Value → Unit} {sp : Nat → Bool} {held : Bool} {cs : List Value} {p : List MemPlace} (h : DataW.trod enc Tryd.prog W 0 sp held fuel 121 cs = some (Rows.laid_internal_strconv_uint64pow10, p)) : cs = Lib.pow10Tab.map (fun z => Value.int .u64 z) :=
  (arr_flat (c := 1) Tryd.underlying121 (by kernel_rfl) (by kernel_rfl) fI (int_flat Tryd.underlying34) h).trans (by rfl)
theorem err_of {W : World} {g : Nat} {cs : Array Value} {n : String} (hg : Tryd.prog.globalNamed n = some g) (hv : W.var? Tryd.prog n = some cs) (hc : cs.toList = [.nilIface] ∨ ∃ u v, cs.toList = [.iface u v]) : ErrAt W g ∧ g < W.heap.size := by
  rcases hc with hc | ⟨u, v, hc⟩
  · have h1 : W.cell? ⟨g, 0, none⟩ = some .nilIface := by have := range_of hg hv hc 0 .nilIface rfl; rwa [Nat.zero_add] at this
    exact ⟨⟨_, h1, .inl rfl⟩, World.block_lt_of_cell? W _ h1⟩
  · have h1 : W.cell? ⟨g, 0, none⟩ = some (.iface u v) := by have := range_of hg hv hc 0 (.iface u v) rfl; rwa [Nat.zero_add] at this
    exact ⟨⟨_, h1, .inr ⟨u, v, rfl⟩⟩, World.block_lt_of_cell? W _ h1⟩
/-- all that the calls lean on, off the listed variables -/
theorem env_of {W : World} (laid : List (String × DataW Unit)) (hp : (laid.all fun x => x.2.handleName?.isNone) = true) (h : laidMetH Tryd.prog laid W)
    (m9 : ("internal/strconv.uint64pow10", Rows.laid_internal_strconv_uint64pow10) ∈ laid) (m10 : ("strconv.ErrRange", Rows.laid_strconv_ErrRange) ∈ laid) (m11 : ("strconv.ErrSyntax", Rows.laid_strconv_ErrSyntax) ∈ laid) : LEnv W := by
  rw [MakeChecks.laidMetH_plain _ _ _ hp] at h
  obtain ⟨ps, h, _, _⟩ := h
  have e9 : Pow W := by
    obtain ⟨g, t, cs, f, p, hg, ht, hv, hd⟩ := laid_at h m9
    obtain rfl := Option.some.inj ((show Tryd.prog.globalNamed "internal/strconv.uint64pow10" = some 1 by kernel_rfl).symm.trans hg)
    obtain rfl := Option.some.inj ((show (Tryd.prog.globals[1]?).map (·.type) = some 121 by kernel_rfl).symm.trans ht)
    unfold Pow Lib.TabIs
    rw [hv, ← pow_of hd]
  have e10 : ErrAt W 5 ∧ 5 < W.heap.size := by
    obtain ⟨g, t, cs, f, p, hg, ht, hv, hd⟩ := laid_at h m10
    obtain rfl := Option.some.inj ((show Tryd.prog.globalNamed "strconv.ErrRange" = some 5 by kernel_rfl).symm.trans hg)
    obtain rfl := Option.some.inj ((show (Tryd.prog.globals[5]?).map (·.type) = some 101 by kernel_rfl).symm.trans ht)
    exact err_of hg hv (iface_flat ⟨_, Tryd.underlying101⟩ hd)
  have e11 : ErrAt W 4 ∧ 4 < W.heap.size := by
    obtain ⟨g, t, cs, f, p, hg, ht, hv, hd⟩ := laid_at h m11
    obtain rfl := Option.some.inj ((show Tryd.prog.globalNamed "strconv.ErrSyntax" = some 4 by kernel_rfl).symm.trans hg)
    obtain rfl := Option.some.inj ((show (Tryd.prog.globals[4]?).map (·.type) = some 101 by kernel_rfl).symm.trans ht)
    exact err_of hg hv (iface_flat ⟨_, Tryd.underlying101⟩ hd)
  exact ⟨⟨e10.1, e11.1, e10.2, e11.2⟩, e9⟩
theorem byte_cells : Tryd.prog.cellsOf 5 = 1 := by kernel_rfl
theorem byte_bytes : Tryd.prog.bytesOf 5 = 1 := by kernel_rfl
theorem byte_wf {n : Int} (h : (Lit.int .u8 n).wf = true) : 0 ≤ n ∧ n < 256 := by
  simp [Lit.wf, IntKind.min, IntKind.max, IntKind.bits, IntKind.signed] at h; omega
/-- a byte that came in -/
theorem byte_of {n : Int} (h : 0 ≤ n ∧ n < 256) : ∃ c : UInt8, (c.toNat : Int) = n := by
  refine ⟨UInt8.ofNat n.toNat, ?_⟩
  have : n.toNat < 256 := by omega
  rw [UInt8.toNat_ofNat_of_lt' (by simpa [UInt8.size] using this)]
  omega
/-- bytes that came in -/
theorem open_gaps {H : Type} {enc : TypeId × Value → H} {w : World} {base : Nat} {spare : Nat → Bool} {held : Bool} {fuel : Nat} {a : Option Addr} {len cap : Nat} {x : DataW H × List MemPlace}
    (h : DataW.trod enc Tryd.prog w base spare held fuel 22 [.slice a len cap] = some x) :
    (∃ G : Nat → Int, ∀ k, k < len → ∃ b off, a = some ⟨b, off, none⟩ ∧ w.cell? ⟨b, off + k, none⟩ = some (.int .u8 (G k)) ∧ 0 ≤ G k ∧ G k < 256) ∧ ((x.1.weights Tryd.prog 22).all (· ≤ reachBytes) = true → len ≤ 140737488351232) := by
  rcases open_ints Tryd.underlying22 Tryd.underlying5 byte_cells h with ⟨hcs, rfl⟩ | ⟨ad, len', cap', zs, hcs, _, hl, hm, hz, rfl, hcell, hwz⟩
  · simp at hcs
    obtain ⟨rfl, rfl, rfl⟩ := hcs
    exact ⟨⟨fun _ => 0, fun k hk => absurd hk (by omega)⟩, fun _ => Nat.zero_le _⟩
  · simp at hcs
    obtain ⟨rfl, rfl, rfl⟩ := hcs
    have hlz : len ≤ zs.length := by rw [hz]; split <;> omega
    refine ⟨⟨fun k => zs.getD k 0, fun k hk => ?_⟩, ?_⟩
    · obtain ⟨b, off, spot⟩ := ad
      have hs : spot = none := by simpa [Addr.add] using World.cell?_spot (hcell 0 (by omega))
      subst hs
      have hk' : k < zs.length := by omega
      have e1 := hcell k hk'
      rw [add_plain] at e1
      have e2 : zs.getD k 0 = zs[k] := by simp [List.getD, List.getElem?_eq_getElem hk']
      have := byte_wf (hwz _ (List.getElem_mem hk'))
      rw [← e2] at this
      exact ⟨b, off, rfl, e1, this.1, this.2⟩
    · intro hw
      have e : (lits (H := H) .u8 (zs.take len)).length = len := by simp [lits]; omega
      simp only [DataW.weights, Tryd.underlying22, byte_bytes, List.all_cons, Bool.and_eq_true, e] at hw
      have h2 : (len + (lits (H := H) .u8 (zs.drop len)).length) * 1 ≤ 140737488351232 := of_decide_eq_true hw.1
      omega
theorem list_of {α : Type} (P : Nat → α → Prop) : ∀ n, (∀ i, i < n → ∃ x, P i x) → ∃ l : List α, l.length = n ∧ ∀ i x, l[i]? = some x → P i x
  | 0, _ => ⟨[], rfl, fun i x h => by simp at h⟩
  | n + 1, h => by
    obtain ⟨l, hl, hp⟩ := list_of P n (fun i hi => h i (by omega))
    obtain ⟨x, hx⟩ := h n (by omega)
    refine ⟨l ++ [x], by simp [hl], fun i y hy => ?_⟩
    by_cases hi : i < n
    · rw [List.getElem?_append_left (by omega)] at hy; exact hp i y hy
    · have : i < n + 1 := by have := (List.getElem?_eq_some_iff.1 hy).1; simp [hl] at this; exact this
      obtain rfl : i = n := by omega
      rw [List.getElem?_append_right (by omega)] at hy
      simp [hl] at hy
      subst hy; exact hx
/-- bytes that came in, as a list -/
theorem open_bytes {H : Type} {enc : TypeId × Value → H} {w : World} {base : Nat} {spare : Nat → Bool} {held : Bool} {fuel : Nat} {a : Option Addr} {len cap : Nat} {x : DataW H × List MemPlace}
    (h : DataW.trod enc Tryd.prog w base spare held fuel 22 [.slice a len cap] = some x) (hw : (x.1.weights Tryd.prog 22).all (· ≤ reachBytes) = true) :
    ∃ l : List UInt8, l.length = len ∧ RestAt w.heap.size w a l ∧ len ≤ cap ∧ len ≤ 140737488351232 := by
  have hcap : len ≤ cap := by
    rcases open_ints Tryd.underlying22 Tryd.underlying5 byte_cells h with ⟨hcs, rfl⟩ | ⟨ad, len', cap', zs, hcs, _, hl, hm, hz, rfl, hcell, hwz⟩
    · simp at hcs
      obtain ⟨rfl, rfl, rfl⟩ := hcs
      exact Nat.le_refl _
    · simp at hcs
      obtain ⟨rfl, rfl, rfl⟩ := hcs
      exact hl
  obtain ⟨⟨G, hG⟩, hb⟩ := open_gaps h
  by_cases z : len = 0
  · exact ⟨[], z.symm, .inl rfl, hcap, hb hw⟩
  obtain ⟨b, off, ha, _⟩ := hG 0 (by omega)
  obtain ⟨l, hl, hp⟩ := list_of (fun i (x : UInt8) => w.cell? ⟨b, off + i, none⟩ = some (.int .u8 (x.toNat : Int))) len (fun i hi => by
    obtain ⟨b', off', ha', hc, h0, h1⟩ := hG i hi
    rw [ha] at ha'
    simp only [Option.some.injEq, Addr.mk.injEq] at ha'
    obtain ⟨rfl, rfl, _⟩ := ha'
    obtain ⟨c, hc2⟩ := byte_of ⟨h0, h1⟩
    exact ⟨c, by rw [hc, hc2]⟩)
  obtain ⟨x0, hx0⟩ : ∃ x0, l[0]? = some x0 := ⟨_, List.getElem?_eq_getElem (by omega)⟩
  have hblk : b < w.heap.size := World.block_lt_of_cell? w _ (hp 0 x0 hx0)
  exact ⟨l, hl, .inr ⟨b, off, hblk, ha, hp⟩, hcap, hb hw⟩
theorem tk_cells : Tryd.prog.cellsOf 36 = 4 := by kernel_rfl
theorem tk_bytes : Tryd.prog.bytesOf 36 = 40 := by kernel_rfl
theorem int_cells : Tryd.prog.cellsOf 3 = 1 := by kernel_rfl
theorem u64_cells : Tryd.prog.cellsOf 34 = 1 := by kernel_rfl
theorem str_cells : Tryd.prog.cellsOf 9 = 1 := by kernel_rfl
theorem u64_wf {n : Int} (h : (Lit.int .u64 n).wf = true) : 0 ≤ n ∧ n < 18446744073709551616 := by
  simp [Lit.wf, IntKind.min, IntKind.max, IntKind.bits, IntKind.signed] at h; omega
theorem weights_mem {H : Type} {P : Program} {e : TypeId} {p : Nat → Bool} : ∀ {l : List (DataW H)}, (DataW.weightsAll P e l).all p = true → ∀ d ∈ l, (d.weights P e).all p = true
  | [], _, d, hd => by cases hd
  | x :: r, h, d, hd => by
    have h' : (x.weights P e ++ DataW.weightsAll P e r).all p = true := h
    rw [List.all_append, Bool.and_eq_true] at h'
    rcases List.mem_cons.1 hd with rfl | hd
    · exact h'.1
    · exact weights_mem h'.2 d hd
set_option maxRecDepth 20000 in
/-- tokens that came in -/
theorem open_tks {H : Type} {enc : TypeId × Value → H} {w : World} {base : Nat} {spare : Nat → Bool} {held : Bool} {fuel : Nat} {a : Option Addr} {len cap : Nat} {x : DataW H × List MemPlace}
    (h : DataW.trod enc Tryd.prog w base spare held fuel 30 [.slice a len cap] = some x) (hw : (x.1.weights Tryd.prog 30).all (· ≤ reachBytes) = true) : ∃ ts : List Tk, ts.length = len ∧ TksAt w a ts ∧ NumsOk ts ∧ len ≤ cap ∧ len ≤ 3518437208780 := by
  rcases open_slice Tryd.underlying30 h with ⟨hcs, rfl⟩ | ⟨ad, l, c, m, n, D, Pl, hcs, hb, hl, hm, hmm, rfl, hx⟩
  · simp at hcs
    obtain ⟨rfl, rfl, rfl⟩ := hcs
    exact ⟨[], rfl, .inl rfl, fun x hx => (by cases hx), Nat.le_refl _, Nat.zero_le _⟩
  · simp at hcs
    obtain ⟨rfl, rfl, rfl⟩ := hcs
    simp only [DataW.weights, Tryd.underlying30, tk_bytes, List.all_cons, List.all_append, Bool.and_eq_true, List.length_map, List.length_range] at hw
    have hwl : (len + (m - len)) * 40 ≤ 140737488351232 := of_decide_eq_true hw.1
    have hwe := hw.2.1
    by_cases z : len = 0
    · subst z; exact ⟨[], rfl, .inl rfl, fun x hx => (by cases hx), hl, by omega⟩
    have hlm : len ≤ m := by rw [hmm]; split <;> omega
    obtain ⟨b, off, spot⟩ := ad
    have hs : spot = none := by
      obtain ⟨cs', h1, h2⟩ := hx 0 (by omega)
      simp only [tk_cells] at h1
      obtain ⟨_, hlen, hcell⟩ := World.cells?_some h1
      match cs', hlen with
      | [v0, v1, v2, v3], _ =>
        have e0 : w.cell? (((⟨b, off, spot⟩ : Addr).add (0 * 4)).add 0) = some v0 := hcell 0 (by simp)
        simpa [Addr.add] using World.cell?_spot e0
    subst hs
    have key : ∀ i, i < len → ∃ x : Tk, (w.cell? ⟨b, off + i * 4, none⟩ = some (.int .i64 x.k) ∧ w.cell? ⟨b, off + i * 4 + 1, none⟩ = some (.string ⟨x.t.toArray⟩) ∧
        w.cell? ⟨b, off + i * 4 + 2, none⟩ = some (.int .u64 x.n) ∧ w.cell? ⟨b, off + i * 4 + 3, none⟩ = some (.int .i64 x.l)) ∧ (0 ≤ x.n ∧ x.n < 18446744073709551616 ∧ x.t.length ≤ 140737488355328) := by
      intro i hi
      obtain ⟨cs', h1, h2⟩ := hx i (by omega)
      simp only [tk_cells] at h1
      obtain ⟨_, hlen, hcell⟩ := World.cells?_some h1
      have hwi := weights_mem hwe (D i) (List.mem_map.2 ⟨i, List.mem_range.2 hi, rfl⟩)
      obtain ⟨xs, k, hk, hxy, _, hxl, hf⟩ := DataW.trod_struct Tryd.underlying36 h2
      match xs, hxl, cs', hlen with
      | [y0, y1, y2, y3], _, [v0, v1, v2, v3], _ =>
        have g0 := hf 0 _ rfl
        have g1 := hf 1 _ rfl
        have g2 := hf 2 _ rfl
        have g3 := hf 3 _ rfl
        simp [int_cells, u64_cells, str_cells] at g0 g1 g2 g3
        obtain ⟨A, r0, _, _⟩ := DataW.trod_int Tryd.underlying3 g0
        obtain ⟨B, r1, q1, _⟩ := DataW.trod_string Tryd.underlying9 g1
        obtain ⟨C, r2, _, wf⟩ := DataW.trod_int Tryd.underlying34 g2
        obtain ⟨E, r3, _, _⟩ := DataW.trod_int Tryd.underlying3 g3
        have e0 := hcell 0 (by simp)
        have e1 := hcell 1 (by simp)
        have e2 := hcell 2 (by simp)
        have e3 := hcell 3 (by simp)
        simp at r0 r1 r2 r3
        subst r0 r1 r2 r3
        simp only [add_plain] at e0 e1 e2 e3
        simp at e0 e1 e2 e3
        have hB : B.data.toList.length ≤ 140737488351232 := by
          simp only [Prod.mk.injEq] at hxy
          rw [hxy.1] at hwi
          simp only [List.map_cons, List.map_nil, DataW.weights, Tryd.underlying36, DataW.weightsEach, List.all_append, Bool.and_eq_true] at hwi
          have h1 := hwi.2.1
          rw [q1] at h1
          simp only [DataW.weights, List.all_cons, Bool.and_eq_true] at h1
          exact of_decide_eq_true h1.1
        exact ⟨⟨A, B.data.toList, C, E⟩, ⟨e0, by simpa using e1, e2, e3⟩, (u64_wf wf).1, (u64_wf wf).2, by simp only; omega⟩
    obtain ⟨l, hl1, hp⟩ := list_of _ len key
    refine ⟨l, hl1, .inr ⟨b, off, rfl, fun k x hx => (hp k x hx).1⟩, fun x hx => ?_, hl, by omega⟩
    obtain ⟨k, hk, e⟩ := List.getElem_of_mem hx
    exact (hp k x (by rw [List.getElem?_eq_getElem hk, e])).2
end Go.Proofs.YtfhmhdhaibmcfaaDoor
