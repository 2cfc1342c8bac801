import Derived.Test.YtkihaohdcgjioaaGreatDoorGp34
import Derived.Test.YtkihaohdcgjioaaGreatDoorRows
import Derived.WalkKit
import Derived.ProofKit
import Derived.OpenShut
import Derived.ChangeOld
import Derived.LaidMore
import Derived.Lib.LaidTab
import Derived.Deep.Slices
import Derived.ChangeSlices
import Derived.Test.YtkihaohdcgjioaaGreatDoorGp32
import Derived.Test.YtkihaohdcgjioaaGreatDoorGp35
import Derived.Test.YtkihaohdcgjioaaGreatDoorGp10
import Derived.Test.YtkihaohdcgjioaaGreatDoorGp37
import Derived.Test.YtkihaohdcgjioaaGreatDoorGp38
namespace Go.Proofs.YtkihaohdcgjioaaGreatDoor.Lx
open Go.ChangeShapes Go.WideShapes Go.ChangeAt Go.RowKit Go.Deep
set_option linter.unusedVariables false
set_option linter.unusedSimpArgs false
theorem laid_at {P : Program} {W : World} {n : String} {D : DataW Unit} : ∀ {laid : List (String × DataW Unit)} {ps : List MemPlace}, DataW.LaidVars P W laid ps → (n, D) ∈ laid →
    ∃ g t cs fuel p, P.globalNamed n = some g ∧ (P.globals[g]?).map (·.type) = some t ∧ W.var? P n = some cs ∧ DataW.trod (fun _ => ()) P W 0 (fun _ => true) false fuel t cs.toList = some (D, p)
  | [], _, h, hm => by cases hm
  | (m, E) :: L, ps, h, hm => by
    obtain ⟨g, t, cs, f, p, q, hg, ht, hv, hd, hr, _⟩ := h
    rcases List.mem_cons.1 hm with e | hm'
    · cases e
      exact ⟨g, t, cs, f, p, hg, ht, hv, hd⟩
    · exact laid_at hr hm'
theorem arr_flat {H : Type} {enc : TypeId × Value → H} {P : Program} {W : World} {base : Nat} {sp : Nat → Bool} {held : Bool} {fuel : Nat} {t e : TypeId} {n c : Nat} {cs : List Value} {ds : List (DataW H)} {p : List MemPlace}
    (ht : P.underlying t = some (.array n e)) (hc : P.cellsOf e = c) (hcl : P.cellsOf t = n * c) (F : DataW H → List Value)
    (hF : ∀ m cs d p, DataW.trod enc P W base sp held m e cs = some (d, p) → cs = F d)
    (h : DataW.trod enc P W base sp held fuel t cs = some (.agg ds, p)) : cs = ds.flatMap F := by
  obtain ⟨xs, m, rfl, hx, hlen, hxl, hel⟩ := DataW.trod_array ht h
  simp only [Prod.mk.injEq, DataW.agg.injEq] at hx
  obtain ⟨hds, _⟩ := hx
  rw [hc] at hel
  rw [hcl] at hlen
  have key : ∀ (n : Nat) (cs : List Value) (xs : List (DataW H × List MemPlace)), cs.length = n * c → xs.length = n → (∀ i, i < n → DataW.trod enc P W base sp held m e ((cs.drop (i * c)).take c) = xs[i]?) → cs = (xs.map (·.1)).flatMap F := by
    intro n
    induction n with
    | zero =>
      intro cs xs h1 h2 _
      rw [Nat.zero_mul] at h1
      rw [List.length_eq_zero_iff.1 h1, List.length_eq_zero_iff.1 h2]
      rfl
    | succ n ih =>
      intro cs xs h1 h2 h3
      cases xs with
      | nil => simp at h2
      | cons x xs =>
        have e0 := h3 0 (by omega)
        simp only [Nat.zero_mul, List.drop_zero, List.getElem?_cons_zero] at e0
        have e1 := hF m _ x.1 x.2 e0
        have e2 := ih (cs.drop c) xs (by rw [List.length_drop, h1, Nat.succ_mul]; omega) (by simpa using h2) (fun i hi => by
          have := h3 (i + 1) (by omega)
          rw [List.getElem?_cons_succ] at this
          rw [List.drop_drop, show c + i * c = (i + 1) * c from by rw [Nat.succ_mul]; omega]
          exact this)
        simp only [List.map_cons, List.flatMap_cons]
        rw [← e1, ← e2, List.take_append_drop]
  rw [hds]
  exact key n cs xs hlen hxl hel
def fI {H : Type} : DataW H → List Value
  | .lit (.int k n) => [.int k n]
  | _ => []
theorem int_flat {H : Type} {enc : TypeId × Value → H} {P : Program} {W : World} {base : Nat} {sp : Nat → Bool} {held : Bool} {t : TypeId} {k : IntKind} (ht : P.underlying t = some (.int k)) (m : Nat) (cs : List Value) (d : DataW H) (p : List MemPlace) (h : DataW.trod enc P W base sp held m t cs = some (d, p)) : cs = fI d := by
  obtain ⟨n, hs, hx, _⟩ := DataW.trod_int ht h
  simp only [Prod.mk.injEq] at hx
  rw [hs, hx.1]
  rfl
theorem range_of {W : World} {P : Program} {n : String} {g : Nat} {cs : Array Value} {vs : List Value} (hg : P.globalNamed n = some g) (hv : W.var? P n = some cs) (h : cs.toList = vs) : W.rangeAt g 0 vs := fun j v hj => by
  have := World.var?_cell hg hv j
  rw [Nat.zero_add]
  rw [this, ← hj, ← h]
  simp
theorem iface_flat {H : Type} {enc : TypeId × Value → H} {P : Program} {W : World} {base : Nat} {sp : Nat → Bool} {held : Bool} {fuel : Nat} {t : TypeId} {cs : List Value} {x : DataW H × List MemPlace} (ht : ∃ z, P.underlying t = some (.interface z)) (h : DataW.trod enc P W base sp held fuel t cs = some x) : cs = [.nilIface] ∨ ∃ u v, cs = [.iface u v] := by
  obtain ⟨z, ht⟩ := ht
  cases fuel with
  | zero => simp [DataW.trod] at h
  | succ n =>
    unfold DataW.trod at h
    rw [ht] at h
    split at h <;> simp_all
theorem pow_of {W : World} {fuel : Nat} {enc : TypeId × Value → Unit} {sp : Nat → Bool} {held : Bool} {cs : List Value} {p : List MemPlace} (h : DataW.trod enc Tryz.prog W 0 sp held fuel 259 cs = some (Rows.laid_internal_strconv_uint64pow10, p)) : cs = Lib.pow10Tab.map (fun z => Value.int .u64 z) :=
  (arr_flat (c := 1) Tryz.underlying259 (by kernel_rfl) (by kernel_rfl) fI (int_flat Tryz.underlying115) h).trans (by rfl)
theorem err_of {W : World} {g : Nat} {cs : Array Value} {n : String} (hg : Tryz.prog.globalNamed n = some g) (hv : W.var? Tryz.prog n = some cs) (hc : cs.toList = [.nilIface] ∨ ∃ u v, cs.toList = [.iface u v]) : ErrAt W g ∧ g < W.heap.size := by
  rcases hc with hc | ⟨u, v, hc⟩
  · have h1 : W.cell? ⟨g, 0, none⟩ = some .nilIface := by have := range_of hg hv hc 0 .nilIface rfl; rwa [Nat.zero_add] at this
    exact ⟨⟨_, h1, .inl rfl⟩, World.block_lt_of_cell? W _ h1⟩
  · have h1 : W.cell? ⟨g, 0, none⟩ = some (.iface u v) := by have := range_of hg hv hc 0 (.iface u v) rfl; rwa [Nat.zero_add] at this
    exact ⟨⟨_, h1, .inr ⟨u, v, rfl⟩⟩, World.block_lt_of_cell? W _ h1⟩
/-- all that the calls lean on, off the listed variables -/
theorem env_of {W : World} (laid : List (String × DataW Unit)) (hp : (laid.all fun x => x.2.handleName?.isNone) = true) (h : laidMetH Tryz.prog laid W)
    (m9 : ("internal/strconv.uint64pow10", Rows.laid_internal_strconv_uint64pow10) ∈ laid) (m10 : ("strconv.ErrRange", Rows.laid_strconv_ErrRange) ∈ laid) (m11 : ("strconv.ErrSyntax", Rows.laid_strconv_ErrSyntax) ∈ laid) : LEnv W := by
  rw [MakeChecks.laidMetH_plain _ _ _ hp] at h
  obtain ⟨ps, h, _, _⟩ := h
  have e9 : Pow W := by
    obtain ⟨g, t, cs, f, p, hg, ht, hv, hd⟩ := laid_at h m9
    obtain rfl := Option.some.inj ((show Tryz.prog.globalNamed "internal/strconv.uint64pow10" = some 8 by kernel_rfl).symm.trans hg)
    obtain rfl := Option.some.inj ((show (Tryz.prog.globals[8]?).map (·.type) = some 259 by kernel_rfl).symm.trans ht)
    unfold Pow Lib.TabIs
    rw [hv, ← pow_of hd]
  have e10 : ErrAt W 13 ∧ 13 < W.heap.size := by
    obtain ⟨g, t, cs, f, p, hg, ht, hv, hd⟩ := laid_at h m10
    obtain rfl := Option.some.inj ((show Tryz.prog.globalNamed "strconv.ErrRange" = some 13 by kernel_rfl).symm.trans hg)
    obtain rfl := Option.some.inj ((show (Tryz.prog.globals[13]?).map (·.type) = some 104 by kernel_rfl).symm.trans ht)
    exact err_of hg hv (iface_flat ⟨_, Tryz.underlying104⟩ hd)
  have e11 : ErrAt W 12 ∧ 12 < W.heap.size := by
    obtain ⟨g, t, cs, f, p, hg, ht, hv, hd⟩ := laid_at h m11
    obtain rfl := Option.some.inj ((show Tryz.prog.globalNamed "strconv.ErrSyntax" = some 12 by kernel_rfl).symm.trans hg)
    obtain rfl := Option.some.inj ((show (Tryz.prog.globals[12]?).map (·.type) = some 104 by kernel_rfl).symm.trans ht)
    exact err_of hg hv (iface_flat ⟨_, Tryz.underlying104⟩ hd)
  exact ⟨⟨e10.1, e11.1, e10.2, e11.2⟩, e9⟩
theorem byte_cells : Tryz.prog.cellsOf 5 = 1 := by kernel_rfl
theorem byte_bytes : Tryz.prog.bytesOf 5 = 1 := by kernel_rfl
theorem byte_wf {n : Int} (h : (Lit.int .u8 n).wf = true) : 0 ≤ n ∧ n < 256 := by
  simp [Lit.wf, IntKind.min, IntKind.max, IntKind.bits, IntKind.signed] at h; omega
/-- a byte that came in -/
theorem byte_of {n : Int} (h : 0 ≤ n ∧ n < 256) : ∃ c : UInt8, (c.toNat : Int) = n := by
  refine ⟨UInt8.ofNat n.toNat, ?_⟩
  have : n.toNat < 256 := by omega
  rw [UInt8.toNat_ofNat_of_lt' (by simpa [UInt8.size] using this)]
  omega
/-- bytes that came in -/
theorem open_gaps {H : Type} {enc : TypeId × Value → H} {w : World} {base : Nat} {spare : Nat → Bool} {held : Bool} {fuel : Nat} {a : Option Addr} {len cap : Nat} {x : DataW H × List MemPlace}
    (h : DataW.trod enc Tryz.prog w base spare held fuel 24 [.slice a len cap] = some x) :
    (∃ G : Nat → Int, ∀ k, k < len → ∃ b off, a = some ⟨b, off, none⟩ ∧ w.cell? ⟨b, off + k, none⟩ = some (.int .u8 (G k)) ∧ 0 ≤ G k ∧ G k < 256) ∧ ((x.1.weights Tryz.prog 24).all (· ≤ reachBytes) = true → len ≤ 140737488351232) := by
  rcases open_ints Tryz.underlying24 Tryz.underlying5 byte_cells h with ⟨hcs, rfl⟩ | ⟨ad, len', cap', zs, hcs, _, hl, hm, hz, rfl, hcell, hwz⟩
  · simp at hcs
    obtain ⟨rfl, rfl, rfl⟩ := hcs
    exact ⟨⟨fun _ => 0, fun k hk => absurd hk (by omega)⟩, fun _ => Nat.zero_le _⟩
  · simp at hcs
    obtain ⟨rfl, rfl, rfl⟩ := hcs
    have hlz : len ≤ zs.length := by rw [hz]; split <;> omega
    refine ⟨⟨fun k => zs.getD k 0, fun k hk => ?_⟩, ?_⟩
    · obtain ⟨b, off, spot⟩ := ad
      have hs : spot = none := by simpa [Addr.add] using World.cell?_spot (hcell 0 (by omega))
      subst hs
      have hk' : k < zs.length := by omega
      have e1 := hcell k hk'
      rw [add_plain] at e1
      have e2 : zs.getD k 0 = zs[k] := by simp [List.getD, List.getElem?_eq_getElem hk']
      have := byte_wf (hwz _ (List.getElem_mem hk'))
      rw [← e2] at this
      exact ⟨b, off, rfl, e1, this.1, this.2⟩
    · intro hw
      have e : (lits (H := H) .u8 (zs.take len)).length = len := by simp [lits]; omega
      simp only [DataW.weights, Tryz.underlying24, byte_bytes, List.all_cons, Bool.and_eq_true, e] at hw
      have h2 : (len + (lits (H := H) .u8 (zs.drop len)).length) * 1 ≤ 140737488351232 := of_decide_eq_true hw.1
      omega
theorem list_of {α : Type} (P : Nat → α → Prop) : ∀ n, (∀ i, i < n → ∃ x, P i x) → ∃ l : List α, l.length = n ∧ ∀ i x, l[i]? = some x → P i x
  | 0, _ => ⟨[], rfl, fun i x h => by simp at h⟩
  | n + 1, h => by
    obtain ⟨l, hl, hp⟩ := list_of P n (fun i hi => h i (by omega))
    obtain ⟨x, hx⟩ := h n (by omega)
    refine ⟨l ++ [x], by simp [hl], fun i y hy => ?_⟩
    by_cases hi : i < n
    · rw [List.getElem?_append_left (by omega)] at hy; exact hp i y hy
    · have : i < n + 1 := by have := (List.getElem?_eq_some_iff.1 hy).1; simp [hl] at this; exact this
      obtain rfl : i = n := by omega
      rw [List.getElem?_append_right (by omega)] at hy
      simp [hl] at hy
      subst hy; exact hx
/-- bytes that came in, as a list -/
theorem open_bytes {H : Type} {enc : TypeId × Value → H} {w : World} {base : Nat} {spare : Nat → Bool} {held : Bool} {fuel : Nat} {a : Option Addr} {len cap : Nat} {x : DataW H × List MemPlace}
    (h : DataW.trod enc Tryz.prog w base spare held fuel 24 [.slice a len cap] = some x) (hw : (x.1.weights Tryz.prog 24).all (· ≤ reachBytes) = true) :
    ∃ l : List UInt8, l.length = len ∧ RestAt w.heap.size w a l ∧ len ≤ cap ∧ len ≤ 140737488351232 := by
  have hcap : len ≤ cap := by
    rcases open_ints Tryz.underlying24 Tryz.underlying5 byte_cells h with ⟨hcs, rfl⟩ | ⟨ad, len', cap', zs, hcs, _, hl, hm, hz, rfl, hcell, hwz⟩
    · simp at hcs
      obtain ⟨rfl, rfl, rfl⟩ := hcs
      exact Nat.le_refl _
    · simp at hcs
      obtain ⟨rfl, rfl, rfl⟩ := hcs
      exact hl
  obtain ⟨⟨G, hG⟩, hb⟩ := open_gaps h
  by_cases z : len = 0
  · exact ⟨[], z.symm, .inl rfl, hcap, hb hw⟩
  obtain ⟨b, off, ha, _⟩ := hG 0 (by omega)
  obtain ⟨l, hl, hp⟩ := list_of (fun i (x : UInt8) => w.cell? ⟨b, off + i, none⟩ = some (.int .u8 (x.toNat : Int))) len (fun i hi => by
    obtain ⟨b', off', ha', hc, h0, h1⟩ := hG i hi
    rw [ha] at ha'
    simp only [Option.some.injEq, Addr.mk.injEq] at ha'
    obtain ⟨rfl, rfl, _⟩ := ha'
    obtain ⟨c, hc2⟩ := byte_of ⟨h0, h1⟩
    exact ⟨c, by rw [hc, hc2]⟩)
  obtain ⟨x0, hx0⟩ : ∃ x0, l[0]? = some x0 := ⟨_, List.getElem?_eq_getElem (by omega)⟩
  have hblk : b < w.heap.size := World.block_lt_of_cell? w _ (hp 0 x0 hx0)
  exact ⟨l, hl, .inr ⟨b, off, hblk, ha, hp⟩, hcap, hb hw⟩
theorem tk_cells : Tryz.prog.cellsOf 117 = 4 := by kernel_rfl
theorem tk_bytes : Tryz.prog.bytesOf 117 = 40 := by kernel_rfl
theorem int_cells : Tryz.prog.cellsOf 3 = 1 := by kernel_rfl
theorem u64_cells : Tryz.prog.cellsOf 115 = 1 := by kernel_rfl
theorem str_cells : Tryz.prog.cellsOf 9 = 1 := by kernel_rfl
theorem u64_wf {n : Int} (h : (Lit.int .u64 n).wf = true) : 0 ≤ n ∧ n < 18446744073709551616 := by
  simp [Lit.wf, IntKind.min, IntKind.max, IntKind.bits, IntKind.signed] at h; omega
theorem weights_mem {H : Type} {P : Program} {e : TypeId} {p : Nat → Bool} : ∀ {l : List (DataW H)}, (DataW.weightsAll P e l).all p = true → ∀ d ∈ l, (d.weights P e).all p = true
  | [], _, d, hd => by cases hd
  | x :: r, h, d, hd => by
    have h' : (x.weights P e ++ DataW.weightsAll P e r).all p = true := h
    rw [List.all_append, Bool.and_eq_true] at h'
    rcases List.mem_cons.1 hd with rfl | hd
    · exact h'.1
    · exact weights_mem h'.2 d hd
set_option maxRecDepth 20000 in
/-- tokens that came in -/
theorem open_tks {H : Type} {enc : TypeId × Value → H} {w : World} {base : Nat} {spare : Nat → Bool} {held : Bool} {fuel : Nat} {a : Option Addr} {len cap : Nat} {x : DataW H × List MemPlace}
    (h : DataW.trod enc Tryz.prog w base spare held fuel 65 [.slice a len cap] = some x) (hw : (x.1.weights Tryz.prog 65).all (· ≤ reachBytes) = true) : ∃ ts : List Tk, ts.length = len ∧ TksAt w a ts ∧ NumsOk ts ∧ len ≤ cap ∧ len ≤ 3518437208780 := by
  rcases open_slice Tryz.underlying65 h with ⟨hcs, rfl⟩ | ⟨ad, l, c, m, n, D, Pl, hcs, hb, hl, hm, hmm, rfl, hx⟩
  · simp at hcs
    obtain ⟨rfl, rfl, rfl⟩ := hcs
    exact ⟨[], rfl, .inl rfl, fun x hx => (by cases hx), Nat.le_refl _, Nat.zero_le _⟩
  · simp at hcs
    obtain ⟨rfl, rfl, rfl⟩ := hcs
    simp only [DataW.weights, Tryz.underlying65, tk_bytes, List.all_cons, List.all_append, Bool.and_eq_true, List.length_map, List.length_range] at hw
    have hwl : (len + (m - len)) * 40 ≤ 140737488351232 := of_decide_eq_true hw.1
    have hwe := hw.2.1
    by_cases z : len = 0
    · subst z; exact ⟨[], rfl, .inl rfl, fun x hx => (by cases hx), hl, by omega⟩
    have hlm : len ≤ m := by rw [hmm]; split <;> omega
    obtain ⟨b, off, spot⟩ := ad
    have hs : spot = none := by
      obtain ⟨cs', h1, h2⟩ := hx 0 (by omega)
      simp only [tk_cells] at h1
      obtain ⟨_, hlen, hcell⟩ := World.cells?_some h1
      match cs', hlen with
      | [v0, v1, v2, v3], _ =>
        have e0 : w.cell? (((⟨b, off, spot⟩ : Addr).add (0 * 4)).add 0) = some v0 := hcell 0 (by simp)
        simpa [Addr.add] using World.cell?_spot e0
    subst hs
    have key : ∀ i, i < len → ∃ x : Tk, (w.cell? ⟨b, off + i * 4, none⟩ = some (.int .i64 x.k) ∧ w.cell? ⟨b, off + i * 4 + 1, none⟩ = some (.string ⟨x.t.toArray⟩) ∧
        w.cell? ⟨b, off + i * 4 + 2, none⟩ = some (.int .u64 x.n) ∧ w.cell? ⟨b, off + i * 4 + 3, none⟩ = some (.int .i64 x.l)) ∧ (0 ≤ x.n ∧ x.n < 18446744073709551616 ∧ x.t.length ≤ 140737488355328) := by
      intro i hi
      obtain ⟨cs', h1, h2⟩ := hx i (by omega)
      simp only [tk_cells] at h1
      obtain ⟨_, hlen, hcell⟩ := World.cells?_some h1
      have hwi := weights_mem hwe (D i) (List.mem_map.2 ⟨i, List.mem_range.2 hi, rfl⟩)
      obtain ⟨xs, k, hk, hxy, _, hxl, hf⟩ := DataW.trod_struct Tryz.underlying117 h2
      match xs, hxl, cs', hlen with
      | [y0, y1, y2, y3], _, [v0, v1, v2, v3], _ =>
        have g0 := hf 0 _ rfl
        have g1 := hf 1 _ rfl
        have g2 := hf 2 _ rfl
        have g3 := hf 3 _ rfl
        simp [int_cells, u64_cells, str_cells] at g0 g1 g2 g3
        obtain ⟨A, r0, _, _⟩ := DataW.trod_int Tryz.underlying3 g0
        obtain ⟨B, r1, q1, _⟩ := DataW.trod_string Tryz.underlying9 g1
        obtain ⟨C, r2, _, wf⟩ := DataW.trod_int Tryz.underlying115 g2
        obtain ⟨E, r3, _, _⟩ := DataW.trod_int Tryz.underlying3 g3
        have e0 := hcell 0 (by simp)
        have e1 := hcell 1 (by simp)
        have e2 := hcell 2 (by simp)
        have e3 := hcell 3 (by simp)
        simp at r0 r1 r2 r3
        subst r0 r1 r2 r3
        simp only [add_plain] at e0 e1 e2 e3
        simp at e0 e1 e2 e3
        have hB : B.data.toList.length ≤ 140737488351232 := by
          simp only [Prod.mk.injEq] at hxy
          rw [hxy.1] at hwi
          simp only [List.map_cons, List.map_nil, DataW.weights, Tryz.underlying117, DataW.weightsEach, List.all_append, Bool.and_eq_true] at hwi
          have h1 := hwi.2.1
          rw [q1] at h1
          simp only [DataW.weights, List.all_cons, Bool.and_eq_true] at h1
          exact of_decide_eq_true h1.1
        exact ⟨⟨A, B.data.toList, C, E⟩, ⟨e0, by simpa using e1, e2, e3⟩, (u64_wf wf).1, (u64_wf wf).2, by simp only; omega⟩
    obtain ⟨l, hl1, hp⟩ := list_of _ len key
    refine ⟨l, hl1, .inr ⟨b, off, rfl, fun k x hx => (hp k x hx).1⟩, fun x hx => ?_, hl, by omega⟩
    obtain ⟨k, hk, e⟩ := List.getElem_of_mem hx
    exact (hp k x (by rw [List.getElem?_eq_getElem hk, e])).2
end Go.Proofs.YtkihaohdcgjioaaGreatDoor.Lx
namespace Go.Proofs.YtkihaohdcgjioaaGreatDoor
open Go.RowKit Go.ChangeShapes Go.WideShapes Go.ChangeAt
set_option linter.unusedVariables false
set_option linter.unusedSimpArgs false
/-- what a listed variable holds -/
theorem laid_at {P : Program} {W : World} {n : String} {D : DataW Unit} : ∀ {laid : List (String × DataW Unit)} {ps : List MemPlace}, DataW.LaidVars P W laid ps → (n, D) ∈ laid →
    ∃ g t cs fuel p, P.globalNamed n = some g ∧ (P.globals[g]?).map (·.type) = some t ∧ W.var? P n = some cs ∧ DataW.trod (fun _ => ()) P W 0 (fun _ => true) false fuel t cs.toList = some (D, p)
  | [], _, h, hm => by cases hm
  | (m, E) :: L, ps, h, hm => by
    obtain ⟨g, t, cs, f, p, q, hg, ht, hv, hd, hr, _⟩ := h
    rcases List.mem_cons.1 hm with e | hm'
    · cases e
      exact ⟨g, t, cs, f, p, hg, ht, hv, hd⟩
    · exact laid_at hr hm'
/-- a table of literals is the row of its cells -/
theorem arr_flat {H : Type} {enc : TypeId × Value → H} {P : Program} {W : World} {base : Nat} {sp : Nat → Bool} {held : Bool} {fuel : Nat} {t e : TypeId} {n c : Nat} {cs : List Value} {ds : List (DataW H)} {p : List MemPlace}
    (ht : P.underlying t = some (.array n e)) (hc : P.cellsOf e = c) (hcl : P.cellsOf t = n * c) (F : DataW H → List Value)
    (hF : ∀ m cs d p, DataW.trod enc P W base sp held m e cs = some (d, p) → cs = F d)
    (h : DataW.trod enc P W base sp held fuel t cs = some (.agg ds, p)) : cs = ds.flatMap F := by
  obtain ⟨xs, m, rfl, hx, hlen, hxl, hel⟩ := DataW.trod_array ht h
  simp only [Prod.mk.injEq, DataW.agg.injEq] at hx
  obtain ⟨hds, _⟩ := hx
  rw [hc] at hel
  rw [hcl] at hlen
  have key : ∀ (n : Nat) (cs : List Value) (xs : List (DataW H × List MemPlace)), cs.length = n * c → xs.length = n → (∀ i, i < n → DataW.trod enc P W base sp held m e ((cs.drop (i * c)).take c) = xs[i]?) → cs = (xs.map (·.1)).flatMap F := by
    intro n
    induction n with
    | zero =>
      intro cs xs h1 h2 _
      rw [Nat.zero_mul] at h1
      rw [List.length_eq_zero_iff.1 h1, List.length_eq_zero_iff.1 h2]
      rfl
    | succ n ih =>
      intro cs xs h1 h2 h3
      cases xs with
      | nil => simp at h2
      | cons x xs =>
        have e0 := h3 0 (by omega)
        simp only [Nat.zero_mul, List.drop_zero, List.getElem?_cons_zero] at e0
        have e1 := hF m _ x.1 x.2 e0
        have e2 := ih (cs.drop c) xs (by rw [List.length_drop, h1, Nat.succ_mul]; omega) (by simpa using h2) (fun i hi => by
          have := h3 (i + 1) (by omega)
          rw [List.getElem?_cons_succ] at this
          rw [List.drop_drop, show c + i * c = (i + 1) * c from by rw [Nat.succ_mul]; omega]
          exact this)
        simp only [List.map_cons, List.flatMap_cons]
        rw [← e1, ← e2, List.take_append_drop]
  rw [hds]
  exact key n cs xs hlen hxl hel
def fS {H : Type} : DataW H → List Value
  | .lit (.string l) => [.string ⟨l.toArray⟩]
  | _ => []
def fI {H : Type} : DataW H → List Value
  | .lit (.int k n) => [.int k n]
  | _ => []
theorem str_flat {H : Type} {enc : TypeId × Value → H} {P : Program} {W : World} {base : Nat} {sp : Nat → Bool} {held : Bool} {t : TypeId} (ht : P.underlying t = some .string) (m : Nat) (cs : List Value) (d : DataW H) (p : List MemPlace) (h : DataW.trod enc P W base sp held m t cs = some (d, p)) : cs = fS d := by
  obtain ⟨s, hs, hx, _⟩ := DataW.trod_string ht h
  simp only [Prod.mk.injEq] at hx
  rw [hs, hx.1]
  simp [fS]
theorem int_flat {H : Type} {enc : TypeId × Value → H} {P : Program} {W : World} {base : Nat} {sp : Nat → Bool} {held : Bool} {t : TypeId} {k : IntKind} (ht : P.underlying t = some (.int k)) (m : Nat) (cs : List Value) (d : DataW H) (p : List MemPlace) (h : DataW.trod enc P W base sp held m t cs = some (d, p)) : cs = fI d := by
  obtain ⟨n, hs, hx, _⟩ := DataW.trod_int ht h
  simp only [Prod.mk.injEq] at hx
  rw [hs, hx.1]
  rfl
/-- an array within a table -/
def fA {H : Type} (F : DataW H → List Value) : DataW H → List Value
  | .agg ds => ds.flatMap F
  | _ => []
theorem agg_flat {H : Type} {enc : TypeId × Value → H} {P : Program} {W : World} {base : Nat} {sp : Nat → Bool} {held : Bool} {t e : TypeId} {n c : Nat}
    (ht : P.underlying t = some (.array n e)) (hc : P.cellsOf e = c) (hcl : P.cellsOf t = n * c) (F : DataW H → List Value)
    (hF : ∀ m cs d p, DataW.trod enc P W base sp held m e cs = some (d, p) → cs = F d) (m : Nat) (cs : List Value) (d : DataW H) (p : List MemPlace) (h : DataW.trod enc P W base sp held m t cs = some (d, p)) : cs = fA F d := by
  obtain ⟨xs, q, rfl, hx, _⟩ := DataW.trod_array ht h
  simp only [Prod.mk.injEq] at hx
  obtain ⟨rfl, rfl⟩ := hx
  exact arr_flat ht hc hcl F hF h
/-- a struct of three one-cell fields, and one of a cell and four -/
def f3 {H : Type} : DataW H → List Value
  | .agg [a, b, c] => fI a ++ fI b ++ fS c
  | _ => []
def f2 {H : Type} : DataW H → List Value
  | .agg [a, b] => fI a ++ fA fS b
  | _ => []
theorem row3_flat {H : Type} {enc : TypeId × Value → H} {P : Program} {W : World} {base : Nat} {sp : Nat → Bool} {held : Bool} {t a b c : TypeId} {ka kb : IntKind} {n0 n1 n2 : Field}
    (ht : P.underlying t = some (.struct #[n0, n1, n2])) (hn0 : n0.type = a ∧ n0.offset = 0) (hn1 : n1.type = b ∧ n1.offset = 1) (hn2 : n2.type = c ∧ n2.offset = 2) (ha : P.underlying a = some (.int ka)) (hb : P.underlying b = some (.int kb)) (hc : P.underlying c = some .string)
    (za : P.cellsOf a = 1) (zb : P.cellsOf b = 1) (zc : P.cellsOf c = 1) (zt : P.cellsOf t = 3) (m : Nat) (cs : List Value) (d : DataW H) (p : List MemPlace) (h : DataW.trod enc P W base sp held m t cs = some (d, p)) : cs = f3 d := by
  obtain ⟨xs, q, rfl, hx, hlen, hxl, hel⟩ := DataW.trod_struct ht h
  rw [zt] at hlen
  have e0 := hel 0 n0 rfl
  have e1 := hel 1 n1 rfl
  have e2 := hel 2 n2 rfl
  rw [hn0.1, hn0.2, za] at e0
  rw [hn1.1, hn1.2, zb] at e1
  rw [hn2.1, hn2.2, zc] at e2
  match cs, hlen with
  | [u, v, x], _ =>
    match xs, (show xs.length = 3 from hxl) with
    | [y0, y1, y2], _ =>
      simp only [List.drop_zero, List.drop_succ_cons, List.take_succ_cons, List.take_zero, List.getElem?_cons_zero, List.getElem?_cons_succ] at e0 e1 e2
      have r0 := int_flat ha q _ y0.1 y0.2 e0
      have r1 := int_flat hb q _ y1.1 y1.2 e1
      have r2 := str_flat hc q _ y2.1 y2.2 e2
      simp only [Prod.mk.injEq] at hx
      rw [hx.1]
      show [u, v, x] = fI y0.1 ++ fI y1.1 ++ fS y2.1
      rw [← r0, ← r1, ← r2]
      rfl
theorem row2_flat {H : Type} {enc : TypeId × Value → H} {P : Program} {W : World} {base : Nat} {sp : Nat → Bool} {held : Bool} {t a b c : TypeId} {ka : IntKind} {n0 n1 : Field}
    (ht : P.underlying t = some (.struct #[n0, n1])) (hn0 : n0.type = a ∧ n0.offset = 0) (hn1 : n1.type = b ∧ n1.offset = 1) (ha : P.underlying a = some (.int ka)) (hb : P.underlying b = some (.array 4 c)) (hc : P.underlying c = some .string)
    (za : P.cellsOf a = 1) (zb : P.cellsOf b = 4) (zc : P.cellsOf c = 1) (zt : P.cellsOf t = 5) (m : Nat) (cs : List Value) (d : DataW H) (p : List MemPlace) (h : DataW.trod enc P W base sp held m t cs = some (d, p)) : cs = f2 d := by
  obtain ⟨xs, q, rfl, hx, hlen, hxl, hel⟩ := DataW.trod_struct ht h
  rw [zt] at hlen
  have e0 := hel 0 n0 rfl
  have e1 := hel 1 n1 rfl
  rw [hn0.1, hn0.2, za] at e0
  rw [hn1.1, hn1.2, zb] at e1
  match cs, hlen with
  | [u, v, x, y, z], _ =>
    match xs, (show xs.length = 2 from hxl) with
    | [y0, y1], _ =>
      simp only [List.drop_zero, List.drop_succ_cons, List.take_succ_cons, List.take_zero, List.getElem?_cons_zero, List.getElem?_cons_succ] at e0 e1
      have r0 := int_flat ha q _ y0.1 y0.2 e0
      have r1 := agg_flat hb zc (by rw [zb]) fS (str_flat hc) q _ y1.1 y1.2 e1
      simp only [Prod.mk.injEq] at hx
      rw [hx.1]
      show [u, v, x, y, z] = fI y0.1 ++ fA fS y1.1
      rw [← r0, ← r1]
      rfl
theorem range_of {W : World} {P : Program} {n : String} {g : Nat} {cs : Array Value} {vs : List Value} (hg : P.globalNamed n = some g) (hv : W.var? P n = some cs) (h : cs.toList = vs) : W.rangeAt g 0 vs := fun j v hj => by
  have := World.var?_cell hg hv j
  rw [Nat.zero_add]
  rw [this, ← hj, ← h]
  simp
end Go.Proofs.YtkihaohdcgjioaaGreatDoor
namespace Go.Proofs.YtkihaohdcgjioaaGreatDoor
open Go.RowKit Go.ChangeShapes Go.WideShapes Go.ChangeAt
set_option linter.unusedVariables false
set_option linter.unusedSimpArgs false
theorem iface_flat {H : Type} {enc : TypeId × Value → H} {P : Program} {W : World} {base : Nat} {sp : Nat → Bool} {held : Bool} {fuel : Nat} {t : TypeId} {ms : Array Nat} {cs : List Value} {x : DataW H × List MemPlace} (ht : ∃ z, P.underlying t = some (.interface z)) (h : DataW.trod enc P W base sp held fuel t cs = some x) : cs = [.nilIface] ∨ ∃ u v, cs = [.iface u v] := by
  obtain ⟨z, ht⟩ := ht
  cases fuel with
  | zero => simp [DataW.trod] at h
  | succ n =>
    unfold DataW.trod at h
    rw [ht] at h
    split at h <;> simp_all
theorem cU8 : Tryz.prog.cellsOf 5 = 1 := by kernel_rfl
theorem cStr : Tryz.prog.cellsOf 9 = 1 := by kernel_rfl
theorem c2s : Tryz.prog.cellsOf 172 = 2 := by kernel_rfl
theorem c4s : Tryz.prog.cellsOf 207 = 4 := by kernel_rfl
theorem regs_of {W : World} {fuel : Nat} {enc : TypeId × Value → Unit} {sp : Nat → Bool} {held : Bool} {cs : List Value} {p : List MemPlace} (h : DataW.trod enc Tryz.prog W 0 sp held fuel 175 cs = some (Rows.laid_spindle_line_registers, p)) : cs = (List.range 11).map (fun k => .string ⟨(regL k).toArray⟩) :=
  (arr_flat Tryz.underlying175 cStr (by kernel_rfl) fS (str_flat Tryz.underlying9) h).trans (by rfl)
theorem reck_of {W : World} {fuel : Nat} {enc : TypeId × Value → Unit} {sp : Nat → Bool} {held : Bool} {cs : List Value} {p : List MemPlace} (h : DataW.trod enc Tryz.prog W 0 sp held fuel 206 cs = some (Rows.laid_spindle_line_reckonWords, p)) : cs = reckCs :=
  (arr_flat Tryz.underlying206 c2s (by kernel_rfl) (fA fS) (agg_flat Tryz.underlying172 cStr (by kernel_rfl) fS (str_flat Tryz.underlying9)) h).trans (by rfl)
theorem jump_of {W : World} {fuel : Nat} {enc : TypeId × Value → Unit} {sp : Nat → Bool} {held : Bool} {cs : List Value} {p : List MemPlace} (h : DataW.trod enc Tryz.prog W 0 sp held fuel 173 cs = some (Rows.laid_spindle_line_jumpWords, p)) : cs = jumpCs :=
  (arr_flat Tryz.underlying173 c2s (by kernel_rfl) (fA fS) (agg_flat Tryz.underlying172 cStr (by kernel_rfl) fS (str_flat Tryz.underlying9)) h).trans (by rfl)
theorem mem_of {W : World} {fuel : Nat} {enc : TypeId × Value → Unit} {sp : Nat → Bool} {held : Bool} {cs : List Value} {p : List MemPlace} (h : DataW.trod enc Tryz.prog W 0 sp held fuel 209 cs = some (Rows.laid_spindle_line_memoryWords, p)) : cs = memCs :=
  (arr_flat Tryz.underlying209 (c := 5) (by kernel_rfl) (by kernel_rfl) f2 (row2_flat Tryz.underlying208 ⟨rfl, rfl⟩ ⟨rfl, rfl⟩ Tryz.underlying5 Tryz.underlying207 Tryz.underlying9 cU8 c4s cStr (by kernel_rfl)) h).trans (by rfl)
theorem off_of {W : World} {fuel : Nat} {enc : TypeId × Value → Unit} {sp : Nat → Bool} {held : Bool} {cs : List Value} {p : List MemPlace} (h : DataW.trod enc Tryz.prog W 0 sp held fuel 243 cs = some (Rows.laid_spindle_line_offWords, p)) : cs = offCs :=
  (arr_flat Tryz.underlying243 (c := 3) (by kernel_rfl) (by kernel_rfl) f3 (row3_flat Tryz.underlying242 ⟨rfl, rfl⟩ ⟨rfl, rfl⟩ ⟨rfl, rfl⟩ Tryz.underlying5 Tryz.underlying5 Tryz.underlying9 cU8 cU8 cStr (by kernel_rfl)) h).trans (by rfl)
theorem imm_of {W : World} {fuel : Nat} {enc : TypeId × Value → Unit} {sp : Nat → Bool} {held : Bool} {cs : List Value} {p : List MemPlace} (h : DataW.trod enc Tryz.prog W 0 sp held fuel 245 cs = some (Rows.laid_spindle_line_immWords, p)) : cs = immCs :=
  (arr_flat Tryz.underlying245 (c := 3) (by kernel_rfl) (by kernel_rfl) f3 (row3_flat Tryz.underlying244 ⟨rfl, rfl⟩ ⟨rfl, rfl⟩ ⟨rfl, rfl⟩ Tryz.underlying5 Tryz.underlying5 Tryz.underlying9 cU8 cU8 cStr (by kernel_rfl)) h).trans (by rfl)
theorem pow_of {W : World} {fuel : Nat} {enc : TypeId × Value → Unit} {sp : Nat → Bool} {held : Bool} {cs : List Value} {p : List MemPlace} (h : DataW.trod enc Tryz.prog W 0 sp held fuel 259 cs = some (Rows.laid_internal_strconv_uint64pow10, p)) : cs = Lib.pow10Tab.map (fun z => Value.int .u64 z) :=
  (arr_flat (c := 1) Tryz.underlying259 (by kernel_rfl) (by kernel_rfl) fI (int_flat Tryz.underlying115) h).trans (by rfl)
/-- all that the calls lean on, off the listed variables -/
theorem env_of {W : World} (laid : List (String × DataW Unit)) (hp : (laid.all fun x => x.2.handleName?.isNone) = true) (h : laidMetH Tryz.prog laid W)
    (m1 : ("spindle/isa.atomicImms", Rows.laid_spindle_isa_atomicImms) ∈ laid) (m2 : ("spindle/isa.opcodes", Rows.laid_spindle_isa_opcodes) ∈ laid) (m3 : ("spindle/line.registers", Rows.laid_spindle_line_registers) ∈ laid)
    (m4 : ("spindle/line.reckonWords", Rows.laid_spindle_line_reckonWords) ∈ laid) (m5 : ("spindle/line.jumpWords", Rows.laid_spindle_line_jumpWords) ∈ laid) (m6 : ("spindle/line.memoryWords", Rows.laid_spindle_line_memoryWords) ∈ laid)
    (m7 : ("spindle/line.offWords", Rows.laid_spindle_line_offWords) ∈ laid) (m8 : ("spindle/line.immWords", Rows.laid_spindle_line_immWords) ∈ laid) (m9 : ("internal/strconv.uint64pow10", Rows.laid_internal_strconv_uint64pow10) ∈ laid) (m10 : ("strconv.ErrRange", Rows.laid_strconv_ErrRange) ∈ laid) : AEnv W := by
  rw [MakeChecks.laidMetH_plain _ _ _ hp] at h
  obtain ⟨ps, h, _, _⟩ := h
  have e3 : RegT W := by
    obtain ⟨g, t, cs, f, p, hg, ht, hv, hd⟩ := laid_at h m3
    obtain rfl := Option.some.inj ((show Tryz.prog.globalNamed "spindle/line.registers" = some 1 by kernel_rfl).symm.trans hg)
    obtain rfl := Option.some.inj ((show (Tryz.prog.globals[1]?).map (·.type) = some 175 by kernel_rfl).symm.trans ht)
    intro k hk
    have := range_of hg hv (regs_of hd) k _ (by rw [List.getElem?_map, List.getElem?_range hk]; rfl)
    rwa [Nat.zero_add] at this
  have e4 : ReckTb W := by
    obtain ⟨g, t, cs, f, p, hg, ht, hv, hd⟩ := laid_at h m4
    obtain rfl := Option.some.inj ((show Tryz.prog.globalNamed "spindle/line.reckonWords" = some 3 by kernel_rfl).symm.trans hg)
    obtain rfl := Option.some.inj ((show (Tryz.prog.globals[3]?).map (·.type) = some 206 by kernel_rfl).symm.trans ht)
    exact range_of hg hv (reck_of hd)
  have e5 : JumpTb W := by
    obtain ⟨g, t, cs, f, p, hg, ht, hv, hd⟩ := laid_at h m5
    obtain rfl := Option.some.inj ((show Tryz.prog.globalNamed "spindle/line.jumpWords" = some 0 by kernel_rfl).symm.trans hg)
    obtain rfl := Option.some.inj ((show (Tryz.prog.globals[0]?).map (·.type) = some 173 by kernel_rfl).symm.trans ht)
    exact range_of hg hv (jump_of hd)
  have e6 : MemTb W := by
    obtain ⟨g, t, cs, f, p, hg, ht, hv, hd⟩ := laid_at h m6
    obtain rfl := Option.some.inj ((show Tryz.prog.globalNamed "spindle/line.memoryWords" = some 4 by kernel_rfl).symm.trans hg)
    obtain rfl := Option.some.inj ((show (Tryz.prog.globals[4]?).map (·.type) = some 209 by kernel_rfl).symm.trans ht)
    exact range_of hg hv (mem_of hd)
  have e7 : OffTb W := by
    obtain ⟨g, t, cs, f, p, hg, ht, hv, hd⟩ := laid_at h m7
    obtain rfl := Option.some.inj ((show Tryz.prog.globalNamed "spindle/line.offWords" = some 6 by kernel_rfl).symm.trans hg)
    obtain rfl := Option.some.inj ((show (Tryz.prog.globals[6]?).map (·.type) = some 243 by kernel_rfl).symm.trans ht)
    exact range_of hg hv (off_of hd)
  have e8 : ImmTb W := by
    obtain ⟨g, t, cs, f, p, hg, ht, hv, hd⟩ := laid_at h m8
    obtain rfl := Option.some.inj ((show Tryz.prog.globalNamed "spindle/line.immWords" = some 7 by kernel_rfl).symm.trans hg)
    obtain rfl := Option.some.inj ((show (Tryz.prog.globals[7]?).map (·.type) = some 245 by kernel_rfl).symm.trans ht)
    exact range_of hg hv (imm_of hd)
  have e9 : Pow W := by
    obtain ⟨g, t, cs, f, p, hg, ht, hv, hd⟩ := laid_at h m9
    obtain rfl := Option.some.inj ((show Tryz.prog.globalNamed "internal/strconv.uint64pow10" = some 8 by kernel_rfl).symm.trans hg)
    obtain rfl := Option.some.inj ((show (Tryz.prog.globals[8]?).map (·.type) = some 259 by kernel_rfl).symm.trans ht)
    unfold Pow Lib.TabIs
    rw [hv, ← pow_of hd]
  have e10 : ErrR W := by
    obtain ⟨g, t, cs, f, p, hg, ht, hv, hd⟩ := laid_at h m10
    obtain rfl := Option.some.inj ((show Tryz.prog.globalNamed "strconv.ErrRange" = some 13 by kernel_rfl).symm.trans hg)
    obtain rfl := Option.some.inj ((show (Tryz.prog.globals[13]?).map (·.type) = some 104 by kernel_rfl).symm.trans ht)
    rcases iface_flat (ms := #[]) ⟨_, Tryz.underlying104⟩ hd with hc | ⟨u, v, hc⟩
    · exact ⟨_, by have := range_of hg hv hc 0 .nilIface rfl; rwa [Nat.zero_add] at this, .inl rfl⟩
    · exact ⟨_, by have := range_of hg hv hc 0 (.iface u v) rfl; rwa [Nat.zero_add] at this, .inr ⟨u, v, rfl⟩⟩
  have e1 : TabA W := by
    obtain ⟨g, t, cs, f, p, hg, ht, hv, hd⟩ := laid_at h m1
    obtain rfl := Option.some.inj (gImms.symm.trans hg)
    obtain rfl := Option.some.inj (tImms.symm.trans ht)
    rw [laidA_eq] at hd
    have hT : Lib.TabIs Tryz.prog W "spindle/isa.atomicImms" .u8 immsT := by
      unfold Lib.TabIs
      rw [hv, ← Lib.cells_of_tab Tryz.underlying274 Tryz.underlying5 cellsU8 cellsArr10 hd]
    exact fun k hk => hT.cell gImms k (by simpa [immsT] using hk)
  have e2 : TabO W := by
    obtain ⟨g, t, cs, f, p, hg, ht, hv, hd⟩ := laid_at h m2
    obtain rfl := Option.some.inj (gOps.symm.trans hg)
    obtain rfl := Option.some.inj (tOps.symm.trans ht)
    exact tabO_of hv hd
  exact ⟨⟨⟨e10, e3, e1, e2⟩, e4, e5, e6, e7, e8⟩, e9⟩
end Go.Proofs.YtkihaohdcgjioaaGreatDoor
namespace Go.Proofs.YtkihaohdcgjioaaGreatDoor.Lx
open Go.RowKit
set_option linter.unusedVariables false
set_option linter.unusedSimpArgs false
def isBl (b : UInt8) : Bool := b == 32 || b == 9 || b == 13
theorem bl_kind {b : UInt8} (h : isBl b = true) : kindP (bI b) = 1 ∧ runU b = false ∧ ¬ b = 10 := by
  simp only [isBl, Bool.or_eq_true, beq_iff_eq] at h
  rcases h with (rfl | rfl) | rfl <;> decide
theorem scan_bl (b : UInt8) (y : List UInt8) (h : isBl b = true) : scanD (b :: y) = scanD y := by
  have hp : pieceP (b :: y) = (0, none, 1) := by rw [piece_cons, if_pos (bl_kind h).1]
  rw [scanD_ok b y (by rw [hp]), hp]
  simp
theorem scan_bls : ∀ (bl y : List UInt8), bl.all isBl = true → scanD (bl ++ y) = scanD y
  | [], y, _ => rfl
  | b :: bl, y, h => by
    rw [List.all_cons, Bool.and_eq_true] at h
    rw [List.cons_append, scan_bl b _ h.1, scan_bls bl y h.2]
/-- a comment, or none -/
def Com (c : List UInt8) : Prop := c = [] ∨ ∃ p, ¬ p = 10 ∧ c = [59, p, 120]
theorem com_scan {c : List UInt8} (h : Com c) : scanD c = (0, []) := by
  rcases h with rfl | ⟨p, _, rfl⟩
  · rfl
  · have hp : pieceP [59, p, 120] = (0, none, 3) := by
      rw [piece_cons]
      have h1 : ¬ kindP (bI 59) = 1 := by decide
      have h2 : kindP (bI 59) = 2 := by decide
      rw [if_neg h1, if_pos h2]
      rfl
    rw [scanD_ok 59 [p, 120] (by rw [hp]), hp]
    rfl
theorem com_stop {c : List UInt8} (h : Com c) : Stop c := by
  rcases h with rfl | ⟨p, _, rfl⟩
  · exact .inl rfl
  · exact .inr ⟨59, _, rfl, by decide⟩
theorem com_lf {c : List UInt8} (h : Com c) : c.all (fun b => !(b == 10)) = true := by
  rcases h with rfl | ⟨p, hp, rfl⟩
  · rfl
  · simp [hp]
/-- tokens written with other blanks, and comments -/
inductive Bf : List Tk → List UInt8 → Prop
  | nil : Bf [] []
  | piece (x : Tk) (r : List Tk) (bl O : List UInt8) (hk : isPiece x) (hm : mayP x = 0) (hb : bl.all isBl = true) (hne : ¬ bl = []) (h : Bf r O) : Bf (x :: r) (bl ++ pieceOf x ++ O)
  | line (x : Tk) (r : List Tk) (com O : List UInt8) (hk : x.k = 5) (hm : mayP x = 0) (hc : Com com) (h : Bf r O) : Bf (x :: r) (com ++ 10 :: O)
theorem Bf.append {a b : List Tk} {O P : List UInt8} (h : Bf a O) (k : Bf b P) : Bf (a ++ b) (O ++ P) := by
  induction h with
  | nil => exact k
  | piece x r bl O hk hm hb hne h ih =>
    have := Bf.piece x (r ++ b) bl (O ++ P) hk hm hb hne ih
    rw [List.append_assoc]
    exact this
  | line x r com O hk hm hc h ih =>
    have := Bf.line x (r ++ b) com (O ++ P) hk hm hc ih
    rw [List.append_assoc]
    exact this
theorem lastK_cons5 {x : Tk} {r : List Tk} (hk : ¬ x.k = 5) (h : lastK (x :: r) = some 5) : lastK r = some 5 := by
  unfold lastK at h ⊢
  cases r with
  | nil => simp at h; exact absurd h hk
  | cons y r => rw [List.getLast?_cons_cons] at h; exact h
theorem lastK_line {x : Tk} {r : List Tk} (h : lastK (x :: r) = some 5) : r = [] ∨ lastK r = some 5 := by
  cases r with
  | nil => exact .inl rfl
  | cons y r => unfold lastK at h ⊢; rw [List.getLast?_cons_cons] at h; exact .inr h
theorem bl_text {T : List Tk} {O : List UInt8} (h : Bf T O) : ∀ (n : Nat) (c : List UInt8) (D : List (Int × List UInt8 × Int)), Lb c D → (T = [] ∧ c = [] ∨ lastK T = some 5) → NumsOk T →
    (textD n (c ++ O)).1 = 51 ∨ ∃ (m : Nat) (S : List Tk), textD n (c ++ O) = (0, m, S) ∧ S.map Tk.rw = D ++ T.map Tk.rw := by
  induction h with
  | nil =>
    intro n c D hl hT _
    rcases hT with ⟨_, rfl⟩ | hT
    · rw [hl.em rfl]
      exact .inr ⟨n, [], rfl, rfl⟩
    · simp [lastK] at hT
  | piece x r bl O hk hm hb hne h ih =>
    intro n c D hl hT hn
    have hnx := hn x (by simp)
    have hx5 : ¬ x.k = 5 := by unfold isPiece at hk; omega
    have hlast : lastK r = some 5 := lastK_cons5 hx5 (hT.resolve_left (fun h => by simp at h))
    obtain ⟨p1, p2, p3⟩ := may_piece hm hk ⟨hnx.1, hnx.2.1⟩
    obtain ⟨b0, bl', rfl⟩ : ∃ b0 bl', bl = b0 :: bl' := by cases bl with | nil => exact absurd rfl hne | cons b l => exact ⟨b, l, rfl⟩
    have hb0 : isBl b0 = true := by rw [List.all_cons, Bool.and_eq_true] at hb; exact hb.1
    have hblf : (b0 :: bl').all (fun b => !(b == 10)) = true := by
      rw [List.all_eq_true] at hb ⊢
      intro b hbm
      have := (bl_kind (hb b hbm)).2.2
      simpa using this
    have hl' : Lb (c ++ (b0 :: bl') ++ pieceOf x) (D ++ [x.rw]) := by
      refine ⟨by rw [List.all_append, List.all_append, hl.lf, hblf, p2]; rfl, fun h0 => absurd (List.append_eq_nil_iff.1 h0).2 p1, fun e he => ?_⟩
      have h1 := scan_piece p1 (p3 e he)
      have h2 := hl.sc ((b0 :: bl') ++ (pieceOf x ++ e)) (.inr ⟨b0, _, rfl, (bl_kind hb0).2.1⟩)
      rw [scan_bls _ _ hb, h1] at h2
      rw [List.append_assoc, List.append_assoc, h2]
      simp
    have := ih n (c ++ (b0 :: bl') ++ pieceOf x) (D ++ [x.rw]) hl' (.inr hlast) (fun y hy => hn y (by simp [hy]))
    rw [show c ++ ((b0 :: bl') ++ pieceOf x ++ O) = c ++ (b0 :: bl') ++ pieceOf x ++ O by simp [List.append_assoc]]
    rcases this with h51 | ⟨m, S, e1, e2⟩
    · exact .inl h51
    · exact .inr ⟨m, S, e1, by rw [e2]; simp⟩
  | line x r com O hk hm hc h ih =>
    intro n c D hl hT hn
    have hlf : (c ++ com).all (fun b => !(b == 10)) = true := by rw [List.all_append, hl.lf, com_lf hc]; rfl
    have hcut := cut_at (y := O) hlf
    have e0 : c ++ (com ++ 10 :: O) = c ++ com ++ 10 :: O := by simp
    rw [e0]
    have hs := hl.sc com (com_stop hc)
    rw [com_scan hc, List.append_nil] at hs
    have hne : ¬ c ++ com ++ 10 :: O = [] := by simp
    by_cases h1024 : (c ++ com).length ≤ 1024
    · have hlp : lineP (c ++ com) = (0, D) := by unfold lineP; rw [if_pos h1024]; exact hs
      have ht := textD_ok n (c ++ com ++ 10 :: O) hne (by rw [hcut]; simp only; rw [hlp])
      rw [hcut] at ht
      simp only at ht
      rw [hlp] at ht
      have hT' : r = [] ∧ ([] : List UInt8) = [] ∨ lastK r = some 5 := by
        rcases hT with ⟨h0, _⟩ | hT
        · simp at h0
        · rcases lastK_line hT with h0 | h0
          · exact .inl ⟨h0, rfl⟩
          · exact .inr h0
      have := ih (n + 1) [] [] Lb.nil hT' (fun y hy => hn y (by simp [hy]))
      simp only [List.nil_append] at this
      rcases this with h51 | ⟨m, S, e1, e2⟩
      · exact .inl (by rw [ht]; exact h51)
      · rw [e1] at ht
        refine .inr ⟨m, _, ht, ?_⟩
        have hD : (D.map (mkT (n + 1))).map Tk.rw = D := by
          rw [List.map_map]
          conv => rhs; rw [← List.map_id D]
          exact List.map_congr_left fun a _ => rfl
        simp only [List.map_append, List.map_cons, List.map_nil, List.append_assoc]
        rw [hD, e2, may_plain hm (.inl hk), hk]
        rfl
    · have hlp : lineP (c ++ com) = (51, []) := by unfold lineP; rw [if_neg h1024]
      have ht := textD_bad n (c ++ com ++ 10 :: O) hne (by rw [hcut]; simp only; rw [hlp]; decide)
      rw [hcut] at ht
      simp only at ht
      exact .inl (by rw [ht, hlp])
/-- what Tokens gives, but for the end -/
theorem text_mem : ∀ (f n : Nat) (l : List UInt8) (m : Nat) (T : List Tk), l.length ≤ f → textF f n l = (0, m, T) → (∀ x ∈ T, mayP x = 0 ∧ (isPiece x ∨ x.k = 5)) ∧ (T = [] ∨ lastK T = some 5)
  | 0, n, l, m, T, hl, h => by
    simp [textF] at h
    obtain ⟨rfl, rfl⟩ := h
    exact ⟨fun x hx => absurd hx (by simp), .inl rfl⟩
  | f + 1, n, [], m, T, hl, h => by
    simp [textF] at h
    obtain ⟨rfl, rfl⟩ := h
    exact ⟨fun x hx => absurd hx (by simp), .inl rfl⟩
  | f + 1, n, c :: r, m, T, hl, h => by
    unfold textF at h
    by_cases hz : (lineP (cutL (c :: r)).1).1 = 0
    · rw [if_pos hz] at h
      simp only [Prod.mk.injEq] at h
      obtain ⟨h1, h2, h3⟩ := h
      have hc := (cutL_len (c :: r) (by simp)).2
      simp only [List.length_cons] at hl hc
      have ih := text_mem f (n + 1) (cutL (c :: r)).2 m (textF f (n + 1) (cutL (c :: r)).2).2.2 (by omega) (by rw [← h1, ← h2])
      rw [← h3]
      constructor
      · intro x hx
        rw [List.mem_append, List.mem_map] at hx
        rcases hx with ⟨q, hq, rfl⟩ | hx
        · rw [List.mem_append] at hq
          rcases hq with hq | hq
          · refine ⟨(line_may _ q (n + 1) hq).1, .inl ?_⟩
            have := line_kind _ q hq
            show q.1 = 1 ∨ q.1 = 2 ∨ q.1 = 4 ∨ q.1 = 3
            omega
          · simp at hq; subst hq
            exact ⟨rfl, .inr rfl⟩
        · exact ih.1 x hx
      · right
        rcases ih.2 with h0 | h0
        · rw [h0, List.append_nil, List.map_append]
          simp [lastK, mkT]
        · unfold lastK at h0 ⊢
          rw [List.getLast?_append]
          cases hg : (textF f (n + 1) (cutL (c :: r)).2).2.2.getLast? with
          | none => rw [hg] at h0; simp at h0
          | some y => rw [hg] at h0; simpa using h0
    · rw [if_neg hz] at h
      simp only [Prod.mk.injEq] at h
      exact absurd h.1 hz
end Go.Proofs.YtkihaohdcgjioaaGreatDoor.Lx
