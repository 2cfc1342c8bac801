import Derived.Test.YtcjhgihpahnnoabGreatDoorGb
import Derived.ProofKit
import Derived.OpenShut
import Derived.Lib.LaidTab
import Derived.Test.YtcjhgihpahnnoabGreatDoorTie
import Derived.Test.YtcjhgihpahnnoabGreatDoorGq
import Derived.Test.YtcjhgihpahnnoabGreatDoorGy
namespace Go.Proofs.YtcjhgihpahnnoabGreatDoor
open Go.RowKit Go.ChangeShapes Go.WideShapes Go.ChangeAt
set_option linter.unusedVariables false
set_option linter.unusedSimpArgs false

theorem gOps : Tryz.prog.globalNamed "spindle/isa.opcodes" = some 6 := by kernel_rfl
theorem gImms : Tryz.prog.globalNamed "spindle/isa.atomicImms" = some 7 := by kernel_rfl
theorem tOps : (Tryz.prog.globals[6]?).map (·.type) = some 122 := by kernel_rfl
theorem tImms : (Tryz.prog.globals[7]?).map (·.type) = some 143 := by kernel_rfl
theorem cellsArr : Tryz.prog.cellsOf 122 = 11 := by kernel_rfl
theorem cellsSl : Tryz.prog.cellsOf 50 = 1 := by kernel_rfl
theorem cellsU8 : Tryz.prog.cellsOf 5 = 1 := by kernel_rfl
theorem cellsArr10 : Tryz.prog.cellsOf 143 = 10 := by kernel_rfl

def listD (l : List Int) : DataW Unit := if l = [] then .nil else .slice (l.map fun z => .lit (.int .u8 z)) []
theorem laidO_eq : (Rows.laid_spindle_isa_opcodes : DataW Unit) = .agg (opsT.map listD) := by
  simp [Rows.laid_spindle_isa_opcodes, opsT, listD]
theorem laidA_eq : (Rows.laid_spindle_isa_atomicImms : DataW Unit) = Lib.tabData .u8 immsT := by
  simp [Rows.laid_spindle_isa_atomicImms, immsT, Lib.tabData]

/-- what the reading of the table of opcodes gives -/
theorem tabO_of {W : World} {base : Nat} {sp : Nat → Bool} {held : Bool} {fuel : Nat} {enc : TypeId × Value → Unit} {cs : Array Value} {p : List MemPlace}
    (hv : W.var? Tryz.prog "spindle/isa.opcodes" = some cs) (h : DataW.trod enc Tryz.prog W base sp held fuel 122 cs.toList = some (Rows.laid_spindle_isa_opcodes, p)) : TabO W := by
  rw [laidO_eq] at h
  obtain ⟨xs, m, rfl, hx, hlen, hxl, hel⟩ := DataW.trod_array Tryz.underlying122 h
  rw [cellsArr] at hlen
  simp only [cellsSl, Nat.mul_one] at hel
  simp only [Prod.mk.injEq, DataW.agg.injEq] at hx
  have hcell := World.var?_cell gOps hv
  refine ⟨fun k => cs[k]?.getD (.slice none 0 0), fun k hk => ?_, fun k hk => ?_⟩
  · have hk' : k < cs.size := by simpa using (show k < cs.toList.length by omega)
    simp only [hcell k, Array.getElem?_eq_getElem hk', Option.getD_some]
  · have hk' : k < cs.size := by simpa using (show k < cs.toList.length by omega)
    have hxk : k < xs.length := by omega
    have hl : k < opsT.length := by simpa [opsT] using hk
    have e1 : xs[k].1 = listD (opsL k) := by
      have := congrArg (fun l => l[k]?) hx.1
      simp only [List.getElem?_map, List.getElem?_eq_getElem hxk, List.getElem?_eq_getElem hl, Option.map_some, Option.some.injEq] at this
      rw [← this, opsL, getD_lt opsT [] k hl]
    have e2 : (cs.toList.drop k).take 1 = [cs[k]] := by
      rw [List.drop_eq_getElem_cons (by simpa using hk'), List.take_succ_cons]; simp
    have h2 := hel k hk
    rw [e2, List.getElem?_eq_getElem hxk, show xs[k] = (listD (opsL k), xs[k].2) from by rw [← e1]] at h2
    simp only [Array.getElem?_eq_getElem hk', Option.getD_some]
    by_cases z : opsL k = []
    · left
      rw [z] at h2 ⊢
      simp only [listD, ↓reduceIte] at h2
      rcases DataW.trod_slice Tryz.underlying50 h2 with ⟨hcs, _⟩ | ⟨a, len, cap, elems, rest, n, _, hcs, hx, _⟩
      · simp at hcs
        exact ⟨hcs, rfl⟩
      · simp at hx
    · right
      simp only [listD, if_neg z] at h2
      obtain ⟨a, cap, hcs, hle, hc⟩ := open_row Tryz.underlying50 cellsU8 h2
      simp only [List.cons.injEq, and_true, List.length_map] at hcs
      have hcell2 : ∀ j, j < (opsL k).length → W.cell? (a.add j) = some (.int .u8 ((opsL k).getD j 0)) := by
        intro j hj
        obtain ⟨v, n, q, hv1, hv2⟩ := hc j _ (by rw [List.getElem?_map, List.getElem?_eq_getElem hj]; rfl)
        obtain ⟨z, r1, r2, _⟩ := DataW.trod_int Tryz.underlying5 hv2
        simp at r1 r2
        rw [hv1, r1, getD_lt _ _ j hj, r2.1]
      obtain ⟨b, off, spot⟩ := a
      have hs : spot = none := by
        have hpos : 0 < (opsL k).length := List.length_pos_iff.2 z
        simpa [Addr.add] using World.cell?_spot (hcell2 0 hpos)
      subst hs
      refine ⟨b, off, cap, hcs, fun j hj => ?_⟩
      have := hcell2 j hj
      rwa [show (⟨b, off, none⟩ : Addr).add j = ⟨b, off + j, none⟩ from by simp only [Addr.add]; split <;> simp_all] at this
theorem tabs_of {W : World} (h : laidMetH Tryz.prog [("spindle/isa.atomicImms", Rows.laid_spindle_isa_atomicImms), ("spindle/isa.opcodes", Rows.laid_spindle_isa_opcodes)] W) : Tabs W := by
  rw [MakeChecks.laidMetH_plain _ _ _ (by kernel_rfl)] at h
  obtain ⟨ps, ⟨g0, t0, cs0, f0, p0, q0, hg0, ht0, hv0, hd0, ⟨g1, t1, cs1, f1, p1, q1, hg1, ht1, hv1, hd1, _, _⟩, _⟩, _, _⟩ := h
  obtain rfl := Option.some.inj (gImms.symm.trans hg0)
  obtain rfl := Option.some.inj (gOps.symm.trans hg1)
  obtain rfl := Option.some.inj (tImms.symm.trans ht0)
  obtain rfl := Option.some.inj (tOps.symm.trans ht1)
  refine ⟨?_, tabO_of hv1 hd1⟩
  rw [laidA_eq] at hd0
  have hT : Lib.TabIs Tryz.prog W "spindle/isa.atomicImms" .u8 immsT := by
    unfold Lib.TabIs
    rw [hv0, ← Lib.cells_of_tab Tryz.underlying143 Tryz.underlying5 cellsU8 cellsArr10 hd0]
  exact fun k hk => hT.cell gImms k (by simpa [immsT] using hk)
end Go.Proofs.YtcjhgihpahnnoabGreatDoor
namespace Go.Proofs.YtcjhgihpahnnoabGreatDoor
open Go.RowKit Go.ChangeShapes Go.WideShapes Go.ChangeAt
set_option linter.unusedVariables false
set_option linter.unusedSimpArgs false
/-- what a listed variable holds -/
theorem laid_at {P : Program} {W : World} {n : String} {D : DataW Unit} : ∀ {laid : List (String × DataW Unit)} {ps : List MemPlace}, DataW.LaidVars P W laid ps → (n, D) ∈ laid →
    ∃ g t cs fuel p, P.globalNamed n = some g ∧ (P.globals[g]?).map (·.type) = some t ∧ W.var? P n = some cs ∧ DataW.trod (fun _ => ()) P W 0 (fun _ => true) false fuel t cs.toList = some (D, p)
  | [], _, h, hm => by cases hm
  | (m, E) :: L, ps, h, hm => by
    obtain ⟨g, t, cs, f, p, q, hg, ht, hv, hd, hr, _⟩ := h
    rcases List.mem_cons.1 hm with e | hm'
    · cases e
      exact ⟨g, t, cs, f, p, hg, ht, hv, hd⟩
    · exact laid_at hr hm'
/-- a table of literals is the row of its cells -/
theorem arr_flat {H : Type} {enc : TypeId × Value → H} {P : Program} {W : World} {base : Nat} {sp : Nat → Bool} {held : Bool} {fuel : Nat} {t e : TypeId} {n c : Nat} {cs : List Value} {ds : List (DataW H)} {p : List MemPlace}
    (ht : P.underlying t = some (.array n e)) (hc : P.cellsOf e = c) (hcl : P.cellsOf t = n * c) (F : DataW H → List Value)
    (hF : ∀ m cs d p, DataW.trod enc P W base sp held m e cs = some (d, p) → cs = F d)
    (h : DataW.trod enc P W base sp held fuel t cs = some (.agg ds, p)) : cs = ds.flatMap F := by
  obtain ⟨xs, m, rfl, hx, hlen, hxl, hel⟩ := DataW.trod_array ht h
  simp only [Prod.mk.injEq, DataW.agg.injEq] at hx
  obtain ⟨hds, _⟩ := hx
  rw [hc] at hel
  rw [hcl] at hlen
  have key : ∀ (n : Nat) (cs : List Value) (xs : List (DataW H × List MemPlace)), cs.length = n * c → xs.length = n → (∀ i, i < n → DataW.trod enc P W base sp held m e ((cs.drop (i * c)).take c) = xs[i]?) → cs = (xs.map (·.1)).flatMap F := by
    intro n
    induction n with
    | zero =>
      intro cs xs h1 h2 _
      rw [Nat.zero_mul] at h1
      rw [List.length_eq_zero_iff.1 h1, List.length_eq_zero_iff.1 h2]
      rfl
    | succ n ih =>
      intro cs xs h1 h2 h3
      cases xs with
      | nil => simp at h2
      | cons x xs =>
        have e0 := h3 0 (by omega)
        simp only [Nat.zero_mul, List.drop_zero, List.getElem?_cons_zero] at e0
        have e1 := hF m _ x.1 x.2 e0
        have e2 := ih (cs.drop c) xs (by rw [List.length_drop, h1, Nat.succ_mul]; omega) (by simpa using h2) (fun i hi => by
          have := h3 (i + 1) (by omega)
          rw [List.getElem?_cons_succ] at this
          rw [List.drop_drop, show c + i * c = (i + 1) * c from by rw [Nat.succ_mul]; omega]
          exact this)
        simp only [List.map_cons, List.flatMap_cons]
        rw [← e1, ← e2, List.take_append_drop]
  rw [hds]
  exact key n cs xs hlen hxl hel
def fS {H : Type} : DataW H → List Value
  | .lit (.string l) => [.string ⟨l.toArray⟩]
  | _ => []
def fI {H : Type} : DataW H → List Value
  | .lit (.int k n) => [.int k n]
  | _ => []
theorem str_flat {H : Type} {enc : TypeId × Value → H} {P : Program} {W : World} {base : Nat} {sp : Nat → Bool} {held : Bool} {t : TypeId} (ht : P.underlying t = some .string) (m : Nat) (cs : List Value) (d : DataW H) (p : List MemPlace) (h : DataW.trod enc P W base sp held m t cs = some (d, p)) : cs = fS d := by
  obtain ⟨s, hs, hx, _⟩ := DataW.trod_string ht h
  simp only [Prod.mk.injEq] at hx
  rw [hs, hx.1]
  simp [fS]
theorem int_flat {H : Type} {enc : TypeId × Value → H} {P : Program} {W : World} {base : Nat} {sp : Nat → Bool} {held : Bool} {t : TypeId} {k : IntKind} (ht : P.underlying t = some (.int k)) (m : Nat) (cs : List Value) (d : DataW H) (p : List MemPlace) (h : DataW.trod enc P W base sp held m t cs = some (d, p)) : cs = fI d := by
  obtain ⟨n, hs, hx, _⟩ := DataW.trod_int ht h
  simp only [Prod.mk.injEq] at hx
  rw [hs, hx.1]
  rfl
/-- an array within a table -/
def fA {H : Type} (F : DataW H → List Value) : DataW H → List Value
  | .agg ds => ds.flatMap F
  | _ => []
theorem agg_flat {H : Type} {enc : TypeId × Value → H} {P : Program} {W : World} {base : Nat} {sp : Nat → Bool} {held : Bool} {t e : TypeId} {n c : Nat}
    (ht : P.underlying t = some (.array n e)) (hc : P.cellsOf e = c) (hcl : P.cellsOf t = n * c) (F : DataW H → List Value)
    (hF : ∀ m cs d p, DataW.trod enc P W base sp held m e cs = some (d, p) → cs = F d) (m : Nat) (cs : List Value) (d : DataW H) (p : List MemPlace) (h : DataW.trod enc P W base sp held m t cs = some (d, p)) : cs = fA F d := by
  obtain ⟨xs, q, rfl, hx, _⟩ := DataW.trod_array ht h
  simp only [Prod.mk.injEq] at hx
  obtain ⟨rfl, rfl⟩ := hx
  exact arr_flat ht hc hcl F hF h
/-- a struct of three one-cell fields, and one of a cell and four -/
def f3 {H : Type} : DataW H → List Value
  | .agg [a, b, c] => fI a ++ fI b ++ fS c
  | _ => []
def f2 {H : Type} : DataW H → List Value
  | .agg [a, b] => fI a ++ fA fS b
  | _ => []
theorem row3_flat {H : Type} {enc : TypeId × Value → H} {P : Program} {W : World} {base : Nat} {sp : Nat → Bool} {held : Bool} {t a b c : TypeId} {ka kb : IntKind} {n0 n1 n2 : Field}
    (ht : P.underlying t = some (.struct #[n0, n1, n2])) (hn0 : n0.type = a ∧ n0.offset = 0) (hn1 : n1.type = b ∧ n1.offset = 1) (hn2 : n2.type = c ∧ n2.offset = 2) (ha : P.underlying a = some (.int ka)) (hb : P.underlying b = some (.int kb)) (hc : P.underlying c = some .string)
    (za : P.cellsOf a = 1) (zb : P.cellsOf b = 1) (zc : P.cellsOf c = 1) (zt : P.cellsOf t = 3) (m : Nat) (cs : List Value) (d : DataW H) (p : List MemPlace) (h : DataW.trod enc P W base sp held m t cs = some (d, p)) : cs = f3 d := by
  obtain ⟨xs, q, rfl, hx, hlen, hxl, hel⟩ := DataW.trod_struct ht h
  rw [zt] at hlen
  have e0 := hel 0 n0 rfl
  have e1 := hel 1 n1 rfl
  have e2 := hel 2 n2 rfl
  rw [hn0.1, hn0.2, za] at e0
  rw [hn1.1, hn1.2, zb] at e1
  rw [hn2.1, hn2.2, zc] at e2
  match cs, hlen with
  | [u, v, x], _ =>
    match xs, (show xs.length = 3 from hxl) with
    | [y0, y1, y2], _ =>
      simp only [List.drop_zero, List.drop_succ_cons, List.take_succ_cons, List.take_zero, List.getElem?_cons_zero, List.getElem?_cons_succ] at e0 e1 e2
      have r0 := int_flat ha q _ y0.1 y0.2 e0
      have r1 := int_flat hb q _ y1.1 y1.2 e1
      have r2 := str_flat hc q _ y2.1 y2.2 e2
      simp only [Prod.mk.injEq] at hx
      rw [hx.1]
      show [u, v, x] = fI y0.1 ++ fI y1.1 ++ fS y2.1
      rw [← r0, ← r1, ← r2]
      rfl
theorem row2_flat {H : Type} {enc : TypeId × Value → H} {P : Program} {W : World} {base : Nat} {sp : Nat → Bool} {held : Bool} {t a b c : TypeId} {ka : IntKind} {n0 n1 : Field}
    (ht : P.underlying t = some (.struct #[n0, n1])) (hn0 : n0.type = a ∧ n0.offset = 0) (hn1 : n1.type = b ∧ n1.offset = 1) (ha : P.underlying a = some (.int ka)) (hb : P.underlying b = some (.array 4 c)) (hc : P.underlying c = some .string)
    (za : P.cellsOf a = 1) (zb : P.cellsOf b = 4) (zc : P.cellsOf c = 1) (zt : P.cellsOf t = 5) (m : Nat) (cs : List Value) (d : DataW H) (p : List MemPlace) (h : DataW.trod enc P W base sp held m t cs = some (d, p)) : cs = f2 d := by
  obtain ⟨xs, q, rfl, hx, hlen, hxl, hel⟩ := DataW.trod_struct ht h
  rw [zt] at hlen
  have e0 := hel 0 n0 rfl
  have e1 := hel 1 n1 rfl
  rw [hn0.1, hn0.2, za] at e0
  rw [hn1.1, hn1.2, zb] at e1
  match cs, hlen with
  | [u, v, x, y, z], _ =>
    match xs, (show xs.length = 2 from hxl) with
    | [y0, y1], _ =>
      simp only [List.drop_zero, List.drop_succ_cons, List.take_succ_cons, List.take_zero, List.getElem?_cons_zero, List.getElem?_cons_succ] at e0 e1
      have r0 := int_flat ha q _ y0.1 y0.2 e0
      have r1 := agg_flat hb zc (by rw [zb]) fS (str_flat hc) q _ y1.1 y1.2 e1
      simp only [Prod.mk.injEq] at hx
      rw [hx.1]
      show [u, v, x, y, z] = fI y0.1 ++ fA fS y1.1
      rw [← r0, ← r1]
      rfl
theorem range_of {W : World} {P : Program} {n : String} {g : Nat} {cs : Array Value} {vs : List Value} (hg : P.globalNamed n = some g) (hv : W.var? P n = some cs) (h : cs.toList = vs) : W.rangeAt g 0 vs := fun j v hj => by
  have := World.var?_cell hg hv j
  rw [Nat.zero_add]
  rw [this, ← hj, ← h]
  simp
end Go.Proofs.YtcjhgihpahnnoabGreatDoor
