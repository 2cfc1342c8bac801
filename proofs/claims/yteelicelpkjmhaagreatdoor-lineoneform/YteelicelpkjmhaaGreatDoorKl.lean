import Derived.Test.YteelicelpkjmhaaGreatDoorMe
import Derived.ProofKit
import Derived.OpenShut
import Derived.Lib.LaidTab
import Derived.Test.YteelicelpkjmhaaGreatDoorTie
import Derived.Test.YteelicelpkjmhaaGreatDoorKi
import Derived.Test.YteelicelpkjmhaaGreatDoorKh
import Derived.Test.YteelicelpkjmhaaGreatDoorKk
import Derived.WalkKit
import Derived.ChangeOld
namespace Go.Proofs.YteelicelpkjmhaaGreatDoor
open Go.RowKit Go.ChangeShapes Go.WideShapes Go.ChangeAt
set_option linter.unusedVariables false
set_option linter.unusedSimpArgs false

theorem gOps : Tryz.prog.globalNamed "spindle/isa.opcodes" = some 6 := by kernel_rfl
theorem gImms : Tryz.prog.globalNamed "spindle/isa.atomicImms" = some 7 := by kernel_rfl
theorem tOps : (Tryz.prog.globals[6]?).map (·.type) = some 169 := by kernel_rfl
theorem tImms : (Tryz.prog.globals[7]?).map (·.type) = some 191 := by kernel_rfl
theorem cellsArr : Tryz.prog.cellsOf 169 = 11 := by kernel_rfl
theorem cellsSl : Tryz.prog.cellsOf 51 = 1 := by kernel_rfl
theorem cellsU8 : Tryz.prog.cellsOf 5 = 1 := by kernel_rfl
theorem cellsArr10 : Tryz.prog.cellsOf 191 = 10 := by kernel_rfl

def listD (l : List Int) : DataW Unit := if l = [] then .nil else .slice (l.map fun z => .lit (.int .u8 z)) []
theorem laidO_eq : (Rows.laid_spindle_isa_opcodes : DataW Unit) = .agg (opsT.map listD) := by
  simp [Rows.laid_spindle_isa_opcodes, opsT, listD]
theorem laidA_eq : (Rows.laid_spindle_isa_atomicImms : DataW Unit) = Lib.tabData .u8 immsT := by
  simp [Rows.laid_spindle_isa_atomicImms, immsT, Lib.tabData]

/-- what the reading of the table of opcodes gives -/
theorem tabO_of {W : World} {base : Nat} {sp : Nat → Bool} {held : Bool} {fuel : Nat} {enc : TypeId × Value → Unit} {cs : Array Value} {p : List MemPlace}
    (hv : W.var? Tryz.prog "spindle/isa.opcodes" = some cs) (h : DataW.trod enc Tryz.prog W base sp held fuel 169 cs.toList = some (Rows.laid_spindle_isa_opcodes, p)) : TabO W := by
  rw [laidO_eq] at h
  obtain ⟨xs, m, rfl, hx, hlen, hxl, hel⟩ := DataW.trod_array Tryz.underlying169 h
  rw [cellsArr] at hlen
  simp only [cellsSl, Nat.mul_one] at hel
  simp only [Prod.mk.injEq, DataW.agg.injEq] at hx
  have hcell := World.var?_cell gOps hv
  refine ⟨fun k => cs[k]?.getD (.slice none 0 0), fun k hk => ?_, fun k hk => ?_⟩
  · have hk' : k < cs.size := by simpa using (show k < cs.toList.length by omega)
    simp only [hcell k, Array.getElem?_eq_getElem hk', Option.getD_some]
  · have hk' : k < cs.size := by simpa using (show k < cs.toList.length by omega)
    have hxk : k < xs.length := by omega
    have hl : k < opsT.length := by simpa [opsT] using hk
    have e1 : xs[k].1 = listD (opsL k) := by
      have := congrArg (fun l => l[k]?) hx.1
      simp only [List.getElem?_map, List.getElem?_eq_getElem hxk, List.getElem?_eq_getElem hl, Option.map_some, Option.some.injEq] at this
      rw [← this, opsL, getD_lt opsT [] k hl]
    have e2 : (cs.toList.drop k).take 1 = [cs[k]] := by
      rw [List.drop_eq_getElem_cons (by simpa using hk'), List.take_succ_cons]; simp
    have h2 := hel k hk
    rw [e2, List.getElem?_eq_getElem hxk, show xs[k] = (listD (opsL k), xs[k].2) from by rw [← e1]] at h2
    simp only [Array.getElem?_eq_getElem hk', Option.getD_some]
    by_cases z : opsL k = []
    · left
      rw [z] at h2 ⊢
      simp only [listD, ↓reduceIte] at h2
      rcases DataW.trod_slice Tryz.underlying51 h2 with ⟨hcs, _⟩ | ⟨a, len, cap, elems, rest, n, _, hcs, hx, _⟩
      · simp at hcs
        exact ⟨hcs, rfl⟩
      · simp at hx
    · right
      simp only [listD, if_neg z] at h2
      obtain ⟨a, cap, hcs, hle, hc⟩ := open_row Tryz.underlying51 cellsU8 h2
      simp only [List.cons.injEq, and_true, List.length_map] at hcs
      have hcell2 : ∀ j, j < (opsL k).length → W.cell? (a.add j) = some (.int .u8 ((opsL k).getD j 0)) := by
        intro j hj
        obtain ⟨v, n, q, hv1, hv2⟩ := hc j _ (by rw [List.getElem?_map, List.getElem?_eq_getElem hj]; rfl)
        obtain ⟨z, r1, r2, _⟩ := DataW.trod_int Tryz.underlying5 hv2
        simp at r1 r2
        rw [hv1, r1, getD_lt _ _ j hj, r2.1]
      obtain ⟨b, off, spot⟩ := a
      have hs : spot = none := by
        have hpos : 0 < (opsL k).length := List.length_pos_iff.2 z
        simpa [Addr.add] using World.cell?_spot (hcell2 0 hpos)
      subst hs
      refine ⟨b, off, cap, hcs, fun j hj => ?_⟩
      have := hcell2 j hj
      rwa [show (⟨b, off, none⟩ : Addr).add j = ⟨b, off + j, none⟩ from by simp only [Addr.add]; split <;> simp_all] at this
theorem tabs_of {W : World} (h : laidMetH Tryz.prog [("spindle/isa.atomicImms", Rows.laid_spindle_isa_atomicImms), ("spindle/isa.opcodes", Rows.laid_spindle_isa_opcodes)] W) : Tabs W := by
  rw [MakeChecks.laidMetH_plain _ _ _ (by kernel_rfl)] at h
  obtain ⟨ps, ⟨g0, t0, cs0, f0, p0, q0, hg0, ht0, hv0, hd0, ⟨g1, t1, cs1, f1, p1, q1, hg1, ht1, hv1, hd1, _, _⟩, _⟩, _, _⟩ := h
  obtain rfl := Option.some.inj (gImms.symm.trans hg0)
  obtain rfl := Option.some.inj (gOps.symm.trans hg1)
  obtain rfl := Option.some.inj (tImms.symm.trans ht0)
  obtain rfl := Option.some.inj (tOps.symm.trans ht1)
  refine ⟨?_, tabO_of hv1 hd1⟩
  rw [laidA_eq] at hd0
  have hT : Lib.TabIs Tryz.prog W "spindle/isa.atomicImms" .u8 immsT := by
    unfold Lib.TabIs
    rw [hv0, ← Lib.cells_of_tab Tryz.underlying191 Tryz.underlying5 cellsU8 cellsArr10 hd0]
  exact fun k hk => hT.cell gImms k (by simpa [immsT] using hk)
end Go.Proofs.YteelicelpkjmhaaGreatDoor
namespace Go.Proofs.YteelicelpkjmhaaGreatDoor
open Go.RowKit Go.ChangeShapes Go.WideShapes Go.ChangeAt
set_option linter.unusedVariables false
set_option linter.unusedSimpArgs false
/-- what a listed variable holds -/
theorem laid_at {P : Program} {W : World} {n : String} {D : DataW Unit} : ∀ {laid : List (String × DataW Unit)} {ps : List MemPlace}, DataW.LaidVars P W laid ps → (n, D) ∈ laid →
    ∃ g t cs fuel p, P.globalNamed n = some g ∧ (P.globals[g]?).map (·.type) = some t ∧ W.var? P n = some cs ∧ DataW.trod (fun _ => ()) P W 0 (fun _ => true) false fuel t cs.toList = some (D, p)
  | [], _, h, hm => by cases hm
  | (m, E) :: L, ps, h, hm => by
    obtain ⟨g, t, cs, f, p, q, hg, ht, hv, hd, hr, _⟩ := h
    rcases List.mem_cons.1 hm with e | hm'
    · cases e
      exact ⟨g, t, cs, f, p, hg, ht, hv, hd⟩
    · exact laid_at hr hm'
/-- a table of literals is the row of its cells -/
theorem arr_flat {H : Type} {enc : TypeId × Value → H} {P : Program} {W : World} {base : Nat} {sp : Nat → Bool} {held : Bool} {fuel : Nat} {t e : TypeId} {n c : Nat} {cs : List Value} {ds : List (DataW H)} {p : List MemPlace}
    (ht : P.underlying t = some (.array n e)) (hc : P.cellsOf e = c) (hcl : P.cellsOf t = n * c) (F : DataW H → List Value)
    (hF : ∀ m cs d p, DataW.trod enc P W base sp held m e cs = some (d, p) → cs = F d)
    (h : DataW.trod enc P W base sp held fuel t cs = some (.agg ds, p)) : cs = ds.flatMap F := by
  obtain ⟨xs, m, rfl, hx, hlen, hxl, hel⟩ := DataW.trod_array ht h
  simp only [Prod.mk.injEq, DataW.agg.injEq] at hx
  obtain ⟨hds, _⟩ := hx
  rw [hc] at hel
  rw [hcl] at hlen
  have key : ∀ (n : Nat) (cs : List Value) (xs : List (DataW H × List MemPlace)), cs.length = n * c → xs.length = n → (∀ i, i < n → DataW.trod enc P W base sp held m e ((cs.drop (i * c)).take c) = xs[i]?) → cs = (xs.map (·.1)).flatMap F := by
    intro n
    induction n with
    | zero =>
      intro cs xs h1 h2 _
      rw [Nat.zero_mul] at h1
      rw [List.length_eq_zero_iff.1 h1, List.length_eq_zero_iff.1 h2]
      rfl
    | succ n ih =>
      intro cs xs h1 h2 h3
      cases xs with
      | nil => simp at h2
      | cons x xs =>
        have e0 := h3 0 (by omega)
        simp only [Nat.zero_mul, List.drop_zero, List.getElem?_cons_zero] at e0
        have e1 := hF m _ x.1 x.2 e0
        have e2 := ih (cs.drop c) xs (by rw [List.length_drop, h1, Nat.succ_mul]; omega) (by simpa using h2) (fun i hi => by
          have := h3 (i + 1) (by omega)
          rw [List.getElem?_cons_succ] at this
          rw [List.drop_drop, show c + i * c = (i + 1) * c from by rw [Nat.succ_mul]; omega]
          exact this)
        simp only [List.map_cons, List.flatMap_cons]
        rw [← e1, ← e2, List.take_append_drop]
  rw [hds]
  exact key n cs xs hlen hxl hel
def fS {H : Type} : DataW H → List Value
  | .lit (.string l) => [.string ⟨l.toArray⟩]
  | _ => []
def fI {H : Type} : DataW H → List Value
  | .lit (.int k n) => [.int k n]
  | _ => []
theorem str_flat {H : Type} {enc : TypeId × Value → H} {P : Program} {W : World} {base : Nat} {sp : Nat → Bool} {held : Bool} {t : TypeId} (ht : P.underlying t = some .string) (m : Nat) (cs : List Value) (d : DataW H) (p : List MemPlace) (h : DataW.trod enc P W base sp held m t cs = some (d, p)) : cs = fS d := by
  obtain ⟨s, hs, hx, _⟩ := DataW.trod_string ht h
  simp only [Prod.mk.injEq] at hx
  rw [hs, hx.1]
  simp [fS]
theorem int_flat {H : Type} {enc : TypeId × Value → H} {P : Program} {W : World} {base : Nat} {sp : Nat → Bool} {held : Bool} {t : TypeId} {k : IntKind} (ht : P.underlying t = some (.int k)) (m : Nat) (cs : List Value) (d : DataW H) (p : List MemPlace) (h : DataW.trod enc P W base sp held m t cs = some (d, p)) : cs = fI d := by
  obtain ⟨n, hs, hx, _⟩ := DataW.trod_int ht h
  simp only [Prod.mk.injEq] at hx
  rw [hs, hx.1]
  rfl
/-- an array within a table -/
def fA {H : Type} (F : DataW H → List Value) : DataW H → List Value
  | .agg ds => ds.flatMap F
  | _ => []
theorem agg_flat {H : Type} {enc : TypeId × Value → H} {P : Program} {W : World} {base : Nat} {sp : Nat → Bool} {held : Bool} {t e : TypeId} {n c : Nat}
    (ht : P.underlying t = some (.array n e)) (hc : P.cellsOf e = c) (hcl : P.cellsOf t = n * c) (F : DataW H → List Value)
    (hF : ∀ m cs d p, DataW.trod enc P W base sp held m e cs = some (d, p) → cs = F d) (m : Nat) (cs : List Value) (d : DataW H) (p : List MemPlace) (h : DataW.trod enc P W base sp held m t cs = some (d, p)) : cs = fA F d := by
  obtain ⟨xs, q, rfl, hx, _⟩ := DataW.trod_array ht h
  simp only [Prod.mk.injEq] at hx
  obtain ⟨rfl, rfl⟩ := hx
  exact arr_flat ht hc hcl F hF h
/-- a struct of three one-cell fields, and one of a cell and four -/
def f3 {H : Type} : DataW H → List Value
  | .agg [a, b, c] => fI a ++ fI b ++ fS c
  | _ => []
def f2 {H : Type} : DataW H → List Value
  | .agg [a, b] => fI a ++ fA fS b
  | _ => []
theorem row3_flat {H : Type} {enc : TypeId × Value → H} {P : Program} {W : World} {base : Nat} {sp : Nat → Bool} {held : Bool} {t a b c : TypeId} {ka kb : IntKind} {n0 n1 n2 : Field}
    (ht : P.underlying t = some (.struct #[n0, n1, n2])) (hn0 : n0.type = a ∧ n0.offset = 0) (hn1 : n1.type = b ∧ n1.offset = 1) (hn2 : n2.type = c ∧ n2.offset = 2) (ha : P.underlying a = some (.int ka)) (hb : P.underlying b = some (.int kb)) (hc : P.underlying c = some .string)
    (za : P.cellsOf a = 1) (zb : P.cellsOf b = 1) (zc : P.cellsOf c = 1) (zt : P.cellsOf t = 3) (m : Nat) (cs : List Value) (d : DataW H) (p : List MemPlace) (h : DataW.trod enc P W base sp held m t cs = some (d, p)) : cs = f3 d := by
  obtain ⟨xs, q, rfl, hx, hlen, hxl, hel⟩ := DataW.trod_struct ht h
  rw [zt] at hlen
  have e0 := hel 0 n0 rfl
  have e1 := hel 1 n1 rfl
  have e2 := hel 2 n2 rfl
  rw [hn0.1, hn0.2, za] at e0
  rw [hn1.1, hn1.2, zb] at e1
  rw [hn2.1, hn2.2, zc] at e2
  match cs, hlen with
  | [u, v, x], _ =>
    match xs, (show xs.length = 3 from hxl) with
    | [y0, y1, y2], _ =>
      simp only [List.drop_zero, List.drop_succ_cons, List.take_succ_cons, List.take_zero, List.getElem?_cons_zero, List.getElem?_cons_succ] at e0 e1 e2
      have r0 := int_flat ha q _ y0.1 y0.2 e0
      have r1 := int_flat hb q _ y1.1 y1.2 e1
      have r2 := str_flat hc q _ y2.1 y2.2 e2
      simp only [Prod.mk.injEq] at hx
      rw [hx.1]
      show [u, v, x] = fI y0.1 ++ fI y1.1 ++ fS y2.1
      rw [← r0, ← r1, ← r2]
      rfl
theorem row2_flat {H : Type} {enc : TypeId × Value → H} {P : Program} {W : World} {base : Nat} {sp : Nat → Bool} {held : Bool} {t a b c : TypeId} {ka : IntKind} {n0 n1 : Field}
    (ht : P.underlying t = some (.struct #[n0, n1])) (hn0 : n0.type = a ∧ n0.offset = 0) (hn1 : n1.type = b ∧ n1.offset = 1) (ha : P.underlying a = some (.int ka)) (hb : P.underlying b = some (.array 4 c)) (hc : P.underlying c = some .string)
    (za : P.cellsOf a = 1) (zb : P.cellsOf b = 4) (zc : P.cellsOf c = 1) (zt : P.cellsOf t = 5) (m : Nat) (cs : List Value) (d : DataW H) (p : List MemPlace) (h : DataW.trod enc P W base sp held m t cs = some (d, p)) : cs = f2 d := by
  obtain ⟨xs, q, rfl, hx, hlen, hxl, hel⟩ := DataW.trod_struct ht h
  rw [zt] at hlen
  have e0 := hel 0 n0 rfl
  have e1 := hel 1 n1 rfl
  rw [hn0.1, hn0.2, za] at e0
  rw [hn1.1, hn1.2, zb] at e1
  match cs, hlen with
  | [u, v, x, y, z], _ =>
    match xs, (show xs.length = 2 from hxl) with
    | [y0, y1], _ =>
      simp only [List.drop_zero, List.drop_succ_cons, List.take_succ_cons, List.take_zero, List.getElem?_cons_zero, List.getElem?_cons_succ] at e0 e1
      have r0 := int_flat ha q _ y0.1 y0.2 e0
      have r1 := agg_flat hb zc (by rw [zb]) fS (str_flat hc) q _ y1.1 y1.2 e1
      simp only [Prod.mk.injEq] at hx
      rw [hx.1]
      show [u, v, x, y, z] = fI y0.1 ++ fA fS y1.1
      rw [← r0, ← r1]
      rfl
theorem range_of {W : World} {P : Program} {n : String} {g : Nat} {cs : Array Value} {vs : List Value} (hg : P.globalNamed n = some g) (hv : W.var? P n = some cs) (h : cs.toList = vs) : W.rangeAt g 0 vs := fun j v hj => by
  have := World.var?_cell hg hv j
  rw [Nat.zero_add]
  rw [this, ← hj, ← h]
  simp
end Go.Proofs.YteelicelpkjmhaaGreatDoor
namespace Go.Proofs.YteelicelpkjmhaaGreatDoor
open Go.RowKit Go.ChangeShapes Go.WideShapes Go.ChangeAt
set_option linter.unusedVariables false
set_option linter.unusedSimpArgs false
theorem iface_flat {H : Type} {enc : TypeId × Value → H} {P : Program} {W : World} {base : Nat} {sp : Nat → Bool} {held : Bool} {fuel : Nat} {t : TypeId} {ms : Array Nat} {cs : List Value} {x : DataW H × List MemPlace} (ht : ∃ z, P.underlying t = some (.interface z)) (h : DataW.trod enc P W base sp held fuel t cs = some x) : cs = [.nilIface] ∨ ∃ u v, cs = [.iface u v] := by
  obtain ⟨z, ht⟩ := ht
  cases fuel with
  | zero => simp [DataW.trod] at h
  | succ n =>
    unfold DataW.trod at h
    rw [ht] at h
    split at h <;> simp_all
theorem cU8 : Tryz.prog.cellsOf 5 = 1 := by kernel_rfl
theorem cStr : Tryz.prog.cellsOf 9 = 1 := by kernel_rfl
theorem c2s : Tryz.prog.cellsOf 107 = 2 := by kernel_rfl
theorem c4s : Tryz.prog.cellsOf 135 = 4 := by kernel_rfl
theorem regs_of {W : World} {fuel : Nat} {enc : TypeId × Value → Unit} {sp : Nat → Bool} {held : Bool} {cs : List Value} {p : List MemPlace} (h : DataW.trod enc Tryz.prog W 0 sp held fuel 110 cs = some (Rows.laid_spindle_line_registers, p)) : cs = (List.range 11).map (fun k => .string ⟨(regL k).toArray⟩) :=
  (arr_flat Tryz.underlying110 cStr (by kernel_rfl) fS (str_flat Tryz.underlying9) h).trans (by rfl)
theorem reck_of {W : World} {fuel : Nat} {enc : TypeId × Value → Unit} {sp : Nat → Bool} {held : Bool} {cs : List Value} {p : List MemPlace} (h : DataW.trod enc Tryz.prog W 0 sp held fuel 134 cs = some (Rows.laid_spindle_line_reckonWords, p)) : cs = reckCs :=
  (arr_flat Tryz.underlying134 c2s (by kernel_rfl) (fA fS) (agg_flat Tryz.underlying107 cStr (by kernel_rfl) fS (str_flat Tryz.underlying9)) h).trans (by rfl)
theorem jump_of {W : World} {fuel : Nat} {enc : TypeId × Value → Unit} {sp : Nat → Bool} {held : Bool} {cs : List Value} {p : List MemPlace} (h : DataW.trod enc Tryz.prog W 0 sp held fuel 108 cs = some (Rows.laid_spindle_line_jumpWords, p)) : cs = jumpCs :=
  (arr_flat Tryz.underlying108 c2s (by kernel_rfl) (fA fS) (agg_flat Tryz.underlying107 cStr (by kernel_rfl) fS (str_flat Tryz.underlying9)) h).trans (by rfl)
theorem mem_of {W : World} {fuel : Nat} {enc : TypeId × Value → Unit} {sp : Nat → Bool} {held : Bool} {cs : List Value} {p : List MemPlace} (h : DataW.trod enc Tryz.prog W 0 sp held fuel 137 cs = some (Rows.laid_spindle_line_memoryWords, p)) : cs = memCs :=
  (arr_flat Tryz.underlying137 (c := 5) (by kernel_rfl) (by kernel_rfl) f2 (row2_flat Tryz.underlying136 ⟨rfl, rfl⟩ ⟨rfl, rfl⟩ Tryz.underlying5 Tryz.underlying135 Tryz.underlying9 cU8 c4s cStr (by kernel_rfl)) h).trans (by rfl)
theorem off_of {W : World} {fuel : Nat} {enc : TypeId × Value → Unit} {sp : Nat → Bool} {held : Bool} {cs : List Value} {p : List MemPlace} (h : DataW.trod enc Tryz.prog W 0 sp held fuel 143 cs = some (Rows.laid_spindle_line_offWords, p)) : cs = offCs :=
  (arr_flat Tryz.underlying143 (c := 3) (by kernel_rfl) (by kernel_rfl) f3 (row3_flat Tryz.underlying142 ⟨rfl, rfl⟩ ⟨rfl, rfl⟩ ⟨rfl, rfl⟩ Tryz.underlying5 Tryz.underlying5 Tryz.underlying9 cU8 cU8 cStr (by kernel_rfl)) h).trans (by rfl)
theorem imm_of {W : World} {fuel : Nat} {enc : TypeId × Value → Unit} {sp : Nat → Bool} {held : Bool} {cs : List Value} {p : List MemPlace} (h : DataW.trod enc Tryz.prog W 0 sp held fuel 145 cs = some (Rows.laid_spindle_line_immWords, p)) : cs = immCs :=
  (arr_flat Tryz.underlying145 (c := 3) (by kernel_rfl) (by kernel_rfl) f3 (row3_flat Tryz.underlying144 ⟨rfl, rfl⟩ ⟨rfl, rfl⟩ ⟨rfl, rfl⟩ Tryz.underlying5 Tryz.underlying5 Tryz.underlying9 cU8 cU8 cStr (by kernel_rfl)) h).trans (by rfl)
theorem pow_of {W : World} {fuel : Nat} {enc : TypeId × Value → Unit} {sp : Nat → Bool} {held : Bool} {cs : List Value} {p : List MemPlace} (h : DataW.trod enc Tryz.prog W 0 sp held fuel 206 cs = some (Rows.laid_internal_strconv_uint64pow10, p)) : cs = Lib.pow10Tab.map (fun z => Value.int .u64 z) :=
  (arr_flat (c := 1) Tryz.underlying206 (by kernel_rfl) (by kernel_rfl) fI (int_flat Tryz.underlying114) h).trans (by rfl)
/-- all that the calls lean on, off the listed variables -/
theorem env_of {W : World} (laid : List (String × DataW Unit)) (hp : (laid.all fun x => x.2.handleName?.isNone) = true) (h : laidMetH Tryz.prog laid W)
    (m1 : ("spindle/isa.atomicImms", Rows.laid_spindle_isa_atomicImms) ∈ laid) (m2 : ("spindle/isa.opcodes", Rows.laid_spindle_isa_opcodes) ∈ laid) (m3 : ("spindle/line.registers", Rows.laid_spindle_line_registers) ∈ laid)
    (m4 : ("spindle/line.reckonWords", Rows.laid_spindle_line_reckonWords) ∈ laid) (m5 : ("spindle/line.jumpWords", Rows.laid_spindle_line_jumpWords) ∈ laid) (m6 : ("spindle/line.memoryWords", Rows.laid_spindle_line_memoryWords) ∈ laid)
    (m7 : ("spindle/line.offWords", Rows.laid_spindle_line_offWords) ∈ laid) (m8 : ("spindle/line.immWords", Rows.laid_spindle_line_immWords) ∈ laid) (m9 : ("internal/strconv.uint64pow10", Rows.laid_internal_strconv_uint64pow10) ∈ laid) (m10 : ("strconv.ErrRange", Rows.laid_strconv_ErrRange) ∈ laid) : AEnv W := by
  rw [MakeChecks.laidMetH_plain _ _ _ hp] at h
  obtain ⟨ps, h, _, _⟩ := h
  have e3 : RegT W := by
    obtain ⟨g, t, cs, f, p, hg, ht, hv, hd⟩ := laid_at h m3
    obtain rfl := Option.some.inj ((show Tryz.prog.globalNamed "spindle/line.registers" = some 1 by kernel_rfl).symm.trans hg)
    obtain rfl := Option.some.inj ((show (Tryz.prog.globals[1]?).map (·.type) = some 110 by kernel_rfl).symm.trans ht)
    intro k hk
    have := range_of hg hv (regs_of hd) k _ (by rw [List.getElem?_map, List.getElem?_range hk]; rfl)
    rwa [Nat.zero_add] at this
  have e4 : ReckTb W := by
    obtain ⟨g, t, cs, f, p, hg, ht, hv, hd⟩ := laid_at h m4
    obtain rfl := Option.some.inj ((show Tryz.prog.globalNamed "spindle/line.reckonWords" = some 2 by kernel_rfl).symm.trans hg)
    obtain rfl := Option.some.inj ((show (Tryz.prog.globals[2]?).map (·.type) = some 134 by kernel_rfl).symm.trans ht)
    exact range_of hg hv (reck_of hd)
  have e5 : JumpTb W := by
    obtain ⟨g, t, cs, f, p, hg, ht, hv, hd⟩ := laid_at h m5
    obtain rfl := Option.some.inj ((show Tryz.prog.globalNamed "spindle/line.jumpWords" = some 0 by kernel_rfl).symm.trans hg)
    obtain rfl := Option.some.inj ((show (Tryz.prog.globals[0]?).map (·.type) = some 108 by kernel_rfl).symm.trans ht)
    exact range_of hg hv (jump_of hd)
  have e6 : MemTb W := by
    obtain ⟨g, t, cs, f, p, hg, ht, hv, hd⟩ := laid_at h m6
    obtain rfl := Option.some.inj ((show Tryz.prog.globalNamed "spindle/line.memoryWords" = some 3 by kernel_rfl).symm.trans hg)
    obtain rfl := Option.some.inj ((show (Tryz.prog.globals[3]?).map (·.type) = some 137 by kernel_rfl).symm.trans ht)
    exact range_of hg hv (mem_of hd)
  have e7 : OffTb W := by
    obtain ⟨g, t, cs, f, p, hg, ht, hv, hd⟩ := laid_at h m7
    obtain rfl := Option.some.inj ((show Tryz.prog.globalNamed "spindle/line.offWords" = some 4 by kernel_rfl).symm.trans hg)
    obtain rfl := Option.some.inj ((show (Tryz.prog.globals[4]?).map (·.type) = some 143 by kernel_rfl).symm.trans ht)
    exact range_of hg hv (off_of hd)
  have e8 : ImmTb W := by
    obtain ⟨g, t, cs, f, p, hg, ht, hv, hd⟩ := laid_at h m8
    obtain rfl := Option.some.inj ((show Tryz.prog.globalNamed "spindle/line.immWords" = some 5 by kernel_rfl).symm.trans hg)
    obtain rfl := Option.some.inj ((show (Tryz.prog.globals[5]?).map (·.type) = some 145 by kernel_rfl).symm.trans ht)
    exact range_of hg hv (imm_of hd)
  have e9 : Pow W := by
    obtain ⟨g, t, cs, f, p, hg, ht, hv, hd⟩ := laid_at h m9
    obtain rfl := Option.some.inj ((show Tryz.prog.globalNamed "internal/strconv.uint64pow10" = some 8 by kernel_rfl).symm.trans hg)
    obtain rfl := Option.some.inj ((show (Tryz.prog.globals[8]?).map (·.type) = some 206 by kernel_rfl).symm.trans ht)
    unfold Pow Lib.TabIs
    rw [hv, ← pow_of hd]
  have e10 : ErrR W := by
    obtain ⟨g, t, cs, f, p, hg, ht, hv, hd⟩ := laid_at h m10
    obtain rfl := Option.some.inj ((show Tryz.prog.globalNamed "strconv.ErrRange" = some 15 by kernel_rfl).symm.trans hg)
    obtain rfl := Option.some.inj ((show (Tryz.prog.globals[15]?).map (·.type) = some 59 by kernel_rfl).symm.trans ht)
    rcases iface_flat (ms := #[]) ⟨_, Tryz.underlying59⟩ hd with hc | ⟨u, v, hc⟩
    · exact ⟨_, by have := range_of hg hv hc 0 .nilIface rfl; rwa [Nat.zero_add] at this, .inl rfl⟩
    · exact ⟨_, by have := range_of hg hv hc 0 (.iface u v) rfl; rwa [Nat.zero_add] at this, .inr ⟨u, v, rfl⟩⟩
  have e1 : TabA W := by
    obtain ⟨g, t, cs, f, p, hg, ht, hv, hd⟩ := laid_at h m1
    obtain rfl := Option.some.inj (gImms.symm.trans hg)
    obtain rfl := Option.some.inj (tImms.symm.trans ht)
    rw [laidA_eq] at hd
    have hT : Lib.TabIs Tryz.prog W "spindle/isa.atomicImms" .u8 immsT := by
      unfold Lib.TabIs
      rw [hv, ← Lib.cells_of_tab Tryz.underlying191 Tryz.underlying5 cellsU8 cellsArr10 hd]
    exact fun k hk => hT.cell gImms k (by simpa [immsT] using hk)
  have e2 : TabO W := by
    obtain ⟨g, t, cs, f, p, hg, ht, hv, hd⟩ := laid_at h m2
    obtain rfl := Option.some.inj (gOps.symm.trans hg)
    obtain rfl := Option.some.inj (tOps.symm.trans ht)
    exact tabO_of hv hd
  exact ⟨⟨⟨e10, e3, e1, e2⟩, e4, e5, e6, e7, e8⟩, e9⟩
end Go.Proofs.YteelicelpkjmhaaGreatDoor
namespace Go.Proofs.YteelicelpkjmhaaGreatDoor
open Go.ChangeShapes Go.WideShapes Go.ChangeAt Go.RowKit
set_option linter.unusedVariables false
theorem cInsn : Tryz.prog.cellsOf 25 = 5 := by kernel_rfl
theorem cInt : Tryz.prog.cellsOf 3 = 1 := by kernel_rfl
theorem wfI64 {n : Int} (h : (Lit.int .i64 n).wf = true) : I64 n := by
  simp [Lit.wf, IntKind.min, IntKind.max, IntKind.bits, IntKind.signed] at h
  unfold I64
  omega
set_option maxRecDepth 100000 in
/-- an instruction that came in -/
theorem open_insn {H : Type} {enc : TypeId × Value → H} {W : World} {base b2 : Nat} {sp : Nat → Bool} {held : Bool} {v : Value} {d : DataW H} {p : List MemPlace} (hv : Value.okWide Tryz.prog W .any base 25 v) (h : DataW.Trod enc Tryz.prog W b2 sp held 25 v d p) :
    ∃ a0 a1 a2 a3 a4 : Int, v = .agg #[.int .i64 a0, .int .i64 a1, .int .i64 a2, .int .i64 a3, .int .i64 a4] ∧ I64 a0 ∧ I64 a1 ∧ I64 a2 ∧ I64 a3 ∧ I64 a4 := by
  obtain ⟨cs, rfl, hsz⟩ := okWide_struct Tryz.underlying25 hv
  rw [cInsn] at hsz
  obtain ⟨fuel, hf⟩ := h
  obtain ⟨xs, k, hk, hxy, _, hxl, hg⟩ := DataW.trod_struct Tryz.underlying25 hf
  obtain ⟨cl⟩ := cs
  match xs, hxl, cl, hsz with
  | [y0, y1, y2, y3, y4], _, [v0, v1, v2, v3, v4], _ =>
    have g0 := hg 0 _ rfl
    have g1 := hg 1 _ rfl
    have g2 := hg 2 _ rfl
    have g3 := hg 3 _ rfl
    have g4 := hg 4 _ rfl
    simp [cInt, Value.cells] at g0 g1 g2 g3 g4
    obtain ⟨a0, r0, _, z0⟩ := DataW.trod_int Tryz.underlying3 g0
    obtain ⟨a1, r1, _, z1⟩ := DataW.trod_int Tryz.underlying3 g1
    obtain ⟨a2, r2, _, z2⟩ := DataW.trod_int Tryz.underlying3 g2
    obtain ⟨a3, r3, _, z3⟩ := DataW.trod_int Tryz.underlying3 g3
    obtain ⟨a4, r4, _, z4⟩ := DataW.trod_int Tryz.underlying3 g4
    simp at r0 r1 r2 r3 r4
    subst r0 r1 r2 r3 r4
    exact ⟨a0, a1, a2, a3, a4, rfl, wfI64 z0, wfI64 z1, wfI64 z2, wfI64 z3, wfI64 z4⟩
theorem str_weight {H : Type} {P : Program} {t : TypeId} {l : List UInt8} (h : ((DataW.lit (.string (⟨l.toArray⟩ : ByteArray).data.toList) : DataW H).weights P t).all (fun x => decide (x ≤ reachBytes)) = true) : l.length ≤ 140737488355328 := by
  have h' : (decide (l.length ≤ reachBytes) && true) = true := h
  rw [Bool.and_true] at h'
  have h2 : l.length ≤ 140737488351232 := of_decide_eq_true h'
  omega
end Go.Proofs.YteelicelpkjmhaaGreatDoor
