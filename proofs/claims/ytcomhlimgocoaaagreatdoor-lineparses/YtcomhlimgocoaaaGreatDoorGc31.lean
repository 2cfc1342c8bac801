import Derived.Test.YtcomhlimgocoaaaGreatDoorGc21
import Derived.Test.YtcomhlimgocoaaaGreatDoorGc30
import Derived.ProofKit
import Derived.OpenShut
import Derived.Lib.LaidTab
namespace Go.Proofs.YtcomhlimgocoaaaGreatDoor
open Go.RowKit Go.ChangeShapes Go.WideShapes Go.ChangeAt
set_option linter.unusedVariables false
set_option linter.unusedSimpArgs false
/-- what a listed variable holds -/
theorem laid_at {P : Program} {W : World} {n : String} {D : DataW Unit} : ∀ {laid : List (String × DataW Unit)} {ps : List MemPlace}, DataW.LaidVars P W laid ps → (n, D) ∈ laid →
    ∃ g t cs fuel p, P.globalNamed n = some g ∧ (P.globals[g]?).map (·.type) = some t ∧ W.var? P n = some cs ∧ DataW.trod (fun _ => ()) P W 0 (fun _ => true) false fuel t cs.toList = some (D, p)
  | [], _, h, hm => by cases hm
  | (m, E) :: L, ps, h, hm => by
    obtain ⟨g, t, cs, f, p, q, hg, ht, hv, hd, hr, _⟩ := h
    rcases List.mem_cons.1 hm with e | hm'
    · cases e
      exact ⟨g, t, cs, f, p, hg, ht, hv, hd⟩
    · exact laid_at hr hm'
/-- a table of literals is the row of its cells -/
theorem arr_flat {H : Type} {enc : TypeId × Value → H} {P : Program} {W : World} {base : Nat} {sp : Nat → Bool} {held : Bool} {fuel : Nat} {t e : TypeId} {n c : Nat} {cs : List Value} {ds : List (DataW H)} {p : List MemPlace}
    (ht : P.underlying t = some (.array n e)) (hc : P.cellsOf e = c) (hcl : P.cellsOf t = n * c) (F : DataW H → List Value)
    (hF : ∀ m cs d p, DataW.trod enc P W base sp held m e cs = some (d, p) → cs = F d)
    (h : DataW.trod enc P W base sp held fuel t cs = some (.agg ds, p)) : cs = ds.flatMap F := by
  obtain ⟨xs, m, rfl, hx, hlen, hxl, hel⟩ := DataW.trod_array ht h
  simp only [Prod.mk.injEq, DataW.agg.injEq] at hx
  obtain ⟨hds, _⟩ := hx
  rw [hc] at hel
  rw [hcl] at hlen
  have key : ∀ (n : Nat) (cs : List Value) (xs : List (DataW H × List MemPlace)), cs.length = n * c → xs.length = n → (∀ i, i < n → DataW.trod enc P W base sp held m e ((cs.drop (i * c)).take c) = xs[i]?) → cs = (xs.map (·.1)).flatMap F := by
    intro n
    induction n with
    | zero =>
      intro cs xs h1 h2 _
      rw [Nat.zero_mul] at h1
      rw [List.length_eq_zero_iff.1 h1, List.length_eq_zero_iff.1 h2]
      rfl
    | succ n ih =>
      intro cs xs h1 h2 h3
      cases xs with
      | nil => simp at h2
      | cons x xs =>
        have e0 := h3 0 (by omega)
        simp only [Nat.zero_mul, List.drop_zero, List.getElem?_cons_zero] at e0
        have e1 := hF m _ x.1 x.2 e0
        have e2 := ih (cs.drop c) xs (by rw [List.length_drop, h1, Nat.succ_mul]; omega) (by simpa using h2) (fun i hi => by
          have := h3 (i + 1) (by omega)
          rw [List.getElem?_cons_succ] at this
          rw [List.drop_drop, show c + i * c = (i + 1) * c from by rw [Nat.succ_mul]; omega]
          exact this)
        simp only [List.map_cons, List.flatMap_cons]
        rw [← e1, ← e2, List.take_append_drop]
  rw [hds]
  exact key n cs xs hlen hxl hel
def fS {H : Type} : DataW H → List Value
  | .lit (.string l) => [.string ⟨l.toArray⟩]
  | _ => []
def fI {H : Type} : DataW H → List Value
  | .lit (.int k n) => [.int k n]
  | _ => []
theorem str_flat {H : Type} {enc : TypeId × Value → H} {P : Program} {W : World} {base : Nat} {sp : Nat → Bool} {held : Bool} {t : TypeId} (ht : P.underlying t = some .string) (m : Nat) (cs : List Value) (d : DataW H) (p : List MemPlace) (h : DataW.trod enc P W base sp held m t cs = some (d, p)) : cs = fS d := by
  obtain ⟨s, hs, hx, _⟩ := DataW.trod_string ht h
  simp only [Prod.mk.injEq] at hx
  rw [hs, hx.1]
  simp [fS]
theorem int_flat {H : Type} {enc : TypeId × Value → H} {P : Program} {W : World} {base : Nat} {sp : Nat → Bool} {held : Bool} {t : TypeId} {k : IntKind} (ht : P.underlying t = some (.int k)) (m : Nat) (cs : List Value) (d : DataW H) (p : List MemPlace) (h : DataW.trod enc P W base sp held m t cs = some (d, p)) : cs = fI d := by
  obtain ⟨n, hs, hx, _⟩ := DataW.trod_int ht h
  simp only [Prod.mk.injEq] at hx
  rw [hs, hx.1]
  rfl
/-- an array within a table -/
def fA {H : Type} (F : DataW H → List Value) : DataW H → List Value
  | .agg ds => ds.flatMap F
  | _ => []
theorem agg_flat {H : Type} {enc : TypeId × Value → H} {P : Program} {W : World} {base : Nat} {sp : Nat → Bool} {held : Bool} {t e : TypeId} {n c : Nat}
    (ht : P.underlying t = some (.array n e)) (hc : P.cellsOf e = c) (hcl : P.cellsOf t = n * c) (F : DataW H → List Value)
    (hF : ∀ m cs d p, DataW.trod enc P W base sp held m e cs = some (d, p) → cs = F d) (m : Nat) (cs : List Value) (d : DataW H) (p : List MemPlace) (h : DataW.trod enc P W base sp held m t cs = some (d, p)) : cs = fA F d := by
  obtain ⟨xs, q, rfl, hx, _⟩ := DataW.trod_array ht h
  simp only [Prod.mk.injEq] at hx
  obtain ⟨rfl, rfl⟩ := hx
  exact arr_flat ht hc hcl F hF h
/-- a struct of three one-cell fields, and one of a cell and four -/
def f3 {H : Type} : DataW H → List Value
  | .agg [a, b, c] => fI a ++ fI b ++ fS c
  | _ => []
def f2 {H : Type} : DataW H → List Value
  | .agg [a, b] => fI a ++ fA fS b
  | _ => []
theorem row3_flat {H : Type} {enc : TypeId × Value → H} {P : Program} {W : World} {base : Nat} {sp : Nat → Bool} {held : Bool} {t a b c : TypeId} {ka kb : IntKind} {n0 n1 n2 : Field}
    (ht : P.underlying t = some (.struct #[n0, n1, n2])) (hn0 : n0.type = a ∧ n0.offset = 0) (hn1 : n1.type = b ∧ n1.offset = 1) (hn2 : n2.type = c ∧ n2.offset = 2) (ha : P.underlying a = some (.int ka)) (hb : P.underlying b = some (.int kb)) (hc : P.underlying c = some .string)
    (za : P.cellsOf a = 1) (zb : P.cellsOf b = 1) (zc : P.cellsOf c = 1) (zt : P.cellsOf t = 3) (m : Nat) (cs : List Value) (d : DataW H) (p : List MemPlace) (h : DataW.trod enc P W base sp held m t cs = some (d, p)) : cs = f3 d := by
  obtain ⟨xs, q, rfl, hx, hlen, hxl, hel⟩ := DataW.trod_struct ht h
  rw [zt] at hlen
  have e0 := hel 0 n0 rfl
  have e1 := hel 1 n1 rfl
  have e2 := hel 2 n2 rfl
  rw [hn0.1, hn0.2, za] at e0
  rw [hn1.1, hn1.2, zb] at e1
  rw [hn2.1, hn2.2, zc] at e2
  match cs, hlen with
  | [u, v, x], _ =>
    match xs, (show xs.length = 3 from hxl) with
    | [y0, y1, y2], _ =>
      simp only [List.drop_zero, List.drop_succ_cons, List.take_succ_cons, List.take_zero, List.getElem?_cons_zero, List.getElem?_cons_succ] at e0 e1 e2
      have r0 := int_flat ha q _ y0.1 y0.2 e0
      have r1 := int_flat hb q _ y1.1 y1.2 e1
      have r2 := str_flat hc q _ y2.1 y2.2 e2
      simp only [Prod.mk.injEq] at hx
      rw [hx.1]
      show [u, v, x] = fI y0.1 ++ fI y1.1 ++ fS y2.1
      rw [← r0, ← r1, ← r2]
      rfl
theorem row2_flat {H : Type} {enc : TypeId × Value → H} {P : Program} {W : World} {base : Nat} {sp : Nat → Bool} {held : Bool} {t a b c : TypeId} {ka : IntKind} {n0 n1 : Field}
    (ht : P.underlying t = some (.struct #[n0, n1])) (hn0 : n0.type = a ∧ n0.offset = 0) (hn1 : n1.type = b ∧ n1.offset = 1) (ha : P.underlying a = some (.int ka)) (hb : P.underlying b = some (.array 4 c)) (hc : P.underlying c = some .string)
    (za : P.cellsOf a = 1) (zb : P.cellsOf b = 4) (zc : P.cellsOf c = 1) (zt : P.cellsOf t = 5) (m : Nat) (cs : List Value) (d : DataW H) (p : List MemPlace) (h : DataW.trod enc P W base sp held m t cs = some (d, p)) : cs = f2 d := by
  obtain ⟨xs, q, rfl, hx, hlen, hxl, hel⟩ := DataW.trod_struct ht h
  rw [zt] at hlen
  have e0 := hel 0 n0 rfl
  have e1 := hel 1 n1 rfl
  rw [hn0.1, hn0.2, za] at e0
  rw [hn1.1, hn1.2, zb] at e1
  match cs, hlen with
  | [u, v, x, y, z], _ =>
    match xs, (show xs.length = 2 from hxl) with
    | [y0, y1], _ =>
      simp only [List.drop_zero, List.drop_succ_cons, List.take_succ_cons, List.take_zero, List.getElem?_cons_zero, List.getElem?_cons_succ] at e0 e1
      have r0 := int_flat ha q _ y0.1 y0.2 e0
      have r1 := agg_flat hb zc (by rw [zb]) fS (str_flat hc) q _ y1.1 y1.2 e1
      simp only [Prod.mk.injEq] at hx
      rw [hx.1]
      show [u, v, x, y, z] = fI y0.1 ++ fA fS y1.1
      rw [← r0, ← r1]
      rfl
theorem range_of {W : World} {P : Program} {n : String} {g : Nat} {cs : Array Value} {vs : List Value} (hg : P.globalNamed n = some g) (hv : W.var? P n = some cs) (h : cs.toList = vs) : W.rangeAt g 0 vs := fun j v hj => by
  have := World.var?_cell hg hv j
  rw [Nat.zero_add]
  rw [this, ← hj, ← h]
  simp
end Go.Proofs.YtcomhlimgocoaaaGreatDoor
