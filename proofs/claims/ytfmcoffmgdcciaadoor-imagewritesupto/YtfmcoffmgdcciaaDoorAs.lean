import Derived.Test.YtfmcoffmgdcciaaDoorAr
namespace Go.Proofs.YtfmcoffmgdcciaaDoor
open Go.RowKit
open Go.Maps (Keyed)
set_option linter.unusedVariables false
set_option linter.unusedSimpArgs false
theorem results_cell3 {P : Program} {fn : Func} {p u v : Tmp} {ty : TypeId} (h : fn.results = #[.cell p ty, .tmp u, .tmp v]) (tmps : Array Value) (w : World) (g : Nat) (t : TypeId) (cs : Array Value) (fr : Nat × Nat) (d : TypeDesc)
    (hp : tmps.getD p undef = .pointer (some ⟨g, 0, none⟩)) (hg : w.heap[g]? = some (.cells cs t fr))
    (hu : P.underlying ty = some d) (hd : (match d with | .struct _ | .array _ _ => true | _ => false) = true) (hi : (P.info? ty).map (·.size) = some cs.size) :
    (results fn tmps).run P w = .ok (.tuple #[.agg cs, tmps.getD u undef, tmps.getD v undef]) w := by
  have hp' : tmps[p]?.getD undef = .pointer (some ⟨g, 0, none⟩) := by simpa using hp
  simp [results, h, hp', asAddr, run_loadVar_row w g t ty cs fr d hg hu hd hi]
theorem sizeT : (Tryd.prog.info? 70).map (·.size) = some 1 := by kernel_rfl
def nilO : Obj := tabO none 0 0
/-- the reading's state: the result's box at g, the table's behind it -/
structure RS (w0 wr : World) (N : List (List UInt8)) (v : Value) : Prop where
  b0 : wr.heap[w0.heap.size]? = some nilO
  b1 : wr.heap[w0.heap.size + 1]? = some (.cells #[v] 70 (0, 0))
  own : wr.ownsRow (w0.heap.size + 2) 9 1 v N.length (N.map strV)
  out : Out w0 wr
theorem RS.lt {w0 wr : World} {N : List (List UInt8)} {v : Value} (h : RS w0 wr N v) : w0.heap.size + 2 ≤ wr.heap.size := by
  have := (Array.getElem?_eq_some_iff.1 h.b1).1; omega
theorem RS.c1 {w0 wr : World} {N : List (List UInt8)} {v : Value} (h : RS w0 wr N v) : wr.cell? ⟨w0.heap.size + 1, 0, none⟩ = some v := by simp [World.cell?, h.b1]
theorem RS.f1 {w0 wr : World} {N : List (List UInt8)} {v : Value} (h : RS w0 wr N v) : wr.frozen? ⟨w0.heap.size + 1, 0, none⟩ = false := by simp [World.frozen?, h.b1]
theorem RS.f0 {w0 wr : World} {N : List (List UInt8)} {v : Value} (h : RS w0 wr N v) : wr.frozen? ⟨w0.heap.size, 0, none⟩ = false := by simp [World.frozen?, h.b0, nilO, tabO]
theorem RS.c0 {w0 wr : World} {N : List (List UInt8)} {v : Value} (h : RS w0 wr N v) : wr.cell? ⟨w0.heap.size, 0, none⟩ = some (.slice none 0 0) := by simp [World.cell?, h.b0, nilO, tabO]
theorem RS.more {w0 wr w' : World} {N : List (List UInt8)} {v : Value} (h : RS w0 wr N v) (o : Out wr w') : RS w0 w' N v := by
  have := h.lt
  exact ⟨(o.block _ (by omega)).trans h.b0, (o.block _ (by omega)).trans h.b1, owns_chg (S := fun _ => False) h.own (fun _ _ h => h) (Chg.of_out o), h.out.trans o⟩
theorem RS.rt {w0 wr : World} {N : List (List UInt8)} {a : Option Addr} {c : Nat} (h : RS w0 wr N (.slice a N.length c)) : RT wr a N ∧ N.length ≤ c := by
  rcases h.own.2 with ⟨hv, hn⟩ | ⟨g, cap, cur, hv, hb, hg, hc, _⟩
  · exact ⟨.inl (List.length_eq_zero_iff.1 hn), by omega⟩
  · simp only [Value.slice.injEq] at hv
    obtain ⟨rfl, -, rfl⟩ := hv
    refine ⟨.inr ⟨g, 0, (Array.getElem?_eq_some_iff.1 hg).1, rfl, fun k x hx => ?_⟩, hc⟩
    have := World.ownsRow.cells h.own (g := g) rfl k (strV x) (by simp [hx])
    rw [WideShapes.add_plain] at this
    exact this
/-- behind an append to the names -/
theorem RS.push {w0 X w' : World} {N : List (List UInt8)} {v v' : Value} {x : List UInt8} {g cap : Nat} (h : RS w0 X N v) (hg : X.grownBy w' v.ownBlock) (hv : v' = .slice (some ⟨g, 0, none⟩) (N.length + 1) cap) (ho : w'.ownsRow (w0.heap.size + 2) 9 1 v' (N.length + 1) (N.map strV ++ [strV x])) : RS w0 (w'.setCell ⟨w0.heap.size + 1, 0, none⟩ v') (N ++ [x]) v' := by
  have hlt := h.lt
  have hc : Chg (fun k => v.ownBlock = some k) X w' := Chg.of_grown hg (fun k hk => hk)
  have hge : ∀ k, v.ownBlock = some k → w0.heap.size + 2 ≤ k := fun k hk => (h.own.lt k hk).1
  have c2 : Chg (fun k => k = w0.heap.size + 1) w' (w'.setCell ⟨w0.heap.size + 1, 0, none⟩ v') := Chg.setCell (S := fun k => k = w0.heap.size + 1) (Chg.refl _ w') (p := ⟨w0.heap.size + 1, 0, none⟩) rfl v'
  have e0 : w'.heap[w0.heap.size]? = some nilO := (hc.block _ (by omega) (fun hk => by have := hge _ hk; omega)).trans h.b0
  have e1 : w'.heap[w0.heap.size + 1]? = some (.cells #[v] 70 (0, 0)) := (hc.block _ (by omega) (fun hk => by have := hge _ hk; omega)).trans h.b1
  refine ⟨?_, ?_, ?_, ?_⟩
  · rw [c2.block _ (by have := hc.size; omega) (by omega)]; exact e0
  · simp [World.setCell, Array.getElem?_modify, e1]
  · have := owns_chg ho (fun k hk e => by have := (ho.lt k hk).1; omega) c2
    simpa using this
  · exact Chg.out c2 (Chg.out hc h.out (fun k hk => by have := hge k hk; omega)) (fun k hk => by omega)
theorem OwS.rt {B : Nat} {w : World} {N : List (List UInt8)} {a : Option Addr} {c : Nat} (h : OwS B (.slice a N.length c) N w) : RT w a N ∧ N.length ≤ c := by
  rcases h.2 with ⟨hv, hn⟩ | ⟨g, cap, cur, hv, hb, hg, hc, _⟩
  · exact ⟨.inl (List.length_eq_zero_iff.1 hn), by omega⟩
  · simp only [Value.slice.injEq] at hv
    obtain ⟨rfl, -, rfl⟩ := hv
    refine ⟨.inr ⟨g, 0, (Array.getElem?_eq_some_iff.1 hg).1, rfl, fun k x hx => ?_⟩, hc⟩
    have := World.ownsRow.cells h (g := g) rfl k (strV x) (by simp [hx])
    rw [WideShapes.add_plain] at this
    exact this
/-- what the reference's Read leaves -/
def RREnd (w : World) (l : List UInt8) (e : Ending) (w' : World) : Prop :=
  Out w w' ∧ ((rdP l).1 = none ∧ e = .returned (.tuple #[.agg #[.slice none 0 0], .int .i64 (rdP l).2, .int .i64 80]) ∨ ∃ N a c, (rdP l).1 = some N ∧ e = .returned (.tuple #[.agg #[.slice a N.length c], .int .i64 0, .int .i64 0]) ∧ OwS w.heap.size (.slice a N.length c) N w')
end Go.Proofs.YtfmcoffmgdcciaaDoor
