import Derived.Test.YtbnoaedkonnflaaDoorIyf
namespace Go.Proofs.YtbnoaedkonnflaaDoor
open Go.RowKit
set_option linter.unusedVariables false
set_option linter.unusedSimpArgs false
/-- numbers are taken up into the fields of a new row -/
theorem numFR (wb w8 : World) (p g go n c o h k q : Nat) (l : List UInt8) (cs : Array Value) (t : TypeId) (H : Tk wb p g go n c o l) (o8 : Out wb w8) (hh : wb.heap.size ≤ h) (hbox : w8.heap[h]? = some (.cells cs t (0, 0))) (hcs : cs.size = k) (hq5 : wb.heap.size ≤ q) (hhq : ¬ h = q) (hcq : ∀ i, i < k → w8.cell? ⟨q, i, none⟩ = some (.pointer (some ⟨h, i, none⟩))) (hk : 0 < k) (hr : o + 4 * k ≤ n) (hn : n ≤ 1000000000000) :
    Calls Tryd.prog 29 #[.pointer (some ⟨p, 0, none⟩), .slice (some ⟨q, 0, none⟩) k k] w8 fun e w' => (∃ v, e = .returned v) ∧ Mv p (o + 4 * k) wb w' ∧ ∀ i, i < k → w'.cell? ⟨h, i, none⟩ = some (.int .i64 (g4 l (o + 4 * i) : Nat)) := by
  have hget : ∀ i y, ((List.range k).map (fun i => (h, i)))[i]? = some y → i < k ∧ y = (h, i) := fun i y hy => by
    rw [List.getElem?_map] at hy
    rcases Nat.lt_or_ge i k with hi | hi
    · rw [List.getElem?_range hi] at hy; simp at hy; exact ⟨hi, hy.symm⟩
    · rw [List.getElem?_eq_none (by simpa using hi)] at hy; simp at hy
  have hlen : ((List.range k).map (fun i => (h, i))).length = k := by simp
  have hmem : ∀ y ∈ (List.range k).map (fun i => (h, i)), y.1 = h ∧ y.2 < k := fun y hy => by
    simp at hy; obtain ⟨i, hi, rfl⟩ := hy; exact ⟨rfl, hi⟩
  have := numR wb w8 p g go n c o q l ((List.range k).map (fun i => (h, i))) (H.out o8) o8 H.pl H.gl (fun y hy => by rw [(hmem y hy).1]; exact hh) (by
      refine List.Pairwise.map _ (fun a b hab e => hab ?_) List.nodup_range
      simpa using e) (by
      intro e; rw [← List.length_eq_zero_iff, hlen] at e; omega) (fun i y hy => by
      obtain ⟨hi, rfl⟩ := hget i y hy; exact hcq i hi) hq5 (fun y hy => by
      obtain ⟨e1, e2⟩ := hmem y hy
      refine ⟨?_, ?_, by rw [e1]; exact hhq⟩
      · rw [e1, cell_atL hbox, Array.getElem?_eq_getElem (by omega)]; rfl
      · rw [e1]; exact frozen_atL hbox _) (by rw [hlen]; exact hr) hn
  rw [hlen] at this
  refine this.mono ?_
  rintro e w' ⟨hv, hm, hg, _⟩
  exact ⟨hv, hm, fun i hi => hg i (h, i) (by rw [List.getElem?_map, List.getElem?_range hi]; rfl)⟩
def Td.cs (x : Td) : List Value := [.string ⟨x.nm.toArray⟩, .int .i64 x.kd, .int .i64 x.ky, .int .i64 x.vl, .int .i64 x.en]
def tdV (l : List Td) : List Value := l.flatMap Td.cs
theorem tdV_snoc (l : List Td) (x : Td) : tdV (l ++ [x]) = tdV l ++ x.cs := by simp [tdV, List.flatMap_append]
theorem td_one (x : Td) : ∀ u ∈ x.cs, u.oneCell' = true := by
  intro u hu
  simp [Td.cs] at hu
  rcases hu with rfl | rfl | rfl | rfl | rfl <;> rfl
theorem infoTD : (Tryd.prog.info? 83).map (fun i => (i.zero, i.size, i.bytes)) = some (some (.agg #[.string ⟨#[]⟩, .int .i64 0, .int .i64 0, .int .i64 0, .int .i64 0]), 5, 48) := by kernel_rfl
def OwD (w : World) (B : Nat) (v : Value) (D : List Td) : Prop := w.ownsRow B 83 5 v D.length (tdV D)
theorem run_make_td (n : Nat) (hn : n ≤ 1000000000000) (w : World) : ∃ cur : Array Value, cur.size = n * 5 ∧ (Instr.makeSlice 24 (.int .i64 0) (.int .i64 (n : Int))).run Tryd.prog w = .ok (.slice (some ⟨w.heap.size, 0, none⟩) 0 n) (w.alloc (.cells cur 83)) := by
  obtain ⟨i0, hi, hz0, hz1, hz2⟩ := info_parts infoTD
  have h := run_make (P := Tryd.prog) w 24 83 i0 _ Tryd.underlying24 hi hz0 .i64 .i64 0 (n : Int) (by omega) (by omega) (by rw [hz2]; omega) (by omega)
  rw [hz1] at h
  refine ⟨_, ?_, h⟩
  simp [madeCells]
/-- what takeTables leaves -/
def tdE (l : List UInt8) (p g go n c : Nat) (w : World) (r : Rs) (N : List (List UInt8)) (e : Ending) (w' : World) : Prop :=
  (match tdR l N r.d r.o r.nx with
   | .ok (D, ny) => e = .returned (.tuple #[.int .i64 0, .bool false]) ∧ ∃ a cp, RdA w' p g go n c l { r with o := r.o + 20 * r.d, nx := ny, dv := .slice a D.length cp } ∧ OwD w' w.heap.size (.slice a D.length cp) D ∧ ny ≤ szF 1 N
   | .error q => e = .returned (.tuple #[.int .i64 (q : Nat), .bool true])) ∧ Chg (fun k => k = p) w w'
end Go.Proofs.YtbnoaedkonnflaaDoor
