import Derived.Test.YtmpbdakmmelmgaaGa44
import Derived.Test.YtmpbdakmmelmgaaGa20
namespace Go.Proofs.Ytmpbdakmmelmgaa
open Go.RowKit
set_option linter.unusedVariables false
set_option linter.unusedSimpArgs false
/-- a whole block of sections -/
def RowX (w : World) (g : Nat) (L : List SV) : Prop := w.heap[g]? = some (.cells (svV L).toArray 52 (0, 0))
theorem RowX.lt {w : World} {g : Nat} {L : List SV} (h : RowX w g L) : g < w.heap.size := (Array.getElem?_eq_some_iff.1 h).1
theorem RowX.same {w w' : World} {g : Nat} {L : List SV} (h : RowX w g L) (e : w'.heap[g]? = w.heap[g]?) : RowX w' g L := e.trans h
theorem RowX.out {w w' : World} {g : Nat} {L : List SV} (h : RowX w g L) (o : Out w w') : RowX w' g L := h.same (o.block g h.lt)
theorem RowX.cells {w : World} {g : Nat} {L : List SV} (h : RowX w g L) {i : Nat} {x : SV} (hx : L[i]? = some x) : Cells8 w g (i * 8) x := by
  have := cells8_of (w := w) (b := g) (off := 0) (L := L) (fun k u hu => by rw [Nat.zero_add, cell_atL (show w.heap[g]? = _ from h)]; simpa using hu) hx
  rw [Nat.zero_add] at this
  exact this
theorem RowX.at {w : World} {g : Nat} {A B : List SV} (h : RowX w g (A ++ B)) : ScAt w.heap.size w (some ⟨g, 0, none⟩) A :=
  .inr ⟨g, 0, h.lt, rfl, fun k u hu => by
    rw [Nat.zero_add, cell_atL (show w.heap[g]? = _ from h), List.getElem?_toArray, svV_app, List.getElem?_append_left (List.getElem?_eq_some_iff.1 hu).1]
    exact hu⟩
theorem RowX.frozen {w : World} {g : Nat} {L : List SV} (h : RowX w g L) (j : Nat) : w.frozen? ⟨g, j, none⟩ = false := frozen_atL (show w.heap[g]? = _ from h) j
theorem put8_list (A C : List Value) (y0 y1 y2 y3 y4 y5 y6 y7 x0 x1 x2 x3 x4 x5 x6 x7 : Value) (k : Nat) (hk : A.length = k) : ((((((((A ++ ([y0, y1, y2, y3, y4, y5, y6, y7] ++ C)).set k x0).set (k + 1) x1).set (k + 2) x2).set (k + 3) x3).set (k + 4) x4).set (k + 5) x5).set (k + 6) x6).set (k + 7) x7 = A ++ ([x0, x1, x2, x3, x4, x5, x6, x7] ++ C) := by
  subst hk
  simp [List.set_append]
theorem split_atX (L : List SV) (i : Nat) (x : SV) (h : L[i]? = some x) : L = L.take i ++ (x :: L.drop (i + 1)) := by
  have hk : i < L.length := (List.getElem?_eq_some_iff.1 h).1
  have hd := List.drop_eq_getElem_cons hk
  have hx' : L[i] = x := by rw [List.getElem?_eq_getElem hk] at h; exact Option.some.inj h
  rw [hx'] at hd
  rw [← hd, List.take_append_drop]
/-- the eight cells of a section are stored -/
def put8 (w : World) (g o : Nat) (x : SV) : World := (((((((w.setCell ⟨g, o, none⟩ (.string ⟨x.s.nm.toArray⟩)).setCell ⟨g, o + 1, none⟩ (.int .i64 x.s.ty)).setCell ⟨g, o + 2, none⟩ (.int .i64 x.s.fl)).setCell ⟨g, o + 3, none⟩ (.int .i64 x.s.li)).setCell ⟨g, o + 4, none⟩ (.int .i64 x.s.inf)).setCell ⟨g, o + 5, none⟩ (.int .i64 x.s.al)).setCell ⟨g, o + 6, none⟩ (.int .i64 x.s.es)).setCell ⟨g, o + 7, none⟩ (.slice x.da x.s.d.length x.dc)
theorem svV_split (L : List SV) (i : Nat) (x : SV) (h : L[i]? = some x) : svV L = svV (L.take i) ++ (x.cs ++ svV (L.drop (i + 1))) := by
  conv => lhs; rw [split_atX L i x h]
  rw [svV_app]; rfl
theorem svV_setAt (L : List SV) (i : Nat) (y : SV) (hi : i < L.length) : svV (L.set i y) = svV (L.take i) ++ (y.cs ++ svV (L.drop (i + 1))) := by
  rw [List.set_eq_take_append_cons_drop, if_pos hi, svV_app]; rfl
theorem svV_takeLen (L : List SV) (i : Nat) (hi : i < L.length) : (svV (L.take i)).length = i * 8 := by rw [svV_len, List.length_take, Nat.min_eq_left (by omega)]
theorem RowX.set {w : World} {g : Nat} {L : List SV} (h : RowX w g L) {i : Nat} (hi : i < L.length) (y : SV) : RowX (put8 w g (i * 8) y) g (L.set i y) := by
  have h4 := set_atL (set_atL (set_atL (set_atL (set_atL (set_atL (set_atL (set_atL (show w.heap[g]? = _ from h) (i * 8) (.string ⟨y.s.nm.toArray⟩)) (i * 8 + 1) (.int .i64 y.s.ty)) (i * 8 + 2) (.int .i64 y.s.fl)) (i * 8 + 3) (.int .i64 y.s.li)) (i * 8 + 4) (.int .i64 y.s.inf)) (i * 8 + 5) (.int .i64 y.s.al)) (i * 8 + 6) (.int .i64 y.s.es)) (i * 8 + 7) (.slice y.da y.s.d.length y.dc)
  unfold RowX put8
  rw [h4]
  simp only [List.setIfInBounds_toArray]
  obtain ⟨x, hx⟩ : ∃ x, L[i]? = some x := ⟨_, List.getElem?_eq_getElem hi⟩
  rw [svV_split L i x hx, svV_setAt L i y hi]
  unfold SV.cs
  rw [put8_list _ _ _ _ _ _ _ _ _ _ _ _ _ _ _ _ _ _ (i * 8) (svV_takeLen L i hi)]
/-- its data alone -/
theorem RowX.setD {w : World} {g : Nat} {L : List SV} (h : RowX w g L) {i : Nat} {x : SV} (hx : L[i]? = some x) (a : Option Addr) (c n : Nat) (hn : x.s.d.length = n) : RowX (w.setCell ⟨g, i * 8 + 7, none⟩ (.slice a n c)) g (L.set i ⟨x.s, a, c⟩) := by
  have hi := (List.getElem?_eq_some_iff.1 hx).1
  have h4 := set_atL (show w.heap[g]? = _ from h) (i * 8 + 7) (.slice a n c)
  unfold RowX
  rw [h4]
  simp only [List.setIfInBounds_toArray]
  rw [svV_split L i x hx, svV_setAt L i ⟨x.s, a, c⟩ hi, ← svV_takeLen L i hi, List.set_append_right _ _ (by omega), Nat.add_sub_cancel_left, ← hn]
  rfl
theorem put8_other {w : World} {p g o : Nat} {x : SV} (h : ¬ p = g) : (put8 w g o x).heap[p]? = w.heap[p]? := by
  unfold put8
  rw [Below.heap_setCell _ _ _ _ h, Below.heap_setCell _ _ _ _ h, Below.heap_setCell _ _ _ _ h, Below.heap_setCell _ _ _ _ h, Below.heap_setCell _ _ _ _ h, Below.heap_setCell _ _ _ _ h, Below.heap_setCell _ _ _ _ h, Below.heap_setCell _ _ _ _ h]
theorem chg8 {g : Nat} {W w : World} (h : Chg (fun k => k = g) W w) (o : Nat) (x : SV) : Chg (fun k => k = g) W (put8 w g o x) :=
  (((((((h.setCell (p := ⟨g, o, none⟩) rfl _).setCell (p := ⟨g, o + 1, none⟩) rfl _).setCell (p := ⟨g, o + 2, none⟩) rfl _).setCell (p := ⟨g, o + 3, none⟩) rfl _).setCell (p := ⟨g, o + 4, none⟩) rfl _).setCell (p := ⟨g, o + 5, none⟩) rfl _).setCell (p := ⟨g, o + 6, none⟩) rfl _).setCell (p := ⟨g, o + 7, none⟩) rfl _
def zeroX : SV := ⟨⟨[], 0, 0, 0, 0, 0, 0, []⟩, none, 0⟩
theorem made_secs (N : Nat) : madeCells #[.string ⟨#[]⟩, .int .i64 0, .int .i64 0, .int .i64 0, .int .i64 0, .int .i64 0, .int .i64 0, .slice none 0 0] (N * 8) = (svV (List.replicate N zeroX)).toArray := by
  apply Array.ext_getElem?
  intro j
  simp only [madeCells, Array.getElem?_map, List.getElem?_toArray]
  by_cases hj : j < N * 8
  · rw [Array.getElem?_range, if_pos hj]
    have h4 : j % 8 < 8 := Nat.mod_lt _ (by omega)
    have hg := svV_get (List.replicate N zeroX) (j / 8) zeroX (j % 8) (by rw [List.getElem?_replicate, if_pos (by omega)]) h4
    rw [show j / 8 * 8 + j % 8 = j by omega] at hg
    rw [hg]
    have : ∀ k, k < 8 → some ((#[Value.string ⟨#[]⟩, .int .i64 0, .int .i64 0, .int .i64 0, .int .i64 0, .int .i64 0, .int .i64 0, .slice none 0 0] : Array Value)[k]!) = zeroX.cs[k]? := by
      intro k hk
      match k, hk with
      | 0, _ => rfl
      | 1, _ => rfl
      | 2, _ => rfl
      | 3, _ => rfl
      | 4, _ => rfl
      | 5, _ => rfl
      | 6, _ => rfl
      | 7, _ => rfl
    exact this _ h4
  · rw [Array.getElem?_range, if_neg hj, List.getElem?_eq_none (by rw [svV_len, List.length_replicate]; omega)]; rfl
theorem run_make_secs (n : Nat) (hn : 88 * n ≤ 140737488355328) (w : World) : (Instr.makeSlice 24 (.int .i64 (n : Int)) (.int .i64 (n : Int))).run Try.prog w = .ok (.slice (some ⟨w.heap.size, 0, none⟩) n n) (w.alloc (.cells (svV (List.replicate n zeroX)).toArray 52)) := by
  obtain ⟨i0, hi, hz0, hz1, hz2⟩ := info_parts infoSc
  have h := run_make (P := Try.prog) w 24 52 i0 _ Try.underlying24 hi hz0 .i64 .i64 (n : Int) (n : Int) (by omega) (Int.le_refl _) (by rw [hz2]; omega) (by omega)
  rw [hz1] at h
  simp only [Int.toNat_natCast, Value.cells] at h
  rw [made_secs] at h
  exact h
/-- what stands behind sections that are lent; what is written over them -/
def behX (i : Nat) : SV := ⟨⟨[98, 101, 104, 105, 110, 100], (i : Int) + 1, 0, 0, 0, 1, 0, []⟩, none, 0⟩
def mineX : SV := ⟨⟨[109, 105, 110, 101], 0, 0, 0, 0, 0, 0, []⟩, none, 0⟩
def behsX (a k : Nat) : List SV := (List.range' a k).map behX
theorem behsX_len (a k : Nat) : (behsX a k).length = k := by simp [behsX]
theorem behsX_get {n k j : Nat} (h : j < k) : (behsX n k)[j]? = some (behX (n + j)) := by
  unfold behsX
  rw [List.getElem?_map, List.getElem?_range' h]
  simp
/-- the first j places are laid -/
def ovX (j : Nat) (T L : List SV) : List SV := T.take j ++ L.drop j
theorem ovX_len {j : Nat} {T L : List SV} (h : j ≤ T.length) (h2 : T.length ≤ L.length) : (ovX j T L).length = L.length := by simp [ovX]; omega
theorem ovX_set {j : Nat} {T L : List SV} {x : SV} (h : T[j]? = some x) (h2 : T.length ≤ L.length) : (ovX j T L).set j x = ovX (j + 1) T L := by
  have hj := (List.getElem?_eq_some_iff.1 h).1
  unfold ovX
  have hl : (T.take j).length = j := by rw [List.length_take]; omega
  rw [List.set_append_right _ _ (by omega), hl, Nat.sub_self, List.drop_eq_getElem_cons (by omega : j < L.length), List.set_cons_zero, List.take_add_one, h]
  simp
end Go.Proofs.Ytmpbdakmmelmgaa
