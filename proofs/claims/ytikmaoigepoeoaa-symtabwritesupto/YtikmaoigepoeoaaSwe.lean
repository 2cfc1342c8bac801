import Derived.Test.YtikmaoigepoeoaaSfd
import Derived.Test.YtikmaoigepoeoaaSwd
import Derived.Laws.MakeOwn
namespace Go.Proofs.Ytikmaoigepoeoaa
open Go.RowKit
set_option linter.unusedVariables false
set_option linter.unusedSimpArgs false
/-- a block of symbols -/
def RowY (w : World) (g : Nat) (L : List Sy) : Prop := w.heap[g]? = some (.cells (syV L).toArray 57 (0, 0))
theorem RowY.lt {w : World} {g : Nat} {L : List Sy} (h : RowY w g L) : g < w.heap.size := (Array.getElem?_eq_some_iff.1 h).1
theorem RowY.same {w w' : World} {g : Nat} {L : List Sy} (h : RowY w g L) (e : w'.heap[g]? = w.heap[g]?) : RowY w' g L := e.trans h
theorem RowY.out {w w' : World} {g : Nat} {L : List Sy} (h : RowY w g L) (o : Out w w') : RowY w' g L := h.same (o.block g h.lt)
theorem RowY.cells {w : World} {g : Nat} {L : List Sy} (h : RowY w g L) {i : Nat} {x : Sy} (hx : L[i]? = some x) : Cells6 w g (i * 6) x := by
  have key : ∀ j, j < 6 → w.cell? ⟨g, i * 6 + j, none⟩ = x.cs[j]? := fun j hj => by
    rw [cell_atL (show w.heap[g]? = _ from h), List.getElem?_toArray, syV_get L i x j hx hj]
  exact ⟨key 0 (by omega), key 1 (by omega), key 2 (by omega), key 3 (by omega), key 4 (by omega), key 5 (by omega)⟩
theorem RowY.syms {w : World} {g : Nat} {A B : List Sy} (h : RowY w g (A ++ B)) : SyAt w.heap.size w (some ⟨g, 0, none⟩) A :=
  .inr ⟨g, 0, h.lt, rfl, fun k u hu => by
    rw [Nat.zero_add, cell_atL (show w.heap[g]? = _ from h), List.getElem?_toArray, syV_app, List.getElem?_append_left (List.getElem?_eq_some_iff.1 hu).1]
    exact hu⟩
theorem RowY.frozen {w : World} {g : Nat} {L : List Sy} (h : RowY w g L) (j : Nat) : w.frozen? ⟨g, j, none⟩ = false := frozen_atL (show w.heap[g]? = _ from h) j
theorem putY_list (A C : List Value) (y0 y1 y2 y3 y4 y5 x0 x1 x2 x3 x4 x5 : Value) (k : Nat) (hk : A.length = k) : ((((((A ++ ([y0, y1, y2, y3, y4, y5] ++ C)).set k x0).set (k + 1) x1).set (k + 2) x2).set (k + 3) x3).set (k + 4) x4).set (k + 5) x5 = A ++ ([x0, x1, x2, x3, x4, x5] ++ C) := by
  subst hk
  simp [List.set_append]
theorem split_atY (L : List Sy) (i : Nat) (x : Sy) (h : L[i]? = some x) : L = L.take i ++ (x :: L.drop (i + 1)) := by
  have hk : i < L.length := (List.getElem?_eq_some_iff.1 h).1
  have hd := List.drop_eq_getElem_cons hk
  have hx' : L[i] = x := by rw [List.getElem?_eq_getElem hk] at h; exact Option.some.inj h
  rw [hx'] at hd
  rw [← hd, List.take_append_drop]
/-- the six cells of a symbol are stored -/
def putY (w : World) (g o : Nat) (a b c d e f : Int) : World := (((((w.setCell ⟨g, o, none⟩ (.int .i64 a)).setCell ⟨g, o + 1, none⟩ (.int .i64 b)).setCell ⟨g, o + 2, none⟩ (.int .i64 c)).setCell ⟨g, o + 3, none⟩ (.int .i64 d)).setCell ⟨g, o + 4, none⟩ (.int .i64 e)).setCell ⟨g, o + 5, none⟩ (.int .i64 f)
theorem RowY.set {w : World} {g : Nat} {L : List Sy} (h : RowY w g L) {i : Nat} (hi : i < L.length) (a b c d e f : Int) : RowY (putY w g (i * 6) a b c d e f) g (L.set i ⟨a, b, c, d, e, f⟩) := by
  have h4 := set_atL (set_atL (set_atL (set_atL (set_atL (set_atL (show w.heap[g]? = _ from h) (i * 6) (.int .i64 a)) (i * 6 + 1) (.int .i64 b)) (i * 6 + 2) (.int .i64 c)) (i * 6 + 3) (.int .i64 d)) (i * 6 + 4) (.int .i64 e)) (i * 6 + 5) (.int .i64 f)
  unfold RowY putY
  rw [h4]
  simp only [List.setIfInBounds_toArray]
  obtain ⟨x, hx⟩ : ∃ x, L[i]? = some x := ⟨_, List.getElem?_eq_getElem hi⟩
  have e1 : syV L = syV (L.take i) ++ ([.int .i64 x.na, .int .i64 x.bi, .int .i64 x.ki, .int .i64 x.se, .int .i64 x.va, .int .i64 x.si] ++ syV (L.drop (i + 1))) := by
    conv => lhs; rw [split_atY L i x hx]
    rw [syV_app]; rfl
  have e2 : syV (L.set i ⟨a, b, c, d, e, f⟩) = syV (L.take i) ++ ([.int .i64 a, .int .i64 b, .int .i64 c, .int .i64 d, .int .i64 e, .int .i64 f] ++ syV (L.drop (i + 1))) := by
    rw [List.set_eq_take_append_cons_drop, if_pos hi, syV_app]; rfl
  have hl : (syV (L.take i)).length = i * 6 := by rw [syV_len, List.length_take, Nat.min_eq_left (by omega)]
  rw [e1, e2, putY_list _ _ _ _ _ _ _ _ _ _ _ _ _ _ (i * 6) hl]
theorem putY_other {w : World} {p g o : Nat} {a b c d e f : Int} (h : ¬ p = g) : (putY w g o a b c d e f).heap[p]? = w.heap[p]? := by
  unfold putY
  rw [Below.heap_setCell _ _ _ _ h, Below.heap_setCell _ _ _ _ h, Below.heap_setCell _ _ _ _ h, Below.heap_setCell _ _ _ _ h, Below.heap_setCell _ _ _ _ h, Below.heap_setCell _ _ _ _ h]
theorem chg6 {p g : Nat} {W w : World} (h : Chg (SL p g) W w) (o : Nat) (a b c d e f : Int) : Chg (SL p g) W (putY w g o a b c d e f) :=
  (((((h.setCell (p := ⟨g, o, none⟩) (.inr rfl) _).setCell (p := ⟨g, o + 1, none⟩) (.inr rfl) _).setCell (p := ⟨g, o + 2, none⟩) (.inr rfl) _).setCell (p := ⟨g, o + 3, none⟩) (.inr rfl) _).setCell (p := ⟨g, o + 4, none⟩) (.inr rfl) _).setCell (p := ⟨g, o + 5, none⟩) (.inr rfl) _
def zeroY : Sy := ⟨0, 0, 0, 0, 0, 0⟩
theorem made_syms (N : Nat) : madeCells #[.int .i64 0, .int .i64 0, .int .i64 0, .int .i64 0, .int .i64 0, .int .i64 0] (N * 6) = (syV (List.replicate N zeroY)).toArray := by
  apply Array.ext_getElem?
  intro j
  simp only [madeCells, Array.getElem?_map, List.getElem?_toArray]
  by_cases hj : j < N * 6
  · rw [Array.getElem?_range, if_pos hj]
    have h4 : j % 6 < 6 := Nat.mod_lt _ (by omega)
    have hg := syV_get (List.replicate N zeroY) (j / 6) zeroY (j % 6) (by rw [List.getElem?_replicate, if_pos (by omega)]) h4
    rw [show j / 6 * 6 + j % 6 = j by omega] at hg
    rw [hg]
    have : ∀ k, k < 6 → some ((#[Value.int .i64 0, .int .i64 0, .int .i64 0, .int .i64 0, .int .i64 0, .int .i64 0] : Array Value)[k]!) = zeroY.cs[k]? := by
      intro k hk
      match k, hk with
      | 0, _ => rfl
      | 1, _ => rfl
      | 2, _ => rfl
      | 3, _ => rfl
      | 4, _ => rfl
      | 5, _ => rfl
    exact this _ h4
  · rw [Array.getElem?_range, if_neg hj, List.getElem?_eq_none (by rw [syV_len, List.length_replicate]; omega)]; rfl
theorem run_make_syms (n : Nat) (hn : 48 * n ≤ 140737488355328) (w : World) : (Instr.makeSlice 25 (.int .i64 (n : Int)) (.int .i64 (n : Int))).run Try.prog w = .ok (.slice (some ⟨w.heap.size, 0, none⟩) n n) (w.alloc (.cells (syV (List.replicate n zeroY)).toArray 57)) := by
  obtain ⟨i0, hi, hz0, hz1, hz2⟩ := info_parts infoSm
  have h := run_make (P := Try.prog) w 25 57 i0 _ Try.underlying25 hi hz0 .i64 .i64 (n : Int) (n : Int) (by omega) (Int.le_refl _) (by rw [hz2]; omega) (by omega)
  rw [hz1] at h
  simp only [Int.toNat_natCast, Value.cells] at h
  rw [made_syms] at h
  exact h
/-- what stands behind symbols that are lent -/
def behY (i : Nat) : Sy := ⟨-9 - i, 0, 0, 0, 3 * i, 0⟩
def behsY (a k : Nat) : List Sy := (List.range' a k).map behY
theorem behsY_len (a k : Nat) : (behsY a k).length = k := by simp [behsY]
theorem behsY_get {n k j : Nat} (h : j < k) : (behsY n k)[j]? = some (behY (n + j)) := by
  unfold behsY
  rw [List.getElem?_map, List.getElem?_range' h]
  simp
set_option maxRecDepth 20000 in
theorem behindY_any (i : Nat) (hi : i ≤ 1000000000000000) (w : World) : Calls Try.prog 36 #[.int .i64 i] w fun e w' => e = .returned (.agg #[.int .i64 (-9 - (i : Int)), .int .i64 0, .int .i64 0, .int .i64 0, .int .i64 (3 * (i : Int)), .int .i64 0]) ∧ Out w w' := by
  go_enter Try.func36, Try.ntmps36
  go_wp2
  refine bodyPost_ret (results_cell_row rfl _ _ w.heap.size 57 _ (0, 0) _ rfl (heap_alloc_new _ _) Try.underlying57 rfl (by kernel_rfl)) rfl ?_
  exact ⟨rfl, Out.alloc (Out.refl _) _⟩
/-- the desk's block at p, its list at g -/
structure Db (w : World) (p g m : Nat) (L : List Sy) : Prop where
  hp : w.heap[p]? = some (.cells #[.slice (some ⟨g, 0, none⟩) m m] 27 (0, 0))
  hg : RowY w g L
  len_ : L.length = m
theorem Db.ne {w : World} {p g m : Nat} {L : List Sy} (h : Db w p g m L) : ¬ p = g := fun e => by
  have h1 := h.hp
  have h2 : w.heap[g]? = _ := h.hg
  rw [e, h2] at h1; simp at h1
theorem Db.c0 {w : World} {p g m : Nat} {L : List Sy} (h : Db w p g m L) : w.cell? ⟨p, 0, none⟩ = some (.slice (some ⟨g, 0, none⟩) m m) := by rw [cell_atL h.hp]; rfl
theorem Db.ltp {w : World} {p g m : Nat} {L : List Sy} (h : Db w p g m L) : p < w.heap.size := (Array.getElem?_eq_some_iff.1 h.hp).1
theorem Db.out {w w' : World} {p g m : Nat} {L : List Sy} (h : Db w p g m L) (o : Out w w') : Db w' p g m L := ⟨(o.block p h.ltp).trans h.hp, h.hg.out o, h.len_⟩
theorem Db.drew {w : World} {p g m : Nat} {L : List Sy} (h : Db w p g m L) : Db w.drew p g m L := ⟨h.hp, h.hg, h.len_⟩
theorem Db.set {w : World} {p g m : Nat} {L : List Sy} (h : Db w p g m L) {i : Nat} (hi : i < L.length) (a b c d e f : Int) : Db (putY w g (i * 6) a b c d e f) p g m (L.set i ⟨a, b, c, d, e, f⟩) :=
  ⟨by rw [putY_other h.ne]; exact h.hp, h.hg.set hi a b c d e f, by simpa using h.len_⟩
theorem SyAt.keep {B B' : Nat} {S : Nat → Prop} {w w' : World} {a : Option Addr} {l : List Sy} (h : SyAt B w a l) (c : Chg S w w') (hB : B ≤ B') (hs : ¬ l = [] → ∀ ad, a = some ad → ¬ S ad.block) : SyAt B' w' a l := by
  by_cases hl : l = []
  · exact .inl hl
  · rcases h with h | ⟨b, o, hb, ha, hc⟩
    · exact .inl h
    · have hb2 : ¬ S b := hs hl ⟨b, o, none⟩ ha
      exact .inr ⟨b, o, by omega, ha, fun k x hx => c.cell (hc k x hx) hb2⟩
/-- amid Lend: the first j places are laid -/
def ovY (j : Nat) (T L : List Sy) : List Sy := T.take j ++ L.drop j
theorem ovY_len {j : Nat} {T L : List Sy} (h : j ≤ T.length) (h2 : T.length ≤ L.length) : (ovY j T L).length = L.length := by simp [ovY]; omega
theorem ovY_set {j : Nat} {T L : List Sy} {x : Sy} (h : T[j]? = some x) (h2 : T.length ≤ L.length) : (ovY j T L).set j x = ovY (j + 1) T L := by
  have hj := (List.getElem?_eq_some_iff.1 h).1
  unfold ovY
  have hl : (T.take j).length = j := by rw [List.length_take]; omega
  rw [List.set_append_right _ _ (by omega), hl, Nat.sub_self, List.drop_eq_getElem_cons (by omega : j < L.length), List.set_cons_zero, List.take_add_one, h]
  simp
theorem ovY_put {j : Nat} {T L : List Sy} {x y : Sy} (h : T[j]? = some x) (h2 : T.length ≤ L.length) : ((ovY j T L).set j y).set j x = ovY (j + 1) T L := by
  rw [List.set_set, ovY_set h h2]
/-- what is lent, and the marks behind it -/
def tgY (l : List Sy) : List Sy := l ++ behsY l.length (l.length + 70)
theorem tgY_len (l : List Sy) : (tgY l).length = 2 * l.length + 70 := by simp [tgY, behsY_len]; omega
theorem tgY_lo {l : List Sy} {j : Nat} {x : Sy} (h : l[j]? = some x) : (tgY l)[j]? = some x := by
  unfold tgY
  rw [List.getElem?_append_left (List.getElem?_eq_some_iff.1 h).1]; exact h
theorem tgY_hi {l : List Sy} {j : Nat} (h : l.length ≤ j) (h2 : j < 2 * l.length + 70) : (tgY l)[j]? = some (behY j) := by
  unfold tgY
  rw [List.getElem?_append_right h, behsY_get (by omega), show l.length + (j - l.length) = j by omega]
end Go.Proofs.Ytikmaoigepoeoaa
