import Derived.Test.YtoobdcjkhphlcaaRfa
import Derived.Test.YtoobdcjkhphlcaaReo
import Derived.Laws.MakeOwn
import Derived.Laws.CopyRow
import Derived.Laws.IdiomCopy
namespace Go.Proofs.Ytoobdcjkhphlcaa
open Go.RowKit
set_option linter.unusedVariables false
set_option linter.unusedSimpArgs false
/-- a block of relocations -/
def RowR (w : World) (g : Nat) (L : List Rl) : Prop := w.heap[g]? = some (.cells (rlV L).toArray 27 (0, 0))
theorem RowR.lt {w : World} {g : Nat} {L : List Rl} (h : RowR w g L) : g < w.heap.size := (Array.getElem?_eq_some_iff.1 h).1
theorem RowR.same {w w' : World} {g : Nat} {L : List Rl} (h : RowR w g L) (e : w'.heap[g]? = w.heap[g]?) : RowR w' g L := e.trans h
theorem RowR.out {w w' : World} {g : Nat} {L : List Rl} (h : RowR w g L) (o : Out w w') : RowR w' g L := h.same (o.block g h.lt)
theorem RowR.cells {w : World} {g : Nat} {L : List Rl} (h : RowR w g L) {i : Nat} {x : Rl} (hx : L[i]? = some x) :
    w.cell? ⟨g, i * 3, none⟩ = some (.int .i64 x.sl) ∧ w.cell? ⟨g, i * 3 + 1, none⟩ = some (.int .i64 x.ki) ∧ w.cell? ⟨g, i * 3 + 2, none⟩ = some (.int .i64 x.sy) := by
  have key : ∀ j, j < 3 → w.cell? ⟨g, i * 3 + j, none⟩ = x.cs[j]? := fun j hj => by
    rw [cell_atL (show w.heap[g]? = _ from h), List.getElem?_toArray, rlV_get L i x j hx hj]
  exact ⟨key 0 (by omega), key 1 (by omega), key 2 (by omega)⟩
theorem RowR.rels {w : World} {g : Nat} {A B : List Rl} (h : RowR w g (A ++ B)) : RlAt w.heap.size w (some ⟨g, 0, none⟩) A :=
  .inr ⟨g, 0, h.lt, rfl, fun k u hu => by
    rw [Nat.zero_add, cell_atL (show w.heap[g]? = _ from h), List.getElem?_toArray, rlV_app, List.getElem?_append_left (List.getElem?_eq_some_iff.1 hu).1]
    exact hu⟩
theorem RowR.frozen {w : World} {g : Nat} {L : List Rl} (h : RowR w g L) (j : Nat) : w.frozen? ⟨g, j, none⟩ = false := frozen_atL (show w.heap[g]? = _ from h) j
theorem set3_list (A C : List Value) (y0 y1 y2 x0 x1 x2 : Value) (k : Nat) (hk : A.length = k) : (((A ++ ([y0, y1, y2] ++ C)).set k x0).set (k + 1) x1).set (k + 2) x2 = A ++ ([x0, x1, x2] ++ C) := by
  subst hk
  simp [List.set_append]
theorem split_atR (L : List Rl) (i : Nat) (x : Rl) (h : L[i]? = some x) : L = L.take i ++ (x :: L.drop (i + 1)) := by
  have hk : i < L.length := (List.getElem?_eq_some_iff.1 h).1
  have hd := List.drop_eq_getElem_cons hk
  have hx' : L[i] = x := by rw [List.getElem?_eq_getElem hk] at h; exact Option.some.inj h
  rw [hx'] at hd
  rw [← hd, List.take_append_drop]
theorem RowR.set {w : World} {g : Nat} {L : List Rl} (h : RowR w g L) {i : Nat} (hi : i < L.length) (a b c : Int) :
    RowR (((w.setCell ⟨g, i * 3, none⟩ (.int .i64 a)).setCell ⟨g, i * 3 + 1, none⟩ (.int .i64 b)).setCell ⟨g, i * 3 + 2, none⟩ (.int .i64 c)) g (L.set i ⟨a, b, c⟩) := by
  have h4 := set_atL (set_atL (set_atL (show w.heap[g]? = _ from h) (i * 3) (.int .i64 a)) (i * 3 + 1) (.int .i64 b)) (i * 3 + 2) (.int .i64 c)
  unfold RowR
  rw [h4]
  simp only [List.setIfInBounds_toArray]
  obtain ⟨x, hx⟩ : ∃ x, L[i]? = some x := ⟨_, List.getElem?_eq_getElem hi⟩
  have e1 : rlV L = rlV (L.take i) ++ ([.int .i64 x.sl, .int .i64 x.ki, .int .i64 x.sy] ++ rlV (L.drop (i + 1))) := by
    conv => lhs; rw [split_atR L i x hx]
    rw [rlV_app]; rfl
  have e2 : rlV (L.set i ⟨a, b, c⟩) = rlV (L.take i) ++ ([.int .i64 a, .int .i64 b, .int .i64 c] ++ rlV (L.drop (i + 1))) := by
    rw [List.set_eq_take_append_cons_drop, if_pos hi, rlV_app]; rfl
  have hl : (rlV (L.take i)).length = i * 3 := by rw [rlV_len, List.length_take, Nat.min_eq_left (by omega)]
  rw [e1, e2, set3_list _ _ _ _ _ _ _ _ (i * 3) hl]
def zeroR : Rl := ⟨0, 0, 0⟩
theorem made_rels (N : Nat) : madeCells #[.int .i64 0, .int .i64 0, .int .i64 0] (N * 3) = (rlV (List.replicate N zeroR)).toArray := by
  apply Array.ext_getElem?
  intro j
  simp only [madeCells, Array.getElem?_map, List.getElem?_toArray]
  by_cases hj : j < N * 3
  · rw [Array.getElem?_range, if_pos hj]
    have h4 : j % 3 < 3 := Nat.mod_lt _ (by omega)
    have hg := rlV_get (List.replicate N zeroR) (j / 3) zeroR (j % 3) (by rw [List.getElem?_replicate, if_pos (by omega)]) h4
    rw [show j / 3 * 3 + j % 3 = j by omega] at hg
    rw [hg]
    have : ∀ k, k < 3 → some ((#[Value.int .i64 0, .int .i64 0, .int .i64 0] : Array Value)[k]!) = zeroR.cs[k]? := by
      intro k hk
      match k, hk with
      | 0, _ => rfl
      | 1, _ => rfl
      | 2, _ => rfl
    exact this _ h4
  · rw [Array.getElem?_range, if_neg hj, List.getElem?_eq_none (by rw [rlV_len, List.length_replicate]; omega)]; rfl
theorem run_make_rels (n : Nat) (hn : 24 * n ≤ 140737488355328) (w : World) : (Instr.makeSlice 22 (.int .i64 (n : Int)) (.int .i64 (n : Int))).run Try.prog w = .ok (.slice (some ⟨w.heap.size, 0, none⟩) n n) (w.alloc (.cells (rlV (List.replicate n zeroR)).toArray 27)) := by
  obtain ⟨i0, hi, hz0, hz1, hz2⟩ := info_parts infoRl
  have h := run_make (P := Try.prog) w 22 27 i0 _ Try.underlying22 hi hz0 .i64 .i64 (n : Int) (n : Int) (by omega) (Int.le_refl _) (by rw [hz2]; omega) (by omega)
  rw [hz1] at h
  simp only [Int.toNat_natCast, Value.cells] at h
  rw [made_rels] at h
  exact h
theorem rlV_one (l : List Rl) : ∀ u ∈ rlV l, u.oneCell' = true := by
  intro u hu
  simp only [rlV, List.mem_flatMap] at hu
  obtain ⟨x, _, hx⟩ := hu
  simp only [Rl.cs, List.mem_cons, List.not_mem_nil, or_false] at hx
  rcases hx with rfl | rfl | rfl <;> rfl
set_option maxRecDepth 20000 in
/-- copy(dst, src), dst a row, all of src -/
theorem run_copy_rels (w : World) (ty : TypeId) (g dLen dCap : Nat) (a : Option Addr) (n c : Nat) (L l2 : List Rl) (B : Nat) (hg : RowR w g L) (hn : l2.length = n) (hA : RlAt B w a l2) (h1 : n ≤ dLen) (h2 : n ≤ L.length) :
    ∃ w', (Builtin.copy_ #[22, 22] ty #[.slice (some ⟨g, 0, none⟩) dLen dCap, .slice a n c]).run Try.prog w = .ok (.int .i64 n) w' ∧ RowR w' g (l2 ++ L.drop n) ∧ Chg (fun k => k = g) w w' := by
  obtain ⟨i0, hi, hz0, hz1, hz2⟩ := info_parts infoRl
  have hmin : Nat.min n dLen = n := Nat.min_eq_left h1
  cases a with
  | none =>
    obtain rfl : l2 = [] := by
      rcases hA with h | ⟨b, off, _, h, _⟩
      · exact h
      · cases h
    obtain rfl : n = 0 := by simpa using hn.symm
    refine ⟨w, ?_, by simpa using hg, Chg.refl _ _⟩
    simp [Builtin.copy_, run_underlying Try.underlying22, Builtin.lenOf, Builtin.firstCells, sizeOf, typeInfo, hi, storeCells, goInt]
  | some ad =>
    have hcells : ∀ j u, (rlV l2)[j]? = some u → w.cell? (ad.add j) = some u := by
      intro j u hu
      rcases hA with rfl | ⟨b, off, _, h, hc⟩
      · simp [rlV] at hu
      · cases h
        have e : (⟨b, off, none⟩ : Addr).add j = ⟨b, off + j, none⟩ := by unfold Addr.add; split <;> simp_all
        rw [e]
        exact hc j u hu
    have hl := run_loadCells_list (P := Try.prog) w ad (rlV l2) hcells
    rw [rlV_len, hn] at hl
    have hst := run_storeCells_at Try.prog g 0 27 (rlV l2) 0 (rlV L).toArray w hg (by simp [rlV_len]; omega) (rlV_one l2)
    refine ⟨w.setRow g (rlV (l2 ++ L.drop n)).toArray, ?_, ?_, ?_⟩
    · have e : ((rlV L).toArray.toList.take (0 + 0) ++ rlV l2 ++ (rlV L).toArray.toList.drop (0 + 0 + (rlV l2).length)).toArray = (rlV (l2 ++ L.drop n)).toArray := by
        congr 1
        simp only [Nat.add_zero, List.take_zero, List.nil_append, Nat.zero_add, rlV_len, hn, rlV_app]
        congr 1
        have e1 : rlV L = rlV (L.take n) ++ rlV (L.drop n) := by rw [← rlV_app, List.take_append_drop]
        rw [e1, List.drop_left' (by rw [rlV_len, List.length_take, Nat.min_eq_left h2])]
      rw [e] at hst
      simp [Builtin.copy_, run_underlying Try.underlying22, Builtin.lenOf, Builtin.firstCells, sizeOf, typeInfo, hi, hz1, hmin, hl, hst, goInt]
    · exact setRow_heap w g _ _ _ _ hg
    · exact ⟨rfl, rfl, rfl, by simp [World.setRow], fun k hk hs => setRow_other w g k _ hs⟩
/-- what stands behind relocations that are lent -/
def behR (i : Nat) : Rl := ⟨-1 - i, 40, i⟩
def behsR (a k : Nat) : List Rl := (List.range' a k).map behR
theorem behsR_len (a k : Nat) : (behsR a k).length = k := by simp [behsR]
theorem behsR_succ (a k : Nat) : behsR a (k + 1) = behsR a k ++ [behR (a + k)] := by simp [behsR, List.range'_concat]
theorem behsR_drop (n m : Nat) : (behsR 0 m).drop n = behsR n (m - n) := by
  simp only [behsR, ← List.map_drop, List.drop_range']
  congr 2; omega
theorem behsR_get {n k j : Nat} (h : j < k) : (behsR n k)[j]? = some (behR (n + j)) := by
  unfold behsR
  rw [List.getElem?_map, List.getElem?_range' h]
  simp
set_option maxRecDepth 20000 in
theorem behind_any (i : Nat) (hi : i ≤ 1000000000000000) (w : World) : Calls Try.prog 40 #[.int .i64 i] w fun e w' => e = .returned (.agg #[.int .i64 (-1 - (i : Int)), .int .i64 40, .int .i64 i]) ∧ Out w w' := by
  go_enter Try.func40, Try.ntmps40
  go_wp2
  refine bodyPost_ret (results_cell_row rfl _ _ w.heap.size 27 _ (0, 0) _ rfl (heap_alloc_new _ _) Try.underlying27 rfl sizeRl) rfl ?_
  exact ⟨rfl, Out.alloc (Out.refl _) _⟩
end Go.Proofs.Ytoobdcjkhphlcaa
