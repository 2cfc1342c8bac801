import Derived.Test.YtfmcoffmgdcciaaDoorImn
import Derived.Test.YtfmcoffmgdcciaaDoorImm
import Derived.Laws.MakeOwn
import Derived.Laws.CopyRow
import Derived.Laws.IdiomCopy
namespace Go.Proofs.YtfmcoffmgdcciaaDoor
open Go.RowKit
set_option linter.unusedVariables false
set_option linter.unusedSimpArgs false
theorem set5_list (A C : List Value) (y0 y1 y2 y3 y4 x0 x1 x2 x3 x4 : Value) (k : Nat) (hk : A.length = k) : (((((A ++ ([y0, y1, y2, y3, y4] ++ C)).set k x0).set (k + 1) x1).set (k + 2) x2).set (k + 3) x3).set (k + 4) x4 = A ++ ([x0, x1, x2, x3, x4] ++ C) := by
  subst hk
  simp [List.set_append]
theorem set4_list (A C : List Value) (y0 y1 y2 y3 x0 x1 x2 x3 : Value) (k : Nat) (hk : A.length = k) : ((((A ++ ([y0, y1, y2, y3] ++ C)).set k x0).set (k + 1) x1).set (k + 2) x2).set (k + 3) x3 = A ++ ([x0, x1, x2, x3] ++ C) := by
  subst hk
  simp [List.set_append]
theorem split_atK {α : Type} (L : List α) (i : Nat) (x : α) (h : L[i]? = some x) : L = L.take i ++ (x :: L.drop (i + 1)) := by
  have hk : i < L.length := (List.getElem?_eq_some_iff.1 h).1
  have hd := List.drop_eq_getElem_cons hk
  have hx' : L[i] = x := by rw [List.getElem?_eq_getElem hk] at h; exact Option.some.inj h
  rw [hx'] at hd
  rw [← hd, List.take_append_drop]
theorem flat_len {α : Type} (f : α → List Value) (c : Nat) (hf : ∀ x, (f x).length = c) (L : List α) : (L.flatMap f).length = L.length * c := by
  induction L with
  | nil => simp
  | cons x r ih => rw [List.flatMap_cons, List.length_append, hf, ih, List.length_cons, Nat.succ_mul]; omega
theorem flat_get {α : Type} (f : α → List Value) (c : Nat) (hf : ∀ x, (f x).length = c) {L : List α} {i j : Nat} {x : α} {u : Value} (hx : L[i]? = some x) (hu : (f x)[j]? = some u) : (L.flatMap f)[i * c + j]? = some u := by
  have hi : i < L.length := (List.getElem?_eq_some_iff.1 hx).1
  have hj : j < c := by have := (List.getElem?_eq_some_iff.1 hu).1; rw [hf] at this; exact this
  have hl : ((L.take i).flatMap f).length = i * c := by rw [flat_len f c hf, List.length_take, Nat.min_eq_left (by omega)]
  conv => lhs; rw [split_atK L i x hx]
  rw [List.flatMap_append, List.flatMap_cons, List.getElem?_append_right (by omega), List.getElem?_append_left (by rw [hf]; omega), hl, show i * c + j - i * c = j by omega]
  exact hu
theorem flat_of {α : Type} (f : α → List Value) (c : Nat) (hf : ∀ x, (f x).length = c) {L : List α} {j : Nat} {u : Value} (h : (L.flatMap f)[j]? = some u) : ∃ k x i, L[k]? = some x ∧ j = k * c + i ∧ (f x)[i]? = some u := by
  induction L generalizing j with
  | nil => simp at h
  | cons x r ih =>
    rw [List.flatMap_cons] at h
    by_cases hj : j < c
    · rw [List.getElem?_append_left (by rw [hf]; exact hj)] at h
      exact ⟨0, x, j, rfl, by omega, h⟩
    · rw [List.getElem?_append_right (by rw [hf]; omega), hf] at h
      obtain ⟨k, y, i, h1, h2, h3⟩ := ih h
      exact ⟨k + 1, y, i, by simpa using h1, by rw [Nat.succ_mul]; omega, h3⟩
theorem flat_rep {α : Type} (f : α → List Value) (z : α) (c : Nat) (hf : (f z).length = c) : ∀ N j, j < N * c → ((List.replicate N z).flatMap f)[j]? = (f z)[j % c]?
  | 0, j, h => by omega
  | N + 1, j, h => by
    rw [List.replicate_succ, List.flatMap_cons]
    by_cases hj : j < c
    · rw [List.getElem?_append_left (by rw [hf]; exact hj), Nat.mod_eq_of_lt hj]
    · rw [List.getElem?_append_right (by rw [hf]; omega), hf, flat_rep f z c hf N (j - c) (by rw [Nat.succ_mul] at h; omega), (Nat.mod_eq_sub_mod (show j ≥ c by omega) : j % c = (j - c) % c)]
set_option maxRecDepth 20000 in
theorem run_copy_row (w : World) (ty t e : TypeId) (i0 : TypeInfo) (c : Nat) (ht : Tryd.prog.underlying t = some (.slice e)) (hi : Tryd.prog.info? e = some i0) (hz1 : i0.size = c) (g dLen dCap : Nat) (a : Option Addr) (n cp : Nat) (V V2 : List Value) (hg : w.heap[g]? = some (.cells V.toArray e (0, 0))) (hn : V2.length = n * c) (hA : V2 = [] ∧ n = 0 ∨ ∃ ad, a = some ad ∧ ∀ j u, V2[j]? = some u → w.cell? (ad.add j) = some u) (h1 : n ≤ dLen) (h2 : n * c ≤ V.length) (hone : ∀ u ∈ V2, u.oneCell' = true) :
    ∃ w', (Builtin.copy_ #[t, t] ty #[.slice (some ⟨g, 0, none⟩) dLen dCap, .slice a n cp]).run Tryd.prog w = .ok (.int .i64 n) w' ∧ w'.heap[g]? = some (.cells (V2 ++ V.drop (n * c)).toArray e (0, 0)) ∧ Chg (fun k => k = g) w w' := by
  have hmin : Nat.min n dLen = n := Nat.min_eq_left h1
  rcases hA with ⟨rfl, rfl⟩ | ⟨ad, rfl, hcells⟩
  · refine ⟨w, ?_, by simpa using hg, Chg.refl _ _⟩
    simp [Builtin.copy_, run_underlying ht, Builtin.lenOf, Builtin.firstCells, sizeOf, typeInfo, hi, storeCells, loadCells, loadCellsFrom, goInt]
    all_goals (cases a <;> simp [loadCells, loadCellsFrom, storeCells])
  · have hl := run_loadCells_list (P := Tryd.prog) w ad V2 hcells
    rw [hn] at hl
    have hst := run_storeCells_at Tryd.prog g 0 e V2 0 V.toArray w hg (by simp; omega) hone
    refine ⟨w.setRow g (V2 ++ V.drop (n * c)).toArray, ?_, ?_, ?_⟩
    · have e1 : (V.toArray.toList.take (0 + 0) ++ V2 ++ V.toArray.toList.drop (0 + 0 + V2.length)).toArray = (V2 ++ V.drop (n * c)).toArray := by
        congr 1
        simp only [Nat.add_zero, List.take_zero, List.nil_append, Nat.zero_add, hn]
      rw [e1] at hst
      simp [Builtin.copy_, run_underlying ht, Builtin.lenOf, Builtin.firstCells, sizeOf, typeInfo, hi, hz1, hmin, hl, hst, goInt]
    · exact setRow_heap w g _ _ _ _ hg
    · exact ⟨rfl, rfl, rfl, by simp [World.setRow], fun k hk hs => setRow_other w g k _ hs⟩
theorem owns_void17 (w : World) (B size : Nat) (e : TypeId) (hB : B ≤ w.heap.size) : (w.alloc (.cells #[] e)).ownsRow B e size (.slice (some ⟨w.heap.size, 0, none⟩) 0 0) 0 [] :=
  ⟨by simp, .inr ⟨w.heap.size, 0, #[], rfl, hB, heap_alloc_new w _, Nat.le_refl _, by decide, by simp, by simp⟩⟩
theorem blk_setR {w : World} {q : Nat} {cs : Array Value} {t : TypeId} (h : w.heap[q]? = some (.cells cs t (0, 0))) (k : Nat) (v : Value) : (w.setCell ⟨q, k, none⟩ v).heap[q]? = some (.cells (cs.setIfInBounds k v) t (0, 0)) := set_atL h k v
def csI (x : Ins) : List Value := [.int .i64 x.o, .int .i64 x.d, .int .i64 x.s, .int .i64 x.f, .int .i64 x.i]
def rowI (L : List Ins) : List Value := L.flatMap csI
theorem csI_len (x : Ins) : (csI x).length = 5 := rfl
theorem rowI_len (L : List Ins) : (rowI L).length = L.length * 5 := flat_len _ _ csI_len L
theorem rowI_app (A B : List Ins) : rowI (A ++ B) = rowI A ++ rowI B := by simp [rowI, List.flatMap_append]
theorem rowI_one (L : List Ins) : ∀ u ∈ rowI L, u.oneCell' = true := by
  intro u hu
  obtain ⟨x, hx, hu⟩ := List.mem_flatMap.1 hu
  simp only [csI, List.mem_cons, List.not_mem_nil, or_false] at hu
  rcases hu with rfl | rfl | rfl | rfl | rfl <;> rfl
theorem infoI17 : (Tryd.prog.info? 40).map (fun i => (i.zero, i.size, i.bytes)) = some (some (.agg #[.int .i64 0, .int .i64 0, .int .i64 0, .int .i64 0, .int .i64 0]), 5, 40) := by kernel_rfl
/-- a block that holds a row -/
def RowI (w : World) (g : Nat) (L : List Ins) (R : List Value) : Prop := w.heap[g]? = some (.cells (rowI L ++ R).toArray 40 (0, 0))
theorem RowI.lt {w : World} {g : Nat} {L : List Ins} {R : List Value} (h : RowI w g L R) : g < w.heap.size := (Array.getElem?_eq_some_iff.1 h).1
theorem RowI.chg {S : Nat → Prop} {w w' : World} {g : Nat} {L : List Ins} {R : List Value} (h : RowI w g L R) (c : Chg S w w') (hs : ¬ S g) : RowI w' g L R := (c.block g h.lt hs).trans h
theorem RowI.out {w w' : World} {g : Nat} {L : List Ins} {R : List Value} (h : RowI w g L R) (o : Out w w') : RowI w' g L R := (o.block g h.lt).trans h
theorem RowI.cells {w : World} {g : Nat} {L : List Ins} {R : List Value} (h : RowI w g L R) {i : Nat} {x : Ins} (hx : L[i]? = some x) : w.cell? ⟨g, i * 5, none⟩ = some (.int .i64 x.o) ∧ w.cell? ⟨g, i * 5 + 1, none⟩ = some (.int .i64 x.d) ∧ w.cell? ⟨g, i * 5 + 2, none⟩ = some (.int .i64 x.s) ∧ w.cell? ⟨g, i * 5 + 3, none⟩ = some (.int .i64 x.f) ∧ w.cell? ⟨g, i * 5 + 4, none⟩ = some (.int .i64 x.i) := by
  have key : ∀ j u, (csI x)[j]? = some u → w.cell? ⟨g, i * 5 + j, none⟩ = some u := fun j u hu => by
    have hg : (rowI L)[i * 5 + j]? = some u := flat_get _ _ csI_len hx hu
    rw [cell_atL (show w.heap[g]? = _ from h), List.getElem?_toArray, List.getElem?_append_left (List.getElem?_eq_some_iff.1 hg).1]
    exact hg
  exact ⟨key 0 _ rfl, key 1 _ rfl, key 2 _ rfl, key 3 _ rfl, key 4 _ rfl⟩
theorem RowI.frozen {w : World} {g : Nat} {L : List Ins} {R : List Value} (h : RowI w g L R) (j : Nat) : w.frozen? ⟨g, j, none⟩ = false := frozen_atL (show w.heap[g]? = _ from h) j
theorem RowI.a {w : World} {g : Nat} {A B : List Ins} {R : List Value} (h : RowI w g (A ++ B) R) : InsA w (some ⟨g, 0, none⟩) A :=
  .inr ⟨g, 0, rfl, fun k x hx => by
    simp only [Nat.zero_add]
    exact h.cells (by rw [List.getElem?_append_left (List.getElem?_eq_some_iff.1 hx).1]; exact hx)⟩
theorem RowI.set {w : World} {g : Nat} {L : List Ins} {R : List Value} (h : RowI w g L R) {i : Nat} (hi : i < L.length) (x : Ins) : RowI (((((w.setCell ⟨g, i * 5, none⟩ (.int .i64 x.o)).setCell ⟨g, i * 5 + 1, none⟩ (.int .i64 x.d)).setCell ⟨g, i * 5 + 2, none⟩ (.int .i64 x.s)).setCell ⟨g, i * 5 + 3, none⟩ (.int .i64 x.f)).setCell ⟨g, i * 5 + 4, none⟩ (.int .i64 x.i)) g (L.set i x) R := by
  have h5 := (blk_setR (blk_setR (blk_setR (blk_setR (blk_setR (show w.heap[g]? = _ from h) (i * 5) (.int .i64 x.o)) (i * 5 + 1) (.int .i64 x.d)) (i * 5 + 2) (.int .i64 x.s)) (i * 5 + 3) (.int .i64 x.f)) (i * 5 + 4) (.int .i64 x.i))
  unfold RowI
  rw [h5]
  simp only [List.setIfInBounds_toArray]
  obtain ⟨y, hy⟩ : ∃ y, L[i]? = some y := ⟨_, List.getElem?_eq_getElem hi⟩
  have e1 : rowI L ++ R = rowI (L.take i) ++ ([.int .i64 y.o, .int .i64 y.d, .int .i64 y.s, .int .i64 y.f, .int .i64 y.i] ++ (rowI (L.drop (i + 1)) ++ R)) := by
    conv => lhs; rw [split_atK L i y hy]
    rw [rowI_app, List.append_assoc]; rfl
  have e2 : rowI (L.set i x) ++ R = rowI (L.take i) ++ ([.int .i64 x.o, .int .i64 x.d, .int .i64 x.s, .int .i64 x.f, .int .i64 x.i] ++ (rowI (L.drop (i + 1)) ++ R)) := by
    rw [List.set_eq_take_append_cons_drop, if_pos hi, rowI_app, List.append_assoc]; rfl
  have hl : (rowI (L.take i)).length = i * 5 := by rw [rowI_len, List.length_take, Nat.min_eq_left (by omega)]
  rw [e1, e2, set5_list _ _ _ _ _ _ _ _ _ _ _ _ (i * 5) hl]
def zrI : Ins := ⟨0, 0, 0, 0, 0⟩
theorem madeI (N : Nat) : madeCells #[.int .i64 0, .int .i64 0, .int .i64 0, .int .i64 0, .int .i64 0] (N * 5) = (rowI (List.replicate N zrI)).toArray := by
  apply Array.ext_getElem?
  intro j
  simp only [madeCells, Array.getElem?_map, List.getElem?_toArray]
  by_cases hj : j < N * 5
  · rw [Array.getElem?_range, if_pos hj]
    rw [show (rowI (List.replicate N zrI))[j]? = (csI zrI)[j % 5]? from flat_rep csI zrI 5 rfl N j hj]
    have h5 : j % 5 < 5 := Nat.mod_lt _ (by omega)
    have : ∀ k, k < 5 → some ((#[.int .i64 0, .int .i64 0, .int .i64 0, .int .i64 0, .int .i64 0] : Array Value)[k]!) = (csI zrI)[k]? := by
      intro k hk
      match k, hk with
        | 0, _ => rfl
        | 1, _ => rfl
        | 2, _ => rfl
        | 3, _ => rfl
        | 4, _ => rfl
    exact this _ h5
  · rw [Array.getElem?_range, if_neg hj]
    have : (rowI (List.replicate N zrI)).length ≤ j := by rw [rowI_len, List.length_replicate]; omega
    rw [List.getElem?_eq_none this]; rfl
theorem run_makeI (n : Nat) (hn : 40 * n ≤ 281474976710656) (w : World) : (Instr.makeSlice 22 (.int .i64 (n : Int)) (.int .i64 (n : Int))).run Tryd.prog w = .ok (.slice (some ⟨w.heap.size, 0, none⟩) n n) (w.alloc (.cells (rowI (List.replicate n zrI)).toArray 40)) := by
  obtain ⟨i0, hi, hz0, hz1, hz2⟩ := info_parts infoI17
  have h := run_make (P := Tryd.prog) w 22 40 i0 _ Tryd.underlying22 hi hz0 .i64 .i64 (n : Int) (n : Int) (by omega) (Int.le_refl _) (by rw [hz2]; omega) (by omega)
  rw [hz1] at h
  simp only [Int.toNat_natCast, Value.cells] at h
  rw [madeI] at h
  exact h
theorem InsA.flat {w : World} {b off : Nat} {l : List Ins} (h : InsA w (some ⟨b, off, none⟩) l) : ∀ j u, (rowI l)[j]? = some u → w.cell? ((⟨b, off, none⟩ : Addr).add j) = some u := by
  intro j u hu
  obtain ⟨k, x, i, hx, rfl, hv⟩ := flat_of _ _ csI_len hu
  clear hu
  rcases h with rfl | ⟨b', off', he, hc⟩
  · simp at hx
  cases he
  obtain ⟨c0, c1, c2, c3, c4⟩ := hc k x hx
  rw [WideShapes.add_plain, ← Nat.add_assoc]
  have hi : i < 5 := by have := (List.getElem?_eq_some_iff.1 hv).1; rw [csI_len] at this; exact this
  match i, hi, hv with
  | 0, _, hu => cases hu; exact c0
  | 1, _, hu => cases hu; exact c1
  | 2, _, hu => cases hu; exact c2
  | 3, _, hu => cases hu; exact c3
  | 4, _, hu => cases hu; exact c4
set_option maxRecDepth 20000 in
theorem run_copyI (w : World) (ty : TypeId) (g dLen dCap : Nat) (a : Option Addr) (n c : Nat) (L l2 : List Ins) (R : List Value) (hg : RowI w g L R) (hn : l2.length = n) (hA : InsA w a l2) (h1 : n ≤ dLen) (h2 : n ≤ L.length) :
    ∃ w', (Builtin.copy_ #[22, 22] ty #[.slice (some ⟨g, 0, none⟩) dLen dCap, .slice a n c]).run Tryd.prog w = .ok (.int .i64 n) w' ∧ RowI w' g (l2 ++ L.drop n) R ∧ Chg (fun k => k = g) w w' := by
  obtain ⟨i0, hi, hz0, hz1, hz2⟩ := info_parts infoI17
  obtain ⟨w', h3, h4, h5⟩ := run_copy_row w ty 22 40 i0 5 Tryd.underlying22 hi hz1 g dLen dCap a n c (rowI L ++ R) (rowI l2) hg (by rw [rowI_len, hn]) (by
    rcases hA with rfl | ⟨b, off, rfl, hc⟩
    · left; exact ⟨rfl, by simpa using hn.symm⟩
    · right; exact ⟨_, rfl, InsA.flat (.inr ⟨b, off, rfl, hc⟩)⟩) h1 (by rw [List.length_append, rowI_len]; have := Nat.mul_le_mul_right 5 h2; omega) (rowI_one l2)
  refine ⟨w', h3, ?_, h5⟩
  unfold RowI
  rw [h4]
  congr 2
  rw [rowI_app, List.append_assoc]
  congr 1
  have e1 : rowI L = rowI (L.take n) ++ rowI (L.drop n) := by rw [← rowI_app, List.take_append_drop]
  rw [e1, List.append_assoc, List.drop_left' (by rw [rowI_len, List.length_take, Nat.min_eq_left h2])]
theorem own_rowI {w : World} {B n : Nat} {a : Option Addr} {cap : Nat} {l : List Ins} (h : w.ownsRow B 40 5 (.slice a n cap) n (rowI l)) (hn : l.length = n) : (a = none ∧ l = []) ∨ ∃ g R, a = some ⟨g, 0, none⟩ ∧ RowI w g l R ∧ B ≤ g := by
  rcases h.2 with ⟨hv, h0⟩ | ⟨g, cap', cur, hv, hb, hg, hn', hm, hs, ht⟩
  · cases hv; exact .inl ⟨rfl, List.length_eq_zero_iff.1 (by omega)⟩
  · cases hv
    refine .inr ⟨g, cur.toList.drop (n * 5), rfl, ?_, hb⟩
    show w.heap[g]? = _
    rw [hg, ← ht, List.take_append_drop]
theorem InsA.of_own {w : World} {B n : Nat} {a : Option Addr} {cap : Nat} {l : List Ins} (h : w.ownsRow B 40 5 (.slice a n cap) n (rowI l)) (hn : l.length = n) : InsA w a l := by
  rcases own_rowI h hn with ⟨_, rfl⟩ | ⟨g, R, rfl, hr, _⟩
  · exact .inl rfl
  · exact RowI.a (B := []) (by rw [List.append_nil]; exact hr)
set_option maxHeartbeats 800000 in
theorem copyI17 (w : World) (a : Option Addr) (n cap : Nat) (l : List Ins) (hn : l.length = n) (hi : InsA w a l) (hm : n ≤ 2900000000000) : Calls Tryd.prog 28 #[.slice a n cap] w fun e w' => ∃ a' c', e = .returned (.slice a' n c') ∧ w'.ownsRow w.heap.size 40 5 (.slice a' n c') n (rowI l) ∧ Out w w' := by
  obtain ⟨i0, hi0, hz0, hz1, hz2⟩ := info_parts infoI17
  have H0 := hidOf (owns_void17 w w.heap.size 5 40 (Nat.le_refl _))
  rcases hi with rfl | ⟨b, off, rfl, hc⟩
  · obtain rfl : n = 0 := by simpa using hn.symm
    cases a with
    | none =>
      go_enter Tryd.func28, Tryd.ntmps28
      go_wp2
      go_ret
      exact ⟨_, _, rfl, H0.out, Out.alloc (Out.refl _) _⟩
    | some ad =>
      go_enter Tryd.func28, Tryd.ntmps28
      go_wp2_with (at_builtin; refine wpList_append_own _ rfl (.tmp 3) (.tmp 4) 22 rfl w.heap.size 40 i0 _ 5 40 Tryd.underlying22 hi0 hz0 hz1 hz2 rfl (by decide) (.slice (some ⟨w.heap.size, 0, none⟩) 0 0) 0 [] rfl H0.out ad 0 cap [] rfl rfl (fun j u hu => by simp at hu) (fun u hu => by cases hu) (by unfold maxLen; omega) (by omega) (by rw [size_alloc]; omega) ?_; intro v3 w3 hown3 hgrow3 _; have HN := hidOf hown3; have H3 := hidOf (Chg.out (S := fun k => k = w.heap.size) (Chg.of_grown hgrow3 (fun k h => (Option.some.inj h).symm)) (Out.alloc (Out.refl w) _) (fun k hk => by omega)); obtain ⟨a3, c3, rfl⟩ := own_form hown3; clear hown3 hgrow3)
      go_ret
      exact ⟨_, _, rfl, HN.out, H3.out⟩
  · have HC : Hid (∀ j u, (rowI l)[j]? = some u → (w.alloc (.cells #[] 40)).cell? ((⟨b, off, none⟩ : Addr).add j) = some u) := hidOf (fun j u hu => cell_later ((Out.refl w).alloc _) (InsA.flat (.inr ⟨b, off, rfl, hc⟩) j u hu))
    clear hc
    go_enter Tryd.func28, Tryd.ntmps28
    go_wp2_with (at_builtin; refine wpList_append_own _ rfl (.tmp 3) (.tmp 4) 22 rfl w.heap.size 40 i0 _ 5 40 Tryd.underlying22 hi0 hz0 hz1 hz2 rfl (by decide) (.slice (some ⟨w.heap.size, 0, none⟩) 0 0) 0 [] rfl H0.out ⟨b, off, none⟩ n cap (rowI l) rfl (by rw [rowI_len, hn]) HC.out (rowI_one l) (by unfold maxLen; omega) (by omega) (by rw [size_alloc]; omega) ?_; intro v3 w3 hown3 hgrow3 _; rw [Nat.zero_add, List.nil_append] at hown3; have HN := hidOf hown3; have H3 := hidOf (Chg.out (S := fun k => k = w.heap.size) (Chg.of_grown hgrow3 (fun k h => (Option.some.inj h).symm)) (Out.alloc (Out.refl w) _) (fun k hk => by omega)); obtain ⟨a3, c3, rfl⟩ := own_form hown3; clear hown3 hgrow3)
    go_ret
    exact ⟨_, _, rfl, HN.out, H3.out⟩
def csF (x : Fn) : List Value := [.string ⟨x.nm.toArray⟩, .int .i64 x.ob, .int .i64 x.fi, .int .i64 x.ct]
def rowF (L : List Fn) : List Value := L.flatMap csF
theorem csF_len (x : Fn) : (csF x).length = 4 := rfl
theorem rowF_len (L : List Fn) : (rowF L).length = L.length * 4 := flat_len _ _ csF_len L
theorem rowF_app (A B : List Fn) : rowF (A ++ B) = rowF A ++ rowF B := by simp [rowF, List.flatMap_append]
theorem rowF_one (L : List Fn) : ∀ u ∈ rowF L, u.oneCell' = true := by
  intro u hu
  obtain ⟨x, hx, hu⟩ := List.mem_flatMap.1 hu
  simp only [csF, List.mem_cons, List.not_mem_nil, or_false] at hu
  rcases hu with rfl | rfl | rfl | rfl <;> rfl
theorem infoF17 : (Tryd.prog.info? 59).map (fun i => (i.zero, i.size, i.bytes)) = some (some (.agg #[.string ⟨#[]⟩, .int .i64 0, .int .i64 0, .int .i64 0]), 4, 40) := by kernel_rfl
/-- a block that holds a row -/
def RowF (w : World) (g : Nat) (L : List Fn) (R : List Value) : Prop := w.heap[g]? = some (.cells (rowF L ++ R).toArray 59 (0, 0))
theorem RowF.lt {w : World} {g : Nat} {L : List Fn} {R : List Value} (h : RowF w g L R) : g < w.heap.size := (Array.getElem?_eq_some_iff.1 h).1
theorem RowF.chg {S : Nat → Prop} {w w' : World} {g : Nat} {L : List Fn} {R : List Value} (h : RowF w g L R) (c : Chg S w w') (hs : ¬ S g) : RowF w' g L R := (c.block g h.lt hs).trans h
theorem RowF.out {w w' : World} {g : Nat} {L : List Fn} {R : List Value} (h : RowF w g L R) (o : Out w w') : RowF w' g L R := (o.block g h.lt).trans h
theorem RowF.cells {w : World} {g : Nat} {L : List Fn} {R : List Value} (h : RowF w g L R) {i : Nat} {x : Fn} (hx : L[i]? = some x) : w.cell? ⟨g, i * 4, none⟩ = some (.string ⟨x.nm.toArray⟩) ∧ w.cell? ⟨g, i * 4 + 1, none⟩ = some (.int .i64 x.ob) ∧ w.cell? ⟨g, i * 4 + 2, none⟩ = some (.int .i64 x.fi) ∧ w.cell? ⟨g, i * 4 + 3, none⟩ = some (.int .i64 x.ct) := by
  have key : ∀ j u, (csF x)[j]? = some u → w.cell? ⟨g, i * 4 + j, none⟩ = some u := fun j u hu => by
    have hg : (rowF L)[i * 4 + j]? = some u := flat_get _ _ csF_len hx hu
    rw [cell_atL (show w.heap[g]? = _ from h), List.getElem?_toArray, List.getElem?_append_left (List.getElem?_eq_some_iff.1 hg).1]
    exact hg
  exact ⟨key 0 _ rfl, key 1 _ rfl, key 2 _ rfl, key 3 _ rfl⟩
theorem RowF.frozen {w : World} {g : Nat} {L : List Fn} {R : List Value} (h : RowF w g L R) (j : Nat) : w.frozen? ⟨g, j, none⟩ = false := frozen_atL (show w.heap[g]? = _ from h) j
theorem RowF.a {w : World} {g : Nat} {A B : List Fn} {R : List Value} (h : RowF w g (A ++ B) R) : FnA w (some ⟨g, 0, none⟩) A :=
  .inr ⟨g, 0, rfl, fun k x hx => by
    simp only [Nat.zero_add]
    exact h.cells (by rw [List.getElem?_append_left (List.getElem?_eq_some_iff.1 hx).1]; exact hx)⟩
theorem RowF.set {w : World} {g : Nat} {L : List Fn} {R : List Value} (h : RowF w g L R) {i : Nat} (hi : i < L.length) (x : Fn) : RowF ((((w.setCell ⟨g, i * 4, none⟩ (.string ⟨x.nm.toArray⟩)).setCell ⟨g, i * 4 + 1, none⟩ (.int .i64 x.ob)).setCell ⟨g, i * 4 + 2, none⟩ (.int .i64 x.fi)).setCell ⟨g, i * 4 + 3, none⟩ (.int .i64 x.ct)) g (L.set i x) R := by
  have h5 := (blk_setR (blk_setR (blk_setR (blk_setR (show w.heap[g]? = _ from h) (i * 4) (.string ⟨x.nm.toArray⟩)) (i * 4 + 1) (.int .i64 x.ob)) (i * 4 + 2) (.int .i64 x.fi)) (i * 4 + 3) (.int .i64 x.ct))
  unfold RowF
  rw [h5]
  simp only [List.setIfInBounds_toArray]
  obtain ⟨y, hy⟩ : ∃ y, L[i]? = some y := ⟨_, List.getElem?_eq_getElem hi⟩
  have e1 : rowF L ++ R = rowF (L.take i) ++ ([.string ⟨y.nm.toArray⟩, .int .i64 y.ob, .int .i64 y.fi, .int .i64 y.ct] ++ (rowF (L.drop (i + 1)) ++ R)) := by
    conv => lhs; rw [split_atK L i y hy]
    rw [rowF_app, List.append_assoc]; rfl
  have e2 : rowF (L.set i x) ++ R = rowF (L.take i) ++ ([.string ⟨x.nm.toArray⟩, .int .i64 x.ob, .int .i64 x.fi, .int .i64 x.ct] ++ (rowF (L.drop (i + 1)) ++ R)) := by
    rw [List.set_eq_take_append_cons_drop, if_pos hi, rowF_app, List.append_assoc]; rfl
  have hl : (rowF (L.take i)).length = i * 4 := by rw [rowF_len, List.length_take, Nat.min_eq_left (by omega)]
  rw [e1, e2, set4_list _ _ _ _ _ _ _ _ _ _ (i * 4) hl]
def zrF : Fn := ⟨[], 0, 0, 0⟩
theorem madeF (N : Nat) : madeCells #[.string ⟨#[]⟩, .int .i64 0, .int .i64 0, .int .i64 0] (N * 4) = (rowF (List.replicate N zrF)).toArray := by
  apply Array.ext_getElem?
  intro j
  simp only [madeCells, Array.getElem?_map, List.getElem?_toArray]
  by_cases hj : j < N * 4
  · rw [Array.getElem?_range, if_pos hj]
    rw [show (rowF (List.replicate N zrF))[j]? = (csF zrF)[j % 4]? from flat_rep csF zrF 4 rfl N j hj]
    have h5 : j % 4 < 4 := Nat.mod_lt _ (by omega)
    have : ∀ k, k < 4 → some ((#[.string ⟨#[]⟩, .int .i64 0, .int .i64 0, .int .i64 0] : Array Value)[k]!) = (csF zrF)[k]? := by
      intro k hk
      match k, hk with
        | 0, _ => rfl
        | 1, _ => rfl
        | 2, _ => rfl
        | 3, _ => rfl
    exact this _ h5
  · rw [Array.getElem?_range, if_neg hj]
    have : (rowF (List.replicate N zrF)).length ≤ j := by rw [rowF_len, List.length_replicate]; omega
    rw [List.getElem?_eq_none this]; rfl
theorem run_makeF (n : Nat) (hn : 40 * n ≤ 281474976710656) (w : World) : (Instr.makeSlice 23 (.int .i64 (n : Int)) (.int .i64 (n : Int))).run Tryd.prog w = .ok (.slice (some ⟨w.heap.size, 0, none⟩) n n) (w.alloc (.cells (rowF (List.replicate n zrF)).toArray 59)) := by
  obtain ⟨i0, hi, hz0, hz1, hz2⟩ := info_parts infoF17
  have h := run_make (P := Tryd.prog) w 23 59 i0 _ Tryd.underlying23 hi hz0 .i64 .i64 (n : Int) (n : Int) (by omega) (Int.le_refl _) (by rw [hz2]; omega) (by omega)
  rw [hz1] at h
  simp only [Int.toNat_natCast, Value.cells] at h
  rw [madeF] at h
  exact h
theorem FnA.flat {w : World} {b off : Nat} {l : List Fn} (h : FnA w (some ⟨b, off, none⟩) l) : ∀ j u, (rowF l)[j]? = some u → w.cell? ((⟨b, off, none⟩ : Addr).add j) = some u := by
  intro j u hu
  obtain ⟨k, x, i, hx, rfl, hv⟩ := flat_of _ _ csF_len hu
  clear hu
  rcases h with rfl | ⟨b', off', he, hc⟩
  · simp at hx
  cases he
  obtain ⟨c0, c1, c2, c3⟩ := hc k x hx
  rw [WideShapes.add_plain, ← Nat.add_assoc]
  have hi : i < 4 := by have := (List.getElem?_eq_some_iff.1 hv).1; rw [csF_len] at this; exact this
  match i, hi, hv with
  | 0, _, hu => cases hu; exact c0
  | 1, _, hu => cases hu; exact c1
  | 2, _, hu => cases hu; exact c2
  | 3, _, hu => cases hu; exact c3
set_option maxRecDepth 20000 in
theorem run_copyF (w : World) (ty : TypeId) (g dLen dCap : Nat) (a : Option Addr) (n c : Nat) (L l2 : List Fn) (R : List Value) (hg : RowF w g L R) (hn : l2.length = n) (hA : FnA w a l2) (h1 : n ≤ dLen) (h2 : n ≤ L.length) :
    ∃ w', (Builtin.copy_ #[23, 23] ty #[.slice (some ⟨g, 0, none⟩) dLen dCap, .slice a n c]).run Tryd.prog w = .ok (.int .i64 n) w' ∧ RowF w' g (l2 ++ L.drop n) R ∧ Chg (fun k => k = g) w w' := by
  obtain ⟨i0, hi, hz0, hz1, hz2⟩ := info_parts infoF17
  obtain ⟨w', h3, h4, h5⟩ := run_copy_row w ty 23 59 i0 4 Tryd.underlying23 hi hz1 g dLen dCap a n c (rowF L ++ R) (rowF l2) hg (by rw [rowF_len, hn]) (by
    rcases hA with rfl | ⟨b, off, rfl, hc⟩
    · left; exact ⟨rfl, by simpa using hn.symm⟩
    · right; exact ⟨_, rfl, FnA.flat (.inr ⟨b, off, rfl, hc⟩)⟩) h1 (by rw [List.length_append, rowF_len]; have := Nat.mul_le_mul_right 4 h2; omega) (rowF_one l2)
  refine ⟨w', h3, ?_, h5⟩
  unfold RowF
  rw [h4]
  congr 2
  rw [rowF_app, List.append_assoc]
  congr 1
  have e1 : rowF L = rowF (L.take n) ++ rowF (L.drop n) := by rw [← rowF_app, List.take_append_drop]
  rw [e1, List.append_assoc, List.drop_left' (by rw [rowF_len, List.length_take, Nat.min_eq_left h2])]
theorem own_rowF {w : World} {B n : Nat} {a : Option Addr} {cap : Nat} {l : List Fn} (h : w.ownsRow B 59 4 (.slice a n cap) n (rowF l)) (hn : l.length = n) : (a = none ∧ l = []) ∨ ∃ g R, a = some ⟨g, 0, none⟩ ∧ RowF w g l R ∧ B ≤ g := by
  rcases h.2 with ⟨hv, h0⟩ | ⟨g, cap', cur, hv, hb, hg, hn', hm, hs, ht⟩
  · cases hv; exact .inl ⟨rfl, List.length_eq_zero_iff.1 (by omega)⟩
  · cases hv
    refine .inr ⟨g, cur.toList.drop (n * 4), rfl, ?_, hb⟩
    show w.heap[g]? = _
    rw [hg, ← ht, List.take_append_drop]
theorem FnA.of_own {w : World} {B n : Nat} {a : Option Addr} {cap : Nat} {l : List Fn} (h : w.ownsRow B 59 4 (.slice a n cap) n (rowF l)) (hn : l.length = n) : FnA w a l := by
  rcases own_rowF h hn with ⟨_, rfl⟩ | ⟨g, R, rfl, hr, _⟩
  · exact .inl rfl
  · exact RowF.a (B := []) (by rw [List.append_nil]; exact hr)
set_option maxHeartbeats 800000 in
theorem copyF17 (w : World) (a : Option Addr) (n cap : Nat) (l : List Fn) (hn : l.length = n) (hi : FnA w a l) (hm : n ≤ 2900000000000) : Calls Tryd.prog 29 #[.slice a n cap] w fun e w' => ∃ a' c', e = .returned (.slice a' n c') ∧ w'.ownsRow w.heap.size 59 4 (.slice a' n c') n (rowF l) ∧ Out w w' := by
  obtain ⟨i0, hi0, hz0, hz1, hz2⟩ := info_parts infoF17
  have H0 := hidOf (owns_void17 w w.heap.size 4 59 (Nat.le_refl _))
  rcases hi with rfl | ⟨b, off, rfl, hc⟩
  · obtain rfl : n = 0 := by simpa using hn.symm
    cases a with
    | none =>
      go_enter Tryd.func29, Tryd.ntmps29
      go_wp2
      go_ret
      exact ⟨_, _, rfl, H0.out, Out.alloc (Out.refl _) _⟩
    | some ad =>
      go_enter Tryd.func29, Tryd.ntmps29
      go_wp2_with (at_builtin; refine wpList_append_own _ rfl (.tmp 3) (.tmp 4) 23 rfl w.heap.size 59 i0 _ 4 40 Tryd.underlying23 hi0 hz0 hz1 hz2 rfl (by decide) (.slice (some ⟨w.heap.size, 0, none⟩) 0 0) 0 [] rfl H0.out ad 0 cap [] rfl rfl (fun j u hu => by simp at hu) (fun u hu => by cases hu) (by unfold maxLen; omega) (by omega) (by rw [size_alloc]; omega) ?_; intro v3 w3 hown3 hgrow3 _; have HN := hidOf hown3; have H3 := hidOf (Chg.out (S := fun k => k = w.heap.size) (Chg.of_grown hgrow3 (fun k h => (Option.some.inj h).symm)) (Out.alloc (Out.refl w) _) (fun k hk => by omega)); obtain ⟨a3, c3, rfl⟩ := own_form hown3; clear hown3 hgrow3)
      go_ret
      exact ⟨_, _, rfl, HN.out, H3.out⟩
  · have HC : Hid (∀ j u, (rowF l)[j]? = some u → (w.alloc (.cells #[] 59)).cell? ((⟨b, off, none⟩ : Addr).add j) = some u) := hidOf (fun j u hu => cell_later ((Out.refl w).alloc _) (FnA.flat (.inr ⟨b, off, rfl, hc⟩) j u hu))
    clear hc
    go_enter Tryd.func29, Tryd.ntmps29
    go_wp2_with (at_builtin; refine wpList_append_own _ rfl (.tmp 3) (.tmp 4) 23 rfl w.heap.size 59 i0 _ 4 40 Tryd.underlying23 hi0 hz0 hz1 hz2 rfl (by decide) (.slice (some ⟨w.heap.size, 0, none⟩) 0 0) 0 [] rfl H0.out ⟨b, off, none⟩ n cap (rowF l) rfl (by rw [rowF_len, hn]) HC.out (rowF_one l) (by unfold maxLen; omega) (by omega) (by rw [size_alloc]; omega) ?_; intro v3 w3 hown3 hgrow3 _; rw [Nat.zero_add, List.nil_append] at hown3; have HN := hidOf hown3; have H3 := hidOf (Chg.out (S := fun k => k = w.heap.size) (Chg.of_grown hgrow3 (fun k h => (Option.some.inj h).symm)) (Out.alloc (Out.refl w) _) (fun k hk => by omega)); obtain ⟨a3, c3, rfl⟩ := own_form hown3; clear hown3 hgrow3)
    go_ret
    exact ⟨_, _, rfl, HN.out, H3.out⟩
def csD (x : Td) : List Value := [.string ⟨x.nm.toArray⟩, .int .i64 x.kd, .int .i64 x.ky, .int .i64 x.vl, .int .i64 x.en]
def rowD (L : List Td) : List Value := L.flatMap csD
theorem csD_len (x : Td) : (csD x).length = 5 := rfl
theorem rowD_len (L : List Td) : (rowD L).length = L.length * 5 := flat_len _ _ csD_len L
theorem rowD_app (A B : List Td) : rowD (A ++ B) = rowD A ++ rowD B := by simp [rowD, List.flatMap_append]
theorem rowD_one (L : List Td) : ∀ u ∈ rowD L, u.oneCell' = true := by
  intro u hu
  obtain ⟨x, hx, hu⟩ := List.mem_flatMap.1 hu
  simp only [csD, List.mem_cons, List.not_mem_nil, or_false] at hu
  rcases hu with rfl | rfl | rfl | rfl | rfl <;> rfl
theorem infoD17 : (Tryd.prog.info? 42).map (fun i => (i.zero, i.size, i.bytes)) = some (some (.agg #[.string ⟨#[]⟩, .int .i64 0, .int .i64 0, .int .i64 0, .int .i64 0]), 5, 48) := by kernel_rfl
/-- a block that holds a row -/
def RowD (w : World) (g : Nat) (L : List Td) (R : List Value) : Prop := w.heap[g]? = some (.cells (rowD L ++ R).toArray 42 (0, 0))
theorem RowD.lt {w : World} {g : Nat} {L : List Td} {R : List Value} (h : RowD w g L R) : g < w.heap.size := (Array.getElem?_eq_some_iff.1 h).1
theorem RowD.chg {S : Nat → Prop} {w w' : World} {g : Nat} {L : List Td} {R : List Value} (h : RowD w g L R) (c : Chg S w w') (hs : ¬ S g) : RowD w' g L R := (c.block g h.lt hs).trans h
theorem RowD.out {w w' : World} {g : Nat} {L : List Td} {R : List Value} (h : RowD w g L R) (o : Out w w') : RowD w' g L R := (o.block g h.lt).trans h
theorem RowD.cells {w : World} {g : Nat} {L : List Td} {R : List Value} (h : RowD w g L R) {i : Nat} {x : Td} (hx : L[i]? = some x) : w.cell? ⟨g, i * 5, none⟩ = some (.string ⟨x.nm.toArray⟩) ∧ w.cell? ⟨g, i * 5 + 1, none⟩ = some (.int .i64 x.kd) ∧ w.cell? ⟨g, i * 5 + 2, none⟩ = some (.int .i64 x.ky) ∧ w.cell? ⟨g, i * 5 + 3, none⟩ = some (.int .i64 x.vl) ∧ w.cell? ⟨g, i * 5 + 4, none⟩ = some (.int .i64 x.en) := by
  have key : ∀ j u, (csD x)[j]? = some u → w.cell? ⟨g, i * 5 + j, none⟩ = some u := fun j u hu => by
    have hg : (rowD L)[i * 5 + j]? = some u := flat_get _ _ csD_len hx hu
    rw [cell_atL (show w.heap[g]? = _ from h), List.getElem?_toArray, List.getElem?_append_left (List.getElem?_eq_some_iff.1 hg).1]
    exact hg
  exact ⟨key 0 _ rfl, key 1 _ rfl, key 2 _ rfl, key 3 _ rfl, key 4 _ rfl⟩
theorem RowD.frozen {w : World} {g : Nat} {L : List Td} {R : List Value} (h : RowD w g L R) (j : Nat) : w.frozen? ⟨g, j, none⟩ = false := frozen_atL (show w.heap[g]? = _ from h) j
theorem RowD.a {w : World} {g : Nat} {A B : List Td} {R : List Value} (h : RowD w g (A ++ B) R) : TdA w (some ⟨g, 0, none⟩) A :=
  .inr ⟨g, 0, rfl, fun k x hx => by
    simp only [Nat.zero_add]
    exact h.cells (by rw [List.getElem?_append_left (List.getElem?_eq_some_iff.1 hx).1]; exact hx)⟩
theorem RowD.set {w : World} {g : Nat} {L : List Td} {R : List Value} (h : RowD w g L R) {i : Nat} (hi : i < L.length) (x : Td) : RowD (((((w.setCell ⟨g, i * 5, none⟩ (.string ⟨x.nm.toArray⟩)).setCell ⟨g, i * 5 + 1, none⟩ (.int .i64 x.kd)).setCell ⟨g, i * 5 + 2, none⟩ (.int .i64 x.ky)).setCell ⟨g, i * 5 + 3, none⟩ (.int .i64 x.vl)).setCell ⟨g, i * 5 + 4, none⟩ (.int .i64 x.en)) g (L.set i x) R := by
  have h5 := (blk_setR (blk_setR (blk_setR (blk_setR (blk_setR (show w.heap[g]? = _ from h) (i * 5) (.string ⟨x.nm.toArray⟩)) (i * 5 + 1) (.int .i64 x.kd)) (i * 5 + 2) (.int .i64 x.ky)) (i * 5 + 3) (.int .i64 x.vl)) (i * 5 + 4) (.int .i64 x.en))
  unfold RowD
  rw [h5]
  simp only [List.setIfInBounds_toArray]
  obtain ⟨y, hy⟩ : ∃ y, L[i]? = some y := ⟨_, List.getElem?_eq_getElem hi⟩
  have e1 : rowD L ++ R = rowD (L.take i) ++ ([.string ⟨y.nm.toArray⟩, .int .i64 y.kd, .int .i64 y.ky, .int .i64 y.vl, .int .i64 y.en] ++ (rowD (L.drop (i + 1)) ++ R)) := by
    conv => lhs; rw [split_atK L i y hy]
    rw [rowD_app, List.append_assoc]; rfl
  have e2 : rowD (L.set i x) ++ R = rowD (L.take i) ++ ([.string ⟨x.nm.toArray⟩, .int .i64 x.kd, .int .i64 x.ky, .int .i64 x.vl, .int .i64 x.en] ++ (rowD (L.drop (i + 1)) ++ R)) := by
    rw [List.set_eq_take_append_cons_drop, if_pos hi, rowD_app, List.append_assoc]; rfl
  have hl : (rowD (L.take i)).length = i * 5 := by rw [rowD_len, List.length_take, Nat.min_eq_left (by omega)]
  rw [e1, e2, set5_list _ _ _ _ _ _ _ _ _ _ _ _ (i * 5) hl]
def zrD : Td := ⟨[], 0, 0, 0, 0⟩
theorem madeD (N : Nat) : madeCells #[.string ⟨#[]⟩, .int .i64 0, .int .i64 0, .int .i64 0, .int .i64 0] (N * 5) = (rowD (List.replicate N zrD)).toArray := by
  apply Array.ext_getElem?
  intro j
  simp only [madeCells, Array.getElem?_map, List.getElem?_toArray]
  by_cases hj : j < N * 5
  · rw [Array.getElem?_range, if_pos hj]
    rw [show (rowD (List.replicate N zrD))[j]? = (csD zrD)[j % 5]? from flat_rep csD zrD 5 rfl N j hj]
    have h5 : j % 5 < 5 := Nat.mod_lt _ (by omega)
    have : ∀ k, k < 5 → some ((#[.string ⟨#[]⟩, .int .i64 0, .int .i64 0, .int .i64 0, .int .i64 0] : Array Value)[k]!) = (csD zrD)[k]? := by
      intro k hk
      match k, hk with
        | 0, _ => rfl
        | 1, _ => rfl
        | 2, _ => rfl
        | 3, _ => rfl
        | 4, _ => rfl
    exact this _ h5
  · rw [Array.getElem?_range, if_neg hj]
    have : (rowD (List.replicate N zrD)).length ≤ j := by rw [rowD_len, List.length_replicate]; omega
    rw [List.getElem?_eq_none this]; rfl
theorem run_makeD (n : Nat) (hn : 48 * n ≤ 281474976710656) (w : World) : (Instr.makeSlice 24 (.int .i64 (n : Int)) (.int .i64 (n : Int))).run Tryd.prog w = .ok (.slice (some ⟨w.heap.size, 0, none⟩) n n) (w.alloc (.cells (rowD (List.replicate n zrD)).toArray 42)) := by
  obtain ⟨i0, hi, hz0, hz1, hz2⟩ := info_parts infoD17
  have h := run_make (P := Tryd.prog) w 24 42 i0 _ Tryd.underlying24 hi hz0 .i64 .i64 (n : Int) (n : Int) (by omega) (Int.le_refl _) (by rw [hz2]; omega) (by omega)
  rw [hz1] at h
  simp only [Int.toNat_natCast, Value.cells] at h
  rw [madeD] at h
  exact h
theorem TdA.flat {w : World} {b off : Nat} {l : List Td} (h : TdA w (some ⟨b, off, none⟩) l) : ∀ j u, (rowD l)[j]? = some u → w.cell? ((⟨b, off, none⟩ : Addr).add j) = some u := by
  intro j u hu
  obtain ⟨k, x, i, hx, rfl, hv⟩ := flat_of _ _ csD_len hu
  clear hu
  rcases h with rfl | ⟨b', off', he, hc⟩
  · simp at hx
  cases he
  obtain ⟨c0, c1, c2, c3, c4⟩ := hc k x hx
  rw [WideShapes.add_plain, ← Nat.add_assoc]
  have hi : i < 5 := by have := (List.getElem?_eq_some_iff.1 hv).1; rw [csD_len] at this; exact this
  match i, hi, hv with
  | 0, _, hu => cases hu; exact c0
  | 1, _, hu => cases hu; exact c1
  | 2, _, hu => cases hu; exact c2
  | 3, _, hu => cases hu; exact c3
  | 4, _, hu => cases hu; exact c4
set_option maxRecDepth 20000 in
theorem run_copyD (w : World) (ty : TypeId) (g dLen dCap : Nat) (a : Option Addr) (n c : Nat) (L l2 : List Td) (R : List Value) (hg : RowD w g L R) (hn : l2.length = n) (hA : TdA w a l2) (h1 : n ≤ dLen) (h2 : n ≤ L.length) :
    ∃ w', (Builtin.copy_ #[24, 24] ty #[.slice (some ⟨g, 0, none⟩) dLen dCap, .slice a n c]).run Tryd.prog w = .ok (.int .i64 n) w' ∧ RowD w' g (l2 ++ L.drop n) R ∧ Chg (fun k => k = g) w w' := by
  obtain ⟨i0, hi, hz0, hz1, hz2⟩ := info_parts infoD17
  obtain ⟨w', h3, h4, h5⟩ := run_copy_row w ty 24 42 i0 5 Tryd.underlying24 hi hz1 g dLen dCap a n c (rowD L ++ R) (rowD l2) hg (by rw [rowD_len, hn]) (by
    rcases hA with rfl | ⟨b, off, rfl, hc⟩
    · left; exact ⟨rfl, by simpa using hn.symm⟩
    · right; exact ⟨_, rfl, TdA.flat (.inr ⟨b, off, rfl, hc⟩)⟩) h1 (by rw [List.length_append, rowD_len]; have := Nat.mul_le_mul_right 5 h2; omega) (rowD_one l2)
  refine ⟨w', h3, ?_, h5⟩
  unfold RowD
  rw [h4]
  congr 2
  rw [rowD_app, List.append_assoc]
  congr 1
  have e1 : rowD L = rowD (L.take n) ++ rowD (L.drop n) := by rw [← rowD_app, List.take_append_drop]
  rw [e1, List.append_assoc, List.drop_left' (by rw [rowD_len, List.length_take, Nat.min_eq_left h2])]
theorem own_rowD {w : World} {B n : Nat} {a : Option Addr} {cap : Nat} {l : List Td} (h : w.ownsRow B 42 5 (.slice a n cap) n (rowD l)) (hn : l.length = n) : (a = none ∧ l = []) ∨ ∃ g R, a = some ⟨g, 0, none⟩ ∧ RowD w g l R ∧ B ≤ g := by
  rcases h.2 with ⟨hv, h0⟩ | ⟨g, cap', cur, hv, hb, hg, hn', hm, hs, ht⟩
  · cases hv; exact .inl ⟨rfl, List.length_eq_zero_iff.1 (by omega)⟩
  · cases hv
    refine .inr ⟨g, cur.toList.drop (n * 5), rfl, ?_, hb⟩
    show w.heap[g]? = _
    rw [hg, ← ht, List.take_append_drop]
theorem TdA.of_own {w : World} {B n : Nat} {a : Option Addr} {cap : Nat} {l : List Td} (h : w.ownsRow B 42 5 (.slice a n cap) n (rowD l)) (hn : l.length = n) : TdA w a l := by
  rcases own_rowD h hn with ⟨_, rfl⟩ | ⟨g, R, rfl, hr, _⟩
  · exact .inl rfl
  · exact RowD.a (B := []) (by rw [List.append_nil]; exact hr)
set_option maxHeartbeats 800000 in
theorem copyD17 (w : World) (a : Option Addr) (n cap : Nat) (l : List Td) (hn : l.length = n) (hi : TdA w a l) (hm : n ≤ 2900000000000) : Calls Tryd.prog 30 #[.slice a n cap] w fun e w' => ∃ a' c', e = .returned (.slice a' n c') ∧ w'.ownsRow w.heap.size 42 5 (.slice a' n c') n (rowD l) ∧ Out w w' := by
  obtain ⟨i0, hi0, hz0, hz1, hz2⟩ := info_parts infoD17
  have H0 := hidOf (owns_void17 w w.heap.size 5 42 (Nat.le_refl _))
  rcases hi with rfl | ⟨b, off, rfl, hc⟩
  · obtain rfl : n = 0 := by simpa using hn.symm
    cases a with
    | none =>
      go_enter Tryd.func30, Tryd.ntmps30
      go_wp2
      go_ret
      exact ⟨_, _, rfl, H0.out, Out.alloc (Out.refl _) _⟩
    | some ad =>
      go_enter Tryd.func30, Tryd.ntmps30
      go_wp2_with (at_builtin; refine wpList_append_own _ rfl (.tmp 3) (.tmp 4) 24 rfl w.heap.size 42 i0 _ 5 48 Tryd.underlying24 hi0 hz0 hz1 hz2 rfl (by decide) (.slice (some ⟨w.heap.size, 0, none⟩) 0 0) 0 [] rfl H0.out ad 0 cap [] rfl rfl (fun j u hu => by simp at hu) (fun u hu => by cases hu) (by unfold maxLen; omega) (by omega) (by rw [size_alloc]; omega) ?_; intro v3 w3 hown3 hgrow3 _; have HN := hidOf hown3; have H3 := hidOf (Chg.out (S := fun k => k = w.heap.size) (Chg.of_grown hgrow3 (fun k h => (Option.some.inj h).symm)) (Out.alloc (Out.refl w) _) (fun k hk => by omega)); obtain ⟨a3, c3, rfl⟩ := own_form hown3; clear hown3 hgrow3)
      go_ret
      exact ⟨_, _, rfl, HN.out, H3.out⟩
  · have HC : Hid (∀ j u, (rowD l)[j]? = some u → (w.alloc (.cells #[] 42)).cell? ((⟨b, off, none⟩ : Addr).add j) = some u) := hidOf (fun j u hu => cell_later ((Out.refl w).alloc _) (TdA.flat (.inr ⟨b, off, rfl, hc⟩) j u hu))
    clear hc
    go_enter Tryd.func30, Tryd.ntmps30
    go_wp2_with (at_builtin; refine wpList_append_own _ rfl (.tmp 3) (.tmp 4) 24 rfl w.heap.size 42 i0 _ 5 48 Tryd.underlying24 hi0 hz0 hz1 hz2 rfl (by decide) (.slice (some ⟨w.heap.size, 0, none⟩) 0 0) 0 [] rfl H0.out ⟨b, off, none⟩ n cap (rowD l) rfl (by rw [rowD_len, hn]) HC.out (rowD_one l) (by unfold maxLen; omega) (by omega) (by rw [size_alloc]; omega) ?_; intro v3 w3 hown3 hgrow3 _; rw [Nat.zero_add, List.nil_append] at hown3; have HN := hidOf hown3; have H3 := hidOf (Chg.out (S := fun k => k = w.heap.size) (Chg.of_grown hgrow3 (fun k h => (Option.some.inj h).symm)) (Out.alloc (Out.refl w) _) (fun k hk => by omega)); obtain ⟨a3, c3, rfl⟩ := own_form hown3; clear hown3 hgrow3)
    go_ret
    exact ⟨_, _, rfl, HN.out, H3.out⟩
end Go.Proofs.YtfmcoffmgdcciaaDoor
