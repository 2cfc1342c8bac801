import Derived.Test.YtgephenkbbelcaaDoorPk
import Derived.Laws.MakeOwn
import Derived.Laws.CopyRow
import Derived.Laws.IdiomCopy
namespace Go.Proofs.YtgephenkbbelcaaDoor
open Go.RowKit
set_option linter.unusedVariables false
set_option linter.unusedSimpArgs false
/-- a block that begins with the instructions L -/
def RowI (w : World) (g : Nat) (L : List Ins) (R : List Value) : Prop := w.heap[g]? = some (.cells (insV L ++ R).toArray 42 (0, 0))
theorem RowI.lt {w : World} {g : Nat} {L : List Ins} {R : List Value} (h : RowI w g L R) : g < w.heap.size := (Array.getElem?_eq_some_iff.1 h).1
theorem RowI.same {w w' : World} {g : Nat} {L : List Ins} {R : List Value} (h : RowI w g L R) (e : w'.heap[g]? = w.heap[g]?) : RowI w' g L R := e.trans h
theorem RowI.chg {S : Nat → Prop} {w w' : World} {g : Nat} {L : List Ins} {R : List Value} (h : RowI w g L R) (c : Chg S w w') (hs : ¬ S g) : RowI w' g L R := h.same (c.block g h.lt hs)
theorem RowI.out {w w' : World} {g : Nat} {L : List Ins} {R : List Value} (h : RowI w g L R) (o : Out w w') : RowI w' g L R := h.same (o.block g h.lt)
theorem insV_app (a b : List Ins) : insV (a ++ b) = insV a ++ insV b := by simp [insV, List.flatMap_append]
theorem RowI.split {w : World} {g : Nat} {A B : List Ins} {R : List Value} (h : RowI w g (A ++ B) R) : RowI w g A (insV B ++ R) := by
  unfold RowI at h ⊢; rw [insV_app, List.append_assoc] at h; exact h
theorem RowI.join {w : World} {g : Nat} {A B : List Ins} {R : List Value} (h : RowI w g A (insV B ++ R)) : RowI w g (A ++ B) R := by
  unfold RowI at h ⊢; rw [insV_app, List.append_assoc]; exact h
theorem split_at (L : List Ins) (i : Nat) (x : Ins) (h : L[i]? = some x) : L = L.take i ++ (x :: L.drop (i + 1)) := by
  have hk : i < L.length := (List.getElem?_eq_some_iff.1 h).1
  have hd := List.drop_eq_getElem_cons hk
  have hx' : L[i] = x := by rw [List.getElem?_eq_getElem hk] at h; exact Option.some.inj h
  rw [hx'] at hd
  rw [← hd, List.take_append_drop]
theorem RowI.cells {w : World} {g : Nat} {L : List Ins} {R : List Value} (h : RowI w g L R) {i : Nat} {x : Ins} (hx : L[i]? = some x) :
    w.cell? ⟨g, i * 5, none⟩ = some (.int .i64 x.o) ∧ w.cell? ⟨g, i * 5 + 1, none⟩ = some (.int .i64 x.d) ∧ w.cell? ⟨g, i * 5 + 2, none⟩ = some (.int .i64 x.s) ∧ w.cell? ⟨g, i * 5 + 3, none⟩ = some (.int .i64 x.f) ∧ w.cell? ⟨g, i * 5 + 4, none⟩ = some (.int .i64 x.i) := by
  have hi : i < L.length := (List.getElem?_eq_some_iff.1 hx).1
  have key : ∀ j u, x.cs[j]? = some u → w.cell? ⟨g, i * 5 + j, none⟩ = some u := by
    intro j u hu
    have hj : j < 5 := by have := (List.getElem?_eq_some_iff.1 hu).1; simpa [Ins.cs] using this
    rw [cell_at (show w.heap[g]? = _ from h)]
    have e : insV L ++ R = insV (L.take i) ++ (x.cs ++ (insV (L.drop (i + 1)) ++ R)) := by
      conv => lhs; rw [split_at L i x hx]
      rw [insV_app]
      show insV (L.take i) ++ (x.cs ++ insV (L.drop (i + 1))) ++ R = _
      simp only [List.append_assoc]
    have hl : (insV (L.take i)).length = i * 5 := by rw [insV_len, List.length_take, Nat.min_eq_left (by omega)]
    rw [e, List.getElem?_toArray, List.getElem?_append_right (by omega), List.getElem?_append_left (by simp [Ins.cs]; omega), hl, show i * 5 + j - i * 5 = j by omega]
    exact hu
  exact ⟨key 0 _ rfl, key 1 _ rfl, key 2 _ rfl, key 3 _ rfl, key 4 _ rfl⟩
theorem RowI.insA {w : World} {g : Nat} {L : List Ins} {R : List Value} (h : RowI w g L R) : InsA w (some ⟨g, 0, none⟩) L :=
  .inr ⟨g, 0, rfl, fun k x hx => by simp only [Nat.zero_add]; exact h.cells hx⟩
theorem RowI.frozen {w : World} {g : Nat} {L : List Ins} {R : List Value} (h : RowI w g L R) (j : Nat) : w.frozen? ⟨g, j, none⟩ = false := frozen_at (show w.heap[g]? = _ from h) j
theorem set5_list (A C : List Value) (y0 y1 y2 y3 y4 x0 x1 x2 x3 x4 : Value) (k : Nat) (hk : A.length = k) : (((((A ++ ([y0, y1, y2, y3, y4] ++ C)).set k x0).set (k + 1) x1).set (k + 2) x2).set (k + 3) x3).set (k + 4) x4 = A ++ ([x0, x1, x2, x3, x4] ++ C) := by
  subst hk
  simp [List.set_append]
theorem RowI.set {w : World} {g : Nat} {L : List Ins} {R : List Value} (h : RowI w g L R) {i : Nat} (hi : i < L.length) (a b c d e : Int) :
    RowI (((((w.setCell ⟨g, i * 5, none⟩ (.int .i64 a)).setCell ⟨g, i * 5 + 1, none⟩ (.int .i64 b)).setCell ⟨g, i * 5 + 2, none⟩ (.int .i64 c)).setCell ⟨g, i * 5 + 3, none⟩ (.int .i64 d)).setCell ⟨g, i * 5 + 4, none⟩ (.int .i64 e)) g (L.set i ⟨a, b, c, d, e⟩) R := by
  have h5 := set_at (set_at (set_at (set_at (set_at (show w.heap[g]? = _ from h) (i * 5) (.int .i64 a)) (i * 5 + 1) (.int .i64 b)) (i * 5 + 2) (.int .i64 c)) (i * 5 + 3) (.int .i64 d)) (i * 5 + 4) (.int .i64 e)
  unfold RowI
  rw [h5]
  simp only [List.setIfInBounds_toArray]
  obtain ⟨x, hx⟩ : ∃ x, L[i]? = some x := ⟨_, List.getElem?_eq_getElem hi⟩
  have e1 : insV L ++ R = insV (L.take i) ++ ([.int .i64 x.o, .int .i64 x.d, .int .i64 x.s, .int .i64 x.f, .int .i64 x.i] ++ (insV (L.drop (i + 1)) ++ R)) := by
    conv => lhs; rw [split_at L i x hx]
    rw [insV_app]
    show insV (L.take i) ++ (x.cs ++ insV (L.drop (i + 1))) ++ R = _
    simp only [List.append_assoc]; rfl
  have e2 : insV (L.set i ⟨a, b, c, d, e⟩) ++ R = insV (L.take i) ++ ([.int .i64 a, .int .i64 b, .int .i64 c, .int .i64 d, .int .i64 e] ++ (insV (L.drop (i + 1)) ++ R)) := by
    rw [List.set_eq_take_append_cons_drop, if_pos hi, insV_app]
    show insV (L.take i) ++ (Ins.cs ⟨a, b, c, d, e⟩ ++ insV (L.drop (i + 1))) ++ R = _
    simp only [List.append_assoc]; rfl
  have hl : (insV (L.take i)).length = i * 5 := by rw [insV_len, List.length_take, Nat.min_eq_left (by omega)]
  rw [e1, e2, set5_list _ _ _ _ _ _ _ _ _ _ _ _ (i * 5) hl]
theorem owns_rowI {w : World} {B : Nat} {v : Value} {l : List Ins} (h : w.ownsRow B 42 5 v l.length (insV l)) : (v = .slice none 0 0 ∧ l = []) ∨ ∃ g cap R, v = .slice (some ⟨g, 0, none⟩) l.length cap ∧ RowI w g l R ∧ B ≤ g ∧ l.length ≤ cap ∧ cap ≤ maxLen ∧ l.length * 5 + R.length = cap * 5 := by
  rcases h.2 with ⟨rfl, h0⟩ | ⟨g, cap, cur, rfl, hb, hg, hn, hm, hs, ht⟩
  · exact .inl ⟨rfl, List.length_eq_zero_iff.1 h0⟩
  · refine .inr ⟨g, cap, cur.toList.drop (l.length * 5), rfl, ?_, hb, hn, hm, ?_⟩
    · show w.heap[g]? = _
      rw [hg, ← ht, List.take_append_drop]
    · simp; omega
theorem rowI_owns {w : World} {B g cap : Nat} {l : List Ins} {R : List Value} (h : RowI w g l R) (hB : B ≤ g) (hm : cap ≤ maxLen) (hc : l.length * 5 + R.length = cap * 5) : w.ownsRow B 42 5 (.slice (some ⟨g, 0, none⟩) l.length cap) l.length (insV l) := by
  refine ⟨insV_len l, .inr ⟨g, cap, _, rfl, hB, h, by omega, hm, ?_, ?_⟩⟩
  · simp [insV_len]; omega
  · rw [← insV_len l]; exact List.take_left
def zeroI : Ins := ⟨0, 0, 0, 0, 0⟩
theorem made_zero (N : Nat) : madeCells #[.int .i64 0, .int .i64 0, .int .i64 0, .int .i64 0, .int .i64 0] (N * 5) = (insV (List.replicate N zeroI)).toArray := by
  have h1 : madeCells #[.int .i64 0, .int .i64 0, .int .i64 0, .int .i64 0, .int .i64 0] (N * 5) = (List.replicate (N * 5) (Value.int .i64 0)).toArray := by
    apply Array.ext_getElem?
    intro j
    simp only [madeCells, Array.getElem?_map, List.getElem?_toArray, List.getElem?_replicate]
    by_cases hj : j < N * 5
    · rw [if_pos hj, Array.getElem?_range, if_pos hj]
      have h5 : j % 5 < 5 := Nat.mod_lt _ (by omega)
      have : ∀ k, k < 5 → (#[Value.int .i64 0, .int .i64 0, .int .i64 0, .int .i64 0, .int .i64 0] : Array Value)[k]! = .int .i64 0 := by
        intro k hk
        match k, hk with
        | 0, _ => rfl
        | 1, _ => rfl
        | 2, _ => rfl
        | 3, _ => rfl
        | 4, _ => rfl
      exact congrArg some (this _ h5)
    · rw [if_neg hj, Array.getElem?_range, if_neg hj]; rfl
  rw [h1]
  congr 1
  clear h1
  induction N with
  | zero => rfl
  | succ N ih =>
    rw [List.replicate_succ, show insV (zeroI :: List.replicate N zeroI) = zeroI.cs ++ insV (List.replicate N zeroI) from rfl, ← ih, Nat.succ_mul]
    show List.replicate (N * 5 + 1 + 1 + 1 + 1 + 1) _ = _
    simp only [List.replicate_succ]
    rfl
theorem run_make_ins (n : Nat) (hn : 40 * n ≤ 281474976710656) (w : World) : (Instr.makeSlice 30 (.int .i64 (n : Int)) (.int .i64 (n : Int))).run Tryd.prog w = .ok (.slice (some ⟨w.heap.size, 0, none⟩) n n) (w.alloc (.cells (insV (List.replicate n zeroI)).toArray 42)) := by
  obtain ⟨i0, hi, hz0, hz1, hz2⟩ := info_parts info55
  have h := run_make (P := Tryd.prog) w 30 42 i0 _ Tryd.underlying30 hi hz0 .i64 .i64 (n : Int) (n : Int) (by omega) (Int.le_refl _) (by rw [hz2]; omega) (by omega)
  rw [hz1] at h
  simp only [Int.toNat_natCast, Value.cells] at h
  rw [made_zero] at h
  exact h
set_option maxRecDepth 20000 in
/-- copy(dst, src), dst the head of a row, all of src -/
theorem run_copy_ins (w : World) (ty : TypeId) (g dLen dCap : Nat) (a : Option Addr) (n c : Nat) (L l2 : List Ins) (R : List Value) (hg : RowI w g L R) (hn : l2.length = n) (hA : InsA w a l2) (h1 : n ≤ dLen) (h2 : n ≤ L.length) :
    ∃ w', (Builtin.copy_ #[30, 30] ty #[.slice (some ⟨g, 0, none⟩) dLen dCap, .slice a n c]).run Tryd.prog w = .ok (.int .i64 n) w' ∧ RowI w' g (l2 ++ L.drop n) R ∧ Chg (fun k => k = g) w w' := by
  obtain ⟨i0, hi, hz0, hz1, hz2⟩ := info_parts info55
  have hmin : Nat.min n dLen = n := Nat.min_eq_left h1
  cases a with
  | none =>
    obtain rfl : l2 = [] := by
      rcases hA with h | ⟨b, off, h, _⟩
      · exact h
      · cases h
    obtain rfl : n = 0 := by simpa using hn.symm
    refine ⟨w, ?_, by simpa using hg, Chg.refl _ _⟩
    simp [Builtin.copy_, run_underlying Tryd.underlying30, Builtin.lenOf, Builtin.firstCells, sizeOf, typeInfo, hi, storeCells, goInt]
  | some ad =>
    have hcells : ∀ j u, (insV l2)[j]? = some u → w.cell? (ad.add j) = some u := by
      intro j u hu
      rcases hA with rfl | ⟨b, off, h, hc⟩
      · simp [insV] at hu
      · cases h; exact insA_cells hc j u hu
    have hl := run_loadCells_list (P := Tryd.prog) w ad (insV l2) hcells
    rw [insV_len, hn] at hl
    have hst := run_storeCells_at Tryd.prog g 0 42 (insV l2) 0 (insV L ++ R).toArray w hg (by simp [insV_len]; omega) (insV_one l2)
    refine ⟨w.setRow g (insV (l2 ++ L.drop n) ++ R).toArray, ?_, ?_, ?_⟩
    · have e : ((insV L ++ R).toArray.toList.take (0 + 0) ++ insV l2 ++ (insV L ++ R).toArray.toList.drop (0 + 0 + (insV l2).length)).toArray = (insV (l2 ++ L.drop n) ++ R).toArray := by
        congr 1
        simp only [Nat.add_zero, List.take_zero, List.nil_append, Nat.zero_add, insV_len, hn, insV_app, List.append_assoc]
        congr 1
        have e1 : insV L = insV (L.take n) ++ insV (L.drop n) := by rw [← insV_app, List.take_append_drop]
        rw [e1, List.append_assoc, List.drop_left' (by rw [insV_len, List.length_take, Nat.min_eq_left h2])]
      rw [e] at hst
      simp [Builtin.copy_, run_underlying Tryd.underlying30, Builtin.lenOf, Builtin.firstCells, sizeOf, typeInfo, hi, hz1, hmin, hl, hst, goInt]
    · exact setRow_heap w g _ _ _ _ hg
    · exact ⟨rfl, rfl, rfl, by simp [World.setRow], fun k hk hs => setRow_other w g k _ hs⟩
theorem wpList_copy_ins {w : World} {ops : Array Oper} {rest : List Oper} {o : Oper} {a : Act} {Q : Exit → Act → World → Prop} (hgd : o.guard = none) (d s : Operand)
    (ho : o.op = .call { callee := .builtin .copy, args := #[d, s], argTypes := #[30, 30] })
    (g dLen dCap : Nat) (sa : Option Addr) (n c : Nat) (L l2 : List Ins) (R : List Value) (hd : a.eval d = .slice (some ⟨g, 0, none⟩) dLen dCap) (hs : a.eval s = .slice sa n c)
    (hg : RowI w g L R) (hn : l2.length = n) (hA : InsA w sa l2) (h1 : n ≤ dLen) (h2 : n ≤ L.length)
    (h : ∀ w', RowI w' g (l2 ++ L.drop n) R → Chg (fun k => k = g) w w' → wpList Tryd.prog ops Q rest (a.put o.dst (.int .i64 n)) w') : wpList Tryd.prog ops Q (o :: rest) a w := by
  obtain ⟨w', hr, hR, hC⟩ := run_copy_ins w o.type g dLen dCap sa n c L l2 R hg hn hA h1 h2
  refine wpList_plain hgd fun K hK => ?_
  unfold Oper.wp
  simp [execOp, ho, resolve, invoke, builtin, hd, hs, hr, Result.andThen]
  exact hK _ _ (h w' hR hC)
end Go.Proofs.YtgephenkbbelcaaDoor
