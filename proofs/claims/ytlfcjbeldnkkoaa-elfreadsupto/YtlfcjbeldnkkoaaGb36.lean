import Derived.Test.YtlfcjbeldnkkoaaGb34
import Derived.Test.YtlfcjbeldnkkoaaGb35
namespace Go.Proofs.Ytlfcjbeldnkkoaa
open Go.RowKit
set_option linter.unusedVariables false
set_option linter.unusedSimpArgs false
/-- a lender: its buffer (the block, what it holds), and how many bytes it lent -/
structure Ln where
  b : Option (Nat × List UInt8)
  n : Int
def Ln.h (x : Ln) : Value := match x.b with
  | none => .slice none 0 0
  | some (g, C) => .slice (some ⟨g, 0, none⟩) C.length C.length
def Ln.cs (x : Ln) : List Value := [x.h, .int .i64 x.n]
def lnV (K : List Ln) : List Value := K.flatMap Ln.cs
theorem lnV_len (K : List Ln) : (lnV K).length = K.length * 2 := by
  induction K with
  | nil => rfl
  | cons x r ih => show (x.cs ++ lnV r).length = _; rw [List.length_append, ih]; simp [Ln.cs]; omega
theorem lnV_app (K M : List Ln) : lnV (K ++ M) = lnV K ++ lnV M := by simp [lnV, List.flatMap_append]
theorem lnV_get : ∀ (l : List Ln) (i : Nat) (x : Ln) (j : Nat), l[i]? = some x → j < 2 → (lnV l)[i * 2 + j]? = x.cs[j]?
  | [], i, x, j, h, _ => by simp at h
  | y :: r, 0, x, j, h, hj => by
    simp at h; subst h
    show (y.cs ++ lnV r)[0 * 2 + j]? = _
    rw [List.getElem?_append_left (by simp [Ln.cs]; omega)]; simp
  | y :: r, i + 1, x, j, h, hj => by
    show (y.cs ++ lnV r)[(i + 1) * 2 + j]? = _
    rw [List.getElem?_append_right (by simp [Ln.cs]; omega), ← lnV_get r i x j (by simpa using h) hj]
    congr 1
    simp [Ln.cs]; omega
theorem lnV_set : ∀ (K : List Ln) (i : Nat) (y : Ln), i < K.length → lnV (K.set i y) = ((lnV K).set (i * 2) y.h).set (i * 2 + 1) (.int .i64 y.n)
  | [], i, y, h => by simp at h
  | x :: r, 0, y, _ => by simp [lnV, Ln.cs]
  | x :: r, i + 1, y, h => by
    have ih := lnV_set r i y (by simpa using h)
    show x.cs ++ lnV (r.set i y) = ((x.cs ++ lnV r).set ((i + 1) * 2) y.h).set ((i + 1) * 2 + 1) (.int .i64 y.n)
    have hl : x.cs.length = 2 := rfl
    rw [ih, List.set_append_right _ _ (by omega), List.set_append_right _ _ (by omega), hl, show (i + 1) * 2 - 2 = i * 2 by omega, show (i + 1) * 2 + 1 - 2 = i * 2 + 1 by omega]
def OwL (B : Nat) (v : Value) (K : List Ln) (w : World) : Prop := w.ownsRow B 26 2 v K.length (lnV K)
theorem OwL.at {B : Nat} {v : Value} {K : List Ln} {w : World} (h : OwL B v K w) {i : Nat} {x : Ln} (hx : K[i]? = some x) : ∃ p c cs, v = .slice (some ⟨p, 0, none⟩) K.length c ∧ K.length ≤ c ∧ B ≤ p ∧ w.heap[p]? = some (.cells cs 26 (0, 0)) ∧ cs[i * 2]? = some x.h ∧ cs[i * 2 + 1]? = some (.int .i64 x.n) := by
  have hi := (List.getElem?_eq_some_iff.1 hx).1
  rcases h.2 with ⟨_, h0⟩ | ⟨g, cap, cur, hv, hB, hg, hc, hm, hs, ht⟩
  · omega
  · have key : ∀ j, j < 2 → cur[i * 2 + j]? = x.cs[j]? := fun j hj => by
      rw [← lnV_get K i x j hx hj, ← ht, List.getElem?_take, if_pos (by omega), Array.getElem?_toList]
    exact ⟨g, cap, cur, hv, hc, hB, hg, key 0 (by omega), key 1 (by omega)⟩
theorem OwL.set {B : Nat} {v : Value} {K : List Ln} {w w' : World} (h : OwL B v K w) {i p : Nat} {cs : Array Value} (hi : i < K.length) (hp : v.ownBlock = some p) (hw : w.heap[p]? = some (.cells cs 26 (0, 0))) (y : Ln) (hw' : w'.heap[p]? = some (.cells ((cs.setIfInBounds (i * 2) y.h).setIfInBounds (i * 2 + 1) (.int .i64 y.n)) 26 (0, 0))) : OwL B v (K.set i y) w' := by
  rcases h.2 with ⟨hv, _⟩ | ⟨g, cap, cur, hv, hB, hg, hc, hm, hs, ht⟩
  · rw [hv] at hp; cases hp
  · rw [hv] at hp
    simp [Value.ownBlock] at hp
    subst hp
    rw [hw] at hg
    simp at hg
    subst hg
    refine ⟨by rw [lnV_len], .inr ⟨g, cap, _, by rw [List.length_set]; exact hv, hB, hw', by rw [List.length_set]; exact hc, hm, by simpa using hs, ?_⟩⟩
    rw [Array.toList_setIfInBounds, Array.toList_setIfInBounds, List.take_set, List.take_set, List.length_set, ht, lnV_set K i y hi]
theorem set_selfA {cs : Array Value} {j : Nat} {v : Value} (h : cs[j]? = some v) : cs.setIfInBounds j v = cs := by
  apply Array.ext_getElem?
  intro k
  by_cases hk : j = k
  · subst hk
    rw [Array.getElem?_setIfInBounds_self_of_lt (Array.getElem?_eq_some_iff.1 h).1, h]
  · rw [Array.getElem?_setIfInBounds_ne hk]
def i8 (C : List UInt8) : List Int := C.map (fun b => (b.toNat : Int))
theorem i8_len (C : List UInt8) : (i8 C).length = C.length := by simp [i8]
theorem bV_i8 (C : List UInt8) : bV (i8 C) = bCells C := by simp [bV, i8, bCells]
def bufP (g : Nat) (C : List UInt8) : Value × List Int := (.slice (some ⟨g, 0, none⟩) C.length C.length, i8 C)
theorem own_buf {B g : Nat} {C : List UInt8} {w : World} (h : w.heap[g]? = some (.cells (bCells C).toArray 5 (0, 0))) (hB : B ≤ g) (hl : C.length ≤ 140737488355328) : w.ownsRow B 5 1 (bufP g C).1 (bufP g C).2.length (bV (bufP g C).2) := by
  show w.ownsRow B 5 1 (.slice (some ⟨g, 0, none⟩) C.length C.length) (i8 C).length (bV (i8 C))
  rw [bV_i8, i8_len]
  refine ⟨by simp [bCells], .inr ⟨g, C.length, _, rfl, hB, h, Nat.le_refl _, by unfold maxLen; omega, by simp [bCells], by rw [List.take_of_length_le (by simp [bCells])]⟩⟩
theorem buf_own {B g : Nat} {C : List UInt8} {w : World} (h : w.ownsRow B 5 1 (bufP g C).1 (bufP g C).2.length (bV (bufP g C).2)) : w.heap[g]? = some (.cells (bCells C).toArray 5 (0, 0)) ∧ B ≤ g := by
  change w.ownsRow B 5 1 (.slice (some ⟨g, 0, none⟩) C.length C.length) (i8 C).length (bV (i8 C)) at h
  rw [bV_i8, i8_len] at h
  rcases h.2 with ⟨hv, _⟩ | ⟨g', cap, cur, hv, hB, hg, hc, hm, hs, ht⟩
  · cases hv
  · simp only [Value.slice.injEq, Option.some.injEq, Addr.mk.injEq] at hv
    obtain ⟨⟨rfl, _⟩, _, rfl⟩ := hv
    refine ⟨?_, hB⟩
    rw [hg]
    have : cur.toList = bCells C := by
      rw [← ht, List.take_of_length_le (by simp [hs])]
    rw [← this]
theorem pw_ne {α : Type} {R : α → α → Prop} (hs : ∀ x y, R x y → R y x) : ∀ {l : List α}, l.Pairwise R → ∀ x ∈ l, ∀ y ∈ l, x ≠ y → R x y
  | [], _, x, hx, _, _, _ => by simp at hx
  | a :: r, h, x, hx, y, hy, hne => by
    obtain ⟨h1, h2⟩ := List.pairwise_cons.1 h
    rcases List.mem_cons.1 hx with ex | hx1
    · rcases List.mem_cons.1 hy with ey | hy1
      · exact absurd (ex.trans ey.symm) hne
      · rw [ex]; exact h1 y hy1
    · rcases List.mem_cons.1 hy with ey | hy1
      · rw [ey]; exact hs _ _ (h1 x hx1)
      · exact pw_ne hs h2 x hx1 y hy1 hne
theorem Bq.dis {B : Nat} {w : World} {p : Nat} {c0 c1 : Int} {A D : List (Value × List Int)} (h : Bq B w p c0 c1 A D) {x y : Value × List Int} (hx : x ∈ D) (hy : y ∈ D) (hne : x ≠ y) : Dis x.1 y.1 := by
  obtain ⟨_, _, _, _, _, _, _, _, _, hb⟩ := h
  exact pw_ne (R := fun x y : Value × List Int => Dis x.1 y.1) (fun _ _ h => Dis.symm h) (List.pairwise_append.1 hb.fr.2).2.1 x hx y hy hne
theorem repl {E : List (Value × List Int)} {v : Value} {l l' : List Int} (h : (v, l) ∈ E) : ∃ E' : List (Value × List Int), E'.map Prod.fst = E.map Prod.fst ∧ (v, l') ∈ E' ∧ (∀ x ∈ E', x = (v, l') ∨ (x ∈ E ∧ x.1 ≠ v)) ∧ ∀ x ∈ E, x.1 ≠ v → x ∈ E' := by
  classical
  refine ⟨E.map (fun x => if x.1 = v then (v, l') else x), ?_, ?_, ?_, ?_⟩
  · rw [List.map_map]
    apply List.map_congr_left
    intro x hx
    simp only [Function.comp]
    split
    · rename_i e; exact e.symm
    · rfl
  · exact List.mem_map.2 ⟨(v, l), h, by simp⟩
  · intro x hx
    obtain ⟨y, hy, rfl⟩ := List.mem_map.1 hx
    by_cases e : y.1 = v
    · simp [e]
    · right; rw [if_neg e]; exact ⟨hy, e⟩
  · intro x hx hne
    exact List.mem_map.2 ⟨x, hx, by rw [if_neg hne]⟩
/-- a block of a kind that the shelf has not -/
def KZ (w : World) (k : Nat) : Prop := ∀ cs t fr, w.heap[k]? = some (.cells cs t fr) → ¬ (t = 46 ∨ t = 38 ∨ t = 29)
theorem KZ.of {w : World} {k : Nat} {cs : Array Value} {t : TypeId} {fr : Nat × Nat} (h : w.heap[k]? = some (.cells cs t fr)) (ht : ¬ (t = 46 ∨ t = 38 ∨ t = 29)) : KZ w k := fun cs' t' fr' h' => by
  rw [h] at h'
  simp at h'
  rw [← h'.2.1]
  exact ht
theorem chg_kz {w w1 w2 : World} (h : Chg (KZ w) w w1) (h2 : Chg (KZ w1) w1 w2) : Chg (KZ w) w w2 := h.trans h2 (fun b hb hlt => by
  by_cases hk : KZ w b
  · exact hk
  · intro cs t fr hc
    exact hb cs t fr ((h.block b hlt hk).trans hc))
theorem out_kz {w w1 : World} (o : Out w w1) : Chg (KZ w) w w1 := Chg.of_out o
theorem oth_kz {w : World} {k : Nat} (h : ¬ Oth w k) : KZ w k := fun cs t fr hc ht => h (fun cs' t' fr' hc' ht' => by
  rw [hc] at hc'
  simp at hc'
  rw [← hc'.2.1] at ht'
  rcases ht with e | e | e <;> subst e <;> revert ht' <;> decide)
theorem kz_oth {w : World} {k : Nat} (h : ¬ KZ w k) : Oth w k := fun cs t fr hc ht => h (fun cs' t' fr' hc' ht' => by
  rw [hc] at hc'
  simp at hc'
  rw [← hc'.2.1] at ht'
  rcases ht with e | e | e | e <;> subst e <;> revert ht' <;> decide)
theorem sl_kz {p g : Nat} {w w' : World} {cp : Array Value} (hp : w.heap[p]? = some (.cells cp 26 (0, 0))) (hg : w.heap.size ≤ g ∨ ∃ cg, w.heap[g]? = some (.cells cg 5 (0, 0))) (c : Chg (SL p g) w w') : Chg (KZ w) w w' := c.mono (fun k hk hlt => by
  rcases hk with e | e
  · rw [e]; exact KZ.of hp (by decide)
  · rcases hg with hg | ⟨cg, hg⟩
    · omega
    · rw [e]; exact KZ.of hg (by decide))
/-- a row of lenders, the books at pb: Z are lists of others, E the lenders' buffers (old ones too) -/
structure Rt (W w : World) (pb B : Nat) (cb c1 : Int) (A Z E : List (Value × List Int)) (dv : Value) (K : List Ln) : Prop where
  bq : Bq B w pb cb c1 A (Z ++ E)
  own : OwL B dv K w
  buf : ∀ (i : Nat) (x : Ln) (g : Nat) (C : List UInt8), K[i]? = some x → x.b = some (g, C) → bufP g C ∈ E
  dis : ∀ (i j : Nat) (x y : Ln) (g : Nat) (C C' : List UInt8), K[i]? = some x → K[j]? = some y → x.b = some (g, C) → y.b = some (g, C') → i = j
  bW : W.heap.size ≤ B
  out : Out W w
section
variable {W w w' : World} {pb B : Nat} {cb c1 : Int} {A Z E : List (Value × List Int)} {dv : Value} {K : List Ln}
theorem Rt.buf_at (h : Rt W w pb B cb c1 A Z E dv K) {i g : Nat} {x : Ln} {C : List UInt8} (hx : K[i]? = some x) (hb : x.b = some (g, C)) : w.heap[g]? = some (.cells (bCells C).toArray 5 (0, 0)) ∧ B ≤ g := buf_own (h.bq.own_of (List.mem_append.2 (.inr (h.buf i x g C hx hb))))
theorem Rt.more (h : Rt W w pb B cb c1 A Z E dv K) (o : Out w w') : Rt W w' pb B cb c1 A Z E dv K :=
  ⟨h.bq.out o, own_at h.own o, h.buf, h.dis, h.bW, h.out.trans o⟩
/-- the shelf's blocks turn -/
theorem Rt.away {S : Nat → Prop} (h : Rt W w pb B cb c1 A Z E dv K) (c : Chg S w w') (hS : ∀ k, S k → B ≤ k ∧ ¬ KZ w k) : Rt W w' pb B cb c1 A Z E dv K := by
  refine ⟨h.bq.away c (fun k hk => kz_oth (hS k hk).2), owns_chg h.own (fun k hk hs => ?_) c, h.buf, h.dis, h.bW, Chg.out c h.out (fun k hk => by have := (hS k hk).1; have := h.bW; omega)⟩
  obtain ⟨_, cs, fr, h1⟩ := own_cells h.own hk
  exact (hS k hs).2 (KZ.of h1 (by decide))
/-- a buffer is written again -/
theorem Rt.again (h : Rt W w pb B cb c1 A Z E dv K) {i p g : Nat} {x : Ln} {C C' : List UInt8} {n : Int} {cs : Array Value} (hx : K[i]? = some x) (hb : x.b = some (g, C)) (hp : dv.ownBlock = some p) (hw : w.heap[p]? = some (.cells cs 26 (0, 0))) (hl : C'.length = C.length)
    (hw' : w'.heap[p]? = some (.cells ((cs.setIfInBounds (i * 2) (⟨some (g, C'), n⟩ : Ln).h).setIfInBounds (i * 2 + 1) (.int .i64 n)) 26 (0, 0))) (hg' : w'.heap[g]? = some (.cells (bCells C').toArray 5 (0, 0))) (c : Chg (SL p g) w w') : ∃ E', Rt W w' pb B cb c1 A Z E' dv (K.set i ⟨some (g, C'), n⟩) := by
  have hi := (List.getElem?_eq_some_iff.1 hx).1
  have hm := h.buf i x g C hx hb
  obtain ⟨hgw, hgB⟩ := h.buf_at hx hb
  have hCl : C.length ≤ 60000000000000 := by have := h.bq.len_ (List.mem_append.2 (.inr hm)); simpa [bufP, i8] using this
  have hv : (bufP g C').1 = (bufP g C).1 := by simp [bufP, hl]
  obtain ⟨E', e1, e2, e3, e4⟩ := repl (l' := (bufP g C').2) (show ((bufP g C).1, (bufP g C).2) ∈ E from hm)
  have e2' : bufP g C' ∈ E' := by
    have : bufP g C' = ((bufP g C).1, (bufP g C').2) := by rw [← hv]
    rw [this]; exact e2
  have pB : B ≤ p := (own_cells h.own hp).1
  have hoth : Oth w p := Oth.of hw (by decide)
  have keep : ∀ y ∈ Z ++ E, y ≠ bufP g C → w'.ownsRow B 5 1 y.1 y.2.length (bV y.2) := fun y hy hne => owns_chg (h.bq.own_of hy) (fun k hk hs => by
    rcases hs with e | e
    · rw [e] at hk; exact own_kind (h.bq.own_of hy) hw (by decide) hk
    · exact h.bq.dis hy (List.mem_append.2 (.inr hm)) hne k hk (by rw [e]; rfl)) c
  have hne_of : ∀ y, y.1 ≠ (bufP g C).1 → y ≠ bufP g C := fun y hy e => hy (by rw [e])
  refine ⟨E', h.bq.turn c (fun k hk => ?_) (by simp [e1]) (fun y hy => ?_) (fun y hy => ?_), h.own.set hi hp hw _ hw', fun j y g2 C2 hy hb2 => ?_, fun j j' y y' g2 C2 C2' hy hy' hb2 hb2' => ?_, h.bW, Chg.out c h.out (fun k hk => ?_)⟩
  · rcases hk with e | e
    · rw [e]; exact .inl hoth
    · right; rw [e]; exact ⟨bufP g C, List.mem_append.2 (.inr hm), rfl⟩
  · rcases List.mem_append.1 hy with hy | hy
    · by_cases e : y = bufP g C
      · -- the same pair stands in Z: then the list has no block twice
        exfalso
        subst e
        obtain ⟨_, _, _, _, _, _, _, _, _, hbk⟩ := h.bq
        have h3 := (List.pairwise_append.1 (List.pairwise_append.1 hbk.fr.2).2.1).2.2 _ hy _ hm
        exact h3 g rfl rfl
      · exact keep y (List.mem_append.2 (.inl hy)) e
    · rcases e3 y hy with e | ⟨h1, h2⟩
      · rw [e]
        have := own_buf (B := B) hg' hgB (by omega)
        rw [show bufP g C' = ((bufP g C).1, (bufP g C').2) by rw [← hv]] at this
        exact this
      · exact keep y (List.mem_append.2 (.inr h1)) (hne_of y h2)
  · rcases List.mem_append.1 hy with hy | hy
    · exact h.bq.len_ (List.mem_append.2 (.inl hy))
    · rcases e3 y hy with e | ⟨h1, _⟩
      · rw [e]; show (i8 C').length ≤ _; rw [i8_len]; omega
      · exact h.bq.len_ (List.mem_append.2 (.inr h1))
  · rw [List.getElem?_set] at hy
    by_cases hij : i = j
    · subst hij
      rw [if_pos rfl, if_pos hi] at hy
      cases hy
      cases hb2
      exact e2'
    · rw [if_neg hij] at hy
      refine e4 _ (h.buf j y g2 C2 hy hb2) (fun e => hij ?_)
      have : g2 = g := by simp [bufP] at e; exact e.1
      subst this
      exact h.dis i j x y _ C C2 hx hy hb hb2
  · have key : ∀ (j : Nat) (y : Ln) (g3 : Nat) (C3 : List UInt8), (K.set i ⟨some (g, C'), n⟩)[j]? = some y → y.b = some (g3, C3) → ∃ y0 C0, K[j]? = some y0 ∧ y0.b = some (g3, C0) := fun j y g3 C3 hy hb3 => by
      rw [List.getElem?_set] at hy
      by_cases hij : i = j
      · subst hij
        rw [if_pos rfl, if_pos hi] at hy
        cases hy
        cases hb3
        exact ⟨x, C, hx, hb⟩
      · rw [if_neg hij] at hy
        exact ⟨y, C3, hy, hb3⟩
    obtain ⟨a1, b1, f1, f2⟩ := key j y _ _ hy hb2
    obtain ⟨a2, b2, f3, f4⟩ := key j' y' _ _ hy' hb2'
    exact h.dis j j' a1 a2 _ b1 b2 f1 f3 f2 f4
  · have := h.bW
    rcases hk with e | e <;> omega
/-- a buffer is made -/
theorem Rt.made (h : Rt W w pb B cb c1 A Z E dv K) {i p g : Nat} {C' : List UInt8} {n : Int} {cs : Array Value} (hi : i < K.length) (hp : dv.ownBlock = some p) (hw : w.heap[p]? = some (.cells cs 26 (0, 0))) (hl : C'.length ≤ 60000000000000) (hgn : w.heap.size ≤ g)
    (hw' : w'.heap[p]? = some (.cells ((cs.setIfInBounds (i * 2) (⟨some (g, C'), n⟩ : Ln).h).setIfInBounds (i * 2 + 1) (.int .i64 n)) 26 (0, 0))) (hg' : w'.heap[g]? = some (.cells (bCells C').toArray 5 (0, 0))) (c : Chg (SL p g) w w') : ∃ E', Rt W w' pb B cb c1 A Z E' dv (K.set i ⟨some (g, C'), n⟩) := by
  have pB : B ≤ p := (own_cells h.own hp).1
  have hBw := h.bq.bw
  have hS : ∀ k, SL p g k → Oth w k := fun k hk => by
    rcases hk with e | e
    · rw [e]; exact Oth.of hw (by decide)
    · rw [e]; exact Oth.new hgn
  have hq := h.bq.takeS c hS (v := (bufP g C').1) (l := (bufP g C').2) (own_buf hg' hgn (by omega)) (by show (i8 C').length ≤ _; rw [i8_len]; omega)
  refine ⟨bufP g C' :: E, hq.perm List.perm_middle.symm, h.own.set hi hp hw _ hw', fun j y g2 C2 hy hb2 => ?_, fun j j' y y' g2 C2 C2' hy hy' hb2 hb2' => ?_, h.bW, Chg.out c h.out (fun k hk => ?_)⟩
  · rw [List.getElem?_set] at hy
    by_cases hij : i = j
    · subst hij
      rw [if_pos rfl, if_pos hi] at hy
      cases hy
      cases hb2
      exact List.mem_cons_self
    · rw [if_neg hij] at hy
      exact List.mem_cons_of_mem _ (h.buf j y g2 C2 hy hb2)
  · have key : ∀ (j : Nat) (y : Ln) (g3 : Nat) (C3 : List UInt8), (K.set i ⟨some (g, C'), n⟩)[j]? = some y → y.b = some (g3, C3) → (j = i ∧ g3 = g) ∨ (K[j]? = some y ∧ g3 < w.heap.size) := fun j y g3 C3 hy hb3 => by
      rw [List.getElem?_set] at hy
      by_cases hij : i = j
      · subst hij
        rw [if_pos rfl, if_pos hi] at hy
        cases hy
        cases hb3
        exact .inl ⟨rfl, rfl⟩
      · rw [if_neg hij] at hy
        exact .inr ⟨hy, (Array.getElem?_eq_some_iff.1 (h.buf_at hy hb3).1).1⟩
    rcases key j y _ _ hy hb2 with ⟨e1, e2⟩ | ⟨f1, f2⟩
    · rcases key j' y' _ _ hy' hb2' with ⟨e3, e4⟩ | ⟨f3, f4⟩
      · omega
      · omega
    · rcases key j' y' _ _ hy' hb2' with ⟨e3, e4⟩ | ⟨f3, f4⟩
      · omega
      · exact h.dis j j' y y' _ C2 C2' f1 f3 hb2 hb2'
  · have := h.bW
    rcases hk with e | e <;> omega
/-- one lender lends bytes that came in -/
theorem Rt.lend1 (h : Rt W w pb B cb c1 A Z E dv K) {i : Nat} {x : Ln} (hx : K[i]? = some x) (a : Option Addr) (cap : Nat) (l : List UInt8) (hr : RestAt W.heap.size W a l) (hll : l.length ≤ 10000000000000) :
    ∃ p c, dv = .slice (some ⟨p, 0, none⟩) K.length c ∧ K.length ≤ c ∧ Calls Try.prog 12 #[.pointer (some ⟨p, i * 2, none⟩), .slice a l.length cap] w fun e w' => ∃ g R E', e = .returned (.slice (some ⟨g, 0, none⟩) l.length (2 * l.length + 70)) ∧ Rt W w' pb B cb c1 A Z E' dv (K.set i ⟨some (g, l ++ (lmsB l.length (l.length + 70) ++ R)), l.length⟩) ∧ Chg (KZ w) w w' := by
  have hi := (List.getElem?_eq_some_iff.1 hx).1
  obtain ⟨p, c, cs, hdv, hc, hpB, hw, h0, h1⟩ := h.own.at hx
  refine ⟨p, c, hdv, hc, ?_⟩
  have hp : dv.ownBlock = some p := by rw [hdv]; rfl
  have hr1 : RestAt W.heap.size w a l := hr.chg (Chg.of_out (S := fun _ => False) h.out) (fun _ _ h => h) (Nat.le_refl _)
  have hbW := h.bW
  have hlo : ∀ (q : Nat), B ≤ q → ¬ l = [] → ∀ ad, a = some ad → ¬ ad.block = q := fun q hq hl ad had e => by
    rcases hr with h1 | ⟨b, o, hb, h1, _⟩
    · exact hl h1
    · rw [h1] at had; cases had; simp at e; omega
  have new : ∀ (ha : Option Addr) (hn hc : Nat), x.h = .slice ha hn hc → hn < 2 * l.length + 70 → Calls Try.prog 12 #[.pointer (some ⟨p, i * 2, none⟩), .slice a l.length cap] w fun e w' => ∃ g R E', e = .returned (.slice (some ⟨g, 0, none⟩) l.length (2 * l.length + 70)) ∧ Rt W w' pb B cb c1 A Z E' dv (K.set i ⟨some (g, l ++ (lmsB l.length (l.length + 70) ++ R)), l.length⟩) ∧ Chg (KZ w) w w' := fun ha hn hc' he hlt => by
    refine (lendC_make W.heap.size w p (i * 2) w.heap.size (4 * l.length + 512) cs _ (List.replicate (4 * l.length + 512) 0) ha hn hc' x.n hw (by rw [h0, he]) h1 rfl a cap l hr1 h.out.size (hlo p hpB) rfl rfl rfl (by omega) hlt).mono ?_
    rintro e w' ⟨he', hL, hch⟩
    have hlen := hL.len_
    obtain ⟨E', hE⟩ := h.made (C' := l ++ (lmsB l.length (l.length + 70) ++ (List.replicate (4 * l.length + 512) (0 : UInt8)).drop (2 * l.length + 70))) (n := (l.length : Int)) hi hp hw (by rw [hlen]; omega) (Nat.le_refl _) (by
      have := hL.hp
      simp only [Ln.h]
      rw [hlen]
      exact this) hL.hg hch
    exact ⟨_, _, E', he', hE, sl_kz hw (.inl (Nat.le_refl _)) hch⟩
  cases hb : x.b with
  | none => exact new none 0 0 (by simp [Ln.h, hb]) (by omega)
  | some gc =>
    obtain ⟨g, C⟩ := gc
    by_cases hm : 2 * l.length + 70 ≤ C.length
    · obtain ⟨hgw, hgB⟩ := h.buf_at hx hb
      have hx0 : x.h = .slice (some ⟨g, 0, none⟩) C.length C.length := by simp [Ln.h, hb]
      refine (lendC_again W.heap.size w p (i * 2) g C.length cs x.n C ⟨hw, by rw [h0, hx0], h1, hgw, rfl⟩ a cap l hr1 (hlo p hpB) (hlo g hgB) hm (by omega)).mono ?_
      rintro e w' ⟨he', hL, hch⟩
      have hlen := hL.len_
      obtain ⟨E', hE⟩ := h.again (C' := l ++ (lmsB l.length (l.length + 70) ++ C.drop (2 * l.length + 70))) (n := (l.length : Int)) hx hb hp hw hlen (by
        have := hL.hp
        simp only [Ln.h]
        rw [hlen, set_selfA (cs := cs) (j := i * 2) (by rw [h0, hx0])]
        exact this) hL.hg hch
      exact ⟨_, _, E', he', hE, sl_kz hw (.inr ⟨_, hgw⟩) hch⟩
    · exact new (some ⟨g, 0, none⟩) C.length C.length (by simp [Ln.h, hb]) (by omega)
/-- one lender has its bytes back -/
theorem Rt.back1 (h : Rt W w pb B cb c1 A Z E dv K) {i g : Nat} {l R : List UInt8} (hx : K[i]? = some ⟨some (g, l ++ (lmsB l.length (l.length + 70) ++ R)), l.length⟩) (a : Option Addr) (cap : Nat) (hr : RestAt W.heap.size W a l) (hll : l.length ≤ 10000000000000) :
    ∃ p c, dv = .slice (some ⟨p, 0, none⟩) K.length c ∧ K.length ≤ c ∧ Calls Try.prog 13 #[.pointer (some ⟨p, i * 2, none⟩), .slice a l.length cap] w fun e w' => e = .returned (.bool true) ∧ (∃ C' E', Rt W w' pb B cb c1 A Z E' dv (K.set i ⟨some (g, C'), l.length⟩)) ∧ Chg (KZ w) w w' := by
  have hi := (List.getElem?_eq_some_iff.1 hx).1
  obtain ⟨p, c, cs, hdv, hc, hpB, hw, h0, h1⟩ := h.own.at hx
  refine ⟨p, c, hdv, hc, ?_⟩
  have hp : dv.ownBlock = some p := by rw [hdv]; rfl
  have hr1 : RestAt W.heap.size w a l := hr.chg (Chg.of_out (S := fun _ => False) h.out) (fun _ _ h => h) (Nat.le_refl _)
  obtain ⟨hgw, hgB⟩ := h.buf_at hx rfl
  refine (backC_any w p (i * 2) g (l ++ (lmsB l.length (l.length + 70) ++ R)).length cs l R ⟨hw, h0, h1, hgw, rfl⟩ W.heap.size a cap hr1 (by omega)).mono ?_
  rintro e w' ⟨he', ⟨C', hL⟩, hch⟩
  have hlen := hL.len_
  obtain ⟨E', hE⟩ := h.again (C' := C') (n := (l.length : Int)) hx rfl hp hw hlen (by
    have := hL.hp
    simp only [Ln.h] at h0 ⊢
    rw [hlen, set_selfA (cs := cs) (j := i * 2) h0, set_selfA (cs := cs) (j := i * 2 + 1) h1]
    exact this) hL.hg hch
  exact ⟨he', ⟨C', E', hE⟩, sl_kz hw (.inr ⟨_, hgw⟩) hch⟩
theorem bV_i8B (C : List UInt8) : bV (i8 C) = Lib.byteCells C := by simp [bV, i8, Lib.byteCells]
theorem Rt.zRest (h : Rt W w pb B cb c1 A Z E dv K) {a : Option Addr} {n c : Nat} {U : List UInt8} (hz : (Value.slice a n c, i8 U) ∈ Z) : RestAt w.heap.size w a U ∧ n = U.length := by
  have h1 := h.bq.own_of (List.mem_append.2 (.inl hz))
  rw [bV_i8B, i8_len] at h1
  obtain ⟨a', c', hv, _, hr⟩ := OwB.rest (B := B) (v := .slice a n c) (O := U) (w := w) h1
  cases hv
  exact ⟨hr, rfl⟩
theorem Rt.handIn {a : Option Addr} {q c : Nat} {U : List UInt8} (h : Rt W w pb B cb c1 A ((Value.slice a q c, i8 U) :: Z) E dv K) (hq : U.length = q) (hc1 : c1 ≤ 900000000000000) (mark : Int) (m0 : 0 ≤ mark) (m1 : mark ≤ 100000000000) (hc0 : cb ≤ 20000000000) :
    Calls Try.prog 40 #[.pointer (some ⟨pb, 0, none⟩), .slice a q c, .int .i64 mark] w fun e w' => (∃ r, e = .returned r) ∧ (∃ A', Rt W w' pb B (cb + 1) (c1 + q) A' Z E dv K) ∧ Chg (KZ w) w w' := by
  refine (Bq.own (D := Z ++ E) h.bq (by rw [i8_len]; exact hq) hc1 mark m0 m1 hc0).mono ?_
  rintro e w' ⟨he, ⟨A', hb⟩, S, ch, hS⟩
  refine ⟨he, ⟨A', hb, owns_chg h.own (fun k hk hs => ?_) ch, h.buf, h.dis, h.bW, Chg.out ch h.out (fun k hk => by have := (hS k hk).1; have := h.bW; omega)⟩, ch.mono (fun k hk _ => oth_kz (hS k hk).2)⟩
  obtain ⟨_, cs, fr, h1⟩ := own_cells h.own hk
  exact (hS k hs).2 (Oth.of h1 (by decide))
end
end Go.Proofs.Ytlfcjbeldnkkoaa
