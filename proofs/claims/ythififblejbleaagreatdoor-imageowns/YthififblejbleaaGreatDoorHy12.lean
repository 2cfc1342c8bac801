import Derived.Test.YthififblejbleaaGreatDoorHy11
namespace Go.Proofs.YthififblejbleaaGreatDoor
open Go.RowKit
set_option linter.unusedVariables false
set_option linter.unusedSimpArgs false
structure Eqh (a b : World) : Prop where
  os : b.os = a.os
  tape : b.tape = a.tape
  output : b.output = a.output
  heap : b.heap = a.heap
theorem Eqh.refl (a : World) : Eqh a a := ⟨rfl, rfl, rfl, rfl⟩
theorem Eqh.trans {a b c : World} (h : Eqh a b) (k : Eqh b c) : Eqh a c := ⟨k.os.trans h.os, k.tape.trans h.tape, k.output.trans h.output, k.heap.trans h.heap⟩
theorem Eqh.drewN (a : World) (n : Nat) : Eqh a (a.drewN n) := ⟨rfl, rfl, rfl, rfl⟩
theorem Eqh.drew (a : World) : Eqh a a.drew := ⟨rfl, rfl, rfl, rfl⟩
theorem Eqh.setCell {a b : World} (h : Eqh a b) (x : Addr) (v : Value) : Eqh (a.setCell x v) (b.setCell x v) := ⟨h.os, h.tape, h.output, by simp [World.setCell, h.heap]⟩
theorem Eqh.cell {a b : World} (h : Eqh a b) (x : Addr) : b.cell? x = a.cell? x := by simp [World.cell?, h.heap]
theorem Eqh.frozen {a b : World} (h : Eqh a b) (x : Addr) : b.frozen? x = a.frozen? x := by simp [World.frozen?, h.heap]
theorem Eqh.out {a b : World} (h : Eqh a b) : Out a b := ⟨h.os, h.tape, h.output, by rw [h.heap]; exact Nat.le_refl _, fun k hk => by rw [h.heap]⟩
theorem Eqh.chg {S : Nat → Prop} {w a b : World} (h : Eqh a b) (c : Chg S w a) : Chg S w b := ⟨h.os.trans c.os, h.tape.trans c.tape, h.output.trans c.output, by rw [h.heap]; exact c.size, fun k hk hs => by rw [h.heap]; exact c.block k hk hs⟩
def stepN (l : List UInt8) (p o : Nat) (w : World) (y : Nat × Nat) : World := (w.setCell ⟨y.1, y.2, none⟩ (.int .i64 (g4 l o : Nat))).setCell ⟨p, 1, none⟩ (.int .i64 ((o : Int) + 4))
def setN (l : List UInt8) (p : Nat) : Nat → List (Nat × Nat) → World → World
  | _, [], w => w
  | o, y :: r, w => setN l p (o + 4) r (stepN l p o w y)
theorem setN_snoc (l : List UInt8) (p : Nat) (y : Nat × Nat) : ∀ (A : List (Nat × Nat)) (o : Nat) (w : World), setN l p o (A ++ [y]) w = stepN l p (o + 4 * A.length) (setN l p o A w) y
  | [], o, w => by simp [setN]
  | x :: r, o, w => by
    simp only [List.cons_append, setN]
    rw [setN_snoc l p y r]
    simp only [List.length_cons]
    rw [show o + 4 + 4 * r.length = o + 4 * (r.length + 1) by omega]
theorem setN_chg (l : List UInt8) (p : Nat) : ∀ (A : List (Nat × Nat)) (o : Nat) (w : World), Chg (fun k => k = p ∨ ∃ y ∈ A, y.1 = k) w (setN l p o A w)
  | [], o, w => Chg.refl _ _
  | y :: r, o, w => by
    have h1 : Chg (fun k => k = p ∨ ∃ z ∈ y :: r, z.1 = k) w (stepN l p o w y) := (Chg.setCell (Chg.refl _ w) (p := ⟨y.1, y.2, none⟩) (.inr ⟨y, by simp, rfl⟩) _).setCell (p := ⟨p, 1, none⟩) (.inl rfl) _
    exact h1.trans (setN_chg l p r (o + 4) (stepN l p o w y)) (fun x hx _ => by
      rcases hx with h | ⟨z, hz, e⟩
      · exact .inl h
      · exact .inr ⟨z, by simp [hz], e⟩)
theorem cell_set_ne (w : World) (a b : Nat × Nat) (v : Value) (h : a ≠ b) : (w.setCell ⟨a.1, a.2, none⟩ v).cell? ⟨b.1, b.2, none⟩ = w.cell? ⟨b.1, b.2, none⟩ := World.cell?_setCell_other w _ _ v (fun e => h (by cases a; cases b; simp at e; simp [e.1, e.2]))
theorem setN_keep (l : List UInt8) (p : Nat) (b : Nat × Nat) (hb : b ≠ (p, 1)) : ∀ (A : List (Nat × Nat)) (o : Nat) (w : World), (∀ y ∈ A, y ≠ b) → (setN l p o A w).cell? ⟨b.1, b.2, none⟩ = w.cell? ⟨b.1, b.2, none⟩
  | [], o, w, _ => rfl
  | y :: r, o, w, h => by
    rw [setN, setN_keep l p b hb r (o + 4) _ (fun z hz => h z (by simp [hz]))]
    unfold stepN
    rw [cell_set_ne _ (p, 1) b _ (fun e => hb e.symm), cell_set_ne _ y b _ (h y (by simp))]
theorem frozen_set (w : World) (a b : Addr) (v : Value) : (w.setCell a v).frozen? b = w.frozen? b := by
  simp only [World.frozen?, World.setCell, Array.getElem?_modify]
  by_cases e : a.block = b.block
  · rw [if_pos e]
    cases h : w.heap[b.block]? with
    | none => rfl
    | some o => cases o <;> rfl
  · rw [if_neg e]
theorem setN_frozen (l : List UInt8) (p : Nat) (b : Addr) : ∀ (A : List (Nat × Nat)) (o : Nat) (w : World), (setN l p o A w).frozen? b = w.frozen? b
  | [], o, w => rfl
  | y :: r, o, w => by rw [setN, setN_frozen l p b r, stepN, frozen_set, frozen_set]
theorem isSome_set (w : World) (a b : Addr) (v : Value) (h : (w.cell? b).isSome = true) : ((w.setCell a v).cell? b).isSome = true := by
  by_cases e : a = b
  · subst e
    obtain ⟨u, hu⟩ := Option.isSome_iff_exists.1 h
    rw [World.cell?_setCell_same' w a v (by rw [hu]; rfl)]; rfl
  · rw [World.cell?_setCell_other w a b v (fun h => e h)]; exact h
theorem setN_some (l : List UInt8) (p : Nat) (b : Addr) : ∀ (A : List (Nat × Nat)) (o : Nat) (w : World), (w.cell? b).isSome = true → ((setN l p o A w).cell? b).isSome = true
  | [], o, w, h => h
  | y :: r, o, w, h => by rw [setN]; exact setN_some l p b r _ _ (isSome_set _ _ _ _ (isSome_set _ _ _ _ h))
theorem g1_get {l : List UInt8} {k : Nat} (h : k < l.length) : ∃ x, l[k]? = some x ∧ g1 l k = x.toNat := ⟨l[k], List.getElem?_eq_getElem h, by simp [g1, List.getD, List.getElem?_eq_getElem h]⟩
theorem wrap64_eq17 (n : Int) : IntKind.i64.wrap n = wrap64 n := by
  first | rfl | (unfold wrap64; rw [IntKind.wrap_i64])
def BtA (w : World) (g go : Nat) (l : List UInt8) : Prop := ∀ k x, l[k]? = some x → w.cell? ⟨g, go + k, none⟩ = some (.int .u8 (x.toNat : Int))
theorem or4 {a b c d : Int} (a0 : 0 ≤ a) (a1 : a < 256) (b0 : 0 ≤ b) (b1 : b < 256) (c0 : 0 ≤ c) (c1 : c < 256) (d0 : 0 ≤ d) (d1 : d < 256) : bits BinOp.or IntKind.i64 (bits BinOp.or IntKind.i64 (bits BinOp.or IntKind.i64 a (b * 256)) (c * 65536)) (d * 16777216) = a + 256 * b + 65536 * c + 16777216 * d := by
  rw [or_8 _ _ (by omega) (by omega) (by omega) (by omega), or_16 _ _ (by omega) (by omega) (by omega) (by omega), or_24 _ _ (by omega) (by omega) (by omega) (by omega)]
  omega
set_option maxRecDepth 8000 in
set_option maxHeartbeats 4000000 in
theorem numbersR_any (w : World) (p g go n c o q : Nat) (l : List UInt8) (X : List (Nat × Nat)) (hl : l.length = n) (hB : BtA w g go l) (hnc : n ≤ c)
    (c0 : w.cell? ⟨p, 0, none⟩ = some (.slice (some ⟨g, go, none⟩) n c)) (c1 : w.cell? ⟨p, 1, none⟩ = some (.int .i64 o)) (c2 : w.cell? ⟨p, 2, none⟩ = some (.bool true)) (f1 : w.frozen? ⟨p, 1, none⟩ = false)
    (hq : ∀ i y, X[i]? = some y → w.cell? ⟨q, i, none⟩ = some (.pointer (some ⟨y.1, y.2, none⟩)))
    (hX : ∀ y ∈ X, (w.cell? ⟨y.1, y.2, none⟩).isSome = true ∧ w.frozen? ⟨y.1, y.2, none⟩ = false ∧ ¬ y.1 = g ∧ ¬ y.1 = q ∧ (y.1 = p → 3 ≤ y.2)) (hpg : ¬ p = g) (hpq : ¬ p = q) (hr : o + 4 * X.length ≤ n) (hn : n ≤ 281474976710656) :
    Calls Tryz.prog 54 #[.pointer (some ⟨p, 0, none⟩), .slice (some ⟨q, 0, none⟩) X.length X.length] w fun e w' => (∃ v, e = .returned v) ∧ Eqh (setN l p o X w) w' := by
  obtain ⟨m, hm⟩ : ∃ m, Hid (m = X.length) := ⟨_, rfl⟩
  rw [← hm.out] at hr ⊢
  have HX := hidOf hX
  have HQ := hidOf hq
  have HB := hidOf hB
  have H0 := hidOf c0
  have H1 := hidOf c1
  have H2 := hidOf c2
  have F1 := hidOf f1
  have Hl := hidOf hl
  clear hX hq hB c0 c1 c2 f1 hl
  go_enter Tryz.func54, Tryz.ntmps54
  go_wp2
  go_loopw [9] (fun i wr => ∃ k : Nat, k ≤ m ∧ i = .int .i64 k ∧ Hid (Eqh (setN l p o (X.take k) w) wr)) (fun i _ => m - (intOf i).toNat)
  case atStart => exact ⟨0, by omega, rfl, hidOf (by simpa [setN] using Eqh.refl w)⟩
  case round =>
    obtain ⟨k, hk, rfl, hw⟩ := hrel
    by_cases hkl : k < m
    · have hlt : (k : Int) < m := by omega
      obtain ⟨y, hy⟩ : ∃ y, X[k]? = some y := ⟨_, List.getElem?_eq_getElem (by rw [← hm.out]; exact hkl)⟩
      have hlk : (X.take k).length = k := by rw [List.length_take, ← hm.out]; omega
      have hsub : ∀ z ∈ X.take k, z ∈ X := fun z hz => List.mem_of_mem_take hz
      obtain ⟨e1, e2, e3, e4, e5⟩ := HX.out y (List.mem_of_getElem? hy)
      have keep : ∀ b : Nat × Nat, b ≠ (p, 1) → (∀ z ∈ X, z ≠ b) → wr.cell? ⟨b.1, b.2, none⟩ = w.cell? ⟨b.1, b.2, none⟩ := fun b hb hz => by rw [hw.out.cell, setN_keep l p b hb _ _ _ (fun z hz' => hz z (hsub z hz'))]
      have z0 : wr.cell? ⟨q, k, none⟩ = some (.pointer (some ⟨y.1, y.2, none⟩)) := by
        have := keep (q, k) (fun e => hpq (by cases e; rfl)) (fun z hz e => (HX.out z hz).2.2.2.1 (by rw [e]))
        rw [this]; exact HQ.out k y hy
      have z1 : wr.cell? ⟨p, 0, none⟩ = some (.slice (some ⟨g, go, none⟩) n c) := by
        have := keep (p, 0) (by simp) (fun z hz e => by have := (HX.out z hz).2.2.2.2 (by rw [e]); rw [e] at this; simp at this)
        rw [this]; exact H0.out
      have z2 : wr.cell? ⟨p, 2, none⟩ = some (.bool true) := by
        have := keep (p, 2) (by simp) (fun z hz e => by have := (HX.out z hz).2.2.2.2 (by rw [e]); rw [e] at this; simp at this)
        rw [this]; exact H2.out
      have zb : ∀ j, wr.cell? ⟨g, j, none⟩ = w.cell? ⟨g, j, none⟩ := fun j => keep (g, j) (fun e => hpg (by cases e; rfl)) (fun z hz e => (HX.out z hz).2.2.1 (by rw [e]))
      obtain ⟨oo, hoo⟩ : ∃ oo, Hid (oo = o + 4 * k) := ⟨_, rfl⟩
      have z3 : wr.cell? ⟨p, 1, none⟩ = some (.int .i64 oo) := by
        rw [hw.out.cell, hoo.out]
        rcases k with _ | k
        · simpa [setN] using H1.out
        · have hk' : k < X.length := by rw [← hm.out]; omega
          have ht : X.take (k + 1) = X.take k ++ [X[k]] := take_snoc (List.getElem?_eq_getElem hk')
          have hlk2 : (X.take k).length = k := by rw [List.length_take]; omega
          rw [ht, setN_snoc, stepN, World.cell?_setCell_same' _ _ _ (isSome_set _ _ _ _ (setN_some _ _ _ _ _ _ (by rw [H1.out]; rfl))), hlk2]
          simp; omega
      have z4 : wr.frozen? ⟨p, 1, none⟩ = false := by rw [hw.out.frozen, setN_frozen]; exact F1.out
      have z5 : wr.frozen? ⟨y.1, y.2, none⟩ = false := by rw [hw.out.frozen, setN_frozen]; exact e2
      obtain ⟨v6, z6⟩ : ∃ v, wr.cell? ⟨y.1, y.2, none⟩ = some v := Option.isSome_iff_exists.1 (by rw [hw.out.cell]; exact setN_some _ _ _ _ _ _ e1)
      have hro : oo + 4 ≤ n := by rw [hoo.out]; omega
      obtain ⟨x0, b0, v0⟩ := g1_get (l := l) (k := oo) (by rw [Hl.out]; omega)
      obtain ⟨x1, b1, v1⟩ := g1_get (l := l) (k := oo + 1) (by rw [Hl.out]; omega)
      obtain ⟨x2, b2, v2⟩ := g1_get (l := l) (k := oo + 2) (by rw [Hl.out]; omega)
      obtain ⟨x3, b3, v3⟩ := g1_get (l := l) (k := oo + 3) (by rw [Hl.out]; omega)
      have y0 : wr.cell? ⟨g, go + oo, none⟩ = some (.int .u8 (x0.toNat : Int)) := by rw [zb]; exact HB.out _ _ b0
      have y1 : wr.cell? ⟨g, go + oo + 1, none⟩ = some (.int .u8 (x1.toNat : Int)) := by rw [zb]; exact HB.out _ _ b1
      have y2 : wr.cell? ⟨g, go + oo + 2, none⟩ = some (.int .u8 (x2.toNat : Int)) := by rw [zb]; exact HB.out _ _ b2
      have y3 : wr.cell? ⟨g, go + oo + 3, none⟩ = some (.int .u8 (x3.toNat : Int)) := by rw [zb]; exact HB.out _ _ b3
      have hor : bits BinOp.or IntKind.i64 (bits BinOp.or IntKind.i64 (bits BinOp.or IntKind.i64 (x0.toNat : Int) ((x1.toNat : Int) * 256)) ((x2.toNat : Int) * 65536)) ((x3.toNat : Int) * 16777216) = (g4 l oo : Nat) := by
        have t0 := x0.toNat_lt; have t1 := x1.toNat_lt; have t2 := x2.toNat_lt; have t3 := x3.toNat_lt
        rw [or4 (by omega) (by omega) (by omega) (by omega) (by omega) (by omega) (by omega) (by omega)]
        unfold g4; rw [v0, v1, v2, v3]; omega
      have u1 := x1.toNat_lt
      have u2 := x2.toNat_lt
      have u3 := x3.toNat_lt
      have HT2 : Hid (setN l p o (X.take (k + 1)) w = stepN l p oo (setN l p o (X.take k) w) y) := hidOf (by rw [take_snoc hy, setN_snoc, hlk, hoo.out])
      obtain ⟨yb, yo⟩ := y
      simp only at e1 e2 e3 e4 e5 z0 z5 z6
      clear hy keep zb b0 b1 b2 b3 v0 v1 v2 v3 hsub hlk
      go_upto_region 3 with fail
      go_quiet (fail)
      rw [show oo + 4 - oo = 4 by omega]
      have Hq : Hid (Eqh (setN l p o (X.take k) w) (wr.drewN nq)) := hidOf (hw.out.trans (Eqh.drewN _ _))
      have q1 : (wr.drewN nq).cell? ⟨p, 1, none⟩ = some (.int .i64 oo) := z3
      have q2 : (wr.drewN nq).cell? ⟨p, 2, none⟩ = some (.bool true) := z2
      have q4 : (wr.drewN nq).frozen? ⟨p, 1, none⟩ = false := z4
      have q5 : (wr.drewN nq).frozen? ⟨yb, yo, none⟩ = false := z5
      have q6 : (wr.drewN nq).cell? ⟨yb, yo, none⟩ = some v6 := z6
      have r0 : (wr.drewN nq).cell? ⟨g, go + oo, none⟩ = some (.int .u8 (x0.toNat : Int)) := y0
      have r1 : (wr.drewN nq).cell? ⟨g, go + oo + 1, none⟩ = some (.int .u8 (x1.toNat : Int)) := y1
      have r2 : (wr.drewN nq).cell? ⟨g, go + oo + 2, none⟩ = some (.int .u8 (x2.toNat : Int)) := y2
      have r3 : (wr.drewN nq).cell? ⟨g, go + oo + 3, none⟩ = some (.int .u8 (x3.toNat : Int)) := y3
      clear z0 z1 z2 z3 z4 z5 z6 y0 y1 y2 y3 hw
      generalize wr.drewN nq = wq at *
      obtain ⟨gv, hgv⟩ : ∃ gv : Int, Hid (gv = (g4 l oo : Nat)) := ⟨_, rfl⟩
      rw [← hgv.out] at hor
      have hcc : oo + 4 ≤ c := by omega
      have u0 := x0.toNat_lt
      have wa0 : IntKind.i64.wrap (x0.toNat : Int) = (x0.toNat : Int) := by rw [wrap64_eq17]; unfold wrap64; omega
      have wa1 : IntKind.i64.wrap (x1.toNat : Int) = (x1.toNat : Int) := by rw [wrap64_eq17]; unfold wrap64; omega
      have wa2 : IntKind.i64.wrap (x2.toNat : Int) = (x2.toNat : Int) := by rw [wrap64_eq17]; unfold wrap64; omega
      have wa3 : IntKind.i64.wrap (x3.toNat : Int) = (x3.toNat : Int) := by rw [wrap64_eq17]; unfold wrap64; omega
      have wb1 : IntKind.i64.wrap ((x1.toNat : Int) * 256) = (x1.toNat : Int) * 256 := by rw [wrap64_eq17]; unfold wrap64; omega
      have wb2 : IntKind.i64.wrap ((x2.toNat : Int) * 65536) = (x2.toNat : Int) * 65536 := by rw [wrap64_eq17]; unfold wrap64; omega
      have wb3 : IntKind.i64.wrap ((x3.toNat : Int) * 16777216) = (x3.toNat : Int) * 16777216 := by rw [wrap64_eq17]; unfold wrap64; omega
      go_upto_region 5 with fail
      go_region_held3 (fun wx => wx.cell? ⟨g, go + oo, none⟩ = some (.int .u8 (x0.toNat : Int)) ∧ wx.cell? ⟨g, go + oo + 1, none⟩ = some (.int .u8 (x1.toNat : Int)) ∧ wx.cell? ⟨g, go + oo + 2, none⟩ = some (.int .u8 (x2.toNat : Int)) ∧ wx.cell? ⟨g, go + oo + 3, none⟩ = some (.int .u8 (x3.toNat : Int))) (go_keep) (fail)
      obtain ⟨wz, hwz⟩ : ∃ wz, Hid (wz = (wq.setCell ⟨yb, yo, none⟩ (.int .i64 gv)).drew) := ⟨_, rfl⟩
      rw [← hwz.out]
      have hnp : (⟨yb, yo, none⟩ : Addr) ≠ ⟨p, 1, none⟩ := fun e => by
        simp only [Addr.mk.injEq] at e
        have := e5 e.1; omega
      have s1 : wz.cell? ⟨p, 1, none⟩ = some (.int .i64 oo) := by
        rw [hwz.out]
        have : (wq.setCell ⟨yb, yo, none⟩ (.int .i64 gv)).cell? ⟨p, 1, none⟩ = some (.int .i64 oo) := by rw [World.cell?_setCell_other _ _ _ _ hnp]; exact q1
        exact this
      have s4 : wz.frozen? ⟨p, 1, none⟩ = false := by
        rw [hwz.out]
        have : (wq.setCell ⟨yb, yo, none⟩ (.int .i64 gv)).frozen? ⟨p, 1, none⟩ = false := by rw [frozen_set]; exact q4
        exact this
      have HE : Hid (Eqh (setN l p o (X.take (k + 1)) w) (wz.setCell ⟨p, 1, none⟩ (.int .i64 ((oo : Int) + 4)))) := hidOf (by
        rw [HT2.out]
        unfold stepN
        refine Eqh.setCell ?_ _ _
        rw [hwz.out, hgv.out]
        exact (Hq.out.setCell _ _).trans (Eqh.drew _))
      clear q1 q2 q4 q5 q6 r0 r1 r2 r3 hor wa0 wa1 wa2 wa3 wb1 wb2 wb3 u0 u1 u2 u3 hnp Hq HT2
      go_wp2
      go_roundw
      case rel => exact ⟨k + 1, by omega, by simp, HE⟩
      case measure => simp [intOf]; omega
    · have hlt : ¬ (k : Int) < m := by omega
      have hkn : Hid (k = m) := hidOf (by omega)
      go_wp2
      go_end0
      exact ⟨⟨_, rfl⟩, by have := hw.out; rw [List.take_of_length_le (by rw [← hm.out, hkn.out]; exact Nat.le_refl _)] at this; exact this⟩
structure Mv (p : Nat) (o : Nat) (w w' : World) : Prop where
  chg : Chg (fun k => k = p) w w'
  blk : ∀ cs t, w.heap[p]? = some (.cells cs t (0, 0)) → w'.heap[p]? = some (.cells (cs.setIfInBounds 1 (.int .i64 (o : Nat))) t (0, 0))
structure Tk (w : World) (p g go n c o : Nat) (l : List UInt8) : Prop where
  l_ : l.length = n
  nc : n ≤ c
  bt : BtA w g go l
  blk : ∃ cs t, w.heap[p]? = some (.cells cs t (0, 0)) ∧ cs[0]? = some (.slice (some ⟨g, go, none⟩) n c) ∧ cs[1]? = some (.int .i64 o) ∧ cs[2]? = some (.bool true)
  pg : ¬ p = g
  gl : g < w.heap.size
theorem Tk.pl {w : World} {p g go n c o : Nat} {l : List UInt8} (h : Tk w p g go n c o l) : p < w.heap.size := by
  obtain ⟨cs, t, hb, _⟩ := h.blk; exact (Array.getElem?_eq_some_iff.1 hb).1
theorem BtA.chg {w w' : World} {g go : Nat} {l : List UInt8} {S : Nat → Prop} (h : BtA w g go l) (c : Chg S w w') (hs : ¬ S g) : BtA w' g go l := fun k x hx => c.cell (h k x hx) hs
theorem Tk.chg {w w' : World} {p g go n c o : Nat} {l : List UInt8} {S : Nat → Prop} (h : Tk w p g go n c o l) (k : Chg S w w') (hp : ¬ S p) (hg : ¬ S g) : Tk w' p g go n c o l := by
  obtain ⟨cs, t, hb, r⟩ := h.blk
  exact ⟨h.l_, h.nc, h.bt.chg k hg, ⟨cs, t, (k.block p h.pl hp).trans hb, r⟩, h.pg, Nat.lt_of_lt_of_le h.gl k.size⟩
theorem Tk.out {w w' : World} {p g go n c o : Nat} {l : List UInt8} (h : Tk w p g go n c o l) (k : Out w w') : Tk w' p g go n c o l := h.chg (S := fun _ => False) (Chg.of_out k) (fun h => h) (fun h => h)
theorem Tk.mv {w w' : World} {p g go n c o o' : Nat} {l : List UInt8} (h : Tk w p g go n c o l) (k : Mv p o' w w') : Tk w' p g go n c o' l := by
  obtain ⟨cs, t, hb, h0, h1, h2⟩ := h.blk
  refine ⟨h.l_, h.nc, h.bt.chg k.chg (fun e => h.pg e.symm), ⟨_, t, k.blk cs t hb, ?_, ?_, ?_⟩, h.pg, Nat.lt_of_lt_of_le h.gl k.chg.size⟩
  · rw [Array.getElem?_setIfInBounds_ne (by decide)]; exact h0
  · have hl := (Array.getElem?_eq_some_iff.1 h1).1
    rw [Array.getElem?_setIfInBounds_self_of_lt hl]
  · rw [Array.getElem?_setIfInBounds_ne (by decide)]; exact h2
theorem Mv.trans {p o o' : Nat} {a b c : World} (h : Mv p o a b) (k : Mv p o' b c) : Mv p o' a c :=
  ⟨h.chg.trans k.chg (fun x h _ => h), fun cs t hb => by rw [k.blk _ t (h.blk cs t hb), Array.setIfInBounds_setIfInBounds]⟩
theorem Mv.after {p o : Nat} {a b c : World} (h : Out a b) (hp : p < a.heap.size) (k : Mv p o b c) : Mv p o a c :=
  ⟨(Chg.of_out (S := fun k => k = p) h).trans k.chg (fun x h _ => h), fun cs t hb => k.blk cs t ((h.block p hp).trans hb)⟩
theorem Mv.then {p o : Nat} {a b c : World} (h : Mv p o a b) (hp : p < a.heap.size) (k : Out b c) : Mv p o a c :=
  ⟨h.chg.trans (T := fun _ => False) (Chg.of_out k) (fun _ h _ => h.elim), fun cs t hb => (k.block p (Nat.lt_of_lt_of_le hp h.chg.size)).trans (h.blk cs t hb)⟩
theorem Mv.setF {p o : Nat} {a b : World} (h : Mv p o a b) (hp : p < a.heap.size) {q : Nat} (hq : a.heap.size ≤ q) (k : Nat) (v : Value) : Mv p o a (b.setCell ⟨q, k, none⟩ v) :=
  ⟨h.chg.trans ((Chg.refl (fun k => k = q) b).setCell (p := ⟨q, k, none⟩) rfl v) (fun x hx hlt => by omega), fun cs t hb => by rw [Below.heap_setCell _ _ _ _ (show p ≠ q by omega)]; exact h.blk cs t hb⟩
theorem blk_set {w : World} {q : Nat} {cs : Array Value} {t : TypeId} (h : w.heap[q]? = some (.cells cs t (0, 0))) (k : Nat) (v : Value) : (w.setCell ⟨q, k, none⟩ v).heap[q]? = some (.cells (cs.setIfInBounds k v) t (0, 0)) := by
  exact set_atL h k v
theorem set5 (z a b c d e : Value) : (((((#[z, z, z, z, z] : Array Value).setIfInBounds 0 a).setIfInBounds 1 b).setIfInBounds 2 c).setIfInBounds 3 d).setIfInBounds 4 e = #[a, b, c, d, e] := rfl
theorem step_blk (l : List UInt8) (p o : Nat) (w : World) (y : Nat × Nat) (hy : ¬ y.1 = p) (cs : Array Value) (t : TypeId) (hb : w.heap[p]? = some (.cells cs t (0, 0))) : (stepN l p o w y).heap[p]? = some (.cells (cs.setIfInBounds 1 (.int .i64 ((o + 4 : Nat) : Int))) t (0, 0)) := by
  unfold stepN
  have h1 : (w.setCell ⟨y.1, y.2, none⟩ (.int .i64 (g4 l o : Nat))).heap[p]? = some (.cells cs t (0, 0)) := by rw [Below.heap_setCell _ _ _ _ (show p ≠ y.1 from fun e => hy e.symm)]; exact hb
  rw [set_atL h1]; simp
theorem setN_blk (l : List UInt8) (p : Nat) : ∀ (A : List (Nat × Nat)) (o : Nat) (w : World) (cs : Array Value) (t : TypeId), (∀ y ∈ A, ¬ y.1 = p) → A ≠ [] → w.heap[p]? = some (.cells cs t (0, 0)) → (setN l p o A w).heap[p]? = some (.cells (cs.setIfInBounds 1 (.int .i64 ((o + 4 * A.length : Nat) : Int))) t (0, 0))
  | [], _, _, _, _, _, h, _ => absurd rfl h
  | [y], o, w, cs, t, hA, _, hb => by simp only [setN]; exact step_blk l p o w y (hA y (by simp)) cs t hb
  | y :: z :: r, o, w, cs, t, hA, _, hb => by
    rw [setN, setN_blk l p (z :: r) (o + 4) _ _ t (fun x hx => hA x (by simp [hx])) (by simp) (step_blk l p o w y (hA y (by simp)) cs t hb), Array.setIfInBounds_setIfInBounds]
    simp only [List.length_cons]
    rw [show o + 4 + 4 * (r.length + 1) = o + 4 * (r.length + 1 + 1) by omega]
theorem setN_get (l : List UInt8) (p : Nat) : ∀ (A : List (Nat × Nat)) (o : Nat) (w : World) (i : Nat) (y : Nat × Nat), A.Nodup → (∀ z ∈ A, z ≠ (p, 1)) → (∀ z ∈ A, (w.cell? ⟨z.1, z.2, none⟩).isSome = true) → A[i]? = some y → (setN l p o A w).cell? ⟨y.1, y.2, none⟩ = some (.int .i64 (g4 l (o + 4 * i) : Nat))
  | [], _, _, _, _, _, _, _, h => by simp at h
  | x :: r, o, w, 0, y, hd, hp, hs, h => by
    simp at h; subst h
    rw [setN, setN_keep l p x (hp x (by simp)) r _ _ (fun z hz e => (List.nodup_cons.1 hd).1 (by rw [← e]; exact hz))]
    unfold stepN
    rw [cell_set_ne _ (p, 1) x _ (fun e => hp x (by simp) e.symm), World.cell?_setCell_same' _ _ _ (hs x (by simp))]
    simp
  | x :: r, o, w, i + 1, y, hd, hp, hs, h => by
    have := setN_get l p r (o + 4) (stepN l p o w x) i y (List.nodup_cons.1 hd).2 (fun z hz => hp z (by simp [hz])) (fun z hz => by unfold stepN; exact isSome_set _ _ _ _ (isSome_set _ _ _ _ (hs z (by simp [hz])))) (by simpa using h)
    rw [setN, this, show o + 4 + 4 * i = o + 4 * (i + 1) by omega]
theorem numR (wb w : World) (p g go n c o q : Nat) (l : List UInt8) (X : List (Nat × Nat)) (h : Tk w p g go n c o l) (ob : Out wb w) (hpb : p < wb.heap.size) (hgb : g < wb.heap.size) (hXn : ∀ y ∈ X, wb.heap.size ≤ y.1) (hd : X.Nodup) (hne : X ≠ []) (hq : ∀ i y, X[i]? = some y → w.cell? ⟨q, i, none⟩ = some (.pointer (some ⟨y.1, y.2, none⟩))) (hqb : wb.heap.size ≤ q)
    (hX : ∀ y ∈ X, (w.cell? ⟨y.1, y.2, none⟩).isSome = true ∧ w.frozen? ⟨y.1, y.2, none⟩ = false ∧ ¬ y.1 = q) (hr : o + 4 * X.length ≤ n) (hn : n ≤ 1000000000000) :
    Calls Tryz.prog 54 #[.pointer (some ⟨p, 0, none⟩), .slice (some ⟨q, 0, none⟩) X.length X.length] w fun e w' => (∃ v, e = .returned v) ∧ Mv p (o + 4 * X.length) wb w' ∧ (∀ i y, X[i]? = some y → w'.cell? ⟨y.1, y.2, none⟩ = some (.int .i64 (g4 l (o + 4 * i) : Nat))) ∧ Chg (fun k => k = p ∨ ∃ y ∈ X, y.1 = k) w w' := by
  obtain ⟨cs, t, hb, h0, h1, h2⟩ := h.blk
  refine (numbersR_any w p g go n c o q l X h.l_ h.bt h.nc (by rw [cell_atL hb]; exact h0) (by rw [cell_atL hb]; exact h1) (by rw [cell_atL hb]; exact h2) (frozen_atL hb 1) hq (fun y hy => ⟨(hX y hy).1, (hX y hy).2.1, fun e => by have := hXn y hy; omega, (hX y hy).2.2, fun e => by have := hXn y hy; omega⟩) h.pg (by omega) hr (by omega)).mono ?_
  rintro e w' ⟨hv, he⟩
  have hc := setN_chg l p X o w
  refine ⟨hv, ⟨?_, ?_⟩, ?_, he.chg hc⟩
  · refine he.chg ((Chg.of_out (S := fun k => k = p) ob).trans hc (fun x hx hlt => ?_))
    rcases hx with e | ⟨y, hy, e⟩
    · exact e
    · have := hXn y hy; omega
  · intro cs' t' hb'
    have hb2 := (ob.block p hpb).trans hb'
    have := setN_blk l p X o w cs' t' (fun y hy e => by have := hXn y hy; omega) hne hb2
    rw [he.heap]; exact this
  · intro i y hy
    rw [he.cell]
    exact setN_get l p X o w i y hd (fun z hz e => by have := hXn z hz; rw [e] at this; simp at this; omega) (fun z hz => (hX z hz).1) hy
theorem bits_and_i64 (a b : Nat) (ha : a < 18446744073709551616) (hb : b < 18446744073709551616) : bits BinOp.and IntKind.i64 (wrap64 (a : Int)) (wrap64 (b : Int)) = wrap64 ((a &&& b : Nat) : Int) := by
  have key : ∀ n : Nat, n < 18446744073709551616 → (BitVec.ofInt 64 (wrap64 (n : Int))).toNat = n := by
    intro n hn
    rw [BitVec.toNat_ofInt]
    have : wrap64 (n : Int) % (2 ^ 64 : Nat) = n := by
      unfold wrap64
      first | omega | (rw [IntKind.wrap_i64]; omega) | (simp; omega)
    rw [this]; rfl
  show IntKind.i64.wrap ((BitVec.ofInt 64 (wrap64 (a : Int)) &&& BitVec.ofInt 64 (wrap64 (b : Int))).toNat : Int) = _
  rw [BitVec.toNat_and, key a ha, key b hb]
  first | rfl | (unfold wrap64; rw [IntKind.wrap_i64])
theorem and_255 (v : Nat) (h : v < 4294967296) : bits BinOp.and IntKind.i64 (v : Int) 255 = (v : Int) % 256 := by
  have h1 := bits_and_i64 v 255 (by omega) (by omega)
  rw [show wrap64 (v : Int) = v by unfold wrap64; omega, show wrap64 ((255 : Nat) : Int) = 255 by unfold wrap64; omega, show v &&& 255 = v % 256 from Nat.and_two_pow_sub_one_eq_mod v 8] at h1
  rw [h1]; unfold wrap64; omega
theorem and_15 (v : Nat) (h : v < 4294967296) : bits BinOp.and IntKind.i64 (v : Int) 15 = (v : Int) % 16 := by
  have h1 := bits_and_i64 v 15 (by omega) (by omega)
  rw [show wrap64 (v : Int) = v by unfold wrap64; omega, show wrap64 ((15 : Nat) : Int) = 15 by unfold wrap64; omega, show v &&& 15 = v % 16 from Nat.and_two_pow_sub_one_eq_mod v 4] at h1
  rw [h1]; unfold wrap64; omega
theorem wrap_i16 (v : Int) (h0 : 0 ≤ v) (h1 : v < 65536) : IntKind.i16.wrap v = sxP 32768 v := by
  have : IntKind.i16.wrap v = (v + 32768) % 65536 - 32768 := by simp [IntKind.wrap, IntKind.bits, IntKind.signed]; split <;> omega
  rw [this]; unfold sxP; split <;> omega
theorem wrap_i32 (v : Int) (h0 : 0 ≤ v) (h1 : v < 4294967296) : IntKind.i32.wrap v = sxP 2147483648 v := by
  have : IntKind.i32.wrap v = (v + 2147483648) % 4294967296 - 2147483648 := by simp [IntKind.wrap, IntKind.bits, IntKind.signed]; split <;> omega
  rw [this]; unfold sxP; split <;> omega
theorem g4_lt17 (l : List UInt8) (p : Nat) : g4 l p < 4294967296 := by
  have h : ∀ p, g1 l p < 256 := fun p => by unfold g1; exact UInt8.toNat_lt _
  have := h p; have := h (p + 1); have := h (p + 2); have := h (p + 3); unfold g4; omega
def insAg (x : Ins) : Value := .agg #[.int .i64 x.o, .int .i64 x.d, .int .i64 x.s, .int .i64 x.f, .int .i64 x.i]
set_option maxRecDepth 8000 in
set_option maxHeartbeats 2000000 in
theorem takeSlot_any (w : World) (p g go n c o : Nat) (l : List UInt8) (h : Tk w p g go n c o l) (hr : o + 8 ≤ n) (hn : n ≤ 1000000000000) : Calls Tryz.prog 107 #[.pointer (some ⟨p, 0, none⟩)] w fun e w' => e = .returned (insAg (insR l o)) ∧ Mv p (o + 8) w w' := by
  have hpl := h.pl
  have hgl := h.gl
  obtain ⟨w3, hw3⟩ : ∃ w3, Hid (w3 = ((w.alloc (.cells #[.int .i64 0, .int .i64 0, .int .i64 0, .int .i64 0, .int .i64 0] 67)).alloc (.cells #[.int .i64 0] 3)).alloc (.cells #[.int .i64 0] 3)) := ⟨_, rfl⟩
  have O3 : Hid (Out w w3) := hidOf (by rw [hw3.out]; exact Out.alloc (Out.alloc (Out.alloc (Out.refl _) _) _) _)
  have hs3 : w3.heap.size = w.heap.size + 3 := by rw [hw3.out, size_alloc, size_alloc, size_alloc]
  have R3 : Hid (w3.heap[w.heap.size]? = some (.cells #[.int .i64 0, .int .i64 0, .int .i64 0, .int .i64 0, .int .i64 0] 67 (0, 0))) := hidOf (by
    rw [hw3.out, Below.heap_alloc _ _ _ (by rw [size_alloc, size_alloc]; omega), Below.heap_alloc _ _ _ (by rw [size_alloc]; omega)]; exact heap_alloc_new w _)
  have A3 : Hid (w3.heap[w.heap.size + 1]? = some (.cells #[.int .i64 0] 3 (0, 0))) := hidOf (by
    rw [hw3.out, Below.heap_alloc _ _ _ (by rw [size_alloc, size_alloc]; omega)]
    have := heap_alloc_new (w.alloc (.cells #[.int .i64 0, .int .i64 0, .int .i64 0, .int .i64 0, .int .i64 0] 67)) (.cells #[.int .i64 0] 3)
    rw [size_alloc] at this; exact this)
  have B3 : Hid (w3.heap[w.heap.size + 2]? = some (.cells #[.int .i64 0] 3 (0, 0))) := hidOf (by
    rw [hw3.out]
    have := heap_alloc_new ((w.alloc (.cells #[.int .i64 0, .int .i64 0, .int .i64 0, .int .i64 0, .int .i64 0] 67)).alloc (.cells #[.int .i64 0] 3)) (.cells #[.int .i64 0] 3)
    rw [size_alloc, size_alloc] at this; exact this)
  have NU : Hid (∀ t, Calls Tryz.prog 54 #[.pointer (some ⟨p, 0, none⟩), .slice (some ⟨w.heap.size + 3, 0, none⟩) 2 2] (w3.alloc (.cells #[.pointer (some ⟨w.heap.size + 1, 0, none⟩), .pointer (some ⟨w.heap.size + 2, 0, none⟩)] t)) fun e w' => (∃ v, e = .returned v) ∧ Mv p (o + 8) w w' ∧ w'.cell? ⟨w.heap.size + 1, 0, none⟩ = some (.int .i64 (g4 l o : Nat)) ∧ w'.cell? ⟨w.heap.size + 2, 0, none⟩ = some (.int .i64 (g4 l (o + 4) : Nat)) ∧ w'.heap[w.heap.size]? = some (.cells #[.int .i64 0, .int .i64 0, .int .i64 0, .int .i64 0, .int .i64 0] 67 (0, 0))) := hidOf (fun t => by
    have oW : Out w3 (w3.alloc (.cells #[.pointer (some ⟨w.heap.size + 1, 0, none⟩), .pointer (some ⟨w.heap.size + 2, 0, none⟩)] t)) := Out.alloc (Out.refl _) _
    have hA := (oW.block _ (by omega)).trans A3.out
    have hB := (oW.block _ (by omega)).trans B3.out
    have hR := (oW.block _ (by omega)).trans R3.out
    have := numR w _ p g go n c o (w.heap.size + 3) l [(w.heap.size + 1, 0), (w.heap.size + 2, 0)] (h.out (O3.out.trans oW)) (O3.out.trans oW) hpl hgl (fun y hy => by simp at hy; rcases hy with rfl | rfl <;> simp) (by simp) (by simp) (fun i y hy => by
      rcases i with _ | _ | i
      · simp at hy; subst hy; exact cell_fresh w3 _ _ 0 _ hs3.symm
      · simp at hy; subst hy; exact cell_fresh w3 _ _ 1 _ hs3.symm
      · simp at hy) (by omega) (fun y hy => by
      simp at hy
      rcases hy with rfl | rfl
      · exact ⟨by rw [cell_atL hA]; rfl, frozen_atL hA 0, by simp⟩
      · exact ⟨by rw [cell_atL hB]; rfl, frozen_atL hB 0, by simp⟩) (by simpa using hr) hn
    refine this.mono ?_
    rintro e w' ⟨hv, hm, hg, hc⟩
    refine ⟨hv, hm, ?_, ?_, ?_⟩
    · simpa using hg 0 (w.heap.size + 1, 0) rfl
    · simpa using hg 1 (w.heap.size + 2, 0) rfl
    · exact (hc.block _ (Array.getElem?_eq_some_iff.1 hR).1 (by simp; omega)).trans hR)
  obtain ⟨v, hv⟩ : ∃ v, Hid (v = g4 l o) := ⟨_, rfl⟩
  obtain ⟨u, hu⟩ : ∃ u, Hid (u = g4 l (o + 4)) := ⟨_, rfl⟩
  have hvl : v < 4294967296 := by rw [hv.out]; exact g4_lt17 l o
  have hul : u < 4294967296 := by rw [hu.out]; exact g4_lt17 l (o + 4)
  rw [← hv.out, ← hu.out] at NU
  have a1 := and_255 v hvl
  have a2 : bits BinOp.and IntKind.i64 ((v : Int) / 256) 15 = (v : Int) / 256 % 16 := by have := and_15 (v / 256) (by omega); rw [Int.natCast_ediv] at this; exact this
  have a3 : bits BinOp.and IntKind.i64 ((v : Int) / 4096) 15 = (v : Int) / 4096 % 16 := by have := and_15 (v / 4096) (by omega); rw [Int.natCast_ediv] at this; exact this
  have a4 : IntKind.i16.wrap ((v : Int) / 65536) = sxP 32768 ((v : Int) / 65536) := wrap_i16 _ (by omega) (by omega)
  have a5 : IntKind.i32.wrap (u : Int) = sxP 2147483648 (u : Int) := wrap_i32 _ (by omega) (by omega)
  go_enter Tryz.func107, Tryz.ntmps107
  go_upto_region 2 with fail
  rw [← hw3.out]
  rw [show w.heap.size + 1 + 1 = w.heap.size + 2 from rfl]
  go_upto_region 3 with (go_at_call 54; refine (NU.out _).mono ?_; rintro e w4 ⟨⟨rv, rfl⟩, hmv, c1, c2, hR⟩)
  have f0 : ∀ k, w4.frozen? ⟨w.heap.size, k, none⟩ = false := fun k => frozen_atL hR k
  have g0 : w4.cell? ⟨w.heap.size, 0, none⟩ = some (.int .i64 0) := by rw [cell_atL hR]; rfl
  have g1 : w4.cell? ⟨w.heap.size, 1, none⟩ = some (.int .i64 0) := by rw [cell_atL hR]; rfl
  have g2 : w4.cell? ⟨w.heap.size, 2, none⟩ = some (.int .i64 0) := by rw [cell_atL hR]; rfl
  have g3 : w4.cell? ⟨w.heap.size, 3, none⟩ = some (.int .i64 0) := by rw [cell_atL hR]; rfl
  have g4' : w4.cell? ⟨w.heap.size, 4, none⟩ = some (.int .i64 0) := by rw [cell_atL hR]; rfl
  have f1 := f0 0
  have f2 := f0 1
  have f3 := f0 2
  have f4 := f0 3
  have f5 := f0 4
  clear NU h O3 R3 A3 B3 hw3
  go_wp2
  have e4 : wrap64 (sxP 32768 ((v : Int) / 65536)) = sxP 32768 ((v : Int) / 65536) := by unfold wrap64 sxP; split <;> omega
  have e5 : wrap64 (sxP 2147483648 (u : Int)) = sxP 2147483648 (u : Int) := by unfold wrap64 sxP; split <;> omega
  rw [e4, e5]
  refine bodyPost_ret (results_cell_row rfl _ _ w.heap.size 67 _ (0, 0) _ rfl (blk_set (blk_set (blk_set (blk_set (blk_set hR _ _) _ _) _ _) _ _) _ _) Tryz.underlying67 rfl (by kernel_rfl)) rfl ?_
  refine ⟨?_, (((((hmv.setF hpl (Nat.le_refl _) _ _).setF hpl (Nat.le_refl _) _ _).setF hpl (Nat.le_refl _) _ _).setF hpl (Nat.le_refl _) _ _).setF hpl (Nat.le_refl _) _ _)⟩
  rw [set5, hv.out, hu.out]
  simp only [insAg, insR]
  try rfl
end Go.Proofs.YthififblejbleaaGreatDoor
