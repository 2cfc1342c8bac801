import Derived.Test.YthdgmhohofakgaaGreatDoorImq
namespace Go.Proofs.YthdgmhohofakgaaGreatDoor
open Go.RowKit
set_option linter.unusedVariables false
set_option linter.unusedSimpArgs false
/-- the same but for draws -/
structure Eqh (a b : World) : Prop where
  os : b.os = a.os
  tape : b.tape = a.tape
  output : b.output = a.output
  heap : b.heap = a.heap
theorem Eqh.refl (a : World) : Eqh a a := ⟨rfl, rfl, rfl, rfl⟩
theorem Eqh.trans {a b c : World} (h : Eqh a b) (k : Eqh b c) : Eqh a c := ⟨k.os.trans h.os, k.tape.trans h.tape, k.output.trans h.output, k.heap.trans h.heap⟩
theorem Eqh.drewN (a : World) (n : Nat) : Eqh a (a.drewN n) := ⟨rfl, rfl, rfl, rfl⟩
theorem Eqh.drew (a : World) : Eqh a a.drew := ⟨rfl, rfl, rfl, rfl⟩
theorem Eqh.setCell {a b : World} (h : Eqh a b) (x : Addr) (v : Value) : Eqh (a.setCell x v) (b.setCell x v) := ⟨h.os, h.tape, h.output, by simp [World.setCell, h.heap]⟩
theorem Eqh.cell {a b : World} (h : Eqh a b) (x : Addr) : b.cell? x = a.cell? x := by simp [World.cell?, h.heap]
theorem Eqh.frozen {a b : World} (h : Eqh a b) (x : Addr) : b.frozen? x = a.frozen? x := by simp [World.frozen?, h.heap]
theorem Eqh.out {a b : World} (h : Eqh a b) : Out a b := ⟨h.os, h.tape, h.output, by rw [h.heap]; exact Nat.le_refl _, fun k hk => by rw [h.heap]⟩
theorem Eqh.chg {S : Nat → Prop} {w a b : World} (h : Eqh a b) (c : Chg S w a) : Chg S w b := ⟨h.os.trans c.os, h.tape.trans c.tape, h.output.trans c.output, by rw [h.heap]; exact c.size, fun k hk hs => by rw [h.heap]; exact c.block k hk hs⟩
/-- a number is taken up into a place -/
def stepN (l : List UInt8) (p o : Nat) (w : World) (y : Nat × Nat) : World := (w.setCell ⟨y.1, y.2, none⟩ (.int .i64 (g4 l o : Nat))).setCell ⟨p, 1, none⟩ (.int .i64 ((o : Int) + 4))
def setN (l : List UInt8) (p : Nat) : Nat → List (Nat × Nat) → World → World
  | _, [], w => w
  | o, y :: r, w => setN l p (o + 4) r (stepN l p o w y)
theorem setN_snoc (l : List UInt8) (p : Nat) (y : Nat × Nat) : ∀ (A : List (Nat × Nat)) (o : Nat) (w : World), setN l p o (A ++ [y]) w = stepN l p (o + 4 * A.length) (setN l p o A w) y
  | [], o, w => by simp [setN]
  | x :: r, o, w => by
    simp only [List.cons_append, setN]
    rw [setN_snoc l p y r]
    simp only [List.length_cons]
    rw [show o + 4 + 4 * r.length = o + 4 * (r.length + 1) by omega]
theorem setN_chg (l : List UInt8) (p : Nat) : ∀ (A : List (Nat × Nat)) (o : Nat) (w : World), Chg (fun k => k = p ∨ ∃ y ∈ A, y.1 = k) w (setN l p o A w)
  | [], o, w => Chg.refl _ _
  | y :: r, o, w => by
    have h1 : Chg (fun k => k = p ∨ ∃ z ∈ y :: r, z.1 = k) w (stepN l p o w y) := (Chg.setCell (Chg.refl _ w) (p := ⟨y.1, y.2, none⟩) (.inr ⟨y, by simp, rfl⟩) _).setCell (p := ⟨p, 1, none⟩) (.inl rfl) _
    exact h1.trans (setN_chg l p r (o + 4) (stepN l p o w y)) (fun x hx _ => by
      rcases hx with h | ⟨z, hz, e⟩
      · exact .inl h
      · exact .inr ⟨z, by simp [hz], e⟩)
/-- a cell that no number goes to -/
theorem cell_set_ne (w : World) (a b : Nat × Nat) (v : Value) (h : a ≠ b) : (w.setCell ⟨a.1, a.2, none⟩ v).cell? ⟨b.1, b.2, none⟩ = w.cell? ⟨b.1, b.2, none⟩ := World.cell?_setCell_other w _ _ v (fun e => h (by cases a; cases b; simp at e; simp [e.1, e.2]))
theorem setN_keep (l : List UInt8) (p : Nat) (b : Nat × Nat) (hb : b ≠ (p, 1)) : ∀ (A : List (Nat × Nat)) (o : Nat) (w : World), (∀ y ∈ A, y ≠ b) → (setN l p o A w).cell? ⟨b.1, b.2, none⟩ = w.cell? ⟨b.1, b.2, none⟩
  | [], o, w, _ => rfl
  | y :: r, o, w, h => by
    rw [setN, setN_keep l p b hb r (o + 4) _ (fun z hz => h z (by simp [hz]))]
    unfold stepN
    rw [cell_set_ne _ (p, 1) b _ (fun e => hb e.symm), cell_set_ne _ y b _ (h y (by simp))]
theorem frozen_set (w : World) (a b : Addr) (v : Value) : (w.setCell a v).frozen? b = w.frozen? b := by
  simp only [World.frozen?, World.setCell, Array.getElem?_modify]
  by_cases e : a.block = b.block
  · rw [if_pos e]
    cases h : w.heap[b.block]? with
    | none => rfl
    | some o => cases o <;> rfl
  · rw [if_neg e]
theorem setN_frozen (l : List UInt8) (p : Nat) (b : Addr) : ∀ (A : List (Nat × Nat)) (o : Nat) (w : World), (setN l p o A w).frozen? b = w.frozen? b
  | [], o, w => rfl
  | y :: r, o, w => by rw [setN, setN_frozen l p b r, stepN, frozen_set, frozen_set]
theorem isSome_set (w : World) (a b : Addr) (v : Value) (h : (w.cell? b).isSome = true) : ((w.setCell a v).cell? b).isSome = true := by
  by_cases e : a = b
  · subst e
    obtain ⟨u, hu⟩ := Option.isSome_iff_exists.1 h
    rw [World.cell?_setCell_same' w a v (by rw [hu]; rfl)]; rfl
  · rw [World.cell?_setCell_other w a b v (fun h => e h)]; exact h
theorem setN_some (l : List UInt8) (p : Nat) (b : Addr) : ∀ (A : List (Nat × Nat)) (o : Nat) (w : World), (w.cell? b).isSome = true → ((setN l p o A w).cell? b).isSome = true
  | [], o, w, h => h
  | y :: r, o, w, h => by rw [setN]; exact setN_some l p b r _ _ (isSome_set _ _ _ _ (isSome_set _ _ _ _ h))
theorem g1_get {l : List UInt8} {k : Nat} (h : k < l.length) : ∃ x, l[k]? = some x ∧ g1 l k = x.toNat := ⟨l[k], List.getElem?_eq_getElem h, by simp [g1, List.getD, List.getElem?_eq_getElem h]⟩
theorem wrap64_eq17 (n : Int) : IntKind.i64.wrap n = wrap64 n := by
  first | rfl | (unfold wrap64; rw [IntKind.wrap_i64])
/-- bytes that are read, in old memory -/
def BtA (w : World) (g go : Nat) (l : List UInt8) : Prop := ∀ k x, l[k]? = some x → w.cell? ⟨g, go + k, none⟩ = some (.int .u8 (x.toNat : Int))
theorem or4 {a b c d : Int} (a0 : 0 ≤ a) (a1 : a < 256) (b0 : 0 ≤ b) (b1 : b < 256) (c0 : 0 ≤ c) (c1 : c < 256) (d0 : 0 ≤ d) (d1 : d < 256) : bits BinOp.or IntKind.i64 (bits BinOp.or IntKind.i64 (bits BinOp.or IntKind.i64 a (b * 256)) (c * 65536)) (d * 16777216) = a + 256 * b + 65536 * c + 16777216 * d := by
  rw [or_8 _ _ (by omega) (by omega) (by omega) (by omega), or_16 _ _ (by omega) (by omega) (by omega) (by omega), or_24 _ _ (by omega) (by omega) (by omega) (by omega)]
  omega
set_option maxRecDepth 8000 in
set_option maxHeartbeats 4000000 in
theorem numbersR_any (w : World) (p g go n c o q : Nat) (l : List UInt8) (X : List (Nat × Nat)) (hl : l.length = n) (hB : BtA w g go l) (hnc : n ≤ c)
    (c0 : w.cell? ⟨p, 0, none⟩ = some (.slice (some ⟨g, go, none⟩) n c)) (c1 : w.cell? ⟨p, 1, none⟩ = some (.int .i64 o)) (c2 : w.cell? ⟨p, 2, none⟩ = some (.bool true)) (f1 : w.frozen? ⟨p, 1, none⟩ = false)
    (hq : ∀ i y, X[i]? = some y → w.cell? ⟨q, i, none⟩ = some (.pointer (some ⟨y.1, y.2, none⟩)))
    (hX : ∀ y ∈ X, (w.cell? ⟨y.1, y.2, none⟩).isSome = true ∧ w.frozen? ⟨y.1, y.2, none⟩ = false ∧ ¬ y.1 = g ∧ ¬ y.1 = q ∧ (y.1 = p → 3 ≤ y.2)) (hpg : ¬ p = g) (hpq : ¬ p = q) (hr : o + 4 * X.length ≤ n) (hn : n ≤ 281474976710656) :
    Calls Tryz.prog 48 #[.pointer (some ⟨p, 0, none⟩), .slice (some ⟨q, 0, none⟩) X.length X.length] w fun e w' => (∃ v, e = .returned v) ∧ Eqh (setN l p o X w) w' := by
  obtain ⟨m, hm⟩ : ∃ m, Hid (m = X.length) := ⟨_, rfl⟩
  rw [← hm.out] at hr ⊢
  have HX := hidOf hX
  have HQ := hidOf hq
  have HB := hidOf hB
  have H0 := hidOf c0
  have H1 := hidOf c1
  have H2 := hidOf c2
  have F1 := hidOf f1
  have Hl := hidOf hl
  clear hX hq hB c0 c1 c2 f1 hl
  go_enter Tryz.func48, Tryz.ntmps48
  go_wp2
  go_loopw [9] (fun i wr => ∃ k : Nat, k ≤ m ∧ i = .int .i64 k ∧ Hid (Eqh (setN l p o (X.take k) w) wr)) (fun i _ => m - (intOf i).toNat)
  case atStart => exact ⟨0, by omega, rfl, hidOf (by simpa [setN] using Eqh.refl w)⟩
  case round =>
    obtain ⟨k, hk, rfl, hw⟩ := hrel
    by_cases hkl : k < m
    · have hlt : (k : Int) < m := by omega
      obtain ⟨y, hy⟩ : ∃ y, X[k]? = some y := ⟨_, List.getElem?_eq_getElem (by rw [← hm.out]; exact hkl)⟩
      have hlk : (X.take k).length = k := by rw [List.length_take, ← hm.out]; omega
      have hsub : ∀ z ∈ X.take k, z ∈ X := fun z hz => List.mem_of_mem_take hz
      obtain ⟨e1, e2, e3, e4, e5⟩ := HX.out y (List.mem_of_getElem? hy)
      have keep : ∀ b : Nat × Nat, b ≠ (p, 1) → (∀ z ∈ X, z ≠ b) → wr.cell? ⟨b.1, b.2, none⟩ = w.cell? ⟨b.1, b.2, none⟩ := fun b hb hz => by rw [hw.out.cell, setN_keep l p b hb _ _ _ (fun z hz' => hz z (hsub z hz'))]
      have z0 : wr.cell? ⟨q, k, none⟩ = some (.pointer (some ⟨y.1, y.2, none⟩)) := by
        have := keep (q, k) (fun e => hpq (by cases e; rfl)) (fun z hz e => (HX.out z hz).2.2.2.1 (by rw [e]))
        rw [this]; exact HQ.out k y hy
      have z1 : wr.cell? ⟨p, 0, none⟩ = some (.slice (some ⟨g, go, none⟩) n c) := by
        have := keep (p, 0) (by simp) (fun z hz e => by have := (HX.out z hz).2.2.2.2 (by rw [e]); rw [e] at this; simp at this)
        rw [this]; exact H0.out
      have z2 : wr.cell? ⟨p, 2, none⟩ = some (.bool true) := by
        have := keep (p, 2) (by simp) (fun z hz e => by have := (HX.out z hz).2.2.2.2 (by rw [e]); rw [e] at this; simp at this)
        rw [this]; exact H2.out
      have zb : ∀ j, wr.cell? ⟨g, j, none⟩ = w.cell? ⟨g, j, none⟩ := fun j => keep (g, j) (fun e => hpg (by cases e; rfl)) (fun z hz e => (HX.out z hz).2.2.1 (by rw [e]))
      obtain ⟨oo, hoo⟩ : ∃ oo, Hid (oo = o + 4 * k) := ⟨_, rfl⟩
      have z3 : wr.cell? ⟨p, 1, none⟩ = some (.int .i64 oo) := by
        rw [hw.out.cell, hoo.out]
        rcases k with _ | k
        · simpa [setN] using H1.out
        · have hk' : k < X.length := by rw [← hm.out]; omega
          have ht : X.take (k + 1) = X.take k ++ [X[k]] := take_snoc (List.getElem?_eq_getElem hk')
          have hlk2 : (X.take k).length = k := by rw [List.length_take]; omega
          rw [ht, setN_snoc, stepN, World.cell?_setCell_same' _ _ _ (isSome_set _ _ _ _ (setN_some _ _ _ _ _ _ (by rw [H1.out]; rfl))), hlk2]
          simp; omega
      have z4 : wr.frozen? ⟨p, 1, none⟩ = false := by rw [hw.out.frozen, setN_frozen]; exact F1.out
      have z5 : wr.frozen? ⟨y.1, y.2, none⟩ = false := by rw [hw.out.frozen, setN_frozen]; exact e2
      obtain ⟨v6, z6⟩ : ∃ v, wr.cell? ⟨y.1, y.2, none⟩ = some v := Option.isSome_iff_exists.1 (by rw [hw.out.cell]; exact setN_some _ _ _ _ _ _ e1)
      have hro : oo + 4 ≤ n := by rw [hoo.out]; omega
      obtain ⟨x0, b0, v0⟩ := g1_get (l := l) (k := oo) (by rw [Hl.out]; omega)
      obtain ⟨x1, b1, v1⟩ := g1_get (l := l) (k := oo + 1) (by rw [Hl.out]; omega)
      obtain ⟨x2, b2, v2⟩ := g1_get (l := l) (k := oo + 2) (by rw [Hl.out]; omega)
      obtain ⟨x3, b3, v3⟩ := g1_get (l := l) (k := oo + 3) (by rw [Hl.out]; omega)
      have y0 : wr.cell? ⟨g, go + oo, none⟩ = some (.int .u8 (x0.toNat : Int)) := by rw [zb]; exact HB.out _ _ b0
      have y1 : wr.cell? ⟨g, go + oo + 1, none⟩ = some (.int .u8 (x1.toNat : Int)) := by rw [zb]; exact HB.out _ _ b1
      have y2 : wr.cell? ⟨g, go + oo + 2, none⟩ = some (.int .u8 (x2.toNat : Int)) := by rw [zb]; exact HB.out _ _ b2
      have y3 : wr.cell? ⟨g, go + oo + 3, none⟩ = some (.int .u8 (x3.toNat : Int)) := by rw [zb]; exact HB.out _ _ b3
      have hor : bits BinOp.or IntKind.i64 (bits BinOp.or IntKind.i64 (bits BinOp.or IntKind.i64 (x0.toNat : Int) ((x1.toNat : Int) * 256)) ((x2.toNat : Int) * 65536)) ((x3.toNat : Int) * 16777216) = (g4 l oo : Nat) := by
        have t0 := x0.toNat_lt; have t1 := x1.toNat_lt; have t2 := x2.toNat_lt; have t3 := x3.toNat_lt
        rw [or4 (by omega) (by omega) (by omega) (by omega) (by omega) (by omega) (by omega) (by omega)]
        unfold g4; rw [v0, v1, v2, v3]; omega
      have u1 := x1.toNat_lt
      have u2 := x2.toNat_lt
      have u3 := x3.toNat_lt
      have HT2 : Hid (setN l p o (X.take (k + 1)) w = stepN l p oo (setN l p o (X.take k) w) y) := hidOf (by rw [take_snoc hy, setN_snoc, hlk, hoo.out])
      obtain ⟨yb, yo⟩ := y
      simp only at e1 e2 e3 e4 e5 z0 z5 z6
      clear hy keep zb b0 b1 b2 b3 v0 v1 v2 v3 hsub hlk
      go_upto_region 3 with fail
      go_quiet (fail)
      rw [show oo + 4 - oo = 4 by omega]
      have Hq : Hid (Eqh (setN l p o (X.take k) w) (wr.drewN nq)) := hidOf (hw.out.trans (Eqh.drewN _ _))
      have q1 : (wr.drewN nq).cell? ⟨p, 1, none⟩ = some (.int .i64 oo) := z3
      have q2 : (wr.drewN nq).cell? ⟨p, 2, none⟩ = some (.bool true) := z2
      have q4 : (wr.drewN nq).frozen? ⟨p, 1, none⟩ = false := z4
      have q5 : (wr.drewN nq).frozen? ⟨yb, yo, none⟩ = false := z5
      have q6 : (wr.drewN nq).cell? ⟨yb, yo, none⟩ = some v6 := z6
      have r0 : (wr.drewN nq).cell? ⟨g, go + oo, none⟩ = some (.int .u8 (x0.toNat : Int)) := y0
      have r1 : (wr.drewN nq).cell? ⟨g, go + oo + 1, none⟩ = some (.int .u8 (x1.toNat : Int)) := y1
      have r2 : (wr.drewN nq).cell? ⟨g, go + oo + 2, none⟩ = some (.int .u8 (x2.toNat : Int)) := y2
      have r3 : (wr.drewN nq).cell? ⟨g, go + oo + 3, none⟩ = some (.int .u8 (x3.toNat : Int)) := y3
      clear z0 z1 z2 z3 z4 z5 z6 y0 y1 y2 y3 hw
      generalize wr.drewN nq = wq at *
      obtain ⟨gv, hgv⟩ : ∃ gv : Int, Hid (gv = (g4 l oo : Nat)) := ⟨_, rfl⟩
      rw [← hgv.out] at hor
      have hcc : oo + 4 ≤ c := by omega
      have u0 := x0.toNat_lt
      have wa0 : IntKind.i64.wrap (x0.toNat : Int) = (x0.toNat : Int) := by rw [wrap64_eq17]; unfold wrap64; omega
      have wa1 : IntKind.i64.wrap (x1.toNat : Int) = (x1.toNat : Int) := by rw [wrap64_eq17]; unfold wrap64; omega
      have wa2 : IntKind.i64.wrap (x2.toNat : Int) = (x2.toNat : Int) := by rw [wrap64_eq17]; unfold wrap64; omega
      have wa3 : IntKind.i64.wrap (x3.toNat : Int) = (x3.toNat : Int) := by rw [wrap64_eq17]; unfold wrap64; omega
      have wb1 : IntKind.i64.wrap ((x1.toNat : Int) * 256) = (x1.toNat : Int) * 256 := by rw [wrap64_eq17]; unfold wrap64; omega
      have wb2 : IntKind.i64.wrap ((x2.toNat : Int) * 65536) = (x2.toNat : Int) * 65536 := by rw [wrap64_eq17]; unfold wrap64; omega
      have wb3 : IntKind.i64.wrap ((x3.toNat : Int) * 16777216) = (x3.toNat : Int) * 16777216 := by rw [wrap64_eq17]; unfold wrap64; omega
      go_upto_region 5 with fail
      go_region_held3 (fun wx => wx.cell? ⟨g, go + oo, none⟩ = some (.int .u8 (x0.toNat : Int)) ∧ wx.cell? ⟨g, go + oo + 1, none⟩ = some (.int .u8 (x1.toNat : Int)) ∧ wx.cell? ⟨g, go + oo + 2, none⟩ = some (.int .u8 (x2.toNat : Int)) ∧ wx.cell? ⟨g, go + oo + 3, none⟩ = some (.int .u8 (x3.toNat : Int))) (go_keep) (fail)
      obtain ⟨wz, hwz⟩ : ∃ wz, Hid (wz = (wq.setCell ⟨yb, yo, none⟩ (.int .i64 gv)).drew) := ⟨_, rfl⟩
      rw [← hwz.out]
      have hnp : (⟨yb, yo, none⟩ : Addr) ≠ ⟨p, 1, none⟩ := fun e => by
        simp only [Addr.mk.injEq] at e
        have := e5 e.1; omega
      have s1 : wz.cell? ⟨p, 1, none⟩ = some (.int .i64 oo) := by
        rw [hwz.out]
        have : (wq.setCell ⟨yb, yo, none⟩ (.int .i64 gv)).cell? ⟨p, 1, none⟩ = some (.int .i64 oo) := by rw [World.cell?_setCell_other _ _ _ _ hnp]; exact q1
        exact this
      have s4 : wz.frozen? ⟨p, 1, none⟩ = false := by
        rw [hwz.out]
        have : (wq.setCell ⟨yb, yo, none⟩ (.int .i64 gv)).frozen? ⟨p, 1, none⟩ = false := by rw [frozen_set]; exact q4
        exact this
      have HE : Hid (Eqh (setN l p o (X.take (k + 1)) w) (wz.setCell ⟨p, 1, none⟩ (.int .i64 ((oo : Int) + 4)))) := hidOf (by
        rw [HT2.out]
        unfold stepN
        refine Eqh.setCell ?_ _ _
        rw [hwz.out, hgv.out]
        exact (Hq.out.setCell _ _).trans (Eqh.drew _))
      clear q1 q2 q4 q5 q6 r0 r1 r2 r3 hor wa0 wa1 wa2 wa3 wb1 wb2 wb3 u0 u1 u2 u3 hnp Hq HT2
      go_wp2
      go_roundw
      case rel => exact ⟨k + 1, by omega, by simp, HE⟩
      case measure => simp [intOf]; omega
    · have hlt : ¬ (k : Int) < m := by omega
      have hkn : Hid (k = m) := hidOf (by omega)
      go_wp2
      go_end0
      exact ⟨⟨_, rfl⟩, by have := hw.out; rw [List.take_of_length_le (by rw [← hm.out, hkn.out]; exact Nat.le_refl _)] at this; exact this⟩
end Go.Proofs.YthdgmhohofakgaaGreatDoor
