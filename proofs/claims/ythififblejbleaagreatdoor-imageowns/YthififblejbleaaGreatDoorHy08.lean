import Derived.Test.YthififblejbleaaGreatDoorHy07
namespace Go.Proofs.YthififblejbleaaGreatDoor
open Go.RowKit
set_option linter.unusedVariables false
set_option linter.unusedSimpArgs false
theorem cell_atL {w : World} {p : Nat} {cs : Array Value} {t : TypeId} (h : w.heap[p]? = some (.cells cs t (0, 0))) (j : Nat) : w.cell? ⟨p, j, none⟩ = cs[j]? := by simp [World.cell?, h]
theorem frozen_atL {w : World} {p : Nat} {cs : Array Value} {t : TypeId} (h : w.heap[p]? = some (.cells cs t (0, 0))) (j : Nat) : w.frozen? ⟨p, j, none⟩ = false := by simp [World.frozen?, h]
theorem set_atL {w : World} {p : Nat} {cs : Array Value} {t : TypeId} (h : w.heap[p]? = some (.cells cs t (0, 0))) (j : Nat) (u : Value) : (w.setCell ⟨p, j, none⟩ u).heap[p]? = some (.cells (cs.setIfInBounds j u) t (0, 0)) := by
  simp [World.setCell, Array.getElem?_modify, h]
theorem b1_nat17 (x : Int) : (b1 x).toNat = (x % 256).toNat := by
  unfold b1
  rw [UInt8.toNat_ofNat_of_lt']
  have := Int.emod_lt_of_pos x (show (0 : Int) < 256 by decide)
  have := Int.emod_nonneg x (show (256 : Int) ≠ 0 by decide)
  show _ < 256; omega
def putB (B : List UInt8) (o : Nat) (L : List UInt8) : List UInt8 := B.take o ++ (L ++ B.drop (o + L.length))
theorem putB_len {B L : List UInt8} {o : Nat} (h : o + L.length ≤ B.length) : (putB B o L).length = B.length := by simp [putB]; omega
theorem putB_nil (B : List UInt8) (o : Nat) : putB B o [] = B := by simp [putB]
theorem putB_put {B L M : List UInt8} {o : Nat} (h : o + L.length + M.length ≤ B.length) : putB (putB B o L) (o + L.length) M = putB B o (L ++ M) := by
  have e1 : (B.take o ++ L).length = o + L.length := by simp; omega
  unfold putB
  rw [← List.append_assoc, ← List.append_assoc, List.take_left' e1, List.drop_append, List.drop_of_length_le (by omega), e1, List.nil_append, List.drop_drop]
  simp only [List.append_assoc, List.length_append]
  congr 4; omega
theorem put4 {B : List UInt8} {o : Nat} {a b c d : UInt8} (h : o + 4 ≤ B.length) : (((B.set o a).set (o + 1) b).set (o + 2) c).set (o + 3) d = putB B o [a, b, c, d] := by
  apply List.ext_getElem
  · simp [putB]; omega
  · intro i h1 h2
    simp only [putB, List.getElem_set, List.getElem_append, List.length_take, List.length_cons, List.length_nil, List.getElem_take, List.getElem_drop]
    have hm : min o B.length = o := by omega
    simp only [hm]
    by_cases e0 : i < o
    · simp [e0, show ¬ o = i by omega, show ¬ o + 1 = i by omega, show ¬ o + 2 = i by omega, show ¬ o + 3 = i by omega]
    · by_cases e1 : i < o + 4
      · obtain rfl | rfl | rfl | rfl : i = o ∨ i = o + 1 ∨ i = o + 2 ∨ i = o + 3 := by omega
        all_goals first | (simp; done) | (simp; intro h; omega)
      · have : ¬ i - o < 4 := by omega
        simp [e0, show ¬ o = i by omega, show ¬ o + 1 = i by omega, show ¬ o + 2 = i by omega, show ¬ o + 3 = i by omega, this]
        congr 1; omega
structure Tp (w : World) (p g o : Nat) (B : List UInt8) : Prop where
  t : w.heap[p]? = some (.cells #[.slice (some ⟨g, 0, none⟩) B.length B.length, .int .i64 o, .bool false] 92 (0, 0))
  b : w.heap[g]? = some (.cells (Lib.byteCells B).toArray 5 (0, 0))
theorem Tp.ne {w : World} {p g o : Nat} {B : List UInt8} (h : Tp w p g o B) : ¬ p = g := fun e => by have := h.t; rw [e, h.b] at this; simp at this
theorem Tp.chg {w w' : World} {p g o : Nat} {B : List UInt8} {S : Nat → Prop} (h : Tp w p g o B) (c : Chg S w w') (h1 : ¬ S p) (h2 : ¬ S g) : Tp w' p g o B :=
  ⟨(c.block p (Array.getElem?_eq_some_iff.1 h.t).1 h1).trans h.t, (c.block g (Array.getElem?_eq_some_iff.1 h.b).1 h2).trans h.b⟩
theorem Tp.out {w w' : World} {p g o : Nat} {B : List UInt8} (h : Tp w p g o B) (k : Out w w') : Tp w' p g o B := h.chg (S := fun _ => False) (Chg.of_out k) (fun h => h) (fun h => h)
theorem bc_set (B : List UInt8) (j : Nat) (y : UInt8) : (Lib.byteCells B).toArray.setIfInBounds j (.int .u8 (y.toNat : Int)) = (Lib.byteCells (B.set j y)).toArray := by
  simp [Lib.byteCells, List.map_set]
theorem bc_get {B : List UInt8} {j : Nat} (h : j < B.length) : ∃ v, (Lib.byteCells B).toArray[j]? = some v := ⟨_, Array.getElem?_eq_getElem (by simpa [Lib.byteCells] using h)⟩
theorem Tp.put {w : World} {p g o : Nat} {B : List UInt8} (h : Tp w p g o B) (j : Nat) (hr : j + 4 ≤ B.length) (a b c d : UInt8) : Tp ((((w.setCell ⟨g, j, none⟩ (.int .u8 (a.toNat : Int))).setCell ⟨g, j + 1, none⟩ (.int .u8 (b.toNat : Int))).setCell ⟨g, j + 2, none⟩ (.int .u8 (c.toNat : Int))).setCell ⟨g, j + 3, none⟩ (.int .u8 (d.toNat : Int))) p g o (putB B j [a, b, c, d]) := by
  have hne := h.ne
  have b0 := set_atL h.b j (.int .u8 (a.toNat : Int))
  rw [bc_set] at b0
  have b1 := set_atL b0 (j + 1) (.int .u8 (b.toNat : Int))
  rw [bc_set] at b1
  have b2 := set_atL b1 (j + 2) (.int .u8 (c.toNat : Int))
  rw [bc_set] at b2
  have b3 := set_atL b2 (j + 3) (.int .u8 (d.toNat : Int))
  rw [bc_set, put4 hr] at b3
  have k : ∀ (w : World) (j : Nat) (u : Value), (w.setCell ⟨g, j, none⟩ u).heap[p]? = w.heap[p]? := fun w j u => Below.heap_setCell _ _ _ _ (show p ≠ g from hne)
  refine ⟨?_, b3⟩
  rw [k, k, k, k, putB_len (by simpa using hr)]; exact h.t
theorem Tp.step {w : World} {p g o : Nat} {B : List UInt8} (h : Tp w p g o B) (o' : Nat) : Tp (w.setCell ⟨p, 1, none⟩ (.int .i64 (o' : Int))) p g o' B := by
  refine ⟨?_, ?_⟩
  · rw [set_atL h.t]; rfl
  · rw [Below.heap_setCell _ _ _ _ (show g ≠ p from fun e => h.ne e.symm)]; exact h.b
theorem wrap_b1 (v : Int) : IntKind.u8.wrap v = ((b1 v).toNat : Int) := by
  rw [b1_nat17, IntKind.wrap_u8']
  have := Int.emod_nonneg v (show (256 : Int) ≠ 0 by decide)
  omega
theorem Chg.put4 {S : Nat → Prop} {w wq : World} {g : Nat} (h : Chg S w wq) (hg : S g) (a b c d : Nat) (u v x y : Value) : Chg S w ((((wq.setCell ⟨g, a, none⟩ u).setCell ⟨g, b, none⟩ v).setCell ⟨g, c, none⟩ x).setCell ⟨g, d, none⟩ y) :=
  (((h.setCell (p := ⟨g, a, none⟩) hg u).setCell (p := ⟨g, b, none⟩) hg v).setCell (p := ⟨g, c, none⟩) hg x).setCell (p := ⟨g, d, none⟩) hg y
def NsAt (w : World) (q : Nat) (X : List (Nat × Nat × Int)) : Prop := ∀ i b o x, X[i]? = some (b, o, x) → w.cell? ⟨q, i, none⟩ = some (.pointer (some ⟨b, o, none⟩)) ∧ w.cell? ⟨b, o, none⟩ = some (.int .i64 x)
def b4s (X : List (Nat × Nat × Int)) : List UInt8 := X.flatMap (fun y => b4 y.2.2)
theorem b4s_len (X : List (Nat × Nat × Int)) : (b4s X).length = 4 * X.length := by
  induction X with
  | nil => rfl
  | cons x r ih => show (b4 x.2.2 ++ b4s r).length = _; rw [List.length_append, ih, b4_len]; simp; omega
theorem b4s_take {X : List (Nat × Nat × Int)} {k : Nat} {y : Nat × Nat × Int} (h : X[k]? = some y) : b4s (X.take (k + 1)) = b4s (X.take k) ++ b4 y.2.2 := by
  rw [take_snoc h]; simp [b4s]
set_option maxHeartbeats 2000000 in
theorem numbersW_any (w : World) (p g o q : Nat) (B : List UInt8) (X : List (Nat × Nat × Int)) (h : Tp w p g o B) (hX : NsAt w q X) (hne : ∀ y ∈ X, ¬ y.1 = p ∧ ¬ y.1 = g) (hqp : ¬ q = p) (hqg : ¬ q = g) (hr : o + 4 * X.length ≤ B.length) (hB : B.length ≤ 1000000000000) :
    Calls Tryz.prog 54 #[.pointer (some ⟨p, 0, none⟩), .slice (some ⟨q, 0, none⟩) X.length X.length] w fun e w' => (∃ v, e = .returned v) ∧ Tp w' p g (o + 4 * X.length) (putB B o (b4s X)) ∧ Chg (fun k => k = p ∨ k = g) w w' := by
  obtain ⟨n, hn⟩ : ∃ n, Hid (n = X.length) := ⟨_, rfl⟩
  rw [← hn.out] at hr ⊢
  have hl := Array.getElem?_eq_some_iff.1 h.t
  go_enter Tryz.func54, Tryz.ntmps54
  go_wp2
  go_loopw [9] (fun i wr => ∃ k : Nat, k ≤ n ∧ i = .int .i64 k ∧ Hid (Tp wr p g (o + 4 * k) (putB B o (b4s (X.take k)))) ∧ Hid (Chg (fun k => k = p ∨ k = g) w wr)) (fun i _ => n - (intOf i).toNat)
  case atStart => exact ⟨0, by omega, rfl, hidOf (by simpa [b4s, putB_nil] using h), hidOf (Chg.refl _ _)⟩
  case round =>
    obtain ⟨k, hk, rfl, ht, hc⟩ := hrel
    by_cases hkl : k < n
    · have hlt : (k : Int) < n := by omega
      obtain ⟨y, hy⟩ : ∃ y, X[k]? = some y := ⟨_, List.getElem?_eq_getElem (by rw [← hn.out]; exact hkl)⟩
      have hyn := hne y (List.mem_of_getElem? hy)
      obtain ⟨ab, ao, x⟩ := y
      obtain ⟨y0, y1⟩ := hX k _ _ _ hy
      simp only at hyn
      obtain ⟨hyp, hyg⟩ := hyn
      have hga : ¬ g = ab := fun e => hyg e.symm
      have hpa : ¬ p = ab := fun e => hyp e.symm
      have z0 : wr.cell? ⟨q, k, none⟩ = some (.pointer (some ⟨ab, ao, none⟩)) := hc.out.cell y0 (by simp; omega)
      have z1 : wr.cell? ⟨ab, ao, none⟩ = some (.int .i64 x) := hc.out.cell y1 (by simp; omega)
      have HL : Hid ((putB B o (b4s (X.take k))).length = B.length) := hidOf (putB_len (by rw [b4s_len, List.length_take]; omega))
      obtain ⟨M, hM⟩ : ∃ M, Hid (M = putB B o (b4s (X.take k))) := ⟨_, rfl⟩
      rw [← hM.out] at ht HL
      obtain ⟨L, hL⟩ : ∃ L, Hid (L = M.length) := ⟨_, rfl⟩
      have c0 : wr.cell? ⟨p, 0, none⟩ = some (.slice (some ⟨g, 0, none⟩) L L) := by rw [cell_atL ht.out.t, hL.out]; rfl
      obtain ⟨oo, hoo⟩ : ∃ oo : Nat, Hid (oo = o + 4 * k) := ⟨_, rfl⟩
      rw [← hoo.out] at ht
      have c1 : wr.cell? ⟨p, 1, none⟩ = some (.int .i64 oo) := by rw [cell_atL ht.out.t]; rfl
      have hLb : L ≤ 1000000000000 := by rw [hL.out, HL.out]; exact hB
      have hro : oo + 4 ≤ L := by rw [hL.out, HL.out, hoo.out]; omega
      clear y0 y1
      go_upto_region 3 with fail
      go_quiet (fail)
      have tq : Hid (Tp (wr.drewN nq) p g oo M) := hidOf (ht.out.out (Out.drewN (Out.refl _) _))
      have cq : Hid (Chg (fun k => k = p ∨ k = g) w (wr.drewN nq)) := hidOf (hc.out.of_drewN nq)
      have z1q : (wr.drewN nq).cell? ⟨ab, ao, none⟩ = some (.int .i64 x) := z1
      have hsl : oo + 4 - oo = 4 := by omega
      rw [hsl]
      clear ht hc z0 z1 c0 c1
      generalize wr.drewN nq = wq at *
      have c1 : wq.cell? ⟨p, 1, none⟩ = some (.int .i64 oo) := by rw [cell_atL tq.out.t]; rfl
      have c2 : wq.cell? ⟨p, 2, none⟩ = some (.bool false) := by rw [cell_atL tq.out.t]; rfl
      have f1 : wq.frozen? ⟨p, 1, none⟩ = false := frozen_atL tq.out.t 1
      have g0 : ∀ j, wq.frozen? ⟨g, j, none⟩ = false := fun j => frozen_atL tq.out.b j
      obtain ⟨v0, k0⟩ : ∃ v, wq.cell? ⟨g, oo, none⟩ = some v := by rw [cell_atL tq.out.b]; exact bc_get (by rw [← hL.out]; omega)
      obtain ⟨v1, k1⟩ : ∃ v, wq.cell? ⟨g, oo + 1, none⟩ = some v := by rw [cell_atL tq.out.b]; exact bc_get (by rw [← hL.out]; omega)
      obtain ⟨v2, k2⟩ : ∃ v, wq.cell? ⟨g, oo + 2, none⟩ = some v := by rw [cell_atL tq.out.b]; exact bc_get (by rw [← hL.out]; omega)
      obtain ⟨v3, k3⟩ : ∃ v, wq.cell? ⟨g, oo + 3, none⟩ = some v := by rw [cell_atL tq.out.b]; exact bc_get (by rw [← hL.out]; omega)
      have hpg := tq.out.ne
      go_upto_region 6 with fail
      go_region_held3 (fun wx => wx.cell? ⟨ab, ao, none⟩ = some (.int .i64 x)) (go_keep) (fail)
      rw [wrap_b1, wrap_b1, wrap_b1, wrap_b1]
      have T1 := hidOf ((tq.out.put oo (by rw [← hL.out]; omega) (b1 x) (b1 (x / 256)) (b1 (x / 65536)) (b1 (x / 16777216))).out (Out.drew (Out.refl _)))
      have C1 := hidOf ((cq.out.put4 (g := g) (.inr rfl) oo (oo + 1) (oo + 2) (oo + 3) (.int .u8 ((b1 x).toNat : Int)) (.int .u8 ((b1 (x / 256)).toNat : Int)) (.int .u8 ((b1 (x / 65536)).toNat : Int)) (.int .u8 ((b1 (x / 16777216)).toNat : Int))).drew)
      clear tq cq k0 k1 k2 k3 g0 f1 c1 c2 z1q
      generalize ((((wq.setCell ⟨g, oo, none⟩ (.int .u8 ((b1 x).toNat : Int))).setCell ⟨g, oo + 1, none⟩ (.int .u8 ((b1 (x / 256)).toNat : Int))).setCell ⟨g, oo + 2, none⟩ (.int .u8 ((b1 (x / 65536)).toNat : Int))).setCell ⟨g, oo + 3, none⟩ (.int .u8 ((b1 (x / 16777216)).toNat : Int))).drew = wz at *
      have c1 : wz.cell? ⟨p, 1, none⟩ = some (.int .i64 oo) := by rw [cell_atL T1.out.t]; rfl
      have f1 : wz.frozen? ⟨p, 1, none⟩ = false := frozen_atL T1.out.t 1
      have H2 := hidOf (b4s_take hy)
      have T2 : Hid (Tp (wz.setCell ⟨p, 1, none⟩ (.int .i64 ((oo : Int) + 4))) p g (o + 4 * (k + 1)) (putB B o (b4s (X.take (k + 1))))) := hidOf (by
        have := T1.out.step (oo + 4)
        rw [hM.out, show [b1 x, b1 (x / 256), b1 (x / 65536), b1 (x / 16777216)] = b4 x from rfl, hoo.out] at this
        have e : o + 4 * k = o + (b4s (X.take k)).length := by rw [b4s_len, List.length_take, ← hn.out]; omega
        rw [e, putB_put (by rw [← e, b4_len]; omega), ← H2.out, ← e] at this
        rw [hoo.out]
        exact this)
      have C2 := hidOf (C1.out.setCell (p := ⟨p, 1, none⟩) (.inl rfl) (.int .i64 ((oo : Int) + 4)))
      clear hX hne hy hsl T1 C1
      set_option maxRecDepth 8000 in
      go_wp2
      go_roundw
      case rel => exact ⟨k + 1, by omega, by simp, T2, C2⟩
      case measure => simp [intOf]; omega
    · have hlt : ¬ (k : Int) < n := by omega
      have hkn : Hid (k = n) := hidOf (by omega)
      go_wp2
      go_end0
      exact ⟨⟨_, rfl⟩, by have := ht.out; rw [hkn.out, List.take_of_length_le (by rw [← hn.out]; omega)] at this; exact this, hc.out⟩
theorem drewN_twice (w : World) (a b : Nat) : (w.drewN a).drewN b = w.drewN (a + b) := by
  simp only [World.drewN, Nat.add_assoc]
set_option maxHeartbeats 4000000 in
theorem sameI17 (w : World) (a1 a2 : Option Addr) (n c1 c2 : Nat) (l : List Ins) (hn : l.length = n) (h1 : InsA w a1 l) (h2 : InsA w a2 l) (hm : n ≤ 140737488355328) : Calls Tryz.prog 32 #[.slice a1 n c1, .slice a2 n c2] w fun e w' => e = .returned (.bool true) ∧ ∃ m, w' = w.drewN m := by
  have H1 := hidOf h1
  have H2 := hidOf h2
  have Hn := hidOf hn
  clear h1 h2 hn
  go_enter Tryz.func32, Tryz.ntmps32
  go_wp2
  go_loopw [5] (fun i wr => ∃ k : Nat, k ≤ n ∧ i = .int .i64 k ∧ ∃ m, wr = w.drewN m) (fun i _ => n - (intOf i).toNat)
  case atStart => exact ⟨0, by omega, rfl, 0, rfl⟩
  case round =>
    obtain ⟨k, hk, rfl, m, rfl⟩ := hrel
    by_cases hkl : k < n
    · have hlt : (k : Int) < n := by omega
      obtain ⟨x, hx⟩ : ∃ x, l[k]? = some x := ⟨_, List.getElem?_eq_getElem (by have := Hn.out; omega)⟩
      rcases H1.out with hz | ⟨b1, o1, rfl, hc1⟩
      · simp [hz] at hx
      rcases H2.out with hz | ⟨b2, o2, rfl, hc2⟩
      · simp [hz] at hx
      obtain ⟨p0, p1, p2, p3, p4⟩ := hc1 k x hx
      obtain ⟨q0, q1, q2, q3, q4⟩ := hc2 k x hx
      have p0' : (w.drewN m).cell? ⟨b1, o1 + k * 5, none⟩ = some (.int .i64 x.o) := p0
      have p1' : (w.drewN m).cell? ⟨b1, o1 + k * 5 + 1, none⟩ = some (.int .i64 x.d) := p1
      have p2' : (w.drewN m).cell? ⟨b1, o1 + k * 5 + 2, none⟩ = some (.int .i64 x.s) := p2
      have p3' : (w.drewN m).cell? ⟨b1, o1 + k * 5 + 3, none⟩ = some (.int .i64 x.f) := p3
      have p4' : (w.drewN m).cell? ⟨b1, o1 + k * 5 + 4, none⟩ = some (.int .i64 x.i) := p4
      have q0' : (w.drewN m).cell? ⟨b2, o2 + k * 5, none⟩ = some (.int .i64 x.o) := q0
      have q1' : (w.drewN m).cell? ⟨b2, o2 + k * 5 + 1, none⟩ = some (.int .i64 x.d) := q1
      have q2' : (w.drewN m).cell? ⟨b2, o2 + k * 5 + 2, none⟩ = some (.int .i64 x.s) := q2
      have q3' : (w.drewN m).cell? ⟨b2, o2 + k * 5 + 3, none⟩ = some (.int .i64 x.f) := q3
      have q4' : (w.drewN m).cell? ⟨b2, o2 + k * 5 + 4, none⟩ = some (.int .i64 x.i) := q4
      clear hc1 hc2 p0 p1 p2 p3 p4 q0 q1 q2 q3 q4 hx
      obtain ⟨x0, x1, x2, x3, x4⟩ := x
      simp only at p0' p1' p2' p3' p4' q0' q1' q2' q3' q4'
      generalize hwm : w.drewN m = wm at *
      go_wp2
      go_quiet (fail)
      go_wp2
      go_roundw
      case rel => exact ⟨k + 1, by omega, by simp, by subst hwm; first | exact ⟨_, rfl⟩ | exact ⟨_, (drewN_twice _ _ _)⟩⟩
      case measure => simp [intOf]; omega
    · have hlt : ¬ (k : Int) < n := by omega
      obtain rfl : k = n := by omega
      go_wp2
      go_ret
      exact ⟨rfl, _, rfl⟩
set_option maxHeartbeats 4000000 in
theorem sameF17 (w : World) (a1 a2 : Option Addr) (n c1 c2 : Nat) (l : List Fn) (hn : l.length = n) (h1 : FnA w a1 l) (h2 : FnA w a2 l) (hm : n ≤ 140737488355328) : Calls Tryz.prog 33 #[.slice a1 n c1, .slice a2 n c2] w fun e w' => e = .returned (.bool true) ∧ ∃ m, w' = w.drewN m := by
  have H1 := hidOf h1
  have H2 := hidOf h2
  have Hn := hidOf hn
  clear h1 h2 hn
  go_enter Tryz.func33, Tryz.ntmps33
  go_wp2
  go_loopw [5] (fun i wr => ∃ k : Nat, k ≤ n ∧ i = .int .i64 k ∧ ∃ m, wr = w.drewN m) (fun i _ => n - (intOf i).toNat)
  case atStart => exact ⟨0, by omega, rfl, 0, rfl⟩
  case round =>
    obtain ⟨k, hk, rfl, m, rfl⟩ := hrel
    by_cases hkl : k < n
    · have hlt : (k : Int) < n := by omega
      obtain ⟨x, hx⟩ : ∃ x, l[k]? = some x := ⟨_, List.getElem?_eq_getElem (by have := Hn.out; omega)⟩
      rcases H1.out with hz | ⟨b1, o1, rfl, hc1⟩
      · simp [hz] at hx
      rcases H2.out with hz | ⟨b2, o2, rfl, hc2⟩
      · simp [hz] at hx
      obtain ⟨p0, p1, p2, p3⟩ := hc1 k x hx
      obtain ⟨q0, q1, q2, q3⟩ := hc2 k x hx
      have p0' : (w.drewN m).cell? ⟨b1, o1 + k * 4, none⟩ = some (.string ⟨x.nm.toArray⟩) := p0
      have p1' : (w.drewN m).cell? ⟨b1, o1 + k * 4 + 1, none⟩ = some (.int .i64 x.ob) := p1
      have p2' : (w.drewN m).cell? ⟨b1, o1 + k * 4 + 2, none⟩ = some (.int .i64 x.fi) := p2
      have p3' : (w.drewN m).cell? ⟨b1, o1 + k * 4 + 3, none⟩ = some (.int .i64 x.ct) := p3
      have q0' : (w.drewN m).cell? ⟨b2, o2 + k * 4, none⟩ = some (.string ⟨x.nm.toArray⟩) := q0
      have q1' : (w.drewN m).cell? ⟨b2, o2 + k * 4 + 1, none⟩ = some (.int .i64 x.ob) := q1
      have q2' : (w.drewN m).cell? ⟨b2, o2 + k * 4 + 2, none⟩ = some (.int .i64 x.fi) := q2
      have q3' : (w.drewN m).cell? ⟨b2, o2 + k * 4 + 3, none⟩ = some (.int .i64 x.ct) := q3
      clear hc1 hc2 p0 p1 p2 p3 q0 q1 q2 q3 hx
      obtain ⟨x0, x1, x2, x3⟩ := x
      simp only at p0' p1' p2' p3' q0' q1' q2' q3'
      generalize hwm : w.drewN m = wm at *
      go_wp2
      go_quiet (fail)
      go_wp2
      go_roundw
      case rel => exact ⟨k + 1, by omega, by simp, by subst hwm; first | exact ⟨_, rfl⟩ | exact ⟨_, (drewN_twice _ _ _)⟩⟩
      case measure => simp [intOf]; omega
    · have hlt : ¬ (k : Int) < n := by omega
      obtain rfl : k = n := by omega
      go_wp2
      go_ret
      exact ⟨rfl, _, rfl⟩
set_option maxHeartbeats 4000000 in
theorem sameD17 (w : World) (a1 a2 : Option Addr) (n c1 c2 : Nat) (l : List Td) (hn : l.length = n) (h1 : TdA w a1 l) (h2 : TdA w a2 l) (hm : n ≤ 140737488355328) : Calls Tryz.prog 34 #[.slice a1 n c1, .slice a2 n c2] w fun e w' => e = .returned (.bool true) ∧ ∃ m, w' = w.drewN m := by
  have H1 := hidOf h1
  have H2 := hidOf h2
  have Hn := hidOf hn
  clear h1 h2 hn
  go_enter Tryz.func34, Tryz.ntmps34
  go_wp2
  go_loopw [5] (fun i wr => ∃ k : Nat, k ≤ n ∧ i = .int .i64 k ∧ ∃ m, wr = w.drewN m) (fun i _ => n - (intOf i).toNat)
  case atStart => exact ⟨0, by omega, rfl, 0, rfl⟩
  case round =>
    obtain ⟨k, hk, rfl, m, rfl⟩ := hrel
    by_cases hkl : k < n
    · have hlt : (k : Int) < n := by omega
      obtain ⟨x, hx⟩ : ∃ x, l[k]? = some x := ⟨_, List.getElem?_eq_getElem (by have := Hn.out; omega)⟩
      rcases H1.out with hz | ⟨b1, o1, rfl, hc1⟩
      · simp [hz] at hx
      rcases H2.out with hz | ⟨b2, o2, rfl, hc2⟩
      · simp [hz] at hx
      obtain ⟨p0, p1, p2, p3, p4⟩ := hc1 k x hx
      obtain ⟨q0, q1, q2, q3, q4⟩ := hc2 k x hx
      have p0' : (w.drewN m).cell? ⟨b1, o1 + k * 5, none⟩ = some (.string ⟨x.nm.toArray⟩) := p0
      have p1' : (w.drewN m).cell? ⟨b1, o1 + k * 5 + 1, none⟩ = some (.int .i64 x.kd) := p1
      have p2' : (w.drewN m).cell? ⟨b1, o1 + k * 5 + 2, none⟩ = some (.int .i64 x.ky) := p2
      have p3' : (w.drewN m).cell? ⟨b1, o1 + k * 5 + 3, none⟩ = some (.int .i64 x.vl) := p3
      have p4' : (w.drewN m).cell? ⟨b1, o1 + k * 5 + 4, none⟩ = some (.int .i64 x.en) := p4
      have q0' : (w.drewN m).cell? ⟨b2, o2 + k * 5, none⟩ = some (.string ⟨x.nm.toArray⟩) := q0
      have q1' : (w.drewN m).cell? ⟨b2, o2 + k * 5 + 1, none⟩ = some (.int .i64 x.kd) := q1
      have q2' : (w.drewN m).cell? ⟨b2, o2 + k * 5 + 2, none⟩ = some (.int .i64 x.ky) := q2
      have q3' : (w.drewN m).cell? ⟨b2, o2 + k * 5 + 3, none⟩ = some (.int .i64 x.vl) := q3
      have q4' : (w.drewN m).cell? ⟨b2, o2 + k * 5 + 4, none⟩ = some (.int .i64 x.en) := q4
      clear hc1 hc2 p0 p1 p2 p3 p4 q0 q1 q2 q3 q4 hx
      obtain ⟨x0, x1, x2, x3, x4⟩ := x
      simp only at p0' p1' p2' p3' p4' q0' q1' q2' q3' q4'
      generalize hwm : w.drewN m = wm at *
      go_wp2
      go_quiet (fail)
      go_wp2
      go_roundw
      case rel => exact ⟨k + 1, by omega, by simp, by subst hwm; first | exact ⟨_, rfl⟩ | exact ⟨_, (drewN_twice _ _ _)⟩⟩
      case measure => simp [intOf]; omega
    · have hlt : ¬ (k : Int) < n := by omega
      obtain rfl : k = n := by omega
      go_wp2
      go_ret
      exact ⟨rfl, _, rfl⟩
structure ImS (w : World) (ta fa da : Option Addr) (m : Img) : Prop where
  t : InsA w ta m.T
  f : FnA w fa m.F
  d : TdA w da m.D
theorem ImA.s {w : World} {ta fa da : Option Addr} {m : Img} (h : ImA w ta fa da m) : ImS w ta fa da m := ⟨h.t, h.f, h.d⟩
theorem ImS.out {w w' : World} {ta fa da : Option Addr} {m : Img} (h : ImS w ta fa da m) (o : Out w w') : ImS w' ta fa da m := ⟨h.t.out o, h.f.out o, h.d.out o⟩
def Bx2 (w : World) (q : Nat) (v0 v1 v2 v3 u0 u1 u2 u3 : Value) (wx : World) : Prop := Out w wx ∧ wx.cell? ⟨q, 0, none⟩ = some v0 ∧ wx.cell? ⟨q, 1, none⟩ = some v1 ∧ wx.cell? ⟨q, 2, none⟩ = some v2 ∧ wx.cell? ⟨q, 3, none⟩ = some v3 ∧ wx.cell? ⟨q + 1, 0, none⟩ = some u0 ∧ wx.cell? ⟨q + 1, 1, none⟩ = some u1 ∧ wx.cell? ⟨q + 1, 2, none⟩ = some u2 ∧ wx.cell? ⟨q + 1, 3, none⟩ = some u3
theorem Bx2.drewN {w : World} {q : Nat} {v0 v1 v2 v3 u0 u1 u2 u3 : Value} {wx : World} (h : Bx2 w q v0 v1 v2 v3 u0 u1 u2 u3 wx) (k : Nat) : Bx2 w q v0 v1 v2 v3 u0 u1 u2 u3 (wx.drewN k) := ⟨h.1.drewN k, h.2⟩
theorem Bx2.new (w : World) (v0 v1 v2 v3 u0 u1 u2 u3 : Value) (t t' : TypeId) : Bx2 w w.heap.size v0 v1 v2 v3 u0 u1 u2 u3 ((w.alloc (.cells #[v0, v1, v2, v3] t)).alloc (.cells #[u0, u1, u2, u3] t')) := by
  have h1 : ((w.alloc (.cells #[v0, v1, v2, v3] t)).alloc (.cells #[u0, u1, u2, u3] t')).heap[w.heap.size]? = some (.cells #[v0, v1, v2, v3] t (0, 0)) := by
    rw [Below.heap_alloc _ _ _ (by rw [size_alloc]; omega)]; exact heap_alloc_new w _
  have h2 : ((w.alloc (.cells #[v0, v1, v2, v3] t)).alloc (.cells #[u0, u1, u2, u3] t')).heap[w.heap.size + 1]? = some (.cells #[u0, u1, u2, u3] t' (0, 0)) := by
    have := heap_alloc_new (w.alloc (.cells #[v0, v1, v2, v3] t)) (.cells #[u0, u1, u2, u3] t')
    rw [size_alloc] at this; exact this
  refine ⟨Out.alloc (Out.alloc (Out.refl _) _) _, ?_, ?_, ?_, ?_, ?_, ?_, ?_, ?_⟩
  · rw [cell_atL h1]; rfl
  · rw [cell_atL h1]; rfl
  · rw [cell_atL h1]; rfl
  · rw [cell_atL h1]; rfl
  · rw [cell_atL h2]; rfl
  · rw [cell_atL h2]; rfl
  · rw [cell_atL h2]; rfl
  · rw [cell_atL h2]; rfl
set_option maxHeartbeats 4000000 in
theorem sameImage_any (w : World) (ta fa da ta' fa' da' : Option Addr) (tc fc dc tc' fc' dc' : Nat) (m : Img) (h : ImS w ta fa da m) (h' : ImS w ta' fa' da' m) (hT : m.T.length ≤ 140737488355328) (hF : m.F.length ≤ 140737488355328) (hD : m.D.length ≤ 140737488355328) : Calls Tryz.prog 11 #[.agg #[.slice ta m.T.length tc, .slice fa m.F.length fc, .slice da m.D.length dc, .int .i64 m.en], .agg #[.slice ta' m.T.length tc', .slice fa' m.F.length fc', .slice da' m.D.length dc', .int .i64 m.en]] w fun e w' => e = .returned (.bool true) ∧ Out w w' := by
  obtain ⟨q, hq⟩ : ∃ q, Hid (q = w.heap.size) := ⟨_, rfl⟩
  obtain ⟨K, hK⟩ : ∃ K : World → Prop, Hid (K = Bx2 w q (.slice ta m.T.length tc) (.slice fa m.F.length fc) (.slice da m.D.length dc) (.int .i64 m.en) (.slice ta' m.T.length tc') (.slice fa' m.F.length fc') (.slice da' m.D.length dc') (.int .i64 m.en)) := ⟨_, rfl⟩
  have C1 : Hid (∀ wx, K wx → Calls Tryz.prog 32 #[.slice ta m.T.length tc, .slice ta' m.T.length tc'] wx fun e w' => e = .returned (.bool true) ∧ K w') := hidOf fun wx o => by
    rw [hK.out] at o ⊢
    exact (sameI17 wx _ _ _ _ _ m.T rfl (h.t.out o.1) (h'.t.out o.1) hT).mono (fun e w' ⟨he, k, hk⟩ => ⟨he, by rw [hk]; exact o.drewN k⟩)
  have C2 : Hid (∀ wx, K wx → Calls Tryz.prog 33 #[.slice fa m.F.length fc, .slice fa' m.F.length fc'] wx fun e w' => e = .returned (.bool true) ∧ K w') := hidOf fun wx o => by
    rw [hK.out] at o ⊢
    exact (sameF17 wx _ _ _ _ _ m.F rfl (h.f.out o.1) (h'.f.out o.1) hF).mono (fun e w' ⟨he, k, hk⟩ => ⟨he, by rw [hk]; exact o.drewN k⟩)
  have C3 : Hid (∀ wx, K wx → Calls Tryz.prog 34 #[.slice da m.D.length dc, .slice da' m.D.length dc'] wx fun e w' => e = .returned (.bool true) ∧ K w') := hidOf fun wx o => by
    rw [hK.out] at o ⊢
    exact (sameD17 wx _ _ _ _ _ m.D rfl (h.d.out o.1) (h'.d.out o.1) hD).mono (fun e w' ⟨he, k, hk⟩ => ⟨he, by rw [hk]; exact o.drewN k⟩)
  clear h h' hT hF hD
  have K0 := Bx2.new w (.slice ta m.T.length tc) (.slice fa m.F.length fc) (.slice da m.D.length dc) (.int .i64 m.en) (.slice ta' m.T.length tc') (.slice fa' m.F.length fc') (.slice da' m.D.length dc') (.int .i64 m.en) 26 26
  rw [← hq.out, ← hK.out] at K0
  go_enter Tryz.func11, Tryz.ntmps11
  go_upto_region 1 with fail
  generalize hw0 : (w.alloc _).alloc _ = w0 at K0 ⊢
  have KH := hidOf K0
  rw [hK.out] at K0
  obtain ⟨o0, p0, p1, p2, p3, q0, q1, q2, q3⟩ := K0
  rw [hq.out] at p0 p1 p2 p3 q0 q1 q2 q3
  go_wp2_with (first
    | (go_at_call 32; refine (C1.out _ KH.out).mono ?_; rintro e w2 ⟨rfl, h2⟩; have H2 := hidOf h2; rw [hK.out, hq.out] at h2; obtain ⟨o2, r0, r1, r2, r3, s0, s1, s2, s3⟩ := h2)
    | (go_at_call 33; refine (C2.out _ H2.out).mono ?_; rintro e w3 ⟨rfl, h3⟩; have H3 := hidOf h3; rw [hK.out, hq.out] at h3; obtain ⟨o3, t0, t1, t2, t3, u0, u1, u2, u3⟩ := h3)
    | (go_at_call 34; refine (C3.out _ H3.out).mono ?_; rintro e w4 ⟨rfl, h4⟩; have H4 := hidOf h4; rw [hK.out, hq.out] at h4; obtain ⟨o4, v0, v1, v2, v3, x0, x1, x2, x3⟩ := h4))
  go_ret
  have := H4.out
  rw [hK.out] at this
  exact ⟨by simp, this.1⟩
end Go.Proofs.YthififblejbleaaGreatDoor
