import Derived.Test.YtgephenkbbelcaaDoorDqf
namespace Go.Proofs.YtgephenkbbelcaaDoor
open Go.RowKit
set_option linter.unusedVariables false
set_option linter.unusedSimpArgs false
/-- the shelf's blocks -/
def QSQ (p : Nat) (r : Nat → Value) (F : List Value) (b : Nat) : Prop := b = p ∨ (∃ j, j < 4 ∧ (r j).ownBlock = some b) ∨ ∃ x ∈ F, x.ownBlock = some b
/-- the shelf between two calls -/
structure QI (B : Nat) (w : World) (p : Nat) (mk tt : Int) (r : Nat → Value) (L : Nat → List Value) : Prop where
  sh : QF w p mk tt r L
  wl : (L 1).length = (L 0).length
  kl : (L 3).length = (L 2).length
  pf : PrQ w (L 0) (L 1)
  pk : PrQ w (L 2) (L 3)
  bl : ∀ x ∈ L 0, ∃ N : List Ins, N.length ≤ 100000000 ∧ OwI 0 x N w
  ds : DstQ (L 0)
  ap : ∀ (l : Nat) y b, (L 2)[l]? = some y ∨ (L 3)[l]? = some y → y.ownBlock = some b → ∀ (j : Nat) x, (L 0)[j]? = some x → ¬ x.ownBlock = some b
  lb : ∀ b, QSQ p r (L 0) b → B ≤ b
theorem QI.out {B : Nat} {w w' : World} {p : Nat} {mk tt : Int} {r : Nat → Value} {L : Nat → List Value} (h : QI B w p mk tt r L) (o : Out w w') : QI B w' p mk tt r L :=
  ⟨h.sh.out o, h.wl, h.kl, h.pf.out o, h.pk.out o, fun x hx => by
    obtain ⟨N, h1, h2⟩ := h.bl x hx
    exact ⟨N, h1, h2.out o⟩, h.ds, h.ap, h.lb⟩
theorem QI.start {B : Nat} {w : World} {p : Nat} {mk tt : Int} {r : Nat → Value} {L : Nat → List Value} (h : QI B w p mk tt r L) : WQ w p tt r (r 0) (L 0) ((w.setCell ⟨p, 3, none⟩ (.slice none 0 0)).setCell ⟨p, 4, none⟩ (.slice none 0 0)) mk (L 2) (L 3) [] [] 0 0 := by
  have hs : QF ((w.setCell ⟨p, 3, none⟩ (.slice none 0 0)).setCell ⟨p, 4, none⟩ (.slice none 0 0)) p mk tt (upd (upd r 0 (.slice none 0 0)) 1 (.slice none 0 0)) (upd (upd L 0 []) 1 []) := (h.sh.cut 0 (by omega) _ [] (World.ownsRow_nil _ _ _ _) (fun b hb => by cases hb)).cut 1 (by omega) _ [] (World.ownsRow_nil _ _ _ _) (fun b hb => by cases hb)
  have c : Chg (fun b => b = p) w ((w.setCell ⟨p, 3, none⟩ (.slice none 0 0)).setCell ⟨p, 4, none⟩ (.slice none 0 0)) := ((Chg.refl (fun b => b = p) w).setCell (p := ⟨p, 3, none⟩) rfl _).setCell (p := ⟨p, 4, none⟩) rfl _
  have kp : ∀ B v N, OwI B v N w → OwI B v N ((w.setCell ⟨p, 3, none⟩ (.slice none 0 0)).setCell ⟨p, 4, none⟩ (.slice none 0 0)) := fun B v N hv => hv.chg c (fun b hb e => h.sh.soq hv hb (.inl e))
  refine ⟨_, _, hs, rfl, rfl, rfl, rfl, by simp [upd], by simp [upd], owns_chg (h.sh.row 0 (by omega)) (fun k hk e => h.sh.notp (j := 0) (by omega) (by rw [hk, e])) c, ?_, h.kl, rfl, ?_, (fun i x y hx => by simp at hx), ?_, ?_, (fun l y b hy => by simp at hy), fun j x hx => ?_, fun x hx b hb => ?_, fun b hb => .inl hb, fun b hb => .inl hb, (fun y b hy hb => .inr (.inl (by
    rcases hy with hy | hy
    · exact ⟨2, .inl rfl, L 2, y, h.sh.row 2 (by omega), by simpa using hy, hb⟩
    · exact ⟨3, .inr rfl, L 3, y, h.sh.row 3 (by omega), by simpa using hy, hb⟩))), c.mono (fun b hb _ => .inl hb)⟩
  · intro j b hj hb hr
    rcases hj with rfl | rfl
    · exact h.sh.sep 0 2 b (by omega) (by omega) (by omega) hb hr
    · exact h.sh.sep 0 3 b (by omega) (by omega) (by omega) hb hr
  · intro i x y hx hy
    obtain ⟨N, a1, c1, a2, c2, e1, e2, o1, o2, hb⟩ := h.pk i x y hx hy
    exact ⟨N, a1, c1, a2, c2, e1, e2, kp _ _ _ o1, kp _ _ _ o2, hb⟩
  · intro l y b hy hb j x hx hxb
    exact absurd hxb (h.ap l y b (.inl hy) hb j x hx)
  · intro l y b hy hb j x hx
    exact h.ap l y b (.inr hy) hb j x hx
  · obtain ⟨N, h1, h2⟩ := h.bl x (List.mem_of_getElem? hx)
    exact ⟨N, h1, kp _ _ _ h2⟩
  · obtain ⟨N, _, h2⟩ := h.bl x hx
    exact (own_blkQ h2 hb).1
section
variable {w : World} {p : Nat} {tt : Int} {r0 : Nat → Value} {fa : Value} {F : List Value} {wr w' : World} {mk : Int} {K W P R : List Value} {lo plo : Nat}
theorem pr_app {w : World} {X Y X' Y' : List Value} (h : PrQ w X Y) (h' : PrQ w X' Y') (hl : Y.length = X.length) : PrQ w (X ++ X') (Y ++ Y') := fun i x y hx hy => by
  by_cases hi : i < X.length
  · rw [List.getElem?_append_left hi] at hx
    rw [List.getElem?_append_left (by rw [hl]; exact hi)] at hy
    exact h i x y hx hy
  · rw [List.getElem?_append_right (by omega)] at hx
    rw [List.getElem?_append_right (by rw [hl]; omega), hl] at hy
    exact h' _ x y hx hy
/-- all that is kept is looked at -/
theorem WQ.kept_ (h : WQ w p tt r0 fa F wr mk K W P R lo plo) (hK : K.length + P.length ≤ 1000000000000) :
    Calls Tryd.prog 34 #[.pointer (some ⟨p, 0, none⟩)] wr fun e w' => (∃ q, e = .returned q) ∧ Out wr w' := by
  obtain ⟨r, L, h⟩ := h
  refine keptQ_any wr p mk tt r L h.sh (by rw [h.l2, h.l3, List.length_append, List.length_append, h.kl, h.pl]) ?_ (by rw [h.l2, List.length_append]; exact hK)
  rw [h.l2, h.l3]
  exact pr_app h.pr h.pp h.kl
/-- the rows of what is kept -/
theorem WQ.rows (h : WQ w p tt r0 fa F wr mk K W P R lo plo) (h0 : 0 < (K ++ P).length) : ∃ g2 d2 g3 d3, wr.cell? ⟨p, 5, none⟩ = some (.slice (some ⟨g2, 0, none⟩) (K ++ P).length d2) ∧ wr.cell? ⟨p, 6, none⟩ = some (.slice (some ⟨g3, 0, none⟩) (W ++ R).length d3) ∧ (K ++ P).length ≤ d2 ∧ (K ++ P).length ≤ d3 ∧ (W ++ R).length = (K ++ P).length ∧ (∀ j, wr.frozen? ⟨p, j, none⟩ = false) ∧ ∀ v, (wr.setCell ⟨p, 5, none⟩ v).cell? ⟨p, 6, none⟩ = some (.slice (some ⟨g3, 0, none⟩) (W ++ R).length d3) ∧ (wr.setCell ⟨p, 5, none⟩ v).frozen? ⟨p, 6, none⟩ = false := by
  obtain ⟨r, L, h⟩ := h
  have hlen : (W ++ R).length = (K ++ P).length := by rw [List.length_append, List.length_append, h.kl, h.pl]
  have r2 := h.sh.row 2 (by omega)
  have r3 := h.sh.row 3 (by omega)
  rw [h.l2] at r2
  rw [h.l3] at r3
  have key : ∀ {v : Value} {X : List Value}, wr.ownsRow 0 30 1 v X.length X → 0 < X.length → ∃ g d, v = .slice (some ⟨g, 0, none⟩) X.length d ∧ X.length ≤ d := fun hv hx => by
    rcases hv.2 with ⟨_, e⟩ | ⟨g, cap, cur, e, _, _, hn, _⟩
    · omega
    · exact ⟨g, cap, e, hn⟩
  obtain ⟨g2, d2, e2, n2⟩ := key r2 h0
  obtain ⟨g3, d3, e3, n3⟩ := key r3 (by rw [hlen]; exact h0)
  refine ⟨g2, d2, g3, d3, by rw [cell_atL h.sh.st, ← e2]; rfl, by rw [cell_atL h.sh.st, ← e3]; rfl, n2, by omega, hlen, fun j => frozen_atL h.sh.st j, fun v => ?_⟩
  have st := set_atL h.sh.st 5 v
  exact ⟨by rw [cell_atL st, ← e3]; rfl, frozen_atL st 6⟩
/-- what was grown by few is let go -/
theorem WQ.cutP (h : WQ w p tt r0 fa F wr mk K W P R lo plo) {a2 a3 : Option Addr} {c2 c3 : Nat} (e2 : wr.cell? ⟨p, 5, none⟩ = some (.slice a2 (K ++ P).length c2)) (e3 : wr.cell? ⟨p, 6, none⟩ = some (.slice a3 (W ++ R).length c3)) :
    WQ w p tt r0 fa F ((wr.setCell ⟨p, 5, none⟩ (.slice a2 K.length c2)).setCell ⟨p, 6, none⟩ (.slice a3 K.length c3)) mk K W [] [] lo 0 := by
  obtain ⟨r, L, h⟩ := h
  have q2 : r 2 = .slice a2 (K ++ P).length c2 := by
    rw [cell_atL h.sh.st] at e2
    exact Option.some.inj e2
  have q3 : r 3 = .slice a3 (W ++ R).length c3 := by
    rw [cell_atL h.sh.st] at e3
    exact Option.some.inj e3
  have row2 : wr.ownsRow 0 30 1 (.slice a2 K.length c2) K.length K := by
    have h2 := h.sh.row 2 (by omega)
    rw [q2, h.l2] at h2
    have := row_take h2 (k := K.length) (by simp)
    rw [List.take_left' rfl] at this
    exact this
  have row3 : wr.ownsRow 0 30 1 (.slice a3 K.length c3) W.length W := by
    have h2 := h.sh.row 3 (by omega)
    rw [q3, h.l3] at h2
    have := row_take h2 (k := K.length) (by simp [h.kl])
    rw [List.take_left' h.kl] at this
    exact this
  have bk2 : ∀ b, (Value.slice a2 K.length c2).ownBlock = some b → (r 2).ownBlock = some b := fun b hb => by
    rw [q2]
    cases a2 with
    | none => cases hb
    | some ad => exact hb
  have bk3 : ∀ b, (Value.slice a3 K.length c3).ownBlock = some b → (r 3).ownBlock = some b := fun b hb => by
    rw [q3]
    cases a3 with
    | none => cases hb
    | some ad => exact hb
  have c1 : Chg (fun b => b = p) wr (wr.setCell ⟨p, 5, none⟩ (.slice a2 K.length c2)) := (Chg.refl (fun b => b = p) wr).setCell (p := ⟨p, 5, none⟩) rfl _
  have hs1 : QF (wr.setCell ⟨p, 5, none⟩ (.slice a2 K.length c2)) p mk tt (upd r 2 (.slice a2 K.length c2)) (upd L 2 K) := h.sh.cut 2 (by omega) _ K row2 bk2
  have row3' : (wr.setCell ⟨p, 5, none⟩ (.slice a2 K.length c2)).ownsRow 0 30 1 (.slice a3 K.length c3) W.length W := owns_chg row3 (fun k hk e => h.sh.notp (j := 3) (by omega) (by rw [bk3 k hk, e])) c1
  have hs2 : QF ((wr.setCell ⟨p, 5, none⟩ (.slice a2 K.length c2)).setCell ⟨p, 6, none⟩ (.slice a3 K.length c3)) p mk tt (upd (upd r 2 (.slice a2 K.length c2)) 3 (.slice a3 K.length c3)) (upd (upd L 2 K) 3 W) := hs1.cut 3 (by omega) _ W row3' bk3
  have c : Chg (fun b => b = p) wr ((wr.setCell ⟨p, 5, none⟩ (.slice a2 K.length c2)).setCell ⟨p, 6, none⟩ (.slice a3 K.length c3)) := c1.setCell (p := ⟨p, 6, none⟩) rfl _
  have kp : ∀ B v N, OwI B v N wr → OwI B v N ((wr.setCell ⟨p, 5, none⟩ (.slice a2 K.length c2)).setCell ⟨p, 6, none⟩ (.slice a3 K.length c3)) := fun B v N hv => hv.chg c (fun b hb e => h.sh.soq hv hb (.inl e))
  refine ⟨_, _, hs2, h.n0, h.n1, h.z0, h.z1, by simp [upd], by simp [upd], owns_chg h.lr (fun k hk e => own_kind h.lr h.sh.st (by decide) (by rw [hk, e])) c, ?_, h.kl, rfl, ?_, (fun i x y hx => by simp at hx), h.kf, h.kw, (fun l y b hy => by simp at hy), fun j x hx => ?_, h.fb, fun b hb => h.b2 b (bk2 b hb), fun b hb => h.b3 b (bk3 b hb), (fun y b hy hb => h.pv y b (hy.imp (fun h => by rw [List.append_nil] at h; exact List.mem_append_left _ h) (fun h => by rw [List.append_nil] at h; exact List.mem_append_left _ h)) hb), h.chg.trans c (fun b hb _ => .inl hb)⟩
  · intro j b hj hb hr
    rcases hj with rfl | rfl
    · exact h.ls 2 b (.inl rfl) hb (bk2 b hr)
    · exact h.ls 3 b (.inr rfl) hb (bk3 b hr)
  · intro i x y hx hy
    obtain ⟨N, a1, c1, a2, c2, e1, e2, o1, o2, hb⟩ := h.pr i x y hx hy
    exact ⟨N, a1, c1, a2, c2, e1, e2, kp _ _ _ o1, kp _ _ _ o2, hb⟩
  · obtain ⟨N, h1, h2⟩ := h.fm j x hx
    exact ⟨N, h1, kp _ _ _ h2⟩
end
/-- what a writing leaves behind -/
def WrQ (B : Nat) (w : World) (p : Nat) (tt : Int) (r : Nat → Value) (L : Nat → List Value) (kn : Nat) (mk' : Int) (w' : World) : Prop :=
  ∃ r' L', QI B w' p mk' tt r' L' ∧ L' 0 = [] ∧ (L' 2).length = kn ∧ Chg (QSQ p r (L 0)) w w' ∧ ∀ y b, (y ∈ L' 2 ∨ y ∈ L' 3) → y.ownBlock = some b → w.heap.size ≤ b ∨ KnQ w r (L 0) b
theorem WQ.done {B : Nat} {w : World} {p : Nat} {mk mk' tt : Int} {r : Nat → Value} {L : Nat → List Value} {wr : World} {K W P R : List Value} {lo plo kn : Nat} (hq : QI B w p mk tt r L) (h : WQ w p tt r (r 0) (L 0) wr mk' K W P R lo plo) (hk : (K ++ P).length = kn) : WrQ B w p tt r L kn mk' wr := by
  obtain ⟨r1, L1, h⟩ := h
  have hpB : B ≤ p := hq.lb p (.inl rfl)
  have hpw := hq.sh.lt
  refine ⟨r1, L1, ⟨h.sh, by rw [h.n0, h.n1], by rw [h.l2, h.l3, List.length_append, List.length_append, h.kl, h.pl], by rw [h.n0]; exact (fun i x y hx => by simp at hx), by rw [h.l2, h.l3]; exact pr_app h.pr h.pp h.kl, by rw [h.n0]; exact (fun x hx => by cases hx), by rw [h.n0]; exact (fun i j x y hx => by simp at hx), by rw [h.n0]; exact (fun l y b _ _ j x hx => by simp at hx), fun b hb => ?_⟩, h.n0, by rw [h.l2]; exact hk, h.chg.mono (fun b hb _ => ?_), fun y b hy hb => h.pv y b (by rw [h.l2, h.l3] at hy; exact hy) hb⟩
  · rcases hb with e | ⟨j, hj, e⟩ | ⟨x, hx, _⟩
    · rw [e]; exact hpB
    · obtain rfl | rfl | rfl | rfl : j = 0 ∨ j = 1 ∨ j = 2 ∨ j = 3 := by omega
      · rw [h.z0] at e; cases e
      · rw [h.z1] at e; cases e
      · rcases h.b2 b e with e | e
        · exact hq.lb b (.inr (.inl ⟨2, by omega, e⟩))
        · omega
      · rcases h.b3 b e with e | e
        · exact hq.lb b (.inr (.inl ⟨3, by omega, e⟩))
        · omega
    · rw [h.n0] at hx; cases hx
  · rcases hb with e | e | e | e
    · exact .inl e
    · exact .inr (.inl ⟨2, by omega, e⟩)
    · exact .inr (.inl ⟨3, by omega, e⟩)
    · exact .inr (.inr e)
end Go.Proofs.YtgephenkbbelcaaDoor
