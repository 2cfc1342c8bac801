import Derived.Test.YtbdmbicnlfcclaaSqe
namespace Go.Proofs.Ytbdmbicnlfcclaa
open Go.RowKit
set_option linter.unusedVariables false
set_option linter.unusedSimpArgs false
/-- the queue's blocks -/
def QSQ (p : Nat) (r : Nat → Value) (F : List Value) (b : Nat) : Prop := b = p ∨ (∃ j, j < 4 ∧ (r j).ownBlock = some b) ∨ ∃ x ∈ F, x.ownBlock = some b
/-- the queue between two calls -/
structure QI (B : Nat) (w : World) (p : Nat) (tt : Int) (r : Nat → Value) (L : Nat → List Value) : Prop where
  sh : QF w p tt r L
  wl : (L 1).length = (L 0).length
  kl : (L 3).length = (L 2).length
  pf : PrQ w (L 0) (L 1)
  pk : PrQ w (L 2) (L 3)
  bl : ∀ x ∈ L 0, ∃ N : List Sy, N.length ≤ 100000000000 ∧ OwS 0 x N w
  ds : DstQ (L 0)
  ap : ∀ (l : Nat) y b, (L 2)[l]? = some y ∨ (L 3)[l]? = some y → y.ownBlock = some b → ∀ (j : Nat) x, (L 0)[j]? = some x → ¬ x.ownBlock = some b
  lb : ∀ b, QSQ p r (L 0) b → B ≤ b
theorem QI.out {B : Nat} {w w' : World} {p : Nat} {tt : Int} {r : Nat → Value} {L : Nat → List Value} (h : QI B w p tt r L) (o : Out w w') : QI B w' p tt r L :=
  ⟨h.sh.out o, h.wl, h.kl, h.pf.out o, h.pk.out o, fun x hx => by
    obtain ⟨N, h1, h2⟩ := h.bl x hx
    exact ⟨N, h1, h2.out o⟩, h.ds, h.ap, h.lb⟩
theorem QI.start {B : Nat} {w : World} {p : Nat} {tt : Int} {r : Nat → Value} {L : Nat → List Value} (h : QI B w p tt r L) (base : Int) : WQ w p tt r (L 0) base w (L 2) (L 3) [] [] 0 0 :=
  ⟨r, L, h.sh, rfl, rfl, by simp, by simp, h.kl, rfl, h.pk, fun l y b hy hb j x _ hx => h.ap l y b hy hb j x hx, fun j x _ hx => by
    obtain ⟨N, h1, h2⟩ := h.bl x (List.mem_of_getElem? hx)
    exact ⟨N, h1, h2, fun h => by omega⟩, fun x hx b hb => by
    obtain ⟨N, _, h2⟩ := h.bl x hx
    exact (own_blkQ h2 hb).1, fun b hb => .inl hb, fun b hb => .inl hb, Chg.refl _ _⟩
/-- a row is done away with -/
theorem QF.nil {w : World} {p : Nat} {tt : Int} {r : Nat → Value} {L : Nat → List Value} (h : QF w p tt r L) (j : Nat) (hj : j < 4) : QF (w.setCell ⟨p, 2 + j, none⟩ (.slice none 0 0)) p tt (upd r j (.slice none 0 0)) (upd L j []) := by
  refine QF.store h.st j hj _ _ (fun i hi => ?_) (fun i k b hi hk hne hib hkb => ?_)
  · unfold upd
    by_cases hij : i = j
    · rw [if_pos hij, if_pos hij]; exact World.ownsRow_nil _ _ _ _
    · rw [if_neg hij, if_neg hij]; exact h.row i hi
  · unfold upd at hib hkb
    by_cases hij : i = j
    · rw [if_pos hij] at hib; cases hib
    · by_cases hkj : k = j
      · rw [if_pos hkj] at hkb; cases hkb
      · rw [if_neg hij] at hib; rw [if_neg hkj] at hkb; exact h.sep i k b hi hk hne hib hkb
/-- what a writing leaves behind -/
def WrQ (B : Nat) (w : World) (p : Nat) (tt : Int) (r : Nat → Value) (L : Nat → List Value) (kn : Nat) (w' : World) : Prop :=
  ∃ r' L', QI B w' p tt r' L' ∧ L' 0 = [] ∧ (L' 2).length = kn ∧ Chg (QSQ p r (L 0)) w w'
theorem WrQ.out {B : Nat} {w w1 w' : World} {p : Nat} {tt : Int} {r : Nat → Value} {L : Nat → List Value} {kn : Nat} (h : WrQ B w p tt r L kn w1) (o : Out w1 w') : WrQ B w p tt r L kn w' := by
  obtain ⟨r', L', h1, h2, h3, h4⟩ := h
  exact ⟨r', L', h1.out o, h2, h3, h4.then_out o⟩
theorem WQ.done {B : Nat} {w : World} {p : Nat} {tt : Int} {r : Nat → Value} {L : Nat → List Value} {base : Int} {wr : World} {K W : List Value} {lo hi kn : Nat} (hq : QI B w p tt r L) (h : WQ w p tt r (L 0) base wr K W [] [] lo hi) (hk : K.length = kn) : WrQ B w p tt r L kn ((wr.setCell ⟨p, 2, none⟩ (.slice none 0 0)).setCell ⟨p, 3, none⟩ (.slice none 0 0)) := by
  obtain ⟨r1, L1, h⟩ := h
  have hs : QF ((wr.setCell ⟨p, 2, none⟩ (.slice none 0 0)).setCell ⟨p, 3, none⟩ (.slice none 0 0)) p tt (upd (upd r1 0 (.slice none 0 0)) 1 (.slice none 0 0)) (upd (upd L1 0 []) 1 []) := (h.sh.nil 0 (by omega)).nil 1 (by omega)
  have c : Chg (fun b => b = p) wr ((wr.setCell ⟨p, 2, none⟩ (.slice none 0 0)).setCell ⟨p, 3, none⟩ (.slice none 0 0)) := ((Chg.refl (fun b => b = p) wr).setCell (p := ⟨p, 2, none⟩) rfl _).setCell (p := ⟨p, 3, none⟩) rfl _
  have l2 : L1 2 = K := by rw [h.l2]; simp
  have l3 : L1 3 = W := by rw [h.l3]; simp
  have hpB : B ≤ p := hq.lb p (.inl rfl)
  have hpw := hq.sh.lt
  refine ⟨_, _, ⟨hs, rfl, ?_, (fun i x y hx => by cases hx), ?_, (fun x hx => by cases hx), (fun i j x y hx => by cases hx), (fun l y b _ _ j x hx => by cases hx), fun b hb => ?_⟩, rfl, ?_, h.chg.trans c (fun b hb _ => .inl hb) |>.mono (fun b hb _ => ?_)⟩
  · show (L1 3).length = (L1 2).length; rw [l2, l3]; exact h.kl
  · show PrQ _ (L1 2) (L1 3)
    rw [l2, l3]
    intro i x y hx hy
    obtain ⟨N, a1, c1, a2, c2, e1, e2, o1, o2, hb⟩ := h.pr i x y hx hy
    exact ⟨N, a1, c1, a2, c2, e1, e2, o1.chg c (fun b hb he => h.sh.soq o1 hb (.inl he)), o2.chg c (fun b hb he => h.sh.soq o2 hb (.inl he)), hb⟩
  · rcases hb with e | ⟨j, hj, e⟩ | ⟨x, hx, _⟩
    · rw [e]; exact hpB
    · obtain rfl | rfl | rfl | rfl : j = 0 ∨ j = 1 ∨ j = 2 ∨ j = 3 := by omega
      · cases e
      · cases e
      · rcases h.b2 b e with e | e
        · exact hq.lb b (.inr (.inl ⟨2, by omega, e⟩))
        · omega
      · rcases h.b3 b e with e | e
        · exact hq.lb b (.inr (.inl ⟨3, by omega, e⟩))
        · omega
    · cases hx
  · show (L1 2).length = kn; rw [l2]; exact hk
  · rcases hb with e | e | e | e
    · exact .inl e
    · exact .inr (.inl ⟨2, by omega, e⟩)
    · exact .inr (.inl ⟨3, by omega, e⟩)
    · exact .inr (.inr e)
/-- amid the marking of a list -/
def Mkd (wr : World) (f : Value) (l : Int) (n k : Nat) : Prop := ∃ N : List Sy, N.length = n ∧ OwS 0 f N wr ∧ N.take k = mks l 0 k
end Go.Proofs.Ytbdmbicnlfcclaa
