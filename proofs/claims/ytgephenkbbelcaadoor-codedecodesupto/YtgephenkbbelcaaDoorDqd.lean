import Derived.Test.YtgephenkbbelcaaDoorDqc
namespace Go.Proofs.YtgephenkbbelcaaDoor
open Go.RowKit
set_option linter.unusedVariables false
set_option linter.unusedSimpArgs false
theorem own_blkQ {B s n : Nat} {w : World} {e : TypeId} {v : Value} {xs : List Value} (h : w.ownsRow B e s v n xs) {b : Nat} (hb : v.ownBlock = some b) : b < w.heap.size ∧ ∃ cs, w.heap[b]? = some (.cells cs e (0, 0)) := by
  rcases h.2 with ⟨hv, _⟩ | ⟨g, cap, cur, hv, _, hg, _⟩
  · rw [hv] at hb; cases hb
  · rw [hv] at hb; simp [Value.ownBlock] at hb; subst hb; exact ⟨(Array.getElem?_eq_some_iff.1 hg).1, cur, hg⟩
/-- the shelf's own blocks and lists of instructions lie apart -/
theorem QF.soq {w : World} {p : Nat} {mk tt : Int} {r : Nat → Value} {L : Nat → List Value} (h : QF w p mk tt r L) {v : Value} {N : List Ins} {B : Nat} (hv : OwI B v N w) {b : Nat} (hb : v.ownBlock = some b) : ¬ SOQ p r b := fun hs => by
  obtain ⟨_, cs, hc⟩ := own_blkQ hv hb
  rcases hs with e | e | e
  · have := h.st; rw [← e, hc] at this; simp at this
  · exact own_kind (h.row 2 (by omega)) hc (by decide) e
  · exact own_kind (h.row 3 (by omega)) hc (by decide) e
/-- only lists of instructions turn -/
theorem QF.ins {w w' : World} {p : Nat} {mk tt : Int} {r : Nat → Value} {L : Nat → List Value} (h : QF w p mk tt r L) {S : Nat → Prop} (c : Chg S w w') (hS : ∀ b, b < w.heap.size → S b → ∃ cs, w.heap[b]? = some (.cells cs 42 (0, 0))) : QF w' p mk tt r L := by
  refine ⟨(c.block p h.lt (fun hs => ?_)).trans h.st, fun j hj => owns_chg (h.row j hj) (fun k hk hs => ?_) c, h.sep⟩
  · obtain ⟨cs, hb⟩ := hS p h.lt hs
    rw [h.st] at hb; simp at hb
  · obtain ⟨cs, hb⟩ := hS k (own_blkQ (h.row j hj) hk).1 hs
    exact own_kind (h.row j hj) hb (by decide) hk
theorem QF.mark {w : World} {p : Nat} {mk tt : Int} {r : Nat → Value} {L : Nat → List Value} (h : QF w p mk tt r L) (m' : Int) : QF (w.setCell ⟨p, 0, none⟩ (.int .i64 m')) p m' tt r L := by
  have c : Chg (fun k => k = p) w (w.setCell ⟨p, 0, none⟩ (.int .i64 m')) := Chg.setCell (S := fun k => k = p) (Chg.refl _ w) (p := ⟨p, 0, none⟩) rfl _
  refine ⟨?_, fun i hi => owns_chg (h.row i hi) (fun k hk e => own_kind (h.row i hi) h.st (by decide) (by rw [hk, e])) c, h.sep⟩
  rw [set_atL h.st]; rfl
theorem QF.tot {w : World} {p : Nat} {mk tt : Int} {r : Nat → Value} {L : Nat → List Value} (h : QF w p mk tt r L) (t' : Int) : QF (w.setCell ⟨p, 1, none⟩ (.int .i64 t')) p mk t' r L := by
  have c : Chg (fun k => k = p) w (w.setCell ⟨p, 1, none⟩ (.int .i64 t')) := Chg.setCell (S := fun k => k = p) (Chg.refl _ w) (p := ⟨p, 1, none⟩) rfl _
  refine ⟨?_, fun i hi => owns_chg (h.row i hi) (fun k hk e => own_kind (h.row i hi) h.st (by decide) (by rw [hk, e])) c, h.sep⟩
  rw [set_atL h.st]; rfl
/-- a row is done away with, or cut -/
theorem QF.cut {w : World} {p : Nat} {mk tt : Int} {r : Nat → Value} {L : Nat → List Value} (h : QF w p mk tt r L) (j : Nat) (hj : j < 4) (v : Value) (X : List Value) (hv : w.ownsRow 0 30 1 v X.length X) (hb : ∀ b, v.ownBlock = some b → (r j).ownBlock = some b) : QF (w.setCell ⟨p, 3 + j, none⟩ v) p mk tt (upd r j v) (upd L j X) := by
  refine QF.store h.st j hj _ _ (fun i hi => ?_) (fun i k b hi hk hne hib hkb => ?_)
  · unfold upd
    by_cases hij : i = j
    · rw [if_pos hij, if_pos hij]; exact hv
    · rw [if_neg hij, if_neg hij]; exact h.row i hi
  · unfold upd at hib hkb
    by_cases hij : i = j
    · rw [if_pos hij] at hib
      rw [if_neg (fun e => hne (hij.trans e.symm))] at hkb
      exact h.sep k j b hk hj (fun e => hne (hij.trans e.symm)) hkb (hb b hib)
    · by_cases hkj : k = j
      · rw [if_pos hkj] at hkb
        rw [if_neg hij] at hib
        exact h.sep i j b hi hj hij hib (hb b hkb)
      · rw [if_neg hij] at hib; rw [if_neg hkj] at hkb; exact h.sep i k b hi hk hne hib hkb
/-- the beginning of a row -/
theorem row_take {B : Nat} {w : World} {e : TypeId} {a : Option Addr} {n c k : Nat} {xs : List Value} (h : w.ownsRow B e 1 (.slice a n c) n xs) (hk : k ≤ n) : w.ownsRow B e 1 (.slice a k c) (xs.take k).length (xs.take k) := by
  have hl := h.1
  have hlt : (xs.take k).length = k := by rw [List.length_take]; omega
  rw [hlt]
  refine ⟨by omega, ?_⟩
  rcases h.2 with ⟨e1, h0⟩ | ⟨g, cap, cur, e1, hb, hg, hn, hm, hs, ht⟩
  · simp only [Value.slice.injEq] at e1
    obtain ⟨rfl, rfl, rfl⟩ := e1
    obtain rfl : k = 0 := by omega
    exact .inl ⟨rfl, rfl⟩
  · simp only [Value.slice.injEq] at e1
    obtain ⟨rfl, _, rfl⟩ := e1
    exact .inr ⟨g, c, cur, rfl, hb, hg, by omega, hm, hs, by rw [← ht, List.take_take]; congr 1; omega⟩
def WFQ (p : Nat) (r0 : Nat → Value) (F : List Value) (b : Nat) : Prop := b = p ∨ (r0 2).ownBlock = some b ∨ (r0 3).ownBlock = some b ∨ ∃ x ∈ F, x.ownBlock = some b
/-- each list has a block of its own -/
def DstQ (F : List Value) : Prop := ∀ (i j : Nat) x y, F[i]? = some x → F[j]? = some y → ¬ i = j → ∀ b, x.ownBlock = some b → ¬ y.ownBlock = some b
/-- the blocks of the lists that were known -/
def KnQ (w : World) (r0 : Nat → Value) (F : List Value) (b : Nat) : Prop := (∃ j, (j = 2 ∨ j = 3) ∧ ∃ X y, w.ownsRow 0 30 1 (r0 j) X.length X ∧ y ∈ X ∧ y.ownBlock = some b) ∨ ∃ x ∈ F, x.ownBlock = some b
/-- amid the writing: of the kept lists K, W are those that stay; P, R those that are grown; the lists ahead of lo may lie among K, those from plo on lie apart from P, R -/
structure WQr (w : World) (p : Nat) (tt : Int) (r0 : Nat → Value) (fa : Value) (F : List Value) (wr : World) (mk : Int) (r : Nat → Value) (L : Nat → List Value) (K W P R : List Value) (lo plo : Nat) : Prop where
  sh : QF wr p mk tt r L
  n0 : L 0 = []
  n1 : L 1 = []
  z0 : r 0 = .slice none 0 0
  z1 : r 1 = .slice none 0 0
  l2 : L 2 = K ++ P
  l3 : L 3 = W ++ R
  lr : wr.ownsRow 0 30 1 fa F.length F
  ls : ∀ j b, j = 2 ∨ j = 3 → fa.ownBlock = some b → ¬ (r j).ownBlock = some b
  kl : W.length = K.length
  pl : R.length = P.length
  pr : PrQ wr K W
  pp : PrQ wr P R
  kf : ∀ (l : Nat) y b, K[l]? = some y → y.ownBlock = some b → ∀ (j : Nat) x, F[j]? = some x → x.ownBlock = some b → j < lo ∧ y = x
  kw : ∀ (l : Nat) y b, W[l]? = some y → y.ownBlock = some b → ∀ (j : Nat) x, F[j]? = some x → ¬ x.ownBlock = some b
  pf : ∀ (l : Nat) y b, P[l]? = some y ∨ R[l]? = some y → y.ownBlock = some b → ∀ (j : Nat) x, plo ≤ j → F[j]? = some x → ¬ x.ownBlock = some b
  fm : ∀ (j : Nat) x, F[j]? = some x → ∃ N : List Ins, N.length ≤ 100000000 ∧ OwI 0 x N wr
  fb : ∀ x ∈ F, ∀ b, x.ownBlock = some b → b < w.heap.size
  b2 : ∀ b, (r 2).ownBlock = some b → (r0 2).ownBlock = some b ∨ w.heap.size ≤ b
  b3 : ∀ b, (r 3).ownBlock = some b → (r0 3).ownBlock = some b ∨ w.heap.size ≤ b
  pv : ∀ y b, (y ∈ K ++ P ∨ y ∈ W ++ R) → y.ownBlock = some b → w.heap.size ≤ b ∨ KnQ w r0 F b
  chg : Chg (WFQ p r0 F) w wr
def WQ (w : World) (p : Nat) (tt : Int) (r0 : Nat → Value) (fa : Value) (F : List Value) (wr : World) (mk : Int) (K W P R : List Value) (lo plo : Nat) : Prop := ∃ r L, WQr w p tt r0 fa F wr mk r L K W P R lo plo
theorem own_uniq {B B' k n m : Nat} {w : World} {e : TypeId} {v : Value} {X Y : List Value} (h : w.ownsRow B e k v n X) (h' : w.ownsRow B' e k v m Y) : X = Y := by
  have hl := h.1
  have hl' := h'.1
  rcases h.2 with ⟨e1, n0⟩ | ⟨g, cap, cur, e1, _, hg, _, _, _, ht⟩
  · rcases h'.2 with ⟨e2, m0⟩ | ⟨g', cap', cur', e2, _⟩
    · subst n0 m0
      rw [Nat.zero_mul] at hl hl'
      rw [List.eq_nil_of_length_eq_zero hl, List.eq_nil_of_length_eq_zero hl']
    · rw [e1] at e2; cases e2
  · rcases h'.2 with ⟨e2, m0⟩ | ⟨g', cap', cur', e2, _, hg', _, _, _, ht'⟩
    · rw [e1] at e2; cases e2
    · rw [e1] at e2
      simp only [Value.slice.injEq, Option.some.injEq, Addr.mk.injEq] at e2
      obtain ⟨⟨rfl, _⟩, rfl, _⟩ := e2
      rw [hg] at hg'
      simp only [Option.some.injEq, Obj.cells.injEq] at hg'
      rw [← ht, ← ht', hg'.1]
section
variable {w : World} {p : Nat} {tt : Int} {r0 : Nat → Value} {fa : Value} {F : List Value} {wr w' : World} {mk : Int} {K W P R : List Value} {lo plo : Nat}
theorem WQ.out (h : WQ w p tt r0 fa F wr mk K W P R lo plo) (o : Out wr w') : WQ w p tt r0 fa F w' mk K W P R lo plo := by
  obtain ⟨r, L, h⟩ := h
  exact ⟨r, L, h.sh.out o, h.n0, h.n1, h.z0, h.z1, h.l2, h.l3, own_at h.lr o, h.ls, h.kl, h.pl, h.pr.out o, h.pp.out o, h.kf, h.kw, h.pf, fun j x hx => by
    obtain ⟨N, h1, h2⟩ := h.fm j x hx
    exact ⟨N, h1, h2.out o⟩, h.fb, h.b2, h.b3, h.pv, h.chg.then_out o⟩
theorem WQ.kown (h : WQ w p tt r0 fa F wr mk K W P R lo plo) {l : Nat} {y z : Value} (hy : K[l]? = some y) (hz : W[l]? = some z) : ∃ N : List Ins, N.length ≤ 1000000000000 ∧ OwI 0 y N wr ∧ OwI 0 z N wr := by
  obtain ⟨r, L, h⟩ := h
  obtain ⟨N, _, _, _, _, _, _, o1, o2, hb⟩ := h.pr l y z hy hz
  exact ⟨N, hb, o1, o2⟩
/-- the list in place i turns: nothing that is kept lies in it -/
theorem WQ.turnA (h : WQ w p tt r0 fa F wr mk K W [] [] lo plo) (hd : DstQ F) {i : Nat} {f : Value} {N : List Ins} (hf : F[i]? = some f) (hlo : lo ≤ i) (c : Chg (fun b => f.ownBlock = some b) wr w') (hN : N.length ≤ 100000000) (ho : OwI 0 f N w') : WQ w p tt r0 fa F w' mk K W [] [] lo plo := by
  obtain ⟨r, L, h⟩ := h
  obtain ⟨N0, _, ho0⟩ := h.fm i f hf
  refine ⟨r, L, h.sh.ins c (fun b _ hb => (own_blkQ ho0 hb).2), h.n0, h.n1, h.z0, h.z1, h.l2, h.l3, owns_chg h.lr (fun k hk hs => own_kind h.lr (own_blkQ ho0 hs).2.choose_spec (by decide) hk) c, h.ls, h.kl, h.pl, ?_, (fun i x y hx => by simp at hx), h.kf, h.kw, h.pf, fun j x hx => ?_, h.fb, h.b2, h.b3, h.pv, h.chg.trans c (fun b hb _ => .inr (.inr (.inr ⟨f, List.mem_of_getElem? hf, hb⟩)))⟩
  · intro l y z hy hz
    obtain ⟨M, a1, c1, a2, c2, e1, e2, o1, o2, hb⟩ := h.pr l y z hy hz
    refine ⟨M, a1, c1, a2, c2, e1, e2, o1.chg c (fun b hb hs => ?_), o2.chg c (fun b hb hs => h.kw l z b hz hb i f hf hs), hb⟩
    have := (h.kf l y b hy hb i f hf hs).1
    omega
  · by_cases hji : j = i
    · subst hji
      rw [hf] at hx
      obtain rfl := Option.some.inj hx
      exact ⟨N, hN, ho⟩
    · obtain ⟨N1, h1, h2⟩ := h.fm j x hx
      exact ⟨N1, h1, h2.chg c (fun b hb hs => hd j i x f hx hf hji b hb hs)⟩
/-- behind the list in place i its block is grown into -/
theorem WQ.turnB (h : WQ w p tt r0 fa F wr mk K W P R lo plo) (hd : DstQ F) {i n : Nat} {f : Value} (hf : F[i]? = some f) (hlo : plo ≤ i) (hn : ∀ M, OwI 0 f M wr → M.length = n) (c : Chg (fun b => f.ownBlock = some b) wr w') (pre : ∀ B v M, OwI B v M wr → M.length ≤ n → OwI B v M w') : WQ w p tt r0 fa F w' mk K W P R lo plo := by
  obtain ⟨r, L, h⟩ := h
  obtain ⟨N0, _, ho0⟩ := h.fm i f hf
  refine ⟨r, L, h.sh.ins c (fun b _ hb => (own_blkQ ho0 hb).2), h.n0, h.n1, h.z0, h.z1, h.l2, h.l3, owns_chg h.lr (fun k hk hs => own_kind h.lr (own_blkQ ho0 hs).2.choose_spec (by decide) hk) c, h.ls, h.kl, h.pl, ?_, ?_, h.kf, h.kw, h.pf, fun j x hx => ?_, h.fb, h.b2, h.b3, h.pv, h.chg.trans c (fun b hb _ => .inr (.inr (.inr ⟨f, List.mem_of_getElem? hf, hb⟩)))⟩
  · intro l y z hy hz
    obtain ⟨M, a1, c1, a2, c2, e1, e2, o1, o2, hb⟩ := h.pr l y z hy hz
    refine ⟨M, a1, c1, a2, c2, e1, e2, ?_, o2.chg c (fun b hb hs => h.kw l z b hz hb i f hf hs), hb⟩
    by_cases hyf : y = f
    · rw [hyf] at o1 ⊢
      exact pre 0 f M o1 (Nat.le_of_eq (hn M o1))
    · exact o1.chg c (fun b hb hs => hyf (h.kf l y b hy hb i f hf hs).2)
  · exact h.pp.chg c (fun l y b hy hb hs => h.pf l y b hy hb i f hlo hf hs)
  · by_cases hji : j = i
    · subst hji
      rw [hf] at hx
      obtain rfl := Option.some.inj hx
      obtain ⟨N1, h1, h2⟩ := h.fm j f hf
      exact ⟨N1, h1, pre 0 f N1 h2 (Nat.le_of_eq (hn N1 h2))⟩
    · obtain ⟨N1, h1, h2⟩ := h.fm j x hx
      exact ⟨N1, h1, h2.chg c (fun b hb hs => hd j i x f hx hf hji b hb hs)⟩
theorem WQ.up (h : WQ w p tt r0 fa F wr mk K W P R lo plo) {lo' plo' : Nat} (h1 : lo ≤ lo') (h2 : plo ≤ plo') : WQ w p tt r0 fa F wr mk K W P R lo' plo' := by
  obtain ⟨r, L, h⟩ := h
  exact ⟨r, L, h.sh, h.n0, h.n1, h.z0, h.z1, h.l2, h.l3, h.lr, h.ls, h.kl, h.pl, h.pr, h.pp, fun l y b hy hb j x hx hxb => by
    have := h.kf l y b hy hb j x hx hxb
    exact ⟨by omega, this.2⟩, h.kw, fun l y b hy hb j x hj hx => h.pf l y b hy hb j x (by omega) hx, h.fm, h.fb, h.b2, h.b3, h.pv, h.chg⟩
/-- a pair is kept -/
theorem WQ.keep (h : WQ w p tt r0 fa F wr mk K W P R lo plo) (hK : K.length + P.length ≤ 1000000000000) {a a' : Option Addr} {n c c' : Nat} {N : List Ins} (hN : N.length ≤ 1000000000000) (h1 : OwI 0 (.slice a n c) N wr) (h2 : OwI 0 (.slice a' n c') N wr) (plo' : Nat) (hpl : plo ≤ plo') (g1 : ∀ b, (Value.slice a n c).ownBlock = some b → ∀ (j : Nat) z, plo' ≤ j → F[j]? = some z → ¬ z.ownBlock = some b) (g2 : ∀ b, (Value.slice a' n c').ownBlock = some b → ∀ (j : Nat) z, plo' ≤ j → F[j]? = some z → ¬ z.ownBlock = some b) (k1 : ∀ b, (Value.slice a n c).ownBlock = some b → w.heap.size ≤ b ∨ KnQ w r0 F b) (k2 : ∀ b, (Value.slice a' n c').ownBlock = some b → w.heap.size ≤ b ∨ KnQ w r0 F b) :
    Calls Tryd.prog 33 #[.pointer (some ⟨p, 0, none⟩), .slice a n c, .slice a' n c'] wr fun e w' => (∃ q, e = .returned q) ∧ WQ w p tt r0 fa F w' mk K W (P ++ [.slice a n c]) (R ++ [.slice a' n c']) lo plo' ∧ (∀ B v N, OwI B v N wr → OwI B v N w') ∧ wr.heap.size ≤ w'.heap.size := by
  obtain ⟨r, L, h⟩ := h
  refine (keepQ_any wr p mk tt r L h.sh (by rw [h.l2, List.length_append]; exact hK) (by rw [h.l2, h.l3, List.length_append, List.length_append, h.kl, h.pl]) a a' n c n c').mono ?_
  rintro e w' ⟨he, v2, v3, hS, hC, hv2, hv3⟩
  have keep : ∀ B v N, OwI B v N wr → OwI B v N w' := fun B v N hv => hv.chg hC (fun b hb hs => h.sh.soq hv hb hs)
  have kpp : ∀ X Y, PrQ wr X Y → PrQ w' X Y := fun X Y hp i x y hx hy => by
    obtain ⟨N, a1, c1, a2, c2, e1, e2, o1, o2, hb⟩ := hp i x y hx hy
    exact ⟨N, a1, c1, a2, c2, e1, e2, keep _ _ _ o1, keep _ _ _ o2, hb⟩
  have hz := h.chg.size
  have hflt : ∀ b, fa.ownBlock = some b → b < wr.heap.size := fun b hb => (own_blkQ h.lr hb).1
  obtain ⟨ax, cx, ex⟩ := own_form h1
  obtain ⟨ay, cy, ey⟩ := own_form h2
  refine ⟨he, ⟨_, _, hS, h.n0, h.n1, h.z0, h.z1, ?_, ?_, owns_chg h.lr (fun k hk hs => ?_) hC, ?_, h.kl, by simp [h.pl], kpp _ _ h.pr, ?_, h.kf, h.kw, ?_, fun j x hx => ?_, h.fb, ?_, ?_, ?_, ?_⟩, keep, hC.size⟩
  · show L 2 ++ _ = _; rw [h.l2, List.append_assoc]
  · show L 3 ++ _ = _; rw [h.l3, List.append_assoc]
  · rcases hs with e | e | e
    · exact own_kind h.lr h.sh.st (by decide) (by rw [hk, e])
    · exact h.ls 2 k (.inl rfl) hk e
    · exact h.ls 3 k (.inr rfl) hk e
  · intro j b hj hb hr
    rcases hj with rfl | rfl
    · rcases hv2 b hr with e | e
      · exact h.ls 2 b (.inl rfl) hb e
      · have := hflt b hb; omega
    · rcases hv3 b hr with e | e
      · exact h.ls 3 b (.inr rfl) hb e
      · have := hflt b hb; omega
  · intro i y z hy hz2
    by_cases hi : i < P.length
    · rw [List.getElem?_append_left hi] at hy
      rw [List.getElem?_append_left (by rw [h.pl]; exact hi)] at hz2
      exact kpp _ _ h.pp i y z hy hz2
    · have hie : i - P.length = 0 := by have := (List.getElem?_eq_some_iff.1 hy).1; simp at this; omega
      rw [List.getElem?_append_right (by omega), hie] at hy
      rw [List.getElem?_append_right (by rw [h.pl]; omega), h.pl, hie] at hz2
      simp at hy hz2
      subst hy hz2
      exact ⟨N, ax, cx, ay, cy, ex, ey, keep _ _ _ h1, keep _ _ _ h2, hN⟩
  · intro l y b hy hb j x hj hx
    rcases hy with hy | hy
    · by_cases hi : l < P.length
      · rw [List.getElem?_append_left hi] at hy
        exact h.pf l y b (.inl hy) hb j x (by omega) hx
      · have hie : l - P.length = 0 := by have := (List.getElem?_eq_some_iff.1 hy).1; simp at this; omega
        rw [List.getElem?_append_right (by omega), hie] at hy
        simp at hy
        subst hy
        exact g1 b hb j x hj hx
    · by_cases hi : l < R.length
      · rw [List.getElem?_append_left hi] at hy
        exact h.pf l y b (.inr hy) hb j x (by omega) hx
      · have hie : l - R.length = 0 := by have := (List.getElem?_eq_some_iff.1 hy).1; simp at this; omega
        rw [List.getElem?_append_right (by omega), hie] at hy
        simp at hy
        subst hy
        exact g2 b hb j x hj hx
  · obtain ⟨N1, h4, h5⟩ := h.fm j x hx
    exact ⟨N1, h4, keep _ _ _ h5⟩
  · intro b hb
    rcases hv2 b hb with h9 | h9
    · exact h.b2 b h9
    · right; omega
  · intro b hb
    rcases hv3 b hb with h9 | h9
    · exact h.b3 b h9
    · right; omega
  · intro y b hy hb
    rw [← List.append_assoc, ← List.append_assoc] at hy
    rcases hy with hy | hy
    · rcases List.mem_append.1 hy with hy | hy
      · exact h.pv y b (.inl hy) hb
      · rw [List.mem_singleton.1 hy] at hb; exact k1 b hb
    · rcases List.mem_append.1 hy with hy | hy
      · exact h.pv y b (.inr hy) hb
      · rw [List.mem_singleton.1 hy] at hb; exact k2 b hb
  · refine h.chg.trans hC (fun b hb hlt => ?_)
    rcases hb with e | e | e
    · exact .inl e
    · rcases h.b2 b e with h9 | h9
      · exact .inr (.inl h9)
      · omega
    · rcases h.b3 b e with h9 | h9
      · exact .inr (.inr (.inl h9))
      · omega
/-- the list in place i itself, kept, stays -/
theorem WQ.rest {f y : Value} (h : WQ w p tt r0 fa F wr mk K W [f] [y] lo plo) (hf : F[lo]? = some f) (hd : DstQ F) (hy : ∀ b, y.ownBlock = some b → w.heap.size ≤ b) : WQ w p tt r0 fa F wr mk (K ++ [f]) (W ++ [y]) [] [] (lo + 1) 0 := by
  obtain ⟨r, L, h⟩ := h
  obtain ⟨N, a1, c1, a2, c2, e1, e2, o1, o2, hb⟩ := h.pp 0 f y rfl rfl
  refine ⟨r, L, h.sh, h.n0, h.n1, h.z0, h.z1, by rw [h.l2]; simp, by rw [h.l3]; simp, h.lr, h.ls, by simp [h.kl], rfl, ?_, (fun i x y hx => by simp at hx), ?_, ?_, (fun l y b hy => by simp at hy), h.fm, h.fb, h.b2, h.b3, (by simpa using h.pv), h.chg⟩
  · intro i u z hu hz
    by_cases hi : i < K.length
    · rw [List.getElem?_append_left hi] at hu
      rw [List.getElem?_append_left (by rw [h.kl]; exact hi)] at hz
      exact h.pr i u z hu hz
    · have hie : i - K.length = 0 := by have := (List.getElem?_eq_some_iff.1 hu).1; simp at this; omega
      rw [List.getElem?_append_right (by omega), hie] at hu
      rw [List.getElem?_append_right (by rw [h.kl]; omega), h.kl, hie] at hz
      simp at hu hz
      subst hu hz
      exact ⟨N, a1, c1, a2, c2, e1, e2, o1, o2, hb⟩
  · intro l u b hu hb j x hx hxb
    by_cases hi : l < K.length
    · rw [List.getElem?_append_left hi] at hu
      have := h.kf l u b hu hb j x hx hxb
      exact ⟨by omega, this.2⟩
    · have hie : l - K.length = 0 := by have := (List.getElem?_eq_some_iff.1 hu).1; simp at this; omega
      rw [List.getElem?_append_right (by omega), hie] at hu
      simp at hu
      subst hu
      by_cases hj : j = lo
      · subst hj
        rw [hf] at hx
        exact ⟨by omega, Option.some.inj hx⟩
      · exact absurd hxb (hd lo j f x hf hx (fun e => hj e.symm) b hb)
  · intro l u b hu hb j x hx hxb
    by_cases hi : l < W.length
    · rw [List.getElem?_append_left hi] at hu
      exact h.kw l u b hu hb j x hx hxb
    · have hie : l - W.length = 0 := by have := (List.getElem?_eq_some_iff.1 hu).1; simp at this; omega
      rw [List.getElem?_append_right (by omega), hie] at hu
      simp at hu
      subst hu
      have h1 := hy b hb
      have h2 := h.fb x (List.mem_of_getElem? hx) b hxb
      omega
end
end Go.Proofs.YtgephenkbbelcaaDoor
