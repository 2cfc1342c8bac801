import Derived.Test.YtbdmbicnlfcclaaSqf
namespace Go.Proofs.Ytbdmbicnlfcclaa
open Go.RowKit
set_option linter.unusedVariables false
set_option linter.unusedSimpArgs false
theorem ExS.kp {w w' : World} {v : Value} {n : Nat} (h : ExS w v n) (k : ∀ B v N, OwS B v N w → OwS B v N w') : ExS w' v n := by
  obtain ⟨M, h1, h2⟩ := h
  exact ⟨M, h1, k _ _ _ h2⟩
theorem App6.form0 {w w' : World} {v v' : Value} {zs : List Sy} (h : App6 w w' v v' [] zs) {m : Nat} (hm : zs.length = m) : ∃ a c, v' = .slice a m c := by
  obtain ⟨a, c, e⟩ := own_form h.own
  exact ⟨a, c, by rw [e, List.nil_append, hm]⟩
/-- within a round, ahead of the keeping: the list f lies as it was -/
structure Rnd (w0 wr : World) (f : Value) (M : List Sy) : Prop where
  own : OwS 0 f M wr
  chg : Chg (fun b => f.ownBlock = some b) w0 wr
theorem Rnd.out {w0 wr w' : World} {f : Value} {M : List Sy} (h : Rnd w0 wr f M) (o : Out wr w') : Rnd w0 w' f M := ⟨h.own.out o, h.chg.then_out o⟩
theorem Rnd.app {w0 wr w' : World} {f g : Value} {M zs : List Sy} (h : Rnd w0 wr f M) (a : App6 wr w' f g M zs) : Rnd w0 w' f M := ⟨a.pre 0 f M h.own (Nat.le_refl _), h.chg.trans a.chg (fun _ hb _ => hb)⟩
/-- where what was grown out of f lies -/
def GBk (w : World) (f g : Value) : Prop := ∀ b, g.ownBlock = some b → f.ownBlock = some b ∨ w.heap.size ≤ b
theorem GBk.app {w wr w' : World} {f g : Value} {M zs : List Sy} (a : App6 wr w' f g M zs) (h : w.heap.size ≤ wr.heap.size) : GBk w f g := fun b hb => by
  rcases a.blk b hb with e | e
  · exact .inl e
  · exact .inr (by omega)
section
variable {w : World} {p : Nat} {tt : Int} {r0 : Nat → Value} {F : List Value} {base : Int} {wr w' : World} {K W P R : List Value} {lo hi : Nat}
/-- the blocks of what is at rest -/
theorem WQ.old (h : WQ w p tt r0 F base wr K W P R lo hi) (l : Nat) (y : Value) (b : Nat) (hy : K[l]? = some y ∨ W[l]? = some y) (hb : y.ownBlock = some b) : b < wr.heap.size := by
  obtain ⟨r, L, h⟩ := h
  rcases hy with hy | hy
  · obtain ⟨z, hz⟩ : ∃ z, W[l]? = some z := ⟨_, List.getElem?_eq_getElem (by rw [h.kl]; exact (List.getElem?_eq_some_iff.1 hy).1)⟩
    obtain ⟨N, _, _, _, _, _, _, o1, _⟩ := h.pr l y z hy hz
    exact (own_blkQ o1 hb).1
  · obtain ⟨z, hz⟩ : ∃ z, K[l]? = some z := ⟨_, List.getElem?_eq_getElem (by rw [← h.kl]; exact (List.getElem?_eq_some_iff.1 hy).1)⟩
    obtain ⟨N, _, _, _, _, _, _, _, o2, _⟩ := h.pr l z y hz hy
    exact (own_blkQ o2 hb).1
/-- the list in place i turns, and newer ones -/
theorem WQ.turn2 (h : WQ w p tt r0 F base wr K W P R lo hi) (hd : DstQ F) {i : Nat} {f : Value} {S : Nat → Prop} {M : List Sy} (hf : F[i]? = some f) (hlo : lo ≤ i) (c : Chg S wr w') (hS : ∀ b, b < wr.heap.size → S b → f.ownBlock = some b ∨ (w.heap.size ≤ b ∧ (∀ (l : Nat) y, K[l]? = some y ∨ W[l]? = some y → ¬ y.ownBlock = some b) ∧ ∃ cs, wr.heap[b]? = some (.cells cs 57 (0, 0)))) (hM : M.length ≤ 100000000000) (ho : OwS 0 f M w') (hm : i < hi → M = mks (base + i) 0 M.length) : WQ w p tt r0 F base w' K W P R lo hi := by
  have hold := h.old
  obtain ⟨r, L, h⟩ := h
  obtain ⟨N0, _, ho0, _⟩ := h.fm i f hlo hf
  have hsz := h.chg.size
  refine ⟨r, L, h.sh.sym c (fun b hb hs => ?_), h.r0_, h.l0, h.l2, h.l3, h.kl, h.pl, h.pr.chg c (fun l y b hy hb hs => ?_), h.ks, fun j x hj hx => ?_, h.fb, h.b2, h.b3, h.chg.trans c (fun b hs hb => ?_)⟩
  · rcases hS b hb hs with e | ⟨_, _, e⟩
    · exact (own_blkQ ho0 e).2
    · exact e
  · rcases hS b (hold l y b hy hb) hs with e | ⟨_, e, _⟩
    · exact h.ks l y b hy hb i f hlo hf e
    · exact e l y hy hb
  · by_cases hji : j = i
    · subst hji
      rw [hf] at hx
      obtain rfl := Option.some.inj hx
      exact ⟨M, hM, ho, hm⟩
    · obtain ⟨N1, h1, h2, h3⟩ := h.fm j x hj hx
      refine ⟨N1, h1, h2.chg c (fun b hb hs => ?_), h3⟩
      rcases hS b (own_blkQ h2 hb).1 hs with e | ⟨e, _⟩
      · exact hd j i x f hx hf hji b hb e
      · have := h.fb x (List.mem_of_getElem? hx) b hb
        omega
  · rcases hS b (by omega) hs with e | ⟨e, _⟩
    · exact .inr (.inr (.inr ⟨f, List.mem_of_getElem? hf, e⟩))
    · omega
/-- a pair is kept, and at rest -/
theorem WQ.keepRest (h : WQ w p tt r0 F base wr K W [] [] lo hi) (hd : DstQ F) {i : Nat} {f : Value} (hf : F[i]? = some f) (hlo : i < lo) (hK : K.length ≤ 1000000000000) {a a' : Option Addr} {n c c' : Nat} {N : List Sy} (hn : N.length ≤ 1000000000000) (h1 : OwS 0 (.slice a n c) N wr) (h2 : OwS 0 (.slice a' n c') N wr) (g1 : GBk w f (.slice a n c)) (g2 : ∀ b, (Value.slice a' n c').ownBlock = some b → w.heap.size ≤ b) :
    Calls Try.prog 54 #[.pointer (some ⟨p, 0, none⟩), .slice a n c, .slice a' n c'] wr fun e w' => (∃ q, e = .returned q) ∧ WQ w p tt r0 F base w' (K ++ [.slice a n c]) (W ++ [.slice a' n c']) [] [] lo hi ∧ (∀ B v N, OwS B v N wr → OwS B v N w') := by
  refine (h.keep (by simpa using hK) a a' n c n c').mono ?_
  rintro e w' ⟨he, hw, hk, _⟩
  refine ⟨he, hw.rest hn (hk _ _ _ h1) (hk _ _ _ h2) (fun b hb j z hj hz => ?_) (fun b hb j z hj hz => hw.new (g2 b hb) j z hz), hk⟩
  rcases g1 b hb with e | e
  · exact fun e2 => hd j i z f hz hf (by omega) b e2 e
  · exact hw.new e j z hz
end
/-- amid the growing place by place -/
structure Lp6 (wB wq : World) (T0 : Nat → Prop) (f g t u g1 g2 g3 mo : Value) (M N : List Sy) (n R : Nat) : Prop where
  gown : OwS 0 g N wq
  town : OwS 0 t N wq
  fown : OwS 0 f M wq
  uown : OwS 0 u M wq
  e1 : ExS wq g1 (n + 1)
  e2 : ExS wq g2 (n + 2)
  e3 : ExS wq g3 (n + R)
  em : ExS wq mo R
  chg : Chg (fun b => f.ownBlock = some b ∨ T0 b) wB wq
  tb : ∀ b, t.ownBlock = some b → T0 b ∨ wB.heap.size ≤ b
  fg : ∀ b, g.ownBlock = some b → f.ownBlock = some b ∨ wB.heap.size ≤ b
  ne : ∀ b, g.ownBlock = some b → ¬ t.ownBlock = some b
  ml : M.length ≤ N.length
section
variable {wB wq w' : World} {T0 : Nat → Prop} {f g t u g1 g2 g3 mo g' t' : Value} {M N : List Sy} {n R : Nat} {z : Sy}
theorem Lp6.out (h : Lp6 wB wq T0 f g t u g1 g2 g3 mo M N n R) (o : Out wq w') : Lp6 wB w' T0 f g t u g1 g2 g3 mo M N n R :=
  ⟨h.gown.out o, h.town.out o, h.fown.out o, h.uown.out o, h.e1.out o, h.e2.out o, h.e3.out o, h.em.out o, h.chg.then_out o, h.tb, h.fg, h.ne, h.ml⟩
/-- one place more -/
theorem Lp6.step {wA wT : World} (h : Lp6 wB wq T0 f g t u g1 g2 g3 mo M N n R) (a : App6 wq wA g g' N [z]) (o : Out wA wT) (b : App6 wT w' t t' N [z]) : Lp6 wB w' T0 f g' t' u g1 g2 g3 mo M (N ++ [z]) n R := by
  have hs1 := h.chg.size
  have hs2 := a.chg.size
  have hs3 := o.size
  have tA : OwS 0 t N wT := (a.pre 0 t N h.town (Nat.le_refl _)).out o
  have gA : OwS 0 g' (N ++ [z]) wT := a.own.out o
  have ne1 : ∀ b, g'.ownBlock = some b → ¬ t.ownBlock = some b := fun b hb ht => by
    rcases a.blk b hb with e | e
    · exact h.ne b e ht
    · have := (own_blkQ h.town ht).1; omega
  refine ⟨gA.chg b.chg ne1, b.own, b.pre 0 f M ((a.pre 0 f M h.fown h.ml).out o) h.ml, b.pre 0 u M ((a.pre 0 u M h.uown h.ml).out o) h.ml, ((h.e1.app a).out o).app b, ((h.e2.app a).out o).app b, ((h.e3.app a).out o).app b, ((h.em.app a).out o).app b,
    ((h.chg.trans a.chg (fun k hk hlt => ?_)).then_out o).trans b.chg (fun k hk hlt => ?_), fun k hk => ?_, fun k hk => ?_, fun k hk ht => ?_, by have := h.ml; simp; omega⟩
  · rcases h.fg k hk with e | e
    · exact .inl e
    · omega
  · rcases h.tb k hk with e | e
    · exact .inr e
    · omega
  · rcases b.blk k hk with e | e
    · exact h.tb k e
    · exact .inr (by omega)
  · rcases a.blk k hk with e | e
    · exact h.fg k e
    · exact .inr (by omega)
  · rcases b.blk k ht with e | e
    · exact ne1 k hk e
    · have := (own_blkQ gA hk).1; omega
end
end Go.Proofs.Ytbdmbicnlfcclaa
