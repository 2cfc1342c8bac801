import Derived.Test.YtbdmbicnlfcclaaSqc
namespace Go.Proofs.Ytbdmbicnlfcclaa
open Go.RowKit
set_option linter.unusedVariables false
set_option linter.unusedSimpArgs false
/-- what stands in a place that was written over -/
def mk6 (l k : Int) : Sy := ⟨-1 - l, k, 7, l, k + l, 9⟩
def mks (l a : Int) (n : Nat) : List Sy := (List.range n).map (fun (k : Nat) => mk6 l (a + (k : Int)))
theorem mks_len (l a : Int) (n : Nat) : (mks l a n).length = n := by simp [mks]
theorem mks_succ (l a : Int) (n : Nat) : mks l a (n + 1) = mks l a n ++ [mk6 l (a + n)] := by simp [mks, List.range_succ]
theorem mks_get (l a : Int) {n k : Nat} (h : k < n) : (mks l a n)[k]? = some (mk6 l (a + k)) := by simp [mks, h]
set_option maxRecDepth 20000 in
theorem mark6_any (l k : Int) (h0 : -1000 ≤ l) (h1 : l ≤ 1000000000000000) (k0 : -1000 ≤ k) (k1 : k ≤ 1000000000000000) (w : World) : Calls Try.prog 53 #[.int .i64 l, .int .i64 k] w fun e w' => e = .returned (.agg #[.int .i64 (-1 - l), .int .i64 k, .int .i64 7, .int .i64 l, .int .i64 (k + l), .int .i64 9]) ∧ Out w w' := by
  go_enter Try.func53, Try.ntmps53
  go_wp2
  refine bodyPost_ret (results_cell_row rfl _ _ w.heap.size 57 _ (0, 0) _ rfl (heap_alloc_new _ _) Try.underlying57 rfl (by kernel_rfl)) rfl ?_
  exact ⟨rfl, Out.alloc (Out.refl _) _⟩
/-- some symbols -/
def ExS (w : World) (v : Value) (n : Nat) : Prop := ∃ M : List Sy, M.length = n ∧ OwS 0 v M w
theorem ExS.out {w w' : World} {v : Value} {n : Nat} (h : ExS w v n) (o : Out w w') : ExS w' v n := by
  obtain ⟨M, h1, h2⟩ := h
  exact ⟨M, h1, h2.out o⟩
theorem ExS.app {w w' : World} {v u u' : Value} {n : Nat} {L zs : List Sy} (h : ExS w v n) (a : App6 w w' u u' L zs) : ExS w' v n := by
  obtain ⟨M, h1, h2⟩ := h
  obtain ⟨M', h3, h4⟩ := a.ex 0 v M h2
  exact ⟨M', by omega, h4⟩
theorem ExS.form {w : World} {v : Value} {n : Nat} (h : ExS w v n) : ∃ a c, v = .slice a n c := by
  obtain ⟨M, rfl, h⟩ := h
  exact own_form h
theorem own_blkQ {B s n : Nat} {w : World} {e : TypeId} {v : Value} {xs : List Value} (h : w.ownsRow B e s v n xs) {b : Nat} (hb : v.ownBlock = some b) : b < w.heap.size ∧ ∃ cs, w.heap[b]? = some (.cells cs e (0, 0)) := by
  rcases h.2 with ⟨hv, _⟩ | ⟨g, cap, cur, hv, _, hg, _⟩
  · rw [hv] at hb; cases hb
  · rw [hv] at hb; simp [Value.ownBlock] at hb; subst hb; exact ⟨(Array.getElem?_eq_some_iff.1 hg).1, cur, hg⟩
/-- the queue's own blocks and lists of symbols lie apart -/
theorem QF.soq {w : World} {p : Nat} {tt : Int} {r : Nat → Value} {L : Nat → List Value} (h : QF w p tt r L) {v : Value} {N : List Sy} {B : Nat} (hv : OwS B v N w) {b : Nat} (hb : v.ownBlock = some b) : ¬ SOQ p r b := fun hs => by
  obtain ⟨_, cs, hc⟩ := own_blkQ hv hb
  rcases hs with e | e | e
  · have := h.st; rw [← e, hc] at this; simp at this
  · exact own_kind (h.row 2 (by omega)) hc (by decide) e
  · exact own_kind (h.row 3 (by omega)) hc (by decide) e
/-- only lists of symbols turn -/
theorem QF.sym {w w' : World} {p : Nat} {tt : Int} {r : Nat → Value} {L : Nat → List Value} (h : QF w p tt r L) {S : Nat → Prop} (c : Chg S w w') (hS : ∀ b, b < w.heap.size → S b → ∃ cs, w.heap[b]? = some (.cells cs 57 (0, 0))) : QF w' p tt r L := by
  refine ⟨(c.block p h.lt (fun hs => ?_)).trans h.st, fun j hj => owns_chg (h.row j hj) (fun k hk hs => ?_) c, h.sep⟩
  · obtain ⟨cs, hb⟩ := hS p h.lt hs
    rw [h.st] at hb; simp at hb
  · obtain ⟨cs, hb⟩ := hS k (own_blkQ (h.row j hj) hk).1 hs
    exact own_kind (h.row j hj) hb (by decide) hk
/-- the blocks that a writing writes -/
def WFQ (p : Nat) (r0 : Nat → Value) (F : List Value) (b : Nat) : Prop := b = p ∨ (r0 2).ownBlock = some b ∨ (r0 3).ownBlock = some b ∨ ∃ x ∈ F, x.ownBlock = some b
/-- each list has a block of its own -/
def DstQ (F : List Value) : Prop := ∀ (i j : Nat) x y, F[i]? = some x → F[j]? = some y → ¬ i = j → ∀ b, x.ownBlock = some b → ¬ y.ownBlock = some b
/-- amid the writing: K, W at rest; P, R kept but still under way; the lists from lo on lie as they were handed in, those ahead of hi with marks -/
structure WQr (w : World) (p : Nat) (tt : Int) (r0 : Nat → Value) (F : List Value) (base : Int) (wr : World) (r : Nat → Value) (L : Nat → List Value) (K W P R : List Value) (lo hi : Nat) : Prop where
  sh : QF wr p tt r L
  r0_ : r 0 = r0 0
  l0 : L 0 = F
  l2 : L 2 = K ++ P
  l3 : L 3 = W ++ R
  kl : W.length = K.length
  pl : R.length = P.length
  pr : PrQ wr K W
  ks : ∀ (l : Nat) y b, K[l]? = some y ∨ W[l]? = some y → y.ownBlock = some b → ∀ (j : Nat) x, lo ≤ j → F[j]? = some x → ¬ x.ownBlock = some b
  fm : ∀ (j : Nat) x, lo ≤ j → F[j]? = some x → ∃ N : List Sy, N.length ≤ 100000000000 ∧ OwS 0 x N wr ∧ (j < hi → N = mks (base + j) 0 N.length)
  fb : ∀ x ∈ F, ∀ b, x.ownBlock = some b → b < w.heap.size
  b2 : ∀ b, (r 2).ownBlock = some b → (r0 2).ownBlock = some b ∨ w.heap.size ≤ b
  b3 : ∀ b, (r 3).ownBlock = some b → (r0 3).ownBlock = some b ∨ w.heap.size ≤ b
  chg : Chg (WFQ p r0 F) w wr
def WQ (w : World) (p : Nat) (tt : Int) (r0 : Nat → Value) (F : List Value) (base : Int) (wr : World) (K W P R : List Value) (lo hi : Nat) : Prop := ∃ r L, WQr w p tt r0 F base wr r L K W P R lo hi
section
variable {w : World} {p : Nat} {tt : Int} {r0 : Nat → Value} {F : List Value} {base : Int} {wr w' : World} {K W P R : List Value} {lo hi : Nat}
theorem WQ.out (h : WQ w p tt r0 F base wr K W P R lo hi) (o : Out wr w') : WQ w p tt r0 F base w' K W P R lo hi := by
  obtain ⟨r, L, h⟩ := h
  exact ⟨r, L, h.sh.out o, h.r0_, h.l0, h.l2, h.l3, h.kl, h.pl, h.pr.out o, h.ks, fun j x hj hx => by
    obtain ⟨N, h1, h2, h3⟩ := h.fm j x hj hx
    exact ⟨N, h1, h2.out o, h3⟩, h.fb, h.b2, h.b3, h.chg.then_out o⟩
/-- the list in place i turns -/
theorem WQ.turn (h : WQ w p tt r0 F base wr K W P R lo hi) (hd : DstQ F) {i hi' : Nat} {f : Value} {N : List Sy} (hf : F[i]? = some f) (hlo : lo ≤ i) (c : Chg (fun b => f.ownBlock = some b) wr w') (hN : N.length ≤ 100000000000) (ho : OwS 0 f N w') (hm : i < hi' → N = mks (base + i) 0 N.length) (hh : ∀ j, ¬ j = i → j < hi' → j < hi) : WQ w p tt r0 F base w' K W P R lo hi' := by
  obtain ⟨r, L, h⟩ := h
  obtain ⟨N0, _, ho0, _⟩ := h.fm i f hlo hf
  refine ⟨r, L, h.sh.sym c (fun b _ hb => (own_blkQ ho0 hb).2), h.r0_, h.l0, h.l2, h.l3, h.kl, h.pl, h.pr.chg c (fun l y b hy hb hs => h.ks l y b hy hb i f hlo hf hs), h.ks, fun j x hj hx => ?_, h.fb, h.b2, h.b3, h.chg.trans c (fun b hb _ => .inr (.inr (.inr ⟨f, List.mem_of_getElem? hf, hb⟩)))⟩
  by_cases hji : j = i
  · subst hji
    rw [hf] at hx
    obtain rfl := Option.some.inj hx
    exact ⟨N, hN, ho, hm⟩
  · obtain ⟨N1, h1, h2, h3⟩ := h.fm j x hj hx
    exact ⟨N1, h1, h2.chg c (fun b hb hs => hd j i x f hx hf hji b hb hs), fun hlt => h3 (hh j hji hlt)⟩
theorem WQ.up (h : WQ w p tt r0 F base wr K W P R lo hi) {lo' : Nat} (hl : lo ≤ lo') : WQ w p tt r0 F base wr K W P R lo' hi := by
  obtain ⟨r, L, h⟩ := h
  exact ⟨r, L, h.sh, h.r0_, h.l0, h.l2, h.l3, h.kl, h.pl, h.pr, fun l y b hy hb j x hj hx => h.ks l y b hy hb j x (by omega) hx, fun j x hj hx => h.fm j x (by omega) hx, h.fb, h.b2, h.b3, h.chg⟩
/-- a pair is kept -/
theorem WQ.keep (h : WQ w p tt r0 F base wr K W P R lo hi) (hK : K.length + P.length ≤ 1000000000000) (a a' : Option Addr) (n c n' c' : Nat) :
    Calls Try.prog 54 #[.pointer (some ⟨p, 0, none⟩), .slice a n c, .slice a' n' c'] wr fun e w' => (∃ q, e = .returned q) ∧ WQ w p tt r0 F base w' K W (P ++ [.slice a n c]) (R ++ [.slice a' n' c']) lo hi ∧ (∀ B v N, OwS B v N wr → OwS B v N w') ∧ wr.heap.size ≤ w'.heap.size := by
  obtain ⟨r, L, h⟩ := h
  refine (keepQ_any wr p tt r L h.sh (by rw [h.l2, List.length_append]; exact hK) (by rw [h.l2, h.l3, List.length_append, List.length_append, h.kl, h.pl]) a a' n c n' c').mono ?_
  rintro e w' ⟨he, v2, v3, hS, hC, h2, h3⟩
  have keep : ∀ B v N, OwS B v N wr → OwS B v N w' := fun B v N hv => hv.chg hC (fun b hb hs => h.sh.soq hv hb hs)
  have hz := h.chg.size
  refine ⟨he, ⟨_, _, hS, h.r0_, h.l0, ?_, ?_, h.kl, by simp [h.pl], ?_, h.ks, fun j x hj hx => ?_, h.fb, ?_, ?_, ?_⟩, keep, hC.size⟩
  · show L 2 ++ _ = _; rw [h.l2, List.append_assoc]
  · show L 3 ++ _ = _; rw [h.l3, List.append_assoc]
  · intro i x y hx hy
    obtain ⟨N, a1, c1, a2, c2, e1, e2, o1, o2, hb⟩ := h.pr i x y hx hy
    exact ⟨N, a1, c1, a2, c2, e1, e2, keep _ _ _ o1, keep _ _ _ o2, hb⟩
  · obtain ⟨N, h4, h5, h6⟩ := h.fm j x hj hx
    exact ⟨N, h4, keep _ _ _ h5, h6⟩
  · intro b hb
    rcases h2 b hb with h9 | h9
    · exact h.b2 b h9
    · right; omega
  · intro b hb
    rcases h3 b hb with h9 | h9
    · exact h.b3 b h9
    · right; omega
  · refine h.chg.trans hC (fun b hb hlt => ?_)
    rcases hb with e | e | e
    · exact .inl e
    · rcases h.b2 b e with h9 | h9
      · exact .inr (.inl h9)
      · omega
    · rcases h.b3 b e with h9 | h9
      · exact .inr (.inr (.inl h9))
      · omega
/-- a kept pair comes to rest -/
theorem WQ.rest {x y : Value} (h : WQ w p tt r0 F base wr K W (x :: P) (y :: R) lo hi) {N : List Sy} (hN : N.length ≤ 1000000000000) (h1 : OwS 0 x N wr) (h2 : OwS 0 y N wr) (hx : ∀ b, x.ownBlock = some b → ∀ (j : Nat) z, lo ≤ j → F[j]? = some z → ¬ z.ownBlock = some b) (hy : ∀ b, y.ownBlock = some b → ∀ (j : Nat) z, lo ≤ j → F[j]? = some z → ¬ z.ownBlock = some b) : WQ w p tt r0 F base wr (K ++ [x]) (W ++ [y]) P R lo hi := by
  obtain ⟨r, L, h⟩ := h
  obtain ⟨ax, cx, ex⟩ := own_form h1
  obtain ⟨ay, cy, ey⟩ := own_form h2
  refine ⟨r, L, h.sh, h.r0_, h.l0, by rw [h.l2]; simp, by rw [h.l3]; simp, by simp [h.kl], by have := h.pl; simpa using this, ?_, ?_, h.fm, h.fb, h.b2, h.b3, h.chg⟩
  · intro i u z hu hz
    by_cases hi : i < K.length
    · rw [List.getElem?_append_left hi] at hu
      rw [List.getElem?_append_left (by rw [h.kl]; exact hi)] at hz
      exact h.pr i u z hu hz
    · have hie : i - K.length = 0 := by have := (List.getElem?_eq_some_iff.1 hu).1; simp at this; omega
      rw [List.getElem?_append_right (by omega), hie] at hu
      rw [List.getElem?_append_right (by rw [h.kl]; omega), h.kl, hie] at hz
      simp at hu hz
      subst hu hz
      exact ⟨N, ax, cx, ay, cy, ex, ey, h1, h2, hN⟩
  · intro l u b hu hb
    rcases hu with hu | hu
    · by_cases hi : l < K.length
      · rw [List.getElem?_append_left hi] at hu
        exact h.ks l u b (.inl hu) hb
      · have hie : l - K.length = 0 := by have := (List.getElem?_eq_some_iff.1 hu).1; simp at this; omega
        rw [List.getElem?_append_right (by omega), hie] at hu
        simp at hu
        subst hu
        exact hx b hb
    · by_cases hi : l < W.length
      · rw [List.getElem?_append_left hi] at hu
        exact h.ks l u b (.inr hu) hb
      · have hie : l - W.length = 0 := by have := (List.getElem?_eq_some_iff.1 hu).1; simp at this; omega
        rw [List.getElem?_append_right (by omega), hie] at hu
        simp at hu
        subst hu
        exact hy b hb
/-- a block that is new is none of the lists' -/
theorem WQ.new (h : WQ w p tt r0 F base wr K W P R lo hi) {b : Nat} (hb : w.heap.size ≤ b) (j : Nat) (z : Value) (hz : F[j]? = some z) : ¬ z.ownBlock = some b := fun e => by
  obtain ⟨r, L, h⟩ := h
  have := h.fb z (List.mem_of_getElem? hz) b e
  omega
theorem WQ.fown (h : WQ w p tt r0 F base wr K W P R lo hi) {j : Nat} {x : Value} (hj : lo ≤ j) (hx : F[j]? = some x) : ∃ N : List Sy, N.length ≤ 100000000000 ∧ OwS 0 x N wr ∧ (j < hi → N = mks (base + j) 0 N.length) := by
  obtain ⟨r, L, h⟩ := h
  exact h.fm j x hj hx
theorem WQ.size (h : WQ w p tt r0 F base wr K W P R lo hi) : w.heap.size ≤ wr.heap.size := by
  obtain ⟨r, L, h⟩ := h
  exact h.chg.size
theorem WQ.cells (h : WQ w p tt r0 F base wr K W P R lo hi) {af : Option Addr} {cf : Nat} (e : r0 0 = .slice af F.length cf) : wr.cell? ⟨p, 0, none⟩ = some (.int .i64 tt) ∧ wr.cell? ⟨p, 1, none⟩ = some (.bool false) ∧ wr.cell? ⟨p, 2, none⟩ = some (.slice af F.length cf) ∧ (∀ j, wr.frozen? ⟨p, j, none⟩ = false) ∧ wr.ownsRow 0 25 1 (.slice af F.length cf) F.length F := by
  obtain ⟨r, L, h⟩ := h
  refine ⟨by rw [cell_atL h.sh.st]; rfl, by rw [cell_atL h.sh.st]; rfl, by rw [cell_atL h.sh.st, ← e, ← h.r0_]; rfl, fun j => frozen_atL h.sh.st j, ?_⟩
  have := h.sh.row 0 (by omega)
  rw [h.r0_, e, h.l0] at this
  exact this
end
end Go.Proofs.Ytbdmbicnlfcclaa
