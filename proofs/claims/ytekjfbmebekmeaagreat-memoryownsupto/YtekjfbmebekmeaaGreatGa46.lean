import Derived.Test.YtekjfbmebekmeaaGreatGa44
import Derived.Test.YtekjfbmebekmeaaGreatGa45
namespace Go.Proofs.YtekjfbmebekmeaaGreat
open Go.RowKit
open Bo
set_option linter.unusedVariables false
set_option linter.unusedSimpArgs false
def iB (d : List UInt8) : List Int := d.map fun b => (b.toNat : Int)
theorem bV_iB (d : List UInt8) : bV (iB d) = d.map byV := by simp [bV, iB, byV]
theorem iB_len (d : List UInt8) : (iB d).length = d.length := by simp [iB]
def Oth (w : World) (k : Nat) : Prop := ∀ cs t fr, w.heap[k]? = some (.cells cs t fr) → ¬ (t = 42 ∨ t = 29 ∨ t = 5 ∨ t = 3)
theorem Oth.of {w : World} {k : Nat} {cs : Array Value} {t : TypeId} {fr : Nat × Nat} (h : w.heap[k]? = some (.cells cs t fr)) (ht : ¬ (t = 42 ∨ t = 29 ∨ t = 5 ∨ t = 3)) : Oth w k := fun cs' t' fr' h' => by
  rw [h] at h'
  simp at h'
  rw [← h'.2.1]
  exact ht
theorem frs_app {A D : List (Value × List Int)} {k : Nat} : Frs (A ++ D) k ↔ Frs A k ∨ Frs D k := by
  simp only [Frs, List.mem_append]
  constructor
  · rintro ⟨x, hx | hx, hk⟩
    · exact .inl ⟨x, hx, hk⟩
    · exact .inr ⟨x, hx, hk⟩
  · rintro (⟨x, hx, hk⟩ | ⟨x, hx, hk⟩)
    · exact ⟨x, .inl hx, hk⟩
    · exact ⟨x, .inr hx, hk⟩
def Bx (B : Nat) (w : World) (p : Nat) (c0 c1 : Int) (A D : List (Value × List Int)) (X : Nat → Prop) : Prop := (∃ fa ha ma ka wa hs M K W, Bk B w p c0 c1 fa ha ma ka wa (A ++ D) A.length hs M K W) ∧ ∀ k, X k → k < w.heap.size ∧ (Oth w k ∨ Frs D k)
theorem dedup {B : Nat} {w : World} : ∀ E : List (Value × List Int), (∀ x ∈ E, w.ownsRow B 5 1 x.1 x.2.length (bV x.2)) → ∃ D : List (Value × List Int), (∀ x ∈ D, x ∈ E) ∧ D.Pairwise (fun x y => Dis x.1 y.1) ∧ ∀ k, Frs E k → Frs D k
  | [], _ => ⟨[], fun _ h => h, List.Pairwise.nil, fun _ h => h⟩
  | x :: E, h => by
    obtain ⟨D, h1, h2, h3⟩ := dedup E (fun y hy => h y (List.mem_cons_of_mem _ hy))
    by_cases hx : ∃ k, x.1.ownBlock = some k ∧ Frs D k
    · obtain ⟨k, hk, hf⟩ := hx
      refine ⟨D, fun y hy => List.mem_cons_of_mem _ (h1 y hy), h2, fun q hq => ?_⟩
      obtain ⟨y, hy, hyk⟩ := hq
      rcases List.mem_cons.1 hy with rfl | hy
      · rw [hk] at hyk; cases hyk; exact hf
      · exact h3 q ⟨y, hy, hyk⟩
    · refine ⟨x :: D, fun y hy => ?_, List.pairwise_cons.2 ⟨fun y hy k hk hk2 => hx ⟨k, hk, y, hy, hk2⟩, h2⟩, fun q hq => ?_⟩
      · rcases List.mem_cons.1 hy with rfl | hy
        · exact List.mem_cons_self ..
        · exact List.mem_cons_of_mem _ (h1 y hy)
      · obtain ⟨y, hy, hyk⟩ := hq
        rcases List.mem_cons.1 hy with rfl | hy
        · exact ⟨_, List.mem_cons_self .., hyk⟩
        · obtain ⟨z, hz, hzk⟩ := h3 q ⟨y, hy, hyk⟩
          exact ⟨z, List.mem_cons_of_mem _ hz, hzk⟩
section
variable {B p : Nat} {w w' : World} {c0 c1 : Int} {A D : List (Value × List Int)} {X : Nat → Prop}
theorem Bx.bw (h : Bx B w p c0 c1 A D X) : B ≤ w.heap.size := by
  obtain ⟨⟨_, _, _, _, _, _, _, _, _, hb⟩, _⟩ := h
  exact hb.arr.bw
theorem Bx.c0nn (h : Bx B w p c0 c1 A D X) : 0 ≤ c0 ∧ 0 ≤ c1 := by
  obtain ⟨⟨_, _, _, _, _, _, _, _, _, hb⟩, _⟩ := h
  exact ⟨hb.b0, hb.b1⟩
theorem Bx.turn (h : Bx B w p c0 c1 A D X) (c : Chg X w w') (N E : List (Value × List Int)) (X' : Nat → Prop) (hX' : ∀ k, X' k → X k ∨ w.heap.size ≤ k) (ho : ∀ x ∈ N ++ E, w'.ownsRow B 5 1 x.1 x.2.length (bV x.2)) (hN : N.Pairwise (fun x y => Dis x.1 y.1)) (hNb : ∀ k, Frs N k → w.heap.size ≤ k ∧ ¬ X' k) (hE : ∀ k, Frs E k → X' k) (hcov : ∀ k, X' k → k < w'.heap.size ∧ (Oth w' k ∨ Frs E k)) (hl : ∀ x ∈ N ++ E, x.2.length ≤ 60000000000000) : ∃ D', Bx B w' p c0 c1 A (N ++ D') X' := by
  classical
  obtain ⟨⟨fa, ha, ma, ka, wa, hs, M, K, W, hb⟩, hcX0⟩ := h
  have hcX : ∀ k, X k → Oth w k ∨ Frs D k := fun k hk => (hcX0 k hk).2
  have hA := hb.arr
  have hfr := hb.fr
  have pw := List.pairwise_append.1 hfr.2
  obtain ⟨E1, e1, e2, e3⟩ := dedup E (fun x hx => ho x (List.mem_append_right _ hx))
  -- the zombies: rows of D that the others have no longer
  have hZ : ∀ x ∈ D.filter (fun x => decide (∀ k, x.1.ownBlock = some k → ¬ X k)), x ∈ D ∧ ∀ k, x.1.ownBlock = some k → ¬ X k := fun x hx => by
    obtain ⟨h1, h2⟩ := List.mem_filter.1 hx
    exact ⟨h1, by simpa using h2⟩
  have hZp : (D.filter (fun x => decide (∀ k, x.1.ownBlock = some k → ¬ X k))).Pairwise (fun x y => Dis x.1 y.1) := pw.2.1.filter _
  generalize D.filter (fun x => decide (∀ k, x.1.ownBlock = some k → ¬ X k)) = Z at hZ hZp
  have old : ∀ x ∈ A ++ D, ∀ k, x.1.ownBlock = some k → k < w.heap.size := fun x hx k hk => (ownsRow_block_lt (hfr.1 x hx) hk).1
  have d8 : ∀ k, Frs D k → IsT8 w k := fun k hk => hfr.isT8 (frs_app.2 (.inr hk))
  -- what the books' own blocks are not
  have nX8 : ∀ k, IsT8 w k → ¬ Frs D k → ¬ X k := fun k ⟨cur, hc⟩ hn hx => by
    rcases hcX k hx with h | h
    · exact h _ _ _ hc (.inr (.inr (.inl rfl)))
    · exact hn h
  have nXo : ∀ {et : TypeId} {u : Value} {m : Nat} {xs : List Value}, w.ownsRow B et 1 u m xs → (et = 42 ∨ et = 29 ∨ et = 5 ∨ et = 3) → ¬ et = 5 → ∀ k, u.ownBlock = some k → ¬ X k := fun ho2 het hne k hk hx => by
    obtain ⟨-, hB, cur, hc⟩ := ownsRow_block_lt ho2 hk
    rcases hcX k hx with h | h
    · exact h _ _ _ hc het
    · exact notT8 ho2 hne hk (d8 k h)
  have row : ∀ {et : TypeId} {u : Value} {m : Nat} {xs : List Value}, w.ownsRow B et 1 u m xs → (et = 42 ∨ et = 29 ∨ et = 5 ∨ et = 3) → ¬ et = 5 → w'.ownsRow B et 1 u m xs := fun ho2 het hne => owns_chg ho2 (fun k hk hs => nXo ho2 het hne k hk hs) c
  have hp : w'.heap[p]? = w.heap[p]? := c.block p hA.st.lt (fun hk => by
    rcases hcX p hk with h | h
    · exact h _ _ _ hA.st (.inl rfl)
    · obtain ⟨cur, hc⟩ := d8 p h
      have h2 : w.heap[p]? = _ := hA.st
      rw [h2] at hc
      simp at hc)
  have tk : ∀ D0 : List (Value × List Int), ((A ++ D0).take A.length) = A := fun D0 => by simp
  have aX : ∀ x ∈ A, ∀ k, x.1.ownBlock = some k → ¬ X k := fun x hx k hk => nX8 k (hfr.isT8 (frs_app.2 (.inl ⟨x, hx, hk⟩))) (fun ⟨y, hy, hk2⟩ => pw.2.2 x hx y hy k hk hk2)
  have eX : ∀ x ∈ E1, ∀ k, x.1.ownBlock = some k → X k ∨ w.heap.size ≤ k := fun x hx k hk => hX' k (hE k ⟨x, e1 x hx, hk⟩)
  -- an old block that is none of the old lists' is none of the new ones'
  have hF : ∀ k, k < w.heap.size → ¬ X k → Frs (A ++ (N ++ (E1 ++ Z))) k → Frs (A ++ D) k := fun k hlt hx hk => by
    rcases frs_app.1 hk with h | h
    · exact frs_app.2 (.inl h)
    · rcases frs_app.1 h with h | h
      · have := (hNb k h).1; omega
      · rcases frs_app.1 h with ⟨x, hxE, hk⟩ | ⟨x, hxZ, hk⟩
        · rcases eX x hxE k hk with h | h
          · exact absurd h hx
          · omega
        · exact frs_app.2 (.inr ⟨x, (hZ x hxZ).1, hk⟩)
  have rd : ∀ {v : Value} {l : List Int}, Rd B (Frs (A ++ D)) w v l → Rd B (Frs (A ++ (N ++ (E1 ++ Z)))) w' v l := fun hr => by
    rcases hr with hr | ⟨g, cc, cur, rfl, hB, hs, hg, ht⟩
    · exact .inl hr
    · have hgl : g < w.heap.size := (Array.getElem?_eq_some_iff.1 hg).1
      have hgX : ¬ X g := nX8 g ⟨cur, hg⟩ (fun h => hs (frs_app.2 (.inr h)))
      exact .inr ⟨g, cc, cur, rfl, hB, fun h => hs (hF g hgl hgX h), (c.block g hgl hgX).trans hg, ht⟩
  refine ⟨E1 ++ Z, ⟨fa, ha, ma, ka, wa, hs, M, K, W, ?_, ⟨?_, ?_⟩, ⟨hb.kep.1, fun j x y hx hy => ?_⟩, ?_, hb.hl, hb.ml, by simp, ?_, hb.bm, hb.n2, hb.b0, hb.b1, hb.bb, hb.kl⟩, fun k hk => ?_⟩
  · have hA2 := hA
    rw [tk D] at hA2
    rw [tk (N ++ (E1 ++ Z))]
    exact ⟨hA2.st.same hp, row hA2.fa_ (.inr (.inl rfl)) (by decide), row hA2.ha_ (.inr (.inl rfl)) (by decide), row hA2.ma_ (.inr (.inr (.inr rfl))) (by decide), row hA2.ka_ (.inr (.inl rfl)) (by decide), row hA2.wa_ (.inr (.inl rfl)) (by decide), hA2.fh, hA2.fk, hA2.fw, hA2.hk, hA2.hw, hA2.kw, hA2.bp, Nat.le_trans hA2.bw c.size⟩
  · intro x hx
    rcases List.mem_append.1 hx with hx | hx
    · exact owns_chg (hfr.1 x (List.mem_append.2 (.inl hx))) (fun k hk hs => aX x hx k hk hs) c
    · rcases List.mem_append.1 hx with hx | hx
      · exact ho x (List.mem_append_left _ hx)
      · rcases List.mem_append.1 hx with hx | hx
        · exact ho x (List.mem_append_right _ (e1 x hx))
        · exact owns_chg (hfr.1 x (List.mem_append.2 (.inr (hZ x hx).1))) (fun k hk hs => (hZ x hx).2 k hk hs) c
  · refine List.pairwise_append.2 ⟨pw.1, List.pairwise_append.2 ⟨hN, List.pairwise_append.2 ⟨e2, hZp, fun x hx y hy k hk hk2 => ?_⟩, fun x hx y hy k hk hk2 => ?_⟩, fun x hx y hy k hk hk2 => ?_⟩
    · rcases eX x hx k hk with h | h
      · exact (hZ y hy).2 k hk2 h
      · have := old y (List.mem_append.2 (.inr (hZ y hy).1)) k hk2; omega
    · have h1 := hNb k ⟨x, hx, hk⟩
      rcases List.mem_append.1 hy with hy | hy
      · exact h1.2 (hE k ⟨y, e1 y hy, hk2⟩)
      · have := old y (List.mem_append.2 (.inr (hZ y hy).1)) k hk2; omega
    · have h0 := old x (List.mem_append.2 (.inl hx)) k hk
      rcases List.mem_append.1 hy with hy | hy
      · have := (hNb k ⟨y, hy, hk2⟩).1; omega
      · rcases List.mem_append.1 hy with hy | hy
        · rcases eX y hy k hk2 with h | h
          · exact aX x hx k hk h
          · omega
        · exact pw.2.2 x hx y (hZ y hy).1 k hk hk2
  · obtain ⟨l, h1, h2⟩ := hb.kep.2 j x y hx hy
    exact ⟨l, rd h1, rd h2⟩
  · intro j x y hx hy
    have hj : j < A.length := by have h1 := (List.getElem?_eq_some_iff.1 hy).1; have := hb.hl; omega
    rw [List.getElem?_append_left hj] at hx
    exact rd (hb.held j x y (by rw [List.getElem?_append_left hj]; exact hx) hy)
  · intro x hx
    rcases List.mem_append.1 hx with hx | hx
    · exact hb.bl x (List.mem_append.2 (.inl hx))
    · rcases List.mem_append.1 hx with hx | hx
      · exact hl x (List.mem_append_left _ hx)
      · rcases List.mem_append.1 hx with hx | hx
        · exact hl x (List.mem_append_right _ (e1 x hx))
        · exact hb.bl x (List.mem_append.2 (.inr (hZ x hx).1))
  · refine ⟨(hcov k hk).1, ?_⟩
    rcases (hcov k hk).2 with h | h
    · exact .inl h
    · exact .inr (frs_app.2 (.inr (frs_app.2 (.inl (e3 k h)))))
theorem Oth.same {k : Nat} (h : Oth w k) (e : w'.heap[k]? = w.heap[k]?) : Oth w' k := fun cs t fr hc => h cs t fr (by rw [← e]; exact hc)
theorem Oth.nbkt {k n1 B1 : Nat} {ma : Value} {x1 : List Value} (h : Oth w k) (hm : w.ownsRow B1 3 1 ma n1 x1) : ¬ Bkt B w ma k := fun ⟨_, cur, t, hc, ht⟩ => by
  have h1 := h _ _ _ hc
  rcases ht with e | e | e | e
  · exact h1 (.inl e)
  · exact h1 (.inr (.inl e))
  · exact h1 (.inr (.inr (.inl e)))
  · obtain ⟨_, cs, fr, h2⟩ := own_cells hm e
    exact h _ _ _ h2 (.inr (.inr (.inr rfl)))
theorem Bx.away {S : Nat → Prop} (h : Bx B w p c0 c1 A D X) (c : Chg S w w') (hS : ∀ k, S k → Oth w k) (hO : ∀ k, X k → S k → Oth w' k) : Bx B w' p c0 c1 A D X := by
  obtain ⟨⟨fa, ha, ma, ka, wa, hs, M, K, W, hb⟩, hX⟩ := h
  refine ⟨⟨fa, ha, ma, ka, wa, hs, M, K, W, hb.away c (fun k hk => (hS k hk).nbkt hb.arr.ma_)⟩, fun k hk => ⟨Nat.lt_of_lt_of_le (hX k hk).1 c.size, ?_⟩⟩
  rcases (hX k hk).2 with h | h
  · left
    by_cases hs : S k
    · exact hO k hk hs
    · exact h.same (c.block k (hX k hk).1 hs)
  · exact .inr h
theorem Bx.out (h : Bx B w p c0 c1 A D X) (o : Out w w') : Bx B w' p c0 c1 A D X := h.away (S := fun _ => False) (Chg.of_out o) (fun _ h => h.elim) (fun _ _ h => h.elim)
theorem Bx.others {X' : Nat → Prop} (h : Bx B w p c0 c1 A D X) (hX : ∀ k, X' k → X k ∨ (k < w.heap.size ∧ Oth w k)) : Bx B w p c0 c1 A D X' := ⟨h.1, fun k hk => (hX k hk).elim (fun e => h.2 k e) (fun e => ⟨e.1, .inl e.2⟩)⟩
theorem Bx.own {a : Option Addr} {q c : Nat} {l : List Int} (h : Bx B w p c0 c1 A ((.slice a q c, l) :: D) X) (hv : ∀ k, (Value.slice a q c).ownBlock = some k → ¬ X k) (hq : l.length = q) (hc1 : c1 ≤ 900000000000000) (mark : Int) (m0 : 0 ≤ mark) (m1 : mark ≤ 100000000000) (hc0 : c0 ≤ 100000000000) :
    Calls Tryz.prog 10 #[.pointer (some ⟨p, 0, none⟩), .slice a q c, .int .i64 mark] w fun e w' => (∃ r, e = .returned r) ∧ (∃ A', Bx B w' p (c0 + 1) (c1 + q) A' D X) ∧ Chg (fun k => ¬ X k ∧ B ≤ k) w w' := by
  obtain ⟨⟨fa, ha, ma, ka, wa, hs, M, K, W, hb⟩, hX⟩ := h
  have hA := hb.arr
  have hfr := hb.fr
  have pw := List.pairwise_append.1 hfr.2
  have d8 : ∀ k, Frs ((.slice a q c, l) :: D) k → IsT8 w k := fun k hk => hfr.isT8 (frs_app.2 (.inr hk))
  have nXo : ∀ {et : TypeId} {u : Value} {m : Nat} {xs : List Value}, w.ownsRow B et 1 u m xs → (et = 42 ∨ et = 29 ∨ et = 5 ∨ et = 3) → ¬ et = 5 → ∀ k, u.ownBlock = some k → ¬ X k := fun ho2 het hne k hk hx => by
    obtain ⟨-, hB, cur, hc⟩ := ownsRow_block_lt ho2 hk
    rcases (hX k hx).2 with h | h
    · exact h _ _ _ hc het
    · exact notT8 ho2 hne hk (d8 k h)
  have tk : (A ++ (Value.slice a q c, l) :: D).take (A.length + 1) = A ++ [(.slice a q c, l)] := by simp [List.take_append, List.take_of_length_le (show A.length ≤ A.length + 1 by omega)]
  have key : ∀ k, Bks p fa ha ma ka wa ((A ++ (Value.slice a q c, l) :: D).take (A.length + 1)) k → ¬ X k ∧ B ≤ k := fun k hk => by
    rw [tk] at hk
    rcases hk with rfl | hk | hk | hk | hk | hk | hk
    · refine ⟨?_, hA.bp⟩
      intro hx
      rcases (hX _ hx).2 with h | h
      · exact h _ _ _ hA.st (.inl rfl)
      · obtain ⟨cur, hc⟩ := d8 _ h
        have h2 : w.heap[k]? = _ := hA.st
        rw [h2] at hc
        simp at hc
    · exact ⟨nXo hA.fa_ (.inr (.inl rfl)) (by decide) k hk, (ownsRow_block_lt hA.fa_ hk).2.1⟩
    · exact ⟨nXo hA.ha_ (.inr (.inl rfl)) (by decide) k hk, (ownsRow_block_lt hA.ha_ hk).2.1⟩
    · exact ⟨nXo hA.ma_ (.inr (.inr (.inr rfl))) (by decide) k hk, (ownsRow_block_lt hA.ma_ hk).2.1⟩
    · exact ⟨nXo hA.ka_ (.inr (.inl rfl)) (by decide) k hk, (ownsRow_block_lt hA.ka_ hk).2.1⟩
    · exact ⟨nXo hA.wa_ (.inr (.inl rfl)) (by decide) k hk, (ownsRow_block_lt hA.wa_ hk).2.1⟩
    · rcases frs_app.1 hk with ⟨x, hx, hxk⟩ | ⟨x, hx, hxk⟩
      · refine ⟨?_, (ownsRow_block_lt (hfr.1 x (List.mem_append_left _ hx)) hxk).2.1⟩
        intro hX2
        rcases (hX k hX2).2 with h | ⟨y, hy, hyk⟩
        · obtain ⟨cur, hc⟩ := hfr.isT8 (frs_app.2 (.inl ⟨x, hx, hxk⟩))
          exact h _ _ _ hc (.inr (.inr (.inl rfl)))
        · exact pw.2.2 x hx y hy k hxk hyk
      · rw [List.mem_singleton.1 hx] at hxk
        exact ⟨hv k hxk, (ownsRow_block_lt (hfr.1 (.slice a q c, l) (List.mem_append_right _ (List.mem_cons_self ..))) hxk).2.1⟩
  refine (books_own (fun k => ¬ X k ∧ B ≤ k) w B p c0 c1 fa ha ma ka wa _ _ hs M K W hc1 hb a q c l (by simp) hq mark m0 m1 hc0 key).mono ?_
  rintro e w' ⟨he, fa', ha', ma', ka', wa', hs', M', K', W', F', n', hb', hF', hc, -⟩
  have hXX : ∀ k, X k → k < w'.heap.size ∧ (Oth w' k ∨ Frs D k) := fun k hk => by
    obtain ⟨h1, h2⟩ := hX k hk
    refine ⟨Nat.lt_of_lt_of_le h1 hc.size, ?_⟩
    rcases h2 with h2 | ⟨x, hx, hxk⟩
    · exact .inl (h2.same (hc.block k h1 (fun hn => hn.1 hk)))
    · rcases List.mem_cons.1 hx with rfl | hx
      · exact absurd hk (hv k hxk)
      · exact .inr ⟨x, hx, hxk⟩
  refine ⟨he, ?_, hc⟩
  rcases hF' with ⟨rfl, rfl⟩ | ⟨rfl, rfl⟩
  · refine ⟨A ++ [(.slice a q c, l)], ⟨fa', ha', ma', ka', wa', hs', M', K', W', ?_⟩, hXX⟩
    rw [List.append_assoc, List.length_append]
    exact hb'
  · refine ⟨[], ⟨fa', ha', ma', ka', wa', hs', M', K', W', ?_⟩, hXX⟩
    have e1 : (A ++ (Value.slice a q c, l) :: D).drop (A.length + 1) = D := by simp [List.drop_append]
    rw [e1] at hb'
    exact hb'
theorem Bx.holds (h : Bx B w p c0 c1 A D X) (hc : c0 ≤ 100000000000) : Calls Tryz.prog 11 #[.pointer (some ⟨p, 0, none⟩)] w fun e w' => e = .returned (.bool true) ∧ Out w w' := by
  obtain ⟨⟨fa, ha, ma, ka, wa, hs, M, K, W, hb⟩, _⟩ := h
  refine (hb.holds hc).mono ?_
  rintro e w' ⟨rfl, k, rfl⟩
  exact ⟨rfl, (Out.refl w).drewN k⟩
theorem Bx.total (h : Bx B w p c0 c1 A D X) : w.cell? ⟨p, 1, none⟩ = some (.int .i64 c1) := by
  obtain ⟨⟨_, _, _, _, _, _, _, _, _, hb⟩, _⟩ := h
  exact hb.arr.st.cell 1
theorem Bx.start (hst : StAt w p #[.int .i64 0, .int .i64 0, .bool false, .slice none 0 0, .slice none 0 0, .slice none 0 0, .slice none 0 0, .slice none 0 0]) (hB : B ≤ p) (E : List (Value × List Int)) (ho : ∀ x ∈ E, w.ownsRow B 5 1 x.1 x.2.length (bV x.2)) (hl : ∀ x ∈ E, x.2.length ≤ 60000000000000) (hX : ∀ k, X k → k < w.heap.size ∧ (Oth w k ∨ Frs E k)) : ∃ D, Bx B w p 0 0 [] D X := by
  obtain ⟨D, e1, e2, e3⟩ := dedup E ho
  have hd : ∀ y : Value, Dis (.slice none 0 0) y := fun y k hk => by simp [Value.ownBlock] at hk
  refine ⟨D, ⟨.slice none 0 0, .slice none 0 0, .slice none 0 0, .slice none 0 0, .slice none 0 0, [], [], [], [], ⟨⟨hst, World.ownsRow_nil _ _ _ _, World.ownsRow_nil _ _ _ _, World.ownsRow_nil _ _ _ _, World.ownsRow_nil _ _ _ _, World.ownsRow_nil _ _ _ _, hd _, hd _, hd _, hd _, hd _, hd _, hB, Nat.le_trans hB (Nat.le_of_lt hst.lt)⟩, ⟨fun x hx => ho x (e1 x hx), e2⟩, ⟨rfl, fun j x y hx _ => by simp at hx⟩, (fun j x y _ hy => by simp at hy), rfl, rfl, Nat.zero_le _, (fun x hx => hl x (e1 x hx)), (fun m hm => by cases hm), by simp, by omega, by omega, by omega, by simp⟩⟩, fun k hk => ⟨(hX k hk).1, (hX k hk).2.imp id (e3 k)⟩⟩
end
theorem Oth.row {B s n : Nat} {w : World} {e : TypeId} {v : Value} {xs : List Value} {k : Nat} (h : w.ownsRow B e s v n xs) (hk : v.ownBlock = some k) (ht : ¬ (e = 42 ∨ e = 29 ∨ e = 5 ∨ e = 3)) : Oth w k := by
  obtain ⟨_, cs, fr, hc⟩ := own_cells h hk
  exact Oth.of hc ht
theorem DaI.iB {B : Nat} {w : World} {z : Rg} (h : DaI B w z) : w.ownsRow B 5 1 (daV z) (iB z.d).length (bV (iB z.d)) := by
  rw [bV_iB, iB_len]; exact h
theorem daV_block {z : Rg} {k : Nat} : (daV z).ownBlock = some k ↔ z.a = some k := by
  unfold daV
  cases z.a <;> simp [Value.ownBlock]
theorem DkE.rows {B m d : Nat} {w : World} {X : Nat → Prop} (h : DkE B w d m X) : ∃ E : List (Value × List Int), (∀ x ∈ E, w.ownsRow B 5 1 x.1 x.2.length (bV x.2)) ∧ (∀ k, Frs E k → X k) ∧ (∀ k, X k → k < w.heap.size ∧ (Oth w k ∨ Frs E k)) ∧ ∀ x ∈ E, x.2.length ≤ 60000000000000 := by
  have hlt := fun k hk => (h.lt (k := k) hk).2
  rcases h with ⟨h1, ⟨cs, h2⟩, h3, h4⟩ | ⟨t, h1, h2, h3⟩
  · exact ⟨[], (fun x hx => by cases hx), (fun k ⟨x, hx, _⟩ => by cases hx), fun k hk => ⟨hlt k hk, .inl (by rw [(h4 k).1 hk]; exact Oth.of h2 (by decide))⟩, fun x hx => by cases hx⟩
  · have D := h1.1
    obtain ⟨bl, hbl, hbn⟩ : ∃ bl : List Int, w.ownsRow B 5 1 t.bv bl.length (bV bl) ∧ bl.length ≤ 60000000000000 := by
      rcases D.bf with e | ⟨g, mm, L, e, hBg, hg, hl, hmm⟩
      · exact ⟨[], by rw [e]; exact World.ownsRow_nil _ _ _ _, by simp⟩
      · refine ⟨iB L, ?_, by rw [iB_len]; omega⟩
        rw [bV_iB, iB_len, e, hl]
        refine blk_owns hg hBg (Nat.le_refl _) (by simp only [maxLen]; omega) (by simp [bCells, hl]) ?_
        rw [Nat.mul_one, List.take_of_length_le (by simp [bCells, hl])]
        rfl
    have hmem : ∀ z ∈ flat t.X ++ flat t.Y ++ t.R, DaI B w z ∧ z.d.length ≤ 1048576 := fun z hz => by
      rcases List.mem_append.1 hz with hz | hz
      · exact ⟨D.sp.da z hz, h3.flat h1.2.2 hz⟩
      · exact ⟨D.rl.da z hz, h3 (fdR z) (List.mem_map.2 ⟨z, hz, rfl⟩)⟩
    refine ⟨(flat t.X ++ flat t.Y ++ t.R).map (fun z => (daV z, iB z.d)) ++ [(t.bv, bl)], fun x hx => ?_, fun k hk => ?_, fun k hk => ⟨hlt k hk, ?_⟩, fun x hx => ?_⟩
    · rcases List.mem_append.1 hx with hx | hx
      · obtain ⟨z, hz, rfl⟩ := List.mem_map.1 hx
        exact (hmem z hz).1.iB
      · rw [List.mem_singleton.1 hx]; exact hbl
    · refine (h2 k).2 ?_
      rcases frs_app.1 hk with ⟨x, hx, hxk⟩ | ⟨x, hx, hxk⟩
      · obtain ⟨z, hz, rfl⟩ := List.mem_map.1 hx
        have hza := daV_block.1 hxk
        rcases List.mem_append.1 hz with hz | hz
        · exact .inl (.inr ⟨z, hz, hza⟩)
        · exact .inr (.inl (.inr ⟨z, hz, hza⟩))
      · rw [List.mem_singleton.1 hx] at hxk
        exact .inr (.inr (.inr hxk))
    · have inD : ∀ z ∈ flat t.X ++ flat t.Y ++ t.R, z.a = some k → Frs ((flat t.X ++ flat t.Y ++ t.R).map (fun z => (daV z, iB z.d)) ++ [(t.bv, bl)]) k := fun z hz hza => ⟨(daV z, iB z.d), List.mem_append_left _ (List.mem_map.2 ⟨z, hz, rfl⟩), daV_block.2 hza⟩
      rcases (h2 k).1 hk with ((rfl | hk | hk) | ⟨z, hz, hza⟩) | (hk | ⟨z, hz, hza⟩) | rfl | hk
      · exact .inl (Oth.of D.sp.sp.blk (by decide))
      · rcases hk with hk | ⟨x, hx, rfl⟩
        · exact .inl (Oth.row D.sp.sp.fil.own hk (by decide))
        · exact .inl (Oth.row (D.sp.sp.fil.rows x hx) rfl (by decide))
      · rcases hk with hk | ⟨x, hx, rfl⟩
        · exact .inl (Oth.row D.sp.sp.emp.own hk (by decide))
        · exact .inl (Oth.row (D.sp.sp.emp.rows x hx) rfl (by decide))
      · exact .inr (inD z (List.mem_append_left _ hz) hza)
      · exact .inl (Oth.row D.rl.own hk (by decide))
      · exact .inr (inD z (List.mem_append_right _ hz) hza)
      · exact .inl (Oth.of D.blk (by decide))
      · exact .inr ⟨(t.bv, bl), List.mem_append_right _ (List.mem_singleton.2 rfl), hk⟩
    · rcases List.mem_append.1 hx with hx | hx
      · obtain ⟨z, hz, rfl⟩ := List.mem_map.1 hx
        have := (hmem z hz).2
        rw [iB_len]; omega
      · rw [List.mem_singleton.1 hx]; exact hbn
def fB (R : List Rg) : List (Value × List Int) := R.map (fun z => (daV z, iB z.d))
theorem fB_fresh {B : Nat} {w : World} {R : List Rg} (hd : ∀ z ∈ R, DaI B w z) (hn : R.Pairwise (fun x y => ∀ b, x.a = some b → y.a ≠ some b)) : Fresh B w (fB R) := by
  refine ⟨fun x hx => ?_, ?_⟩
  · obtain ⟨z, hz, rfl⟩ := List.mem_map.1 hx
    exact (hd z hz).iB
  · unfold fB
    exact List.pairwise_map.2 (hn.imp (fun {x y} hxy k hk hk2 => hxy k (daV_block.1 hk) (daV_block.1 hk2)))
theorem fB_fst (R : List Rg) : (fB R).map Prod.fst = R.map daV := by simp [fB]
set_option maxHeartbeats 4000000 in
set_option maxRecDepth 100000 in
theorem together_any (w : World) (B m d : Nat) (X : Nat → Prop) (h : DkE B w d m X) (hm : m ≤ 1000000000) :
    Calls Tryz.prog 12 #[.pointer (some ⟨d, 0, none⟩)] w fun e w' => e = .returned (.bool true) ∧ Out w w' := by
  rcases h with ⟨h1, _⟩ | ⟨t, h1, _, h3⟩
  · go_enter Tryz.func12, Tryz.ntmps12
    go_wp2
    go_ret
    exact ⟨rfl, Out.refl _⟩
  · obtain ⟨i31, hi31, hy0, hy1, hy2⟩ := info_parts info31
    have cd0 : w.cell? ⟨d, 0, none⟩ = some (.pointer (some ⟨t.s, 0, none⟩)) := (cell_B h1.1.blk 0).trans rfl
    have MC := hidOf (RegionsD_any w B t.s t.v1 t.v2 t.X t.Y m h1.1.sp (by omega))
    have HBD := hidOf (fun y hy => h3.flat h1.2.2 (y := y) hy)
    have hnm := h1.1.sp.nm
    obtain ⟨M, hM⟩ : ∃ M, Hid (M = (flat t.X ++ flat t.Y).length) := ⟨_, rfl⟩
    rw [← hM.out] at hnm
    clear h1 h3
    go_enter Tryz.func12, Tryz.ntmps12
    go_upto_region 4 with (go_at_call 37; refine MC.out.mono ?_; rintro e w2 ⟨a2, c2', R2, rfl, hown2, hda2, hpm2, _, hdn2, ho2⟩; have W2 := hidOf hown2; have D2 := hidOf hda2; have P2 := hidOf hpm2; have N2 := hidOf hdn2; have O2 := hidOf ho2; clear hown2 hda2 hpm2 hdn2 ho2)
    have hRM : R2.length = M := by have := P2.out.length_eq; simp only [List.length_map] at this; rw [hM.out]; exact this
    have hRb : Hid (∀ x ∈ fB R2, x.2.length ≤ 1048576) := hidOf (fun x hx => by
      obtain ⟨z, hz, rfl⟩ := List.mem_map.1 hx
      have h4 := P2.out.subset (List.mem_map.2 ⟨z, hz, rfl⟩)
      obtain ⟨y, hy, e⟩ := List.mem_map.1 h4
      simp only [fdR, Prod.mk.injEq] at e
      rw [iB_len, ← e.2]
      exact HBD.out y hy)
    rw [hRM] at W2 ⊢
    have HRM := hidOf hRM
    clear hRM
    go_wp2
    go_loopw [5, 6] (fun lv iv wr => ∃ (i : Nat) (la : Option Addr) (lc : Nat), lv = .slice la i lc ∧ iv = .int .i64 i ∧ i ≤ M ∧ Hid (wr.ownsRow w2.heap.size 29 1 (.slice la i lc) i ((R2.take i).map daV)) ∧ Hid (Out w2 wr)) (fun _ iv _ => M - (intOf iv).toNat)
    case atStart => exact ⟨0, none, 0, rfl, rfl, Nat.zero_le _, hidOf (World.ownsRow_nil _ _ _ _), hidOf (Out.refl _)⟩
    case round =>
      obtain ⟨i, la, lc, rfl, rfl, hi, LR, OR⟩ := hrel
      by_cases him : i < M
      · have hlt : (i : Int) < M := by omega
        obtain ⟨z, hz⟩ : ∃ z, R2[i]? = some z := ⟨_, List.getElem?_eq_getElem (by rw [HRM.out]; exact him)⟩
        obtain ⟨g2, c9, e, _, _⟩ := W2.out.form (by omega)
        simp only [Value.slice.injEq] at e
        obtain ⟨rfl, _, rfl⟩ := e
        have q1 := cell_later OR.out (own_cellK W2.out (rowG_get hz).2).1
        unfold daV at q1
        obtain ⟨zn, hzn⟩ : ∃ zn, Hid (zn = z.d.length) := ⟨_, rfl⟩
        obtain ⟨za, hza⟩ : ∃ za : Option Addr, Hid (za = z.a.map fun b => ⟨b, 0, none⟩) := ⟨_, rfl⟩
        obtain ⟨zc, hzc⟩ : ∃ zc, Hid (zc = z.c) := ⟨_, rfl⟩
        rw [← hza.out, ← hzn.out, ← hzc.out] at q1
        have HZ := hidOf hz
        have hsz := OR.out.size
        clear hz
        go_wp2_with (at_builtin; go_loud (refine wpList_append_two rfl (.tmp 26) (.tmp 32) 39 rfl w2.heap.size 29 i31 (.slice none 0 0) 24 Tryz.underlying39 hi31 hy0 hy1 hy2 rfl (.slice la i lc) i ((R2.take i).map daV) rfl (owns_alloc LR.out _) ⟨wr.heap.size, 0, none⟩ 1 1 [.slice za zn zc] (by omega) rfl rfl (one_row _ _ _) (by intro x hx; simp at hx; subst hx; rfl) (by omega) (by omega) (by rw [size_alloc]; omega) ?_); intro g6 w6 hown6 hgrow6 hat6; obtain ⟨ga6, gc6, rfl⟩ := hat6.form; have Hgr6 := hidOf hgrow6; have Hown6 := hidOf hown6; clear hat6 hgrow6 hown6)
        go_roundw
        case rel =>
          have c6 : Chg (fun q => (Value.slice la i lc).ownBlock = some q) wr w6 := chg_grow ((Out.refl wr).alloc _) Hgr6.out
          refine ⟨i + 1, ga6, gc6, by first | rfl | simp, by first | rfl | simp, by omega, ?_, hidOf (Chg.out c6 OR.out (fun q hq => (LR.out.lt q hq).1))⟩
          have e9 : (R2.take (i + 1)).map daV = (R2.take i).map daV ++ [.slice za zn zc] := by
            rw [List.take_add_one, HZ.out, List.map_append, hza.out, hzn.out, hzc.out]; rfl
          rw [e9]
          exact Hown6
        case measure => simp [intOf]; omega
      · have hlt : ¬ (i : Int) < M := by omega
        obtain rfl : i = M := by omega
        have AC := hidOf (apart_any wr w.heap.size w2.heap.size la lc i (fB R2) (fB_fresh (fun z hz => (D2.out z hz).out OR.out) N2.out) (by have h9 := LR.out; rw [List.take_of_length_le (by rw [HRM.out]; exact Nat.le_refl _)] at h9; rw [fB_fst]; exact h9) (by unfold fB; rw [List.length_map]; exact HRM.out) (by omega) hRb.out (O2.out.trans OR.out).size)
        have hFo : Hid (∀ k, Frs (fB R2) k → w.heap.size ≤ k) := hidOf (fun k ⟨x, hx, hk⟩ => by
          obtain ⟨z, hz, rfl⟩ := List.mem_map.1 hx
          exact (DaI.blk (D2.out z hz) (daV_block.1 hk)).1)
        go_wp2_with (go_at_call 42; refine AC.out.mono ?_; rintro e w9 ⟨rfl, hc9⟩; have O9 := hidOf (Chg.out hc9 (O2.out.trans OR.out) hFo.out); clear hc9)
        go_ret
        exact ⟨rfl, O9.out⟩
end Go.Proofs.YtekjfbmebekmeaaGreat
