import Derived.Test.YtlfcjbeldnkkoaaGb33
import Derived.Test.YtlfcjbeldnkkoaaGb26
import Derived.Laws.MakeOwn
namespace Go.Proofs.Ytlfcjbeldnkkoaa
open Go.RowKit
set_option linter.unusedVariables false
set_option linter.unusedSimpArgs false
/-- the books: A lies in them, D are lists of bytes of others that the books leave alone -/
def Bq (B : Nat) (w : World) (p : Nat) (c0 c1 : Int) (A D : List (Value × List Int)) : Prop := ∃ fa ha ma ka wa hs M K W, Bk B w p c0 c1 fa ha ma ka wa (A ++ D) A.length hs M K W
theorem frs_app {A D : List (Value × List Int)} {k : Nat} : Frs (A ++ D) k ↔ Frs A k ∨ Frs D k := by
  simp only [Frs, List.mem_append]
  constructor
  · rintro ⟨x, hx | hx, hk⟩
    · exact .inl ⟨x, hx, hk⟩
    · exact .inr ⟨x, hx, hk⟩
  · rintro (⟨x, hx, hk⟩ | ⟨x, hx, hk⟩)
    · exact ⟨x, .inl hx, hk⟩
    · exact ⟨x, .inr hx, hk⟩
theorem frs_fstD {D D' : List (Value × List Int)} (h : D'.map Prod.fst = D.map Prod.fst) {k : Nat} (hk : Frs D' k) : Frs D k := by
  obtain ⟨x, hx, hk⟩ := hk
  have : x.1 ∈ D.map Prod.fst := by rw [← h]; exact List.mem_map_of_mem hx
  obtain ⟨y, hy, e⟩ := List.mem_map.1 this
  exact ⟨y, hy, by rw [e]; exact hk⟩
/-- a block of a kind that no book has -/
def Oth (w : World) (k : Nat) : Prop := ∀ cs t fr, w.heap[k]? = some (.cells cs t fr) → ¬ (t = 32 ∨ t = 24 ∨ t = 5 ∨ t = 3)
theorem Oth.of {w : World} {k : Nat} {cs : Array Value} {t : TypeId} {fr : Nat × Nat} (h : w.heap[k]? = some (.cells cs t fr)) (ht : ¬ (t = 32 ∨ t = 24 ∨ t = 5 ∨ t = 3)) : Oth w k := fun cs' t' fr' h' => by
  rw [h] at h'
  simp at h'
  rw [← h'.2.1]
  exact ht
theorem Oth.new {w : World} {k : Nat} (h : w.heap.size ≤ k) : Oth w k := fun cs t fr h' => by
  have := (Array.getElem?_eq_some_iff.1 h').1
  omega
theorem Oth.bkt {B B1 n1 : Nat} {w : World} {k : Nat} {ma : Value} {x1 : List Value} (h : Oth w k) (hm : w.ownsRow B1 3 1 ma n1 x1) : ¬ Bkt B w ma k := fun ⟨_, cur, t, hc, ht⟩ => by
  have h1 := h _ _ _ hc
  rcases ht with e | e | e | e
  · exact h1 (.inl e)
  · exact h1 (.inr (.inl e))
  · exact h1 (.inr (.inr (.inl e)))
  · obtain ⟨_, cs, fr, h2⟩ := own_cells hm e
    exact h _ _ _ h2 (.inr (.inr (.inr rfl)))
theorem Bq.own_of {B : Nat} {w : World} {p : Nat} {c0 c1 : Int} {A D : List (Value × List Int)} (h : Bq B w p c0 c1 A D) {x : Value × List Int} (hx : x ∈ D) : w.ownsRow B 5 1 x.1 x.2.length (bV x.2) := by
  obtain ⟨_, _, _, _, _, _, _, _, _, hb⟩ := h
  exact hb.fr.1 x (List.mem_append.2 (.inr hx))
theorem Bq.bw {B : Nat} {w : World} {p : Nat} {c0 c1 : Int} {A D : List (Value × List Int)} (h : Bq B w p c0 c1 A D) : B ≤ w.heap.size := by
  obtain ⟨_, _, _, _, _, _, _, _, _, hb⟩ := h
  exact hb.arr.bw
/-- blocks turn that the books have not; those of D hold what D' says; N are new -/
theorem Bq.turnN {B : Nat} {w w' : World} {p : Nat} {c0 c1 : Int} {A D D' N : List (Value × List Int)} {S : Nat → Prop} (h : Bq B w p c0 c1 A D) (c : Chg S w w') (hS : ∀ k, S k → Oth w k ∨ Frs D k) (hD : D'.map Prod.fst = D.map Prod.fst) (ho : ∀ x ∈ N ++ D', w'.ownsRow B 5 1 x.1 x.2.length (bV x.2)) (hN : ∀ x ∈ N, ∀ k, x.1.ownBlock = some k → w.heap.size ≤ k) (hP : N.Pairwise (fun x y => Dis x.1 y.1)) (hl : ∀ x ∈ N ++ D', x.2.length ≤ 60000000000000) : Bq B w' p c0 c1 A (N ++ D') := by
  obtain ⟨fa, ha, ma, ka, wa, hs, M, K, W, hb⟩ := h
  have hA := hb.arr
  have hfr := hb.fr
  have hF : ∀ k, k < w.heap.size → Frs (A ++ (N ++ D')) k → Frs (A ++ D) k := fun k hlt hk => by
    rcases frs_app.1 hk with h | h
    · exact frs_app.2 (.inl h)
    · rcases frs_app.1 h with ⟨x, hx, hk⟩ | h
      · have := hN x hx k hk; omega
      · exact frs_app.2 (.inr (frs_fstD hD h))
  have d8 : ∀ k, Frs D k → IsT8 w k := fun k hk => hfr.isT8 (frs_app.2 (.inr hk))
  have u8 : ∀ k, ¬ Frs (A ++ D) k → IsT8 w k → ¬ S k := fun k hn ⟨cur, hc⟩ hs => by
    rcases hS k hs with h | h
    · exact h _ _ _ hc (.inr (.inr (.inl rfl)))
    · exact hn (frs_app.2 (.inr h))
  have row : ∀ {et : TypeId} {u : Value} {m : Nat} {xs : List Value}, w.ownsRow B et 1 u m xs → (et = 32 ∨ et = 24 ∨ et = 5 ∨ et = 3) → ¬ et = 5 → w'.ownsRow B et 1 u m xs := fun ho het hne => owns_chg ho (fun k hk hs => by
    obtain ⟨-, hB, cur, hc⟩ := ownsRow_block_lt ho hk
    rcases hS k hs with h | h
    · exact h _ _ _ hc het
    · exact notT8 ho hne hk (d8 k h)) c
  have hp : w'.heap[p]? = w.heap[p]? := c.block p hA.st.lt (fun hk => by
    rcases hS p hk with h | h
    · exact h _ _ _ hA.st (.inl rfl)
    · obtain ⟨cur, hc⟩ := d8 p h
      have h2 : w.heap[p]? = _ := hA.st
      rw [h2] at hc
      simp at hc)
  have pw := List.pairwise_append.1 hfr.2
  have tk : ∀ D0 : List (Value × List Int), ((A ++ D0).take A.length) = A := fun D0 => by simp
  have old : ∀ x ∈ A ++ D, ∀ k, x.1.ownBlock = some k → k < w.heap.size := fun x hx k hk => (ownsRow_block_lt (hfr.1 x hx) hk).1
  have dm : ∀ y ∈ D', ∃ z ∈ D, z.1 = y.1 := fun y hy => by
    have : y.1 ∈ D.map Prod.fst := by rw [← hD]; exact List.mem_map_of_mem hy
    obtain ⟨z, hz, e⟩ := List.mem_map.1 this
    exact ⟨z, hz, e⟩
  refine ⟨fa, ha, ma, ka, wa, hs, M, K, W, ?_, ⟨?_, ?_⟩, ?_, ?_, hb.hl, hb.ml, by simp, ?_, hb.bm, hb.n2, hb.b0, hb.b1, hb.bb, hb.kl⟩
  · have hA2 := hA
    rw [tk D] at hA2
    rw [tk (N ++ D')]
    exact ⟨hA2.st.same hp, row hA2.fa_ (.inr (.inl rfl)) (by decide), row hA2.ha_ (.inr (.inl rfl)) (by decide), row hA2.ma_ (.inr (.inr (.inr rfl))) (by decide), row hA2.ka_ (.inr (.inl rfl)) (by decide), row hA2.wa_ (.inr (.inl rfl)) (by decide), hA2.fh, hA2.fk, hA2.fw, hA2.hk, hA2.hw, hA2.kw, hA2.bp, Nat.le_trans hA2.bw c.size⟩
  · intro x hx
    rcases List.mem_append.1 hx with hx | hx
    · refine owns_chg (hfr.1 x (List.mem_append.2 (.inl hx))) (fun k hk hs => ?_) c
      rcases hS k hs with h | ⟨y, hy, hk2⟩
      · obtain ⟨-, hB, cur, hc⟩ := ownsRow_block_lt (hfr.1 x (List.mem_append.2 (.inl hx))) hk
        exact h _ _ _ hc (.inr (.inr (.inl rfl)))
      · exact pw.2.2 x hx y hy k hk hk2
    · exact ho x hx
  · refine List.pairwise_append.2 ⟨pw.1, List.pairwise_append.2 ⟨hP, ?_, fun x hx y hy k hk hk2 => ?_⟩, fun x hx y hy k hk hk2 => ?_⟩
    · have h1 : (D.map Prod.fst).Pairwise Dis := List.pairwise_map.2 pw.2.1
      rw [← hD] at h1
      exact List.pairwise_map.1 h1
    · obtain ⟨z, hz, e⟩ := dm y hy
      have := old z (List.mem_append.2 (.inr hz)) k (by rw [e]; exact hk2)
      have := hN x hx k hk
      omega
    · rcases List.mem_append.1 hy with hy | hy
      · have := old x (List.mem_append.2 (.inl hx)) k hk
        have := hN y hy k hk2
        omega
      · obtain ⟨z, hz, e⟩ := dm y hy
        exact pw.2.2 x hx z hz k hk (by rw [e]; exact hk2)
  · exact hb.kep.chg c u8 (fun k hlt hn hk => hn (hF k hlt hk))
  · intro j x y hx hy
    have hj : j < A.length := by have h1 := (List.getElem?_eq_some_iff.1 hy).1; have := hb.hl; omega
    rw [List.getElem?_append_left hj] at hx
    exact (hb.held j x y (by rw [List.getElem?_append_left hj]; exact hx) hy).chg c (fun k cur hn hc => u8 k hn ⟨cur, hc⟩) (fun k hlt hn hk => hn (hF k hlt hk))
  · intro x hx
    rcases List.mem_append.1 hx with hx | hx
    · exact hb.bl x (List.mem_append.2 (.inl hx))
    · exact hl x hx
theorem Bq.turn {B : Nat} {w w' : World} {p : Nat} {c0 c1 : Int} {A D D' : List (Value × List Int)} {S : Nat → Prop} (h : Bq B w p c0 c1 A D) (c : Chg S w w') (hS : ∀ k, S k → Oth w k ∨ Frs D k) (hD : D'.map Prod.fst = D.map Prod.fst) (ho : ∀ x ∈ D', w'.ownsRow B 5 1 x.1 x.2.length (bV x.2)) (hl : ∀ x ∈ D', x.2.length ≤ 60000000000000) : Bq B w' p c0 c1 A D' :=
  h.turnN (N := []) c hS hD ho (fun x hx => by simp at hx) List.Pairwise.nil hl
theorem Bq.len_ {B : Nat} {w : World} {p : Nat} {c0 c1 : Int} {A D : List (Value × List Int)} (h : Bq B w p c0 c1 A D) {x : Value × List Int} (hx : x ∈ D) : x.2.length ≤ 60000000000000 := by
  obtain ⟨_, _, _, _, _, _, _, _, _, hb⟩ := h
  exact hb.bl x (List.mem_append.2 (.inr hx))
theorem Bq.keep {B : Nat} {w w' : World} {p : Nat} {c0 c1 : Int} {A D : List (Value × List Int)} {S : Nat → Prop} (h : Bq B w p c0 c1 A D) (c : Chg S w w') (hS : ∀ k, S k → Oth w k) {x : Value × List Int} (hx : x ∈ D) : w'.ownsRow B 5 1 x.1 x.2.length (bV x.2) := owns_chg (h.own_of hx) (fun k hk hs => by
  obtain ⟨-, hB, cur, hc⟩ := ownsRow_block_lt (h.own_of hx) hk
  exact hS k hs _ _ _ hc (.inr (.inr (.inl rfl)))) c
theorem Bq.away {B : Nat} {w w' : World} {p : Nat} {c0 c1 : Int} {A D : List (Value × List Int)} {S : Nat → Prop} (h : Bq B w p c0 c1 A D) (c : Chg S w w') (hS : ∀ k, S k → Oth w k) : Bq B w' p c0 c1 A D :=
  h.turn c (fun k hk => .inl (hS k hk)) rfl (fun x hx => h.keep c hS hx) (fun x hx => h.len_ hx)
theorem Bq.out {B : Nat} {w w' : World} {p : Nat} {c0 c1 : Int} {A D : List (Value × List Int)} (h : Bq B w p c0 c1 A D) (o : Out w w') : Bq B w' p c0 c1 A D := h.away (S := fun _ => False) (Chg.of_out o) (fun _ h => h.elim)
theorem Bq.perm {B : Nat} {w : World} {p : Nat} {c0 c1 : Int} {A D D' : List (Value × List Int)} (h : Bq B w p c0 c1 A D) (hp : D.Perm D') : Bq B w p c0 c1 A D' := by
  obtain ⟨fa, ha, ma, ka, wa, hs, M, K, W, hb⟩ := h
  have hm : ∀ x, x ∈ A ++ D' ↔ x ∈ A ++ D := fun x => by simp only [List.mem_append]; rw [hp.mem_iff]
  have hF : ∀ k, Frs (A ++ D') k ↔ Frs (A ++ D) k := fun k => by
    unfold Frs
    constructor
    · rintro ⟨x, hx, hk⟩; exact ⟨x, (hm x).1 hx, hk⟩
    · rintro ⟨x, hx, hk⟩; exact ⟨x, (hm x).2 hx, hk⟩
  have tk : ∀ D0 : List (Value × List Int), ((A ++ D0).take A.length) = A := fun D0 => by simp
  refine ⟨fa, ha, ma, ka, wa, hs, M, K, W, ?_, ⟨fun x hx => hb.fr.1 x ((hm x).1 hx), ?_⟩, ?_, ?_, hb.hl, hb.ml, by simp, fun x hx => hb.bl x ((hm x).1 hx), hb.bm, hb.n2, hb.b0, hb.b1, hb.bb, hb.kl⟩
  · have hA2 := hb.arr
    rw [tk D] at hA2
    rw [tk D']
    exact hA2
  · exact ((List.Perm.append_left A hp).pairwise_iff (fun h => Dis.symm h)).1 hb.fr.2
  · exact hb.kep.chg (Chg.refl (fun _ => False) w) (fun _ _ _ h => h) (fun k _ hn hk => hn ((hF k).1 hk))
  · intro j x y hx hy
    have hj : j < A.length := by have h1 := (List.getElem?_eq_some_iff.1 hy).1; have := hb.hl; omega
    rw [List.getElem?_append_left hj] at hx
    exact (hb.held j x y (by rw [List.getElem?_append_left hj]; exact hx) hy).chg (Chg.refl (fun _ => False) w) (fun _ _ _ _ h => h) (fun k _ hn hk => hn ((hF k).1 hk))
/-- a list that is new is one more of the others'; blocks of other kinds turn -/
theorem Bq.takeS {B : Nat} {w w' : World} {p : Nat} {c0 c1 : Int} {A D : List (Value × List Int)} {S : Nat → Prop} (h : Bq B w p c0 c1 A D) (c : Chg S w w') (hS : ∀ k, S k → Oth w k) {v : Value} {l : List Int} (hv : w'.ownsRow w.heap.size 5 1 v l.length (bV l)) (hl : l.length ≤ 60000000000000) : Bq B w' p c0 c1 A ((v, l) :: D) :=
  h.turnN (N := [(v, l)]) c (fun k hk => .inl (hS k hk)) rfl (fun x hx => by
    rcases List.mem_cons.1 hx with rfl | hx
    · exact owns_lower hv h.bw
    · exact h.keep c hS hx) (fun x hx k hk => by
    rw [List.mem_singleton.1 hx] at hk
    exact (ownsRow_block_lt hv hk).2.1) (List.pairwise_singleton _ _) (fun x hx => by
    rcases List.mem_cons.1 hx with rfl | hx
    · exact hl
    · exact h.len_ hx)
theorem Bq.take {B : Nat} {w w' : World} {p : Nat} {c0 c1 : Int} {A D : List (Value × List Int)} (h : Bq B w p c0 c1 A D) (o : Out w w') {v : Value} {l : List Int} (hv : w'.ownsRow w.heap.size 5 1 v l.length (bV l)) (hl : l.length ≤ 60000000000000) : Bq B w' p c0 c1 A ((v, l) :: D) :=
  h.takeS (S := fun _ => False) (Chg.of_out o) (fun _ h => h.elim) hv hl
/-- the first of the others' lists is handed in -/
theorem Bq.own {B : Nat} {w : World} {p : Nat} {c0 c1 : Int} {A D : List (Value × List Int)} {a : Option Addr} {q c : Nat} {l : List Int} (h : Bq B w p c0 c1 A ((.slice a q c, l) :: D)) (hq : l.length = q) (hc1 : c1 ≤ 900000000000000) (mark : Int) (m0 : 0 ≤ mark) (m1 : mark ≤ 100000000000) (hc0 : c0 ≤ 20000000000) :
    Calls Try.prog 40 #[.pointer (some ⟨p, 0, none⟩), .slice a q c, .int .i64 mark] w fun e w' => (∃ r, e = .returned r) ∧ (∃ A', Bq B w' p (c0 + 1) (c1 + q) A' D) ∧ ∃ S : Nat → Prop, Chg S w w' ∧ ∀ k, S k → B ≤ k ∧ ¬ Oth w k := by
  obtain ⟨fa, ha, ma, ka, wa, hs, M, K, W, hb⟩ := h
  refine (books_own w B p c0 c1 fa ha ma ka wa _ _ hs M K W hc1 hb a q c l (by simp) hq mark m0 m1 hc0).mono ?_
  rintro e w' ⟨he, fa', ha', ma', ka', wa', hs', M', K', W', F', n', hb', hF', hc, -⟩
  refine ⟨he, ?_, _, hc, fun k hk => ⟨hk.1, fun ho => ho.bkt hb.arr.ma_ hk⟩⟩
  rcases hF' with ⟨rfl, rfl⟩ | ⟨rfl, rfl⟩
  · refine ⟨A ++ [(.slice a q c, l)], fa', ha', ma', ka', wa', hs', M', K', W', ?_⟩
    rw [List.append_assoc, List.length_append]
    exact hb'
  · refine ⟨[], fa', ha', ma', ka', wa', hs', M', K', W', ?_⟩
    have e1 : (A ++ (Value.slice a q c, l) :: D).drop (A.length + 1) = D := by simp [List.drop_append]
    rw [e1] at hb'
    exact hb'
theorem Bq.holds {B : Nat} {w : World} {p : Nat} {c0 c1 : Int} {A D : List (Value × List Int)} (h : Bq B w p c0 c1 A D) (hc : c0 ≤ 20000000000) : Calls Try.prog 17 #[.pointer (some ⟨p, 0, none⟩)] w fun e w' => e = .returned (.bool true) ∧ Out w w' := by
  obtain ⟨fa, ha, ma, ka, wa, hs, M, K, W, hb⟩ := h
  refine (hb.holds hc).mono ?_
  rintro e w' ⟨rfl, k, rfl⟩
  exact ⟨rfl, (Out.refl w).drewN k⟩
def bookO : Obj := .cells #[.int .i64 0, .int .i64 0, .bool false, .slice none 0 0, .slice none 0 0, .slice none 0 0, .slice none 0 0, .slice none 0 0] 32 (0, 0)
end Go.Proofs.Ytlfcjbeldnkkoaa
namespace Go.Proofs.Ytlfcjbeldnkkoaa
open Go.RowKit
set_option linter.unusedVariables false
set_option linter.unusedSimpArgs false
/-- behind Lend -/
def LendC (w : World) (p po g m : Nat) (cs : Array Value) (l L : List UInt8) (e : Ending) (w' : World) : Prop :=
  e = .returned (.slice (some ⟨g, 0, none⟩) l.length (2 * l.length + 70)) ∧ LeC w' p po g m (cs.setIfInBounds (po + 1) (.int .i64 (l.length : Int))) l.length (l ++ (lmsB l.length (l.length + 70) ++ L.drop (2 * l.length + 70))) ∧ Chg (SL p g) w w'
theorem ov_end (l L : List UInt8) (k : Nat) (hk : k = 2 * l.length + 70) : ov (l ++ lmsB l.length (l.length + 70)) L = l ++ (lmsB l.length (l.length + 70) ++ L.drop (2 * l.length + 70)) := by
  unfold ov
  rw [List.append_assoc, List.length_append, lmsB_len, show l.length + (l.length + 70) = 2 * l.length + 70 by omega]
theorem take_snocL {l : List UInt8} {j : Nat} {y : UInt8} (h : l[j]? = some y) : l.take j ++ [y] = l.take (j + 1) := by
  rw [List.take_add_one, h]; rfl
theorem info1 : (Try.prog.info? 5).map (fun i => (i.zero, i.size, i.bytes)) = some (some (.int .u8 0), 1, 1) := by kernel_rfl
theorem made_bytes (N : Nat) : madeCells #[.int .u8 0] N = (bCells (List.replicate N 0)).toArray := by
  apply Array.ext_getElem?
  intro j
  simp only [madeCells, Array.getElem?_map, List.getElem?_toArray, bCells, List.getElem?_map, List.getElem?_replicate]
  by_cases hj : j < N
  · rw [if_pos hj, Array.getElem?_range, if_pos hj]
    simp [Nat.mod_one]
  · rw [if_neg hj, Array.getElem?_range, if_neg hj]; rfl
theorem run_make_bytes (n : Nat) (hn : n ≤ 281474976710656) (w : World) : (Instr.makeSlice 24 (.int .i64 (n : Int)) (.int .i64 (n : Int))).run Try.prog w = .ok (.slice (some ⟨w.heap.size, 0, none⟩) n n) (w.alloc (.cells (bCells (List.replicate n 0)).toArray 5)) := by
  obtain ⟨i0, hi, hz0, hz1, hz2⟩ := info_parts info1
  have h := run_make (P := Try.prog) w 24 5 i0 _ Try.underlying24 hi hz0 .i64 .i64 (n : Int) (n : Int) (by omega) (Int.le_refl _) (by rw [hz2]; omega) (by omega)
  rw [hz1] at h
  simp only [Int.toNat_natCast, Value.cells, Nat.mul_one] at h
  rw [h, made_bytes]
set_option maxRecDepth 20000 in
set_option maxHeartbeats 3000000 in
theorem lendC_again (B : Nat) (W : World) (p po g m : Nat) (cs : Array Value) (N : Int) (L : List UInt8) (h : LeC W p po g m cs N L) (a : Option Addr) (cap : Nat) (l : List UInt8) (hr : RestAt B W a l) (hbp : ¬ l = [] → ∀ ad, a = some ad → ¬ ad.block = p) (hbg : ¬ l = [] → ∀ ad, a = some ad → ¬ ad.block = g) (hm : 2 * l.length + 70 ≤ m) (hll : l.length ≤ 100000000000000) :
    Calls Try.prog 12 #[.pointer (some ⟨p, po, none⟩), .slice a l.length cap] W fun e w' => LendC W p po g m cs l L e w' := by
  have H := hidOf h
  have HR := hidOf hr
  have hBp := hidOf hbp
  have hBg := hidOf hbg
  have c0 := h.c0
  have hmI : ¬ (m : Int) < 2 * (l.length : Int) + 70 := by omega
  have hmN : l.length ≤ m := by omega
  clear h hr hbp hbg
  go_enter Try.func12, Try.ntmps12
  go_wp2
  clear c0
  have HC0 := hidOf (Chg.refl (SL p g) W)
  have Hll := hidOf hll
  go_loopw [5] (fun kv wr => ∃ (j : Nat) (A : List UInt8), kv = .int .i64 j ∧ j ≤ l.length ∧ Hid (A = l.take j) ∧ Hid (LeC wr p po g m cs N (ov A L)) ∧ Hid (Chg (SL p g) W wr)) (fun kv _ => l.length - (intOf kv).toNat)
  case atStart => exact ⟨0, [], rfl, by omega, hidOf rfl, by rw [ov_nil]; exact H, HC0⟩
  case round =>
    obtain ⟨j, A, rfl, hj, HA, HB, HC⟩ := hrel
    have hAl : Hid (A.length = j) := by rw [HA.out]; exact hidOf (by simp; omega)
    have hLl : Hid (L.length = m) := H.out.len_
    by_cases hlt : j < l.length
    · have hltI : (j : Int) < l.length := by omega
      obtain ⟨y, hy⟩ : ∃ y, l[j]? = some y := ⟨_, List.getElem?_eq_getElem hlt⟩
      obtain ⟨b, o, hb, rfl, hcx⟩ : ∃ b o, b < B ∧ a = some ⟨b, o, none⟩ ∧ ∀ k y, l[k]? = some y → W.cell? ⟨b, o + k, none⟩ = some (.int .u8 (y.toNat : Int)) := by
        rcases HR.out with h | h
        · rw [h] at hlt; simp at hlt
        · exact h
      have hl0 : ¬ l = [] := fun e => by rw [e] at hlt; simp at hlt
      have nb1 : ¬ b = p := hBp.out hl0 ⟨b, o, none⟩ rfl
      have nb2 : ¬ b = g := hBg.out hl0 ⟨b, o, none⟩ rfl
      have qy := HC.out.cell (hcx j y hy) (fun h => by rcases h with h | h; exact nb1 h; exact nb2 h)
      obtain ⟨z, hz⟩ : ∃ z, (ov A L)[j]? = some z := ⟨_, List.getElem?_eq_getElem (by have := hAl.out; have := hLl.out; rw [ov_len (by omega)]; omega)⟩
      have d0 := HB.out.c0
      have dz := HB.out.cell hz
      have fz := HB.out.fg j
      have HB2 : Hid (LeC (wr.setCell ⟨g, j, none⟩ (.int .u8 (y.toNat : Int))) p po g m cs N (ov (A ++ [y]) L)) := by
        have := HB.out.set j y
        rw [ov_set hAl.out (by have := hLl.out; omega)] at this
        exact this
      have HA2 : Hid (A ++ [y] = l.take (j + 1)) := by rw [HA.out]; exact hidOf (take_snocL hy)
      have HC2 : Hid (Chg (SL p g) W (wr.setCell ⟨g, j, none⟩ (.int .u8 (y.toNat : Int)))) := Chg.setCell HC.out (p := ⟨g, j, none⟩) (.inr rfl) _
      have hjm : (j : Int) < m := by omega
      have hgb : ¬ g = b := fun e => nb2 e.symm
      have hgp : ¬ g = p := fun e => HB.out.ne e.symm
      clear hcx hy hz
      go_upto_region 6 with fail
      go_region_held3 (fun w' => w'.cell? ⟨p, po, none⟩ = some (.slice (some ⟨g, 0, none⟩) m m) ∧ w'.cell? ⟨b, o + j, none⟩ = some (.int .u8 (y.toNat : Int))) (first | exact ⟨d0, qy⟩ | go_keep) (fail)
      go_wp2
      go_roundw
      case rel =>
        exact ⟨j + 1, A ++ [y], by simp, by omega, HA2, HB2.out.drew, HC2.out.drew⟩
      case measure => simp [intOf]; omega
    · have hltI : ¬ (j : Int) < l.length := by omega
      obtain rfl : j = l.length := by omega
      have HA0 : Hid (A = l ++ lmsB l.length (l.length - l.length)) := by rw [HA.out, List.take_length, Nat.sub_self]; exact hidOf (by simp [lmsB])
      clear HA hAl
      go_wp2
      obtain ⟨w1, hw1⟩ : ∃ w1, w1 = wr := ⟨_, rfl⟩
      rw [← hw1] at HB HC
      have Hw1 := hidOf hw1
      clear hw1
      go_loopw [6] (fun kv wr => ∃ (j : Nat) (A : List UInt8), kv = .int .i64 j ∧ l.length ≤ j ∧ j ≤ 2 * l.length + 70 ∧ Hid (A = l ++ lmsB l.length (j - l.length)) ∧ Hid (LeC wr p po g m cs N (ov A L)) ∧ Hid (Chg (SL p g) W wr)) (fun kv _ => 2 * l.length + 70 - (intOf kv).toNat)
      case atStart => exact ⟨l.length, A, rfl, by omega, by omega, HA0, by rw [← Hw1.out]; exact HB, by rw [← Hw1.out]; exact HC⟩
      case round =>
        clear HB HC HA0 Hw1
        obtain ⟨j, A, rfl, hj0, hj, HA, HB, HC⟩ := hrel
        have hAl : Hid (A.length = j) := by rw [HA.out, List.length_append, lmsB_len]; exact hidOf (by omega)
        by_cases hlt : j < 2 * l.length + 70
        · have hltI : (j : Int) < 2 * (l.length : Int) + 70 := by omega
          obtain ⟨z, hz⟩ : ∃ z, (ov A L)[j]? = some z := ⟨_, List.getElem?_eq_getElem (by have := hAl.out; have := hLl.out; rw [ov_len (by omega)]; omega)⟩
          have d0 := HB.out.c0
          have dz := HB.out.cell hz
          have fz := HB.out.fg j
          have HB2 : Hid (LeC (wr.setCell ⟨g, j, none⟩ (.int .u8 ((lmB j).toNat : Int))) p po g m cs N (ov (A ++ [lmB j]) L)) := by
            have := HB.out.set j (lmB j)
            rw [ov_set hAl.out (by have := hLl.out; omega)] at this
            exact this
          have HA2 : Hid (A ++ [lmB j] = l ++ lmsB l.length (j + 1 - l.length)) := by
            rw [HA.out, show j + 1 - l.length = (j - l.length) + 1 by omega, lmsB_succ, show l.length + (j - l.length) = j by omega]
            exact hidOf (by simp)
          have HC2 : Hid (Chg (SL p g) W (wr.setCell ⟨g, j, none⟩ (.int .u8 ((lmB j).toNat : Int)))) := Chg.setCell HC.out (p := ⟨g, j, none⟩) (.inr rfl) _
          have hjm : (j : Int) < m := by omega
          have hgp : ¬ g = p := fun e => HB.out.ne e.symm
          have CMk : Hid (∀ wx, Calls Try.prog 39 #[.pointer (some ⟨p, po, none⟩), .int .i64 j] wx fun e w' => e = .returned (.int .u8 ((lmB j).toNat : Int)) ∧ wx = w') := fun wx => lmark_any _ j (by omega) wx
          generalize lmB j = y at *
          clear hz
          go_upto_region 10 with fail
          go_region_held3 (fun w' => w'.cell? ⟨p, po, none⟩ = some (.slice (some ⟨g, 0, none⟩) m m)) (first | exact d0 | go_keep) (first | (go_at_call 39; refine (CMk.out _).mono ?_; rintro e w2 ⟨rfl, rfl⟩))
          go_wp2
          go_roundw
          case rel => exact ⟨j + 1, A ++ [y], by simp, by omega, by omega, HA2, HB2.out.drew, HC2.out.drew⟩
          case measure => simp [intOf]; omega
        · have hltI : ¬ (j : Int) < 2 * (l.length : Int) + 70 := by omega
          have hje : Hid (A = l ++ lmsB l.length (l.length + 70)) := by rw [HA.out, show j - l.length = l.length + 70 by omega]; exact hidOf rfl
          have d0 := HB.out.c0
          have d1 := HB.out.c1
          have f1 := HB.out.fp (po + 1)
          have HB2 : Hid (LeC (wr.setCell ⟨p, po + 1, none⟩ (.int .i64 (l.length : Int))) p po g m (cs.setIfInBounds (po + 1) (.int .i64 (l.length : Int))) l.length (l ++ (lmsB l.length (l.length + 70) ++ L.drop (2 * l.length + 70)))) := by
            have := HB.out.setN (l.length : Int)
            rw [hje.out, ov_end l L _ rfl] at this
            exact this
          have HC2 : Hid (Chg (SL p g) W (wr.setCell ⟨p, po + 1, none⟩ (.int .i64 (l.length : Int)))) := Chg.setCell HC.out (p := ⟨p, po + 1, none⟩) (.inl rfl) _
          have e1 : (l.length : Int) ≤ 2 * (l.length : Int) + 70 := by omega
          have e2 : 2 * (l.length : Int) + 70 ≤ m := by omega
          go_wp2
          go_ret
          exact ⟨rfl, HB2.out, HC2.out⟩
end Go.Proofs.Ytlfcjbeldnkkoaa
