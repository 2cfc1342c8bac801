import Derived.Test.YtjlgkcnfdpnlkaaDoorXn
import Derived.Test.YtjlgkcnfdpnlkaaDoorNi
namespace Go.Proofs.YtjlgkcnfdpnlkaaDoor
open Go.RowKit
set_option linter.unusedVariables false
set_option linter.unusedSimpArgs false
/-- the books, whatever they hold -/
def Books (B : Nat) (w : World) (p : Nat) (c0 : Int) (F : List (Value × List Int)) (n : Nat) : Prop := ∃ c1 fa ha ma ka wa hs M K W, Bk B w p c0 c1 fa ha ma ka wa F n hs M K W
theorem Books.out {B p n : Nat} {w w' : World} {c0 : Int} {F : List (Value × List Int)} (h : Books B w p c0 F n) (o : Out w w') : Books B w' p c0 F n := by
  obtain ⟨c1, fa, ha, ma, ka, wa, hs, M, K, W, h⟩ := h
  exact ⟨c1, fa, ha, ma, ka, wa, hs, M, K, W, h.out o⟩
theorem Books.take {B p n : Nat} {w w' : World} {c0 : Int} {F : List (Value × List Int)} (h : Books B w p c0 F n) (o : Out w w') {v : Value} {l : List Int} {q : Nat} (hq : l.length = q) (hv : w'.ownsRow w.heap.size 3 1 v q (bV l)) (hl : q ≤ 1000000) : Books B w' p c0 (F ++ [(v, l)]) n := by
  obtain ⟨c1, fa, ha, ma, ka, wa, hs, M, K, W, h⟩ := h
  subst hq
  exact ⟨c1, fa, ha, ma, ka, wa, hs, M, K, W, h.take o hv hl⟩
theorem Books.new (w : World) : Books w.heap.size (w.alloc (.cells #[.int .i64 0, .int .i64 0, .bool false, .slice none 0 0, .slice none 0 0, .slice none 0 0, .slice none 0 0, .slice none 0 0] 27)) w.heap.size 0 [] 0 := by
  have hd : ∀ y : Value, Dis (.slice none 0 0) y := fun y k hk => by simp [Value.ownBlock] at hk
  exact ⟨0, .slice none 0 0, .slice none 0 0, .slice none 0 0, .slice none 0 0, .slice none 0 0, [], [], [], [], ⟨⟨heap_alloc_new w _, World.ownsRow_nil _ _ _ _, World.ownsRow_nil _ _ _ _, World.ownsRow_nil _ _ _ _, World.ownsRow_nil _ _ _ _, World.ownsRow_nil _ _ _ _, hd _, hd _, hd _, hd _, hd _, hd _, Nat.le_refl _, by rw [size_alloc]; omega⟩,
    ⟨(fun x hx => by cases hx), List.Pairwise.nil⟩, ⟨rfl, fun j x y hx _ => by simp at hx⟩, (fun j x y hx _ => by simp at hx), (fun x hx => by cases hx), rfl, rfl, Nat.le_refl _, (fun x hx => by cases hx), (fun m hm => by cases hm), by omega, by omega, by omega, by omega, by simp⟩⟩
theorem Books.own {B p n r : Nat} {w : World} {c0 : Int} {F : List (Value × List Int)} (h : Books B w p c0 F n) {a : Option Addr} {q c : Nat} {l : List Int} (hx : F[n]? = some (.slice a q c, l)) (hq : l.length = q) (hr : F.length = n + 1 + r) (mark : Int) (m0 : 0 ≤ mark) (m1 : mark ≤ 1100000000) (hc0 : c0 ≤ 10000000) :
    Calls Tryd.prog 9 #[.pointer (some ⟨p, 0, none⟩), .slice a q c, .int .i64 mark] w fun e w' => (∃ r, e = .returned r) ∧ ∃ F' n', Books B w' p (c0 + 1) F' n' ∧ F'.length = n' + r ∧ (∀ y, F[n + 1]? = some y → F'[n']? = some y) ∧ Chg (Bkt B w) w w' := by
  obtain ⟨c1, fa, ha, ma, ka, wa, hs, M, K, W, h⟩ := h
  refine (books_own w B p c0 c1 fa ha ma ka wa F n hs M K W h a q c l hx hq mark m0 m1 hc0).mono ?_
  rintro e w' ⟨hr', c1', fa', ha', ma', ka', wa', hs', M', K', W', F', n', hb, hF, hc⟩
  refine ⟨hr', F', n', ⟨c1', fa', ha', ma', ka', wa', hs', M', K', W', hb⟩, ?_, ?_, hc⟩
  · rcases hF with ⟨rfl, rfl⟩ | ⟨rfl, rfl⟩
    · omega
    · simp; omega
  · intro y hy
    rcases hF with ⟨rfl, rfl⟩ | ⟨rfl, rfl⟩
    · exact hy
    · simpa using hy
theorem Books.holds {B p n : Nat} {w : World} {c0 : Int} {F : List (Value × List Int)} (h : Books B w p c0 F n) (hc : c0 ≤ 10000000) : Calls Tryd.prog 12 #[.pointer (some ⟨p, 0, none⟩)] w fun e w' => e = .returned (.bool true) ∧ ∃ m, w' = w.drewN m := by
  obtain ⟨c1, fa, ha, ma, ka, wa, hs, M, K, W, h⟩ := h
  exact h.holds hc
theorem lists_len (o d s f i : Int) : (writesP o d s f i).length ≤ 1000 ∧ (readsP o d s f i).length ≤ 1000 := by
  rcases may_vals2 o d s f i with hm | hm
  · obtain ⟨a, b⟩ := within_lists hm
    exact ⟨(within_of a).2, (within_of b).2⟩
  · rw [writesP, readsP, whole_bad hm]
    exact ⟨by simp [writesC], by simp [readsC]⟩
/-- a new list in a written form -/
theorem new_form {w w' : World} {v : Value} {l : List Int} {n : Nat} (h : Own w w' v l) (hn : l.length = n) : ∃ a c, v = .slice a n c ∧ w'.ownsRow w.heap.size 3 1 (.slice a n c) n (bV l) ∧ NumsAt w' (.slice a n c) l ∧ Out w w' := by
  have h1 : w'.ownsRow w.heap.size 3 1 v l.length (bV l) := h.1
  obtain ⟨a, c, e, _, _⟩ := owns_bytA h1
  subst hn
  rw [e] at h1
  exact ⟨a, c, e, h1, nums_of_own h1, h.2⟩
theorem writes_b (o d s f i : Int) (w : World) (hA : TabA w) (hO : TabO w) (n : Nat) (hn : (writesP o d s f i).length = n) : Calls Tryd.prog 4 #[.agg #[.int .i64 o, .int .i64 d, .int .i64 s, .int .i64 f, .int .i64 i]] w fun e w' => ∃ a c, e = .returned (.slice a n c) ∧ w'.ownsRow w.heap.size 3 1 (.slice a n c) n (bV (writesP o d s f i)) ∧ NumsAt w' (.slice a n c) (writesP o d s f i) ∧ Out w w' :=
  (writes_any o d s f i w hA hO).mono fun e w' ⟨v, he, h⟩ => by
    obtain ⟨a, c, rfl, h1, h2, h3⟩ := new_form h hn
    exact ⟨a, c, he, h1, h2, h3⟩
theorem reads_b (o d s f i : Int) (w : World) (hA : TabA w) (hO : TabO w) (n : Nat) (hn : (readsP o d s f i).length = n) : Calls Tryd.prog 5 #[.agg #[.int .i64 o, .int .i64 d, .int .i64 s, .int .i64 f, .int .i64 i]] w fun e w' => ∃ a c, e = .returned (.slice a n c) ∧ w'.ownsRow w.heap.size 3 1 (.slice a n c) n (bV (readsP o d s f i)) ∧ NumsAt w' (.slice a n c) (readsP o d s f i) ∧ Out w w' :=
  (reads_any o d s f i w hA hO).mono fun e w' ⟨v, he, h⟩ => by
    obtain ⟨a, c, rfl, h1, h2, h3⟩ := new_form h hn
    exact ⟨a, c, he, h1, h2, h3⟩
theorem refWrites_b (o d s f i : Int) (w : World) (n : Nat) (hn : (writesP o d s f i).length = n) : Calls Tryd.prog 7 #[.agg #[.int .i64 o, .int .i64 d, .int .i64 s, .int .i64 f, .int .i64 i]] w fun e w' => ∃ a c, e = .returned (.slice a n c) ∧ NumsAt w' (.slice a n c) (writesP o d s f i) ∧ Out w w' :=
  (refWrites_any o d s f i w).mono fun e w' ⟨v, he, h⟩ => by
    obtain ⟨a, c, rfl, _, h2, h3⟩ := new_form h hn
    exact ⟨a, c, he, h2, h3⟩
theorem refReads_b (o d s f i : Int) (w : World) (n : Nat) (hn : (readsP o d s f i).length = n) : Calls Tryd.prog 8 #[.agg #[.int .i64 o, .int .i64 d, .int .i64 s, .int .i64 f, .int .i64 i]] w fun e w' => ∃ a c, e = .returned (.slice a n c) ∧ NumsAt w' (.slice a n c) (readsP o d s f i) ∧ Out w w' :=
  (refReads_any o d s f i w).mono fun e w' ⟨v, he, h⟩ => by
    obtain ⟨a, c, rfl, _, h2, h3⟩ := new_form h hn
    exact ⟨a, c, he, h2, h3⟩
theorem opsS_length : opsS.length = 119 := by rw [← ops_sorted, sortZ_len, opsZ_len]
theorem ops_b (w : World) (hO : TabO w) : Calls Tryd.prog 10 #[] w fun e w' => ∃ a c, e = .returned (.slice a 119 c) ∧ w'.ownsRow w.heap.size 3 1 (.slice a 119 c) 119 (bV opsS) ∧ NumsAt w' (.slice a 119 c) opsS ∧ Out w w' :=
  (ops_walk w hO).mono fun e w' ⟨v, he, h⟩ => by
    rw [ops_sorted] at h
    obtain ⟨a, c, rfl, h1, h2, h3⟩ := new_form h opsS_length
    exact ⟨a, c, he, h1, h2, h3⟩
theorem refOps_b (w : World) : Calls Tryd.prog 11 #[] w fun e w' => ∃ a c, e = .returned (.slice a 119 c) ∧ NumsAt w' (.slice a 119 c) opsS ∧ Out w w' :=
  (refOps_walk w).mono fun e w' ⟨v, he, h⟩ => by
    obtain ⟨a, c, rfl, _, h2, h3⟩ := new_form h opsS_length
    exact ⟨a, c, he, h2, h3⟩
end Go.Proofs.YtjlgkcnfdpnlkaaDoor
