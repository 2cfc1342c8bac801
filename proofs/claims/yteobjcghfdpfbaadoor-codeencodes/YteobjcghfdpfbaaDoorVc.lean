import Derived.Test.YteobjcghfdpfbaaDoorVb
namespace Go.Proofs.YteobjcghfdpfbaaDoor
open Go.RowKit
set_option linter.unusedVariables false
set_option linter.unusedSimpArgs false
/-- what every Encode of L answers -/
def EncD (L : List Ins) (Bs : List Int) (k f : Int) : Prop := (RefIs L k f ∧ f ≠ 0 ∧ Bs = []) ∨ (k = 0 ∧ f = 0 ∧ (∀ x ∈ L, may x = 0) ∧ Bs = encL L)
theorem encD_ex (L : List Ins) : ∃ Bs k f, EncD L Bs k f := by
  rcases ref_ex L with h | ⟨p, y, h1, h2, h3⟩
  · exact ⟨encL L, 0, 0, .inr ⟨rfl, rfl, h, rfl⟩⟩
  · exact ⟨[], p, may y, .inl ⟨.inr ⟨p, y, rfl, h1, rfl, h2, h3⟩, h2, rfl⟩⟩
theorem encD_len {L : List Ins} {Bs : List Int} {k f : Int} (h : EncD L Bs k f) : Bs.length ≤ 16 * L.length := by
  rcases h with ⟨_, _, rfl⟩ | ⟨_, _, _, rfl⟩
  · simp
  · have h1 := encL_len L
    have h2 := slots_le L
    omega
/-- an answer that is new -/
def NewIs (w w' : World) (Bs : List Int) (v : Value) : Prop := ∃ a c, v = .slice a Bs.length c ∧ w'.ownsRow w.heap.size 5 1 (.slice a Bs.length c) Bs.length (bV Bs)
theorem encD_no {L : List Ins} {Bs : List Int} {k f k' f' : Int} (h : EncD L Bs k f) (hr : RefIs L k' f') (hf : f' ≠ 0) : k' = k ∧ f' = f ∧ Bs = [] := by
  rcases h with ⟨h1, h2, rfl⟩ | ⟨_, _, h3, _⟩
  · obtain ⟨e1, e2⟩ := hr.one h1
    exact ⟨e1, e2, rfl⟩
  · rcases hr with ⟨_, _, e⟩ | ⟨q, x, _, hx, rfl, _⟩
    · exact absurd e hf
    · exact absurd (h3 x (List.mem_of_getElem? hx)) hf
theorem encD_yes {L : List Ins} {Bs : List Int} {k f : Int} (h : EncD L Bs k f) (hm : ∀ x ∈ L, may x = 0) : 0 = k ∧ 0 = f ∧ Bs = encL L := by
  rcases h with ⟨h1, h2, rfl⟩ | ⟨rfl, rfl, _, rfl⟩
  · rcases h1 with ⟨_, _, e⟩ | ⟨q, x, _, hx, rfl, _⟩
    · exact absurd e h2
    · exact absurd (hm x (List.mem_of_getElem? hx)) h2
  · exact ⟨rfl, rfl, rfl⟩
theorem newIs_of {w w' : World} {Bs : List Int} {v : Value} (h : w'.ownsRow w.heap.size 5 1 v Bs.length (bV Bs)) : NewIs w w' Bs v := by
  obtain ⟨a, c, rfl, _, _⟩ := owns_bytA h
  exact ⟨a, c, rfl, h⟩
theorem encD_r {w w' : World} {L : List Ins} {Bs : List Int} {k f k' f' : Int} {v : Value} (h : EncD L Bs k f) (hr : EncR w w' L v k' f') : k' = k ∧ f' = f ∧ NewIs w w' Bs v := by
  rcases hr with ⟨rfl, h1, h2⟩ | ⟨rfl, rfl, h1, h2⟩
  · obtain ⟨e1, e2, rfl⟩ := encD_no h h1 h2
    exact ⟨e1, e2, none, 0, rfl, World.ownsRow_nil _ _ _ _⟩
  · obtain ⟨e1, e2, rfl⟩ := encD_yes h h1
    exact ⟨e1, e2, newIs_of h2⟩
theorem encD_i {w w' : World} {L : List Ins} {Bs : List Int} {k f k' f' : Int} {v : Value} (h : EncD L Bs k f) (hr : EncIs w w' L v k' f') : k' = k ∧ f' = f ∧ NewIs w w' Bs v := by
  rcases hr with ⟨rfl, h1, h2⟩ | ⟨rfl, rfl, h1, h2, _⟩
  · obtain ⟨e1, e2, rfl⟩ := encD_no h h1 h2
    exact ⟨e1, e2, none, 0, rfl, World.ownsRow_nil _ _ _ _⟩
  · obtain ⟨e1, e2, rfl⟩ := encD_yes h h1
    exact ⟨e1, e2, newIs_of h2⟩
theorem encode_det (w : World) (ht : Tabs w) (a : Option Addr) (n cap : Nat) (l : List Ins) (hn : l.length = n) (hi : InsA w a l) (hm : n ≤ 3518437208780) (hI : ∀ x ∈ l, -9223372036854775808 ≤ x.i ∧ x.i ≤ 9223372036854775807) (Bs : List Int) (k f : Int) (hd : EncD l Bs k f) (N : Nat) (hN : Bs.length = N) :
    Calls Tryd.prog 12 #[.slice a n cap] w fun e w' => ∃ a1 c1, e = .returned (.tuple #[.slice a1 N c1, .int .i64 k, .int .i64 f]) ∧ w'.ownsRow w.heap.size 5 1 (.slice a1 N c1) N (bV Bs) ∧ Out w w' := by
  refine (encode_any w ht a n cap l hn hi (by omega) hI).mono ?_
  rintro e w' ⟨v, k', f', rfl, h, o⟩
  obtain ⟨rfl, rfl, a1, c1, rfl, ho⟩ := encD_i hd h
  subst hN
  exact ⟨a1, c1, rfl, ho, o⟩
theorem refEncode_det (w : World) (a : Option Addr) (n cap : Nat) (l : List Ins) (hn : l.length = n) (hi : InsA w a l) (hm : n ≤ 3518437208780) (hI : ∀ x ∈ l, -9223372036854775808 ≤ x.i ∧ x.i ≤ 9223372036854775807) (Bs : List Int) (k f : Int) (hd : EncD l Bs k f) (N : Nat) (hN : Bs.length = N) :
    Calls Tryd.prog 11 #[.slice a n cap] w fun e w' => ∃ a1 c1, e = .returned (.tuple #[.slice a1 N c1, .int .i64 k, .int .i64 f]) ∧ w'.ownsRow w.heap.size 5 1 (.slice a1 N c1) N (bV Bs) ∧ Out w w' := by
  refine (refEncode_any w a n cap l hn hi hm hI).mono ?_
  rintro e w' ⟨v, k', f', rfl, h, o⟩
  obtain ⟨rfl, rfl, a1, c1, rfl, ho⟩ := encD_r hd h
  subst hN
  exact ⟨a1, c1, rfl, ho, o⟩
theorem turned_rng {l : List Ins} (hI : ∀ x ∈ l, -9223372036854775808 ≤ x.i ∧ x.i ≤ 9223372036854775807) (t : Nat) : ∀ x ∈ turnedL l t, -9223372036854775808 ≤ x.i ∧ x.i ≤ 9223372036854775807 := by
  intro x hx
  unfold turnedL at hx
  split at hx
  · rcases List.mem_or_eq_of_mem_set hx with h | rfl
    · exact hI x h
    · simp [exitT]
  · split at hx
    · exact hI x (List.mem_reverse.1 hx)
    · exact hI x hx
/-- the books, whatever they hold -/
def Books (B : Nat) (w : World) (p : Nat) (c0 : Int) (F : List (Value × List Int)) (n : Nat) : Prop := ∃ c1 fa ha ma ka wa hs M K W, Bk B w p c0 c1 fa ha ma ka wa F n hs M K W
theorem Books.out {B p n : Nat} {w w' : World} {c0 : Int} {F : List (Value × List Int)} (h : Books B w p c0 F n) (o : Out w w') : Books B w' p c0 F n := by
  obtain ⟨c1, fa, ha, ma, ka, wa, hs, M, K, W, h⟩ := h
  exact ⟨c1, fa, ha, ma, ka, wa, hs, M, K, W, h.out o⟩
theorem Books.away {B p n : Nat} {S : Nat → Prop} {w w' : World} {c0 : Int} {F : List (Value × List Int)} (h : Books B w p c0 F n) (c : Chg S w w') (hS : ∀ k, S k → ¬ Bkt B w k) : Books B w' p c0 F n := by
  obtain ⟨c1, fa, ha, ma, ka, wa, hs, M, K, W, h⟩ := h
  exact ⟨c1, fa, ha, ma, ka, wa, hs, M, K, W, h.away c hS⟩
theorem Books.take {B p n : Nat} {w w' : World} {c0 : Int} {F : List (Value × List Int)} (h : Books B w p c0 F n) (o : Out w w') {v : Value} {l : List Int} {q : Nat} (hq : l.length = q) (hv : w'.ownsRow w.heap.size 5 1 v q (bV l)) (hl : q ≤ 60000000000000) : Books B w' p c0 (F ++ [(v, l)]) n := by
  obtain ⟨c1, fa, ha, ma, ka, wa, hs, M, K, W, h⟩ := h
  subst hq
  exact ⟨c1, fa, ha, ma, ka, wa, hs, M, K, W, h.take o hv hl⟩
theorem Books.new (w : World) : Books w.heap.size (w.alloc (.cells #[.int .i64 0, .int .i64 0, .bool false, .slice none 0 0, .slice none 0 0, .slice none 0 0, .slice none 0 0, .slice none 0 0] 27)) w.heap.size 0 [] 0 := by
  have hd : ∀ y : Value, Dis (.slice none 0 0) y := fun y k hk => by simp [Value.ownBlock] at hk
  exact ⟨0, .slice none 0 0, .slice none 0 0, .slice none 0 0, .slice none 0 0, .slice none 0 0, [], [], [], [], ⟨⟨heap_alloc_new w _, World.ownsRow_nil _ _ _ _, World.ownsRow_nil _ _ _ _, World.ownsRow_nil _ _ _ _, World.ownsRow_nil _ _ _ _, World.ownsRow_nil _ _ _ _, hd _, hd _, hd _, hd _, hd _, hd _, Nat.le_refl _, by rw [size_alloc]; omega⟩,
    ⟨(fun x hx => by cases hx), List.Pairwise.nil⟩, ⟨rfl, fun j x y hx _ => by simp at hx⟩, (fun j x y hx _ => by simp at hx), rfl, rfl, Nat.le_refl _, (fun x hx => by cases hx), (fun m hm => by cases hm), by omega, by omega, by omega, by omega, by simp⟩⟩
theorem Books.own {B p n r : Nat} {w : World} {c0 : Int} {F : List (Value × List Int)} (h : Books B w p c0 F n) {a : Option Addr} {q c : Nat} {l : List Int} (hx : F[n]? = some (.slice a q c, l)) (hq : l.length = q) (hr : F.length = n + 1 + r) (mark : Int) (m0 : 0 ≤ mark) (m1 : mark ≤ 1000) (hc0 : c0 ≤ 10000) :
    Calls Tryd.prog 16 #[.pointer (some ⟨p, 0, none⟩), .slice a q c, .int .i64 mark] w fun e w' => (∃ r, e = .returned r) ∧ ∃ F' n', Books B w' p (c0 + 1) F' n' ∧ F'.length = n' + r ∧ (∀ y, F[n + 1]? = some y → F'[n']? = some y) ∧ Chg (Bkt B w) w w' := by
  obtain ⟨c1, fa, ha, ma, ka, wa, hs, M, K, W, h⟩ := h
  refine (books_own w B p c0 c1 fa ha ma ka wa F n hs M K W h a q c l hx hq mark m0 m1 hc0).mono ?_
  rintro e w' ⟨hr', c1', fa', ha', ma', ka', wa', hs', M', K', W', F', n', hb, hF, hc⟩
  refine ⟨hr', F', n', ⟨c1', fa', ha', ma', ka', wa', hs', M', K', W', hb⟩, ?_, ?_, hc⟩
  · rcases hF with ⟨rfl, rfl⟩ | ⟨rfl, rfl⟩
    · omega
    · simp; omega
  · intro y hy
    rcases hF with ⟨rfl, rfl⟩ | ⟨rfl, rfl⟩
    · exact hy
    · simpa using hy
theorem Books.holds {B p n : Nat} {w : World} {c0 : Int} {F : List (Value × List Int)} (h : Books B w p c0 F n) (hc : c0 ≤ 100000) : Calls Tryd.prog 17 #[.pointer (some ⟨p, 0, none⟩)] w fun e w' => e = .returned (.bool true) ∧ ∃ m, w' = w.drewN m := by
  obtain ⟨c1, fa, ha, ma, ka, wa, hs, M, K, W, h⟩ := h
  exact h.holds hc
theorem rowI_apart {B g : Nat} {w : World} {L : List Ins} {R : List Value} (h : RowI w g L R) : ¬ Bkt B w g := by
  rintro ⟨_, cur, t, hc, ht⟩
  rw [show w.heap[g]? = _ from h] at hc
  injection hc with hc
  injection hc with _ hc
  exact ht hc.symm
end Go.Proofs.YteobjcghfdpfbaaDoor
