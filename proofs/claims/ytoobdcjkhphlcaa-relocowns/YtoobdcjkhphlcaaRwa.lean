import Derived.Test.YtoobdcjkhphlcaaRsj
import Derived.Test.YtoobdcjkhphlcaaRvn
import Derived.Test.YtoobdcjkhphlcaaRgd
import Derived.Test.YtoobdcjkhphlcaaRes
namespace Go.Proofs.Ytoobdcjkhphlcaa
open Go.RowKit
set_option linter.unusedVariables false
set_option linter.unusedSimpArgs false
/-- the shelf's kinds of blocks -/
def KQ (w : World) (ma : Value) (b : Nat) : Prop := ma.ownBlock = some b ∨ ∃ cs t fr, w.heap[b]? = some (.cells cs t fr) ∧ (t = 41 ∨ t = 22 ∨ t = 27)
theorem Shv.mrow {w : World} {B p : Nat} {ct tt : Int} {nk : Nat} {ma : Value} {N : Nat} (h : Shv w B p ct tt nk ma N) : ∃ n xs, w.ownsRow B 3 1 ma n xs := by
  obtain ⟨fa, wa, ka, F, W, K, M, h1, _⟩ := h
  exact ⟨_, _, h1.ma_⟩
theorem Shv.tt {w : World} {B p : Nat} {ct tt : Int} {nk : Nat} {ma : Value} {N : Nat} (h : Shv w B p ct tt nk ma N) : w.cell? ⟨p, 1, none⟩ = some (.int .i64 tt) := by
  obtain ⟨fa, wa, ka, F, W, K, M, h1, _⟩ := h
  rw [cell_atL h1.st]; rfl
theorem Shv.up {w : World} {B p : Nat} {ct tt : Int} {nk nk' : Nat} {ma : Value} {N N' : Nat} (h : Shv w B p ct tt nk ma N) (h1 : nk ≤ nk') (h2 : N ≤ N') : Shv w B p ct tt nk' ma N' := by
  obtain ⟨fa, wa, ka, F, W, K, M, k1, k2, k3, k4, k5⟩ := h
  exact ⟨fa, wa, ka, F, W, K, M, k1, k2, k3, by omega, fun j y b hy hb => Nat.lt_of_lt_of_le (k5 j y b hy hb) h2⟩
/-- other blocks turn -/
theorem Shv.away {S : Nat → Prop} {w w' : World} {B p : Nat} {ct tt : Int} {nk : Nat} {ma : Value} {N : Nat} (h : Shv w B p ct tt nk ma N) (c : Chg S w w') (hS : ∀ b, S b → ¬ KQ w ma b) : Shv w' B p ct tt nk ma N := by
  obtain ⟨fa, wa, ka, F, W, K, M, h1, h2, h3⟩ := h
  have row : ∀ {v : Value} {n : Nat} {xs : List Value}, w.ownsRow B 22 1 v n xs → w'.ownsRow B 22 1 v n xs := fun hr => owns_chg hr (fun k hk hs => by
    obtain ⟨_, cs, fr, h2⟩ := own_cells hr hk
    exact hS k hs (.inr ⟨cs, _, fr, h2, .inr (.inl rfl)⟩)) c
  refine ⟨fa, wa, ka, F, W, K, M, ⟨(c.block p h1.lt (fun hs => hS p hs (.inr ⟨_, _, _, h1.st, .inl rfl⟩))).trans h1.st, h1.bp, row h1.fa_, row h1.wa_, row h1.ka_, owns_chg h1.ma_ (fun k hk hs => hS k hs (.inl hk)) c, h1.fw, h1.fk, h1.wk⟩, h2.tok c (fun b hs ⟨cs, hb⟩ => hS b hs (.inr ⟨cs, _, _, hb, .inr (.inr rfl)⟩)), h3⟩
/-- the shelf's blocks and the books' are others -/
theorem kq_bkt {w : World} {B B1 B2 n1 n2 : Nat} {ma ms : Value} {x1 x2 : List Value} (hm : w.ownsRow B1 3 1 ma n1 x1) (hs : w.ownsRow B2 3 1 ms n2 x2) (dm : ∀ k, ma.ownBlock = some k → ¬ ms.ownBlock = some k) {k : Nat} (h1 : KQ w ms k) : ¬ Bkt B w ma k := fun ⟨_, cur, t, hc, ht⟩ => by
  rcases h1 with h1 | ⟨cs, t', fr, h1, ht'⟩
  · obtain ⟨_, cs, fr, h2⟩ := own_cells hs h1
    rw [hc] at h2
    simp at h2
    obtain ⟨_, h3, _⟩ := h2
    subst h3
    rcases ht with e | e | e | e
    · revert e; decide
    · revert e; decide
    · revert e; decide
    · exact dm k e h1
  · have e4 : ¬ ma.ownBlock = some k := fun e => by
      obtain ⟨_, cs, fr, h2⟩ := own_cells hm e
      rw [h1] at h2
      simp at h2
      obtain ⟨_, h3, _⟩ := h2
      subst h3
      revert ht'; decide
    rw [h1] at hc
    simp at hc
    obtain ⟨_, h3, _⟩ := hc
    subst h3
    rcases ht with e | e | e | e
    · subst e; revert ht'; decide
    · subst e; revert ht'; decide
    · subst e; revert ht'; decide
    · exact e4 e
/-- amid RelocOwns: the book (q is still to be handed in) and the shelf -/
structure OR (W wr : World) (pb ps B : Nat) (q : List (Value × List Int)) (cb c1 : Int) (ma ms : Value) (cs tt : Int) (nk N : Nat) : Prop where
  bk : ∃ fa ha ka wa F n hs M K V, Bk B wr pb cb c1 fa ha ma ka wa (F ++ q) n hs M K V ∧ F.length = n
  sh : Shv wr B ps cs tt nk ms N
  dm : ∀ k, ma.ownBlock = some k → ¬ ms.ownBlock = some k
  bW : W.heap.size ≤ B
  nB : B ≤ N
  out : Out W wr
def bookO : Obj := .cells #[.int .i64 0, .int .i64 0, .bool false, .slice none 0 0, .slice none 0 0, .slice none 0 0, .slice none 0 0, .slice none 0 0] 45 (0, 0)
def shelfO : Obj := .cells #[.int .i64 0, .int .i64 0, .bool false, .slice none 0 0, .slice none 0 0, .slice none 0 0, .slice none 0 0] 41 (0, 0)
theorem Bk.new (w : World) (B : Nat) (hB : B ≤ w.heap.size) : Bk B (w.alloc bookO) w.heap.size 0 0 (.slice none 0 0) (.slice none 0 0) (.slice none 0 0) (.slice none 0 0) (.slice none 0 0) [] 0 [] [] [] [] := by
  have hd : ∀ y : Value, Dis (.slice none 0 0) y := fun y k hk => by simp [Value.ownBlock] at hk
  exact ⟨⟨heap_alloc_new w _, World.ownsRow_nil _ _ _ _, World.ownsRow_nil _ _ _ _, World.ownsRow_nil _ _ _ _, World.ownsRow_nil _ _ _ _, World.ownsRow_nil _ _ _ _, hd _, hd _, hd _, hd _, hd _, hd _, hB, by rw [size_alloc]; omega⟩,
    ⟨(fun x hx => by cases hx), List.Pairwise.nil⟩, ⟨rfl, fun j x y hx _ => by simp at hx⟩, (fun j x y hx _ => by simp at hx), rfl, rfl, Nat.le_refl _, (fun x hx => by cases hx), (fun m hm => by cases hm), by omega, by omega, by omega, by omega, by simp⟩
theorem Shv.new (w : World) : Shv (w.alloc shelfO) w.heap.size w.heap.size 0 0 0 (.slice none 0 0) w.heap.size :=
  ⟨_, _, _, [], [], [], [], ⟨heap_alloc_new w _, Nat.le_refl _, World.ownsRow_nil _ _ _ _, World.ownsRow_nil _ _ _ _, World.ownsRow_nil _ _ _ _, World.ownsRow_nil _ _ _ _, (fun b hb => by cases hb), (fun b hb => by cases hb), (fun b hb => by cases hb)⟩,
    ⟨rfl, fun i x y hx => by simp at hx, fun i x hx => by simp at hx, fun j x hx => by simp at hx, fun i j x y hx => by simp at hx, fun i j x y hx => by simp at hx, rfl⟩, by simp, by simp, fun j y b hy => by simp at hy⟩
/-- the whole state between two rounds -/
def OP (W w : World) (pb ps B : Nat) (i : Nat) : Prop := ∃ cb c1 ma ms cs tt nk N, OR W w pb ps B [] cb c1 ma ms cs tt nk N ∧ cb ≤ i ∧ 0 ≤ cs ∧ cs ≤ 4 * i ∧ 0 ≤ tt ∧ tt ≤ 300000 ∧ nk ≤ 12 * i ∧ N ≤ w.heap.size
theorem OP.start (W : World) : OP W ((W.alloc shelfO).alloc bookO) (W.heap.size + 1) W.heap.size W.heap.size 0 := by
  have hs : (W.alloc shelfO).heap.size = W.heap.size + 1 := size_alloc _ _
  have o2 : Out (W.alloc shelfO) ((W.alloc shelfO).alloc bookO) := (Out.refl _).alloc _
  refine ⟨0, 0, .slice none 0 0, .slice none 0 0, 0, 0, 0, W.heap.size, ⟨⟨_, _, _, _, [], 0, _, _, _, _, by rw [← hs]; exact Bk.new (W.alloc shelfO) W.heap.size (by omega), rfl⟩, (Shv.new W).out o2, (fun k hk => by cases hk), Nat.le_refl _, Nat.le_refl _, ((Out.refl W).alloc _).trans o2⟩, by simp, by omega, by simp, by omega, by omega, by omega, ?_⟩
  have := o2.size
  omega
theorem OP.out {W w : World} {pb ps B i : Nat} (h : OP W w pb ps B i) : Out W w := by
  obtain ⟨cb, c1, ma, ms, cs, tt, nk, N, h1, _⟩ := h
  exact h1.out
theorem OR.more {W w w' : World} {pb ps B : Nat} {q : List (Value × List Int)} {cb c1 : Int} {ma ms : Value} {cs tt : Int} {nk N : Nat} (h : OR W w pb ps B q cb c1 ma ms cs tt nk N) (o : Out w w') : OR W w' pb ps B q cb c1 ma ms cs tt nk N := by
  obtain ⟨fa, ha, ka, wa, F, n, hs, M, K, V, hb, hF⟩ := h.bk
  exact ⟨⟨fa, ha, ka, wa, F, n, hs, M, K, V, hb.out o, hF⟩, h.sh.out o, h.dm, h.bW, h.nB, h.out.trans o⟩
theorem OP.more {W w w' : World} {pb ps B i : Nat} (h : OP W w pb ps B i) (o : Out w w') : OP W w' pb ps B i := by
  obtain ⟨cb, c1, ma, ms, cs, tt, nk, N, h1, h2, h3, h4, h5, h6, h7, h8⟩ := h
  exact ⟨cb, c1, ma, ms, cs, tt, nk, N, h1.more o, h2, h3, h4, h5, h6, h7, Nat.le_trans h8 o.size⟩
theorem OP.next {W w : World} {pb ps B i : Nat} (h : OP W w pb ps B i) : OP W w pb ps B (i + 1) := by
  obtain ⟨cb, c1, ma, ms, cs, tt, nk, N, h1, h2, h3, h4, h5, h6, h7, h8⟩ := h
  exact ⟨cb, c1, ma, ms, cs, tt, nk, N, h1, by omega, h3, by omega, h5, h6, by omega, h8⟩
theorem OP.holdsB {W w : World} {pb ps B i : Nat} (h : OP W w pb ps B i) (hi : i ≤ 9) : Calls Try.prog 23 #[.pointer (some ⟨pb, 0, none⟩)] w fun e w' => e = .returned (.bool true) ∧ Out w w' := by
  obtain ⟨cb, c1, ma, ms, cs, tt, nk, N, h1, h2, h3, h4, h5, h6, h7, h8⟩ := h
  obtain ⟨fa, ha, ka, wa, F, m, hs, M, K, V, hb, hF⟩ := h1.bk
  refine (hb.holds (by omega)).mono ?_
  rintro e w' ⟨rfl, k, rfl⟩
  exact ⟨rfl, (Out.refl w).drewN k⟩
theorem OP.holdsS {W w : World} {pb ps B i : Nat} (h : OP W w pb ps B i) (hi : i ≤ 9) : Calls Try.prog 22 #[.pointer (some ⟨ps, 0, none⟩)] w fun e w' => e = .returned (.bool true) ∧ Out w w' := by
  obtain ⟨cb, c1, ma, ms, cs, tt, nk, N, h1, h2, h3, h4, h5, h6, h7, h8⟩ := h
  obtain ⟨fa, wa, ka, F, W, K, M, k1, k2, k3, k4, _⟩ := h1.sh
  exact holds_any w B ps cs tt fa wa ka ms F W K M k1 k2.wl k2.prs' (by omega) k2.kp (by omega) k2.ml
theorem bV_bytes (O : List UInt8) : bV (O.map (fun b => (b.toNat : Int))) = Lib.byteCells O := by simp [bV, Lib.byteCells]
/-- the sums, and the two calls -/
theorem OP.sums (CW : WriteC) {W w w' : World} {pb ps B i : Nat} (h : OP W w pb ps B i) (o : Out w w') (hi : i ≤ 8) {a1 a2 : Option Addr} {n1 q1 n2 q2 : Nat} {U : List UInt8} {T : List Rl} (hU : OwB w.heap.size (.slice a1 n1 q1) U w') (hn1 : n1 = U.length) (hUl : U.length ≤ 60000000000000) (hT : OwR w.heap.size (.slice a2 n2 q2) T w') (hn2 : n2 = T.length) (hTl : T.length ≤ 65536) :
    ∃ c1 tt : Int, w'.cell? ⟨pb, 1, none⟩ = some (.int .i64 c1) ∧ w'.cell? ⟨ps, 1, none⟩ = some (.int .i64 tt) ∧ 0 ≤ c1 ∧ 0 ≤ tt ∧ c1 ≤ 100000000000000 ∧ tt ≤ 300000 ∧ OP W w' pb ps B (i + 1) ∧
    (tt + c1 < 3000 → ∀ mark : Int, 0 ≤ mark → mark ≤ 100000000000 → Calls Try.prog 20 #[.pointer (some ⟨pb, 0, none⟩), .slice a1 n1 q1, .int .i64 mark] w' fun e w'' => (∃ q, e = .returned q) ∧ Calls Try.prog 21 #[.pointer (some ⟨ps, 0, none⟩), .slice a2 n2 q2] w'' fun e w3 => (∃ q, e = .returned q) ∧ OP W w3 pb ps B (i + 1)) := by
  have hN := (h.more o).next
  obtain ⟨cb, c1, ma, ms, cs, tt, nk, N, h1, g1, g2, g3, g4, g5, g6, g7⟩ := h
  subst hn1 hn2
  have h1' := h1.more o
  obtain ⟨fa, ha, ka, wa, F, n, hs, M, K, V, hb, hF⟩ := h1.bk
  have b1 := hb.b1
  have bb := hb.bb
  refine ⟨c1, tt, (hb.out o).arr.st.cell 1, h1'.sh.tt, b1, g4, bb, g5, hN, fun hlt mark m0 m1 => ?_⟩
  rw [List.append_nil] at hb
  have hb2 := hb.take o (v := .slice a1 U.length q1) (l := U.map (fun b => (b.toNat : Int))) (by rw [bV_bytes, List.length_map]; exact hU) (by rw [List.length_map]; exact hUl)
  refine (books_own w' B pb cb c1 fa ha ma ka wa (F ++ [(.slice a1 U.length q1, U.map (fun b => (b.toNat : Int)))]) n hs M K V (by omega) hb2 a1 U.length q1 _ (by rw [List.getElem?_append_right (by omega), hF, Nat.sub_self]; rfl) (by simp) mark m0 m1 (by omega)).mono ?_
  rintro e w2 ⟨he, c1', fa', ha', ma', ka', wa', hs', M', K', V', F', n', hb', hF', hc, hma⟩
  have hF2 : F'.length = n' := by
    rcases hF' with ⟨rfl, rfl⟩ | ⟨rfl, rfl⟩
    · simp; omega
    · simp; omega
  refine ⟨he, ?_⟩
  obtain ⟨nm, xm, hms⟩ := h1'.sh.mrow
  have hS2 : Shv w2 B ps cs tt nk ms N := h1'.sh.away hc (fun b hb' hk => kq_bkt hb2.arr.ma_ hms h1.dm hk hb')
  have hT2 : OwR N (.slice a2 T.length q2) T w2 := owns_chg (own_base hT g7) (fun k hk hs => by
    obtain ⟨_, cs', fr, h2⟩ := own_cells hT hk
    exact kq_bkt hb2.arr.ma_ hms h1.dm (.inr ⟨cs', _, fr, h2, .inr (.inr rfl)⟩) hs) hc
  have o2 : Out W w2 := Chg.out hc h1'.out (fun k hk => Nat.le_trans h1.bW hk.1)
  refine (own_any CW w2 B ps cs tt nk ms N h1.nB hS2 a2 q2 T hT2 (by omega) g2 (by omega) g4 (by omega) (by omega)).mono ?_
  rintro e w3 ⟨he3, ⟨ct', ms', hS3, k0, k1, hms3⟩, hC⟩
  obtain ⟨nm2, xm2, hms2⟩ := hS2.mrow
  have dm2 : ∀ k, ma'.ownBlock = some k → ¬ ms.ownBlock = some k := fun k hk hk' => by
    rcases hma k hk with e1 | e1
    · exact h1.dm k e1 hk'
    · have := (World.ownsRow.lt hms k hk').2; omega
  have hb3 := hb'.away hC (fun k hk => kq_bkt hb'.arr.ma_ hms2 dm2 hk.2)
  refine ⟨he3, cb + 1, c1', ma', ms', ct', tt + T.length, nk + 12, w3.heap.size, ⟨⟨fa', ha', ka', wa', F', n', hs', M', K', V', by rw [List.append_nil]; exact hb3, hF2⟩, hS3, fun k hk hk' => ?_, h1.bW, ?_, Chg.out hC o2 (fun k hk => Nat.le_trans h1.bW hk.1)⟩, by omega, k0, by omega, by omega, by omega, by omega, Nat.le_refl _⟩
  · rcases hms3 k hk' with e1 | e1
    · exact dm2 k hk e1
    · have := (World.ownsRow.lt hb'.arr.ma_ k hk).2; omega
  · have := hC.size
    have := hc.size
    have := o.size
    have := h1.nB
    omega
end Go.Proofs.Ytoobdcjkhphlcaa
