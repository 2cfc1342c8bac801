import Derived.Test.YtekjfbmebekmeaaGreatGa11
namespace Go.Proofs.YtekjfbmebekmeaaGreat.Bo
open Go.RowKit
set_option linter.unusedVariables false
set_option linter.unusedSimpArgs false
def IsT8 (w : World) (k : Nat) : Prop := ∃ cur, w.heap[k]? = some (.cells cur 5 (0, 0))
def Dis (x y : Value) : Prop := ∀ k, x.ownBlock = some k → y.ownBlock ≠ some k
theorem Dis.symm {x y : Value} (h : Dis x y) : Dis y x := fun k hy hx => h k hx hy
def Frs (F : List (Value × List Int)) (k : Nat) : Prop := ∃ x ∈ F, x.1.ownBlock = some k
theorem notT8 {B n size : Nat} {w : World} {e : TypeId} {v : Value} {xs : List Value} (h : w.ownsRow B e size v n xs) (he : e ≠ 5) {k : Nat} (hk : v.ownBlock = some k) : ¬ IsT8 w k := by
  rintro ⟨cur, hc⟩
  rcases h.2 with ⟨rfl, -⟩ | ⟨g, cap, cur', rfl, hb, hg, rest⟩
  · simp [Value.ownBlock] at hk
  · simp only [Value.ownBlock, Option.some.injEq] at hk
    subst hk
    rw [hg] at hc
    injection hc with hc
    injection hc with _ hc
    exact he hc
theorem isT8_of {B n : Nat} {w : World} {v : Value} {xs : List Value} (h : w.ownsRow B 5 1 v n xs) {k : Nat} (hk : v.ownBlock = some k) : IsT8 w k := by
  obtain ⟨-, -, cur, hc⟩ := ownsRow_block_lt h hk
  exact ⟨cur, hc⟩
theorem IsT8.lt {w : World} {k : Nat} (h : IsT8 w k) : k < w.heap.size := by obtain ⟨cur, hc⟩ := h; exact (Array.getElem?_eq_some_iff.1 hc).1
structure Arr (B : Nat) (w : World) (p : Nat) (c0 c1 : Int) (fa ha ma ka wa : Value) (fs hs : List Value) (M : List Int) (K W : List Value) : Prop where
  st : StAt w p #[.int .i64 c0, .int .i64 c1, .bool false, fa, ha, ma, ka, wa]
  fa_ : w.ownsRow B 29 1 fa fs.length fs
  ha_ : w.ownsRow B 29 1 ha hs.length hs
  ma_ : w.ownsRow B 3 1 ma M.length (M.map (Value.int .i64))
  ka_ : w.ownsRow B 29 1 ka K.length K
  wa_ : w.ownsRow B 29 1 wa W.length W
  fh : Dis fa ha
  fk : Dis fa ka
  fw : Dis fa wa
  hk : Dis ha ka
  hw : Dis ha wa
  kw : Dis ka wa
  bp : B ≤ p
  bw : B ≤ w.heap.size
theorem st_notT8 {w : World} {p : Nat} {cs : Array Value} (h : StAt w p cs) : ¬ IsT8 w p := by
  rintro ⟨cur, hc⟩
  rw [show w.heap[p]? = _ from h] at hc
  injection hc with hc
  injection hc with _ hc
  exact absurd hc (by decide)
theorem Arr.chg8 {B p : Nat} {w w' : World} {U : Nat → Prop} {c0 c1 : Int} {fa ha ma ka wa : Value} {fs hs : List Value} {M : List Int} {K W : List Value} (h : Arr B w p c0 c1 fa ha ma ka wa fs hs M K W) (c : Chg U w w') (hU : ∀ k, k < w.heap.size → U k → IsT8 w k) : Arr B w' p c0 c1 fa ha ma ka wa fs hs M K W := by
  have key : ∀ {e : TypeId} {v : Value} {n : Nat} {xs : List Value}, w.ownsRow B e 1 v n xs → e ≠ 5 → w'.ownsRow B e 1 v n xs := fun ho he =>
    owns_chg ho (fun k hk hu => notT8 ho he hk (hU k (ownsRow_block_lt ho hk).1 hu)) c
  refine ⟨h.st.same (c.block p h.st.lt (fun hu => st_notT8 h.st (hU p h.st.lt hu))), key h.fa_ (by decide), key h.ha_ (by decide), key h.ma_ (by decide), key h.ka_ (by decide), key h.wa_ (by decide), h.fh, h.fk, h.fw, h.hk, h.hw, h.kw, h.bp, Nat.le_trans h.bw c.size⟩
theorem Arr.out {B p : Nat} {w w' : World} {c0 c1 : Int} {fa ha ma ka wa : Value} {fs hs : List Value} {M : List Int} {K W : List Value} (h : Arr B w p c0 c1 fa ha ma ka wa fs hs M K W) (o : Out w w') : Arr B w' p c0 c1 fa ha ma ka wa fs hs M K W :=
  h.chg8 (Chg.of_out (S := fun _ => False) o) (fun _ _ h => h.elim)
def Kep (B : Nat) (S : Nat → Prop) (w : World) (K W : List Value) : Prop := W.length = K.length ∧ ∀ (j : Nat) x y, K[j]? = some x → W[j]? = some y → ∃ l, Rd B S w x l ∧ Rd B S w y l
theorem Kep.chg {B : Nat} {S T U : Nat → Prop} {w w' : World} {K W : List Value} (h : Kep B S w K W) (c : Chg U w w') (hU : ∀ k, ¬ S k → IsT8 w k → ¬ U k) (hT : ∀ k, k < w.heap.size → ¬ S k → ¬ T k) : Kep B T w' K W :=
  ⟨h.1, fun j x y hx hy => by
    obtain ⟨l, h1, h2⟩ := h.2 j x y hx hy
    exact ⟨l, h1.chg c (fun k cur hs hc => hU k hs ⟨cur, hc⟩) hT, h2.chg c (fun k cur hs hc => hU k hs ⟨cur, hc⟩) hT⟩⟩
theorem Kep.out {B : Nat} {S : Nat → Prop} {w w' : World} {K W : List Value} (h : Kep B S w K W) (o : Out w w') : Kep B S w' K W := h.chg (Chg.of_out (S := fun _ => False) o) (fun _ _ _ h => h) (fun _ _ h => h)
theorem Kep.snoc {B : Nat} {S : Nat → Prop} {w : World} {K W : List Value} (h : Kep B S w K W) {x y : Value} {l : List Int} (h1 : Rd B S w x l) (h2 : Rd B S w y l) : Kep B S w (K ++ [x]) (W ++ [y]) := by
  refine ⟨by simp [h.1], fun j a b ha hb => ?_⟩
  by_cases hj : j < K.length
  · rw [List.getElem?_append_left hj] at ha
    rw [List.getElem?_append_left (by rw [h.1]; exact hj)] at hb
    exact h.2 j a b ha hb
  · rw [List.getElem?_append_right (by omega)] at ha
    rw [List.getElem?_append_right (by rw [h.1]; omega), h.1] at hb
    have : j - K.length = 0 := by
      have := (List.getElem?_eq_some_iff.1 ha).1; simp at this; omega
    rw [this] at ha hb
    simp at ha hb
    subst ha hb
    exact ⟨l, h1, h2⟩
theorem Kep.pairs {B : Nat} {S : Nat → Prop} {w : World} {K W : List Value} (h : Kep B S w K W) : Pairs w K W := pairs_of h.2
def Fresh (B : Nat) (w : World) (F : List (Value × List Int)) : Prop := (∀ x ∈ F, w.ownsRow B 5 1 x.1 x.2.length (bV x.2)) ∧ F.Pairwise (fun x y => Dis x.1 y.1)
theorem Fresh.chg {B : Nat} {U : Nat → Prop} {w w' : World} {F : List (Value × List Int)} (h : Fresh B w F) (c : Chg U w w') (hU : ∀ k, Frs F k → ¬ U k) : Fresh B w' F :=
  ⟨fun x hx => owns_chg (h.1 x hx) (fun k hk => hU k ⟨x, hx, hk⟩) c, h.2⟩
theorem Fresh.out {B : Nat} {w w' : World} {F : List (Value × List Int)} (h : Fresh B w F) (o : Out w w') : Fresh B w' F := h.chg (Chg.of_out (S := fun _ => False) o) (fun _ _ h => h)
theorem Fresh.isT8 {B : Nat} {w : World} {F : List (Value × List Int)} (h : Fresh B w F) {k : Nat} (hk : Frs F k) : IsT8 w k := by
  obtain ⟨x, hx, hk⟩ := hk
  exact isT8_of (h.1 x hx) hk
theorem Fresh.at {B : Nat} {w : World} {F : List (Value × List Int)} (h : Fresh B w F) {i : Nat} {x : Value × List Int} (hx : F[i]? = some x) : w.ownsRow B 5 1 x.1 x.2.length (bV x.2) := h.1 x (List.mem_of_getElem? hx)
theorem Fresh.ne {B : Nat} {w : World} {F : List (Value × List Int)} (h : Fresh B w F) {i j : Nat} {x y : Value × List Int} (hx : F[i]? = some x) (hy : F[j]? = some y) (hij : i ≠ j) : Dis x.1 y.1 := by
  have hi := (List.getElem?_eq_some_iff.1 hx)
  have hj := (List.getElem?_eq_some_iff.1 hy)
  obtain ⟨hi1, hi2⟩ := hi
  obtain ⟨hj1, hj2⟩ := hj
  have key := List.pairwise_iff_getElem.1 h.2
  rcases Nat.lt_or_gt_of_ne hij with hlt | hlt
  · have := key i j hi1 hj1 hlt
    rw [hi2, hj2] at this; exact this
  · have := key j i hj1 hi1 hlt
    rw [hi2, hj2] at this; exact this.symm
theorem Fresh.put {B : Nat} {w w' : World} {F : List (Value × List Int)} (h : Fresh B w F) {i : Nat} {v : Value} {l l' : List Int} (hx : F[i]? = some (v, l)) (c : Chg (fun k => v.ownBlock = some k) w w') (hv : w'.ownsRow B 5 1 v l'.length (bV l')) : Fresh B w' (F.set i (v, l')) := by
  have hi := (List.getElem?_eq_some_iff.1 hx).1
  have hget : ∀ j y, (F.set i (v, l'))[j]? = some y → (j = i ∧ y = (v, l')) ∨ (j ≠ i ∧ F[j]? = some y) := by
    intro j y hy
    rw [List.getElem?_set] at hy
    by_cases hj : i = j
    · subst hj
      rw [if_pos rfl, if_pos hi] at hy
      exact .inl ⟨rfl, (Option.some.inj hy).symm⟩
    · rw [if_neg hj] at hy
      exact .inr ⟨fun e => hj e.symm, hy⟩
  refine ⟨fun y hy => ?_, ?_⟩
  · obtain ⟨j, hj, e⟩ := List.getElem_of_mem hy
    rcases hget j y (by rw [List.getElem?_eq_getElem hj, e]) with ⟨_, rfl⟩ | ⟨hne, hy'⟩
    · exact hv
    · exact owns_chg (h.at hy') (fun k hk hu => h.ne hy' hx hne k hk hu) c
  · rw [List.pairwise_iff_getElem]
    intro a b ha hb hab
    have ga := hget a _ (List.getElem?_eq_getElem ha)
    have gb := hget b _ (List.getElem?_eq_getElem hb)
    rcases ga with ⟨rfl, e1⟩ | ⟨n1, e1⟩ <;> rcases gb with ⟨rfl, e2⟩ | ⟨n2, e2⟩
    · omega
    · rw [e1]; exact (show Dis (v, l).1 _ from h.ne hx e2 (fun e => n2 e.symm))
    · rw [e2]; exact (show Dis _ (v, l).1 from h.ne e1 hx n1)
    · exact h.ne e1 e2 (by omega)
def mixF : List (Value × List Int) → List Int → Nat → List (Value × List Int)
  | x :: F, m :: M, i + 1 => (x.1, markB x.2.length m) :: mixF F M i
  | F, _, _ => F
theorem mixF_zero (F : List (Value × List Int)) (M : List Int) : mixF F M 0 = F := by cases F <;> cases M <;> rfl
theorem mixF_step : ∀ (F : List (Value × List Int)) (M : List Int) (i : Nat) (x : Value × List Int) (m : Int), F[i]? = some x → M[i]? = some m → (mixF F M i)[i]? = some x ∧ mixF F M (i + 1) = (mixF F M i).set i (x.1, markB x.2.length m)
  | [], _, _, _, _, h, _ => by simp at h
  | _ :: _, [], _, _, _, _, h => by simp at h
  | y :: F, n :: M, 0, x, m, h, k => by
    simp at h k; subst h k
    refine ⟨rfl, ?_⟩
    show (y.1, markB y.2.length n) :: mixF F M 0 = _
    rw [mixF_zero, mixF_zero]; rfl
  | y :: F, n :: M, i + 1, x, m, h, k => by
    obtain ⟨h1, h2⟩ := mixF_step F M i x m (by simpa using h) (by simpa using k)
    refine ⟨by simpa [mixF] using h1, ?_⟩
    show (y.1, markB y.2.length n) :: mixF F M (i + 1) = _
    rw [h2]; rfl
theorem owns_store {B n : Nat} {w : World} {g c : Nat} {l : List Int} (h : w.ownsRow B 5 1 (.slice (some ⟨g, 0, none⟩) n c) n (bV l)) {k : Nat} (hk : k < n) (z : Int) : (w.setCell ⟨g, k, none⟩ (.int .u8 z)).ownsRow B 5 1 (.slice (some ⟨g, 0, none⟩) n c) n (bV (l.set k z)) := by
  refine ⟨by rw [bV, List.length_map, List.length_set]; have := h.1; rw [bV, List.length_map] at this; exact this, ?_⟩
  rcases h.2 with ⟨h0, _⟩ | ⟨g', cap, cur, e, hb, hg, hn, hm, hs, ht⟩
  · cases h0
  · cases e
    refine .inr ⟨g, c, cur.setIfInBounds k (.int .u8 z), rfl, hb, set_at hg k _, hn, hm, by simpa using hs, ?_⟩
    rw [Array.toList_setIfInBounds, List.take_set, ht, bV, bV, List.map_set]
theorem owns_cell {B n g c : Nat} {w : World} {l : List Int} (h : w.ownsRow B 5 1 (.slice (some ⟨g, 0, none⟩) n c) n (bV l)) {k : Nat} (hk : k < n) : w.cell? ⟨g, k, none⟩ = some (.int .u8 (gB l k)) ∧ w.frozen? ⟨g, k, none⟩ = false := by
  rcases h.2 with ⟨h0, _⟩ | ⟨g', cap, cur, e, hb, hg, hn, hm, hs, ht⟩
  · cases h0
  · cases e
    have hl : l.length = n := by have := h.1; rw [bV, List.length_map] at this; omega
    have e1 : (bV l)[k]? = some (.int .u8 (gB l k)) := by simp [bV, gB, List.getD, List.getElem?_eq_getElem (show k < l.length by omega)]
    rw [← ht, List.getElem?_take, if_pos (by omega)] at e1
    exact ⟨by rw [cell_at hg]; simpa using e1, frozen_at hg k⟩
theorem row_cell {B n g c : Nat} {w : World} {e : TypeId} {xs : List Value} (h : w.ownsRow B e 1 (.slice (some ⟨g, 0, none⟩) n c) n xs) {k : Nat} {x : Value} (hx : xs[k]? = some x) : w.cell? ⟨g, k, none⟩ = some x := by
  have := h.cells (g := g) rfl k x hx
  rwa [WideShapes.add_plain, Nat.zero_add] at this
theorem row_form {B n : Nat} {w : World} {e : TypeId} {v : Value} {xs : List Value} (h : w.ownsRow B e 1 v n xs) (h0 : 0 < n) : ∃ g c, v = .slice (some ⟨g, 0, none⟩) n c := by
  rcases h.2 with ⟨_, h1⟩ | ⟨g, cap, cur, rfl, -⟩
  · omega
  · exact ⟨g, cap, rfl⟩
theorem set_take_drop (l m : List Int) (k : Nat) (h : m.length = l.length) (hk : k < l.length) : (m.take k ++ l.drop k).set k (gB m k) = m.take (k + 1) ++ l.drop (k + 1) := by
  have hl : (m.take k).length = k := by simp; omega
  rw [List.set_append_right _ _ (by omega), hl, Nat.sub_self, List.drop_eq_getElem_cons hk, List.set_cons_zero, List.take_add_one, List.getElem?_eq_getElem (by omega), List.append_assoc]
  simp [gB, List.getD, List.getElem?_eq_getElem (show k < m.length by omega)]
theorem bV_len (l : List Int) : (bV l).length = l.length := by simp [bV]
theorem bV_app (a b : List Int) : bV (a ++ b) = bV a ++ bV b := by simp [bV]
theorem bV_take (l : List Int) (k : Nat) : (bV l).take k = bV (l.take k) := by simp [bV, List.map_take]
def Kn (B : Nat) (w : World) (v : Value) (n : Nat) (L : List Int) : Prop :=
  (v = .slice none 0 0 ∧ n = 0 ∧ L = []) ∨ ∃ b cap cur, v = .slice (some ⟨b, 0, none⟩) n cap ∧ B ≤ b ∧ w.heap[b]? = some (.cells cur 5 (0, 0)) ∧ n ≤ L.length ∧ L.length ≤ cap ∧ cap ≤ maxLen ∧ cur.size = cap ∧ cur.toList.take L.length = bV L
theorem Kn.owns {B n : Nat} {w : World} {v : Value} {L : List Int} (h : Kn B w v n L) : w.ownsRow B 5 1 v n (bV (L.take n)) := by
  rcases h with ⟨rfl, rfl, rfl⟩ | ⟨b, cap, cur, rfl, hB, hg, h1, h2, hm, hs, ht⟩
  · exact World.ownsRow_nil _ _ _ _
  · refine ⟨by rw [bV_len, List.length_take]; omega, .inr ⟨b, cap, cur, rfl, hB, hg, by omega, hm, by omega, ?_⟩⟩
    rw [Nat.mul_one, ← bV_take, ← ht, List.take_take, Nat.min_eq_left h1]
theorem kn_of {B n : Nat} {w : World} {v : Value} {l : List Int} (hn : l.length = n) (h : w.ownsRow B 5 1 v n (bV l)) : Kn B w v n l := by
  rcases h.2 with ⟨rfl, h0⟩ | ⟨g, cap, cur, rfl, hb, hg, hnc, hm, hs, ht⟩
  · exact .inl ⟨rfl, h0, List.length_eq_zero_iff.1 (by omega)⟩
  · exact .inr ⟨g, cap, cur, rfl, hb, hg, by omega, by omega, hm, by omega, by rw [hn]; simpa using ht⟩
theorem Kn.chg {B n : Nat} {U : Nat → Prop} {w w' : World} {v : Value} {L : List Int} (h : Kn B w v n L) (c : Chg U w w') (hU : ∀ k, v.ownBlock = some k → ¬ U k) : Kn B w' v n L := by
  rcases h with h | ⟨b, cap, cur, rfl, hB, hg, rest⟩
  · exact .inl h
  · exact .inr ⟨b, cap, cur, rfl, hB, (c.block b (Array.getElem?_eq_some_iff.1 hg).1 (hU b rfl)).trans hg, rest⟩
theorem Kn.out {B n : Nat} {w w' : World} {v : Value} {L : List Int} (h : Kn B w v n L) (o : Out w w') : Kn B w' v n L := h.chg (Chg.of_out (S := fun _ => False) o) (fun _ _ h => h)
theorem Kn.isT8 {B n : Nat} {w : World} {v : Value} {L : List Int} (h : Kn B w v n L) {k : Nat} (hk : v.ownBlock = some k) : IsT8 w k := isT8_of h.owns hk
theorem kn_step {B n m : Nat} {w w' : World} {v v' : Value} {L zs : List Int} (h : Kn B w v n L) (hm : zs.length = m) (hat : AppAt w w' 5 v v' n m (bV zs)) (hg : w.grownBy w' v.ownBlock) :
    (∃ L', Kn B w' v n L' ∧ Kn B w' v' (n + m) L' ∧ v'.ownBlock = v.ownBlock ∧ L' = L.take n ++ zs ++ L.drop (n + m)) ∨ (Kn B w' v n L ∧ v'.ownBlock = some w.heap.size ∧ Out w w') := by
  rcases hat with ⟨g, cap, cur, rfl, rfl, hroom, hg1, hg2⟩ | ⟨⟨cap', rfl⟩, hold⟩
  · left
    rcases h with ⟨h, _⟩ | ⟨b, cap2, cur2, e, hB, hb, h1, h2, h3, hs, ht⟩
    · cases h
    · injection e with e1 _ e3
      injection e1 with e1
      injection e1 with e1
      subst e1 e3
      rw [hg1] at hb
      injection hb with hb
      injection hb with hb
      subst hb
      have hcl : cur.toList.length = cap := by simpa using hs
      have key : ((cur.toList.take n ++ bV zs ++ cur.toList.drop (n + m)).toArray).toList.take (L.take n ++ zs ++ L.drop (n + m)).length = bV (L.take n ++ zs ++ L.drop (n + m)) := by
        have e1 : cur.toList.take n = bV (L.take n) := by rw [← bV_take, ← ht, List.take_take, Nat.min_eq_left h1]
        have e2 : (cur.toList.drop (n + m)).take (L.length - (n + m)) = bV (L.drop (n + m)) := by
          have : bV (L.drop (n + m)) = (bV L).drop (n + m) := by simp [bV, List.map_drop]
          rw [this, ← ht, List.drop_take]
        simp only [bV_app]
        rw [e1, ← e2]
        have hlen : (L.take n ++ zs ++ L.drop (n + m)).length = (bV (L.take n) ++ bV zs).length + (L.length - (n + m)) := by
          simp [bV_len]; omega
        rw [hlen, List.take_length_add_append]
      have hl' : (L.take n ++ zs ++ L.drop (n + m)).length ≤ cap := by simp; omega
      have hn' : n + m ≤ (L.take n ++ zs ++ L.drop (n + m)).length := by simp; omega
      have hsz : ((cur.toList.take n ++ bV zs ++ cur.toList.drop (n + m)).toArray).size = cap := by simp [bV_len]; omega
      exact ⟨_, .inr ⟨g, cap, _, rfl, hB, hg2, by omega, hl', h3, hsz, key⟩, .inr ⟨g, cap, _, rfl, hB, hg2, hn', hl', h3, hsz, key⟩, rfl, rfl⟩
  · right
    have ho : Out w w' := ⟨hg.os, hg.tape, hg.output, hg.size, hold⟩
    exact ⟨h.out ho, rfl, ho⟩
def Gr (B : Nat) (S : Nat → Prop) (w : World) (v : Value) (L : List Int) (g : Value) (l : List Int) : Prop :=
  (∃ b c, v.ownBlock = some b ∧ g = .slice (some ⟨b, 0, none⟩) l.length c ∧ l.length ≤ L.length ∧ L.take l.length = l) ∨ (w.ownsRow B 5 1 g l.length (bV l) ∧ ∀ k, g.ownBlock = some k → ¬ S k)
theorem Gr.step {B : Nat} {S : Nat → Prop} {w w' : World} {v g : Value} {L L' l : List Int} (h : Gr B S w v L g l) (c : Chg (fun k => v.ownBlock = some k) w w') (hS : ∀ k, v.ownBlock = some k → S k) (hL : L.length ≤ L'.length) : ∃ l', Gr B S w' v L' g l' := by
  rcases h with ⟨b, c1, hb, rfl, h1, h2⟩ | ⟨ho, hk⟩
  · refine ⟨L'.take l.length, .inl ⟨b, c1, hb, ?_, ?_, ?_⟩⟩
    · rw [List.length_take, Nat.min_eq_left (by omega)]
    · rw [List.length_take]; omega
    · rw [List.length_take, Nat.min_eq_left (by omega)]
  · exact ⟨l, .inr ⟨owns_chg ho (fun k hk' hv => hk k hk' (hS k hv)) c, hk⟩⟩
theorem Gr.out {B : Nat} {S : Nat → Prop} {w w' : World} {v g : Value} {L l : List Int} (h : Gr B S w v L g l) (o : Out w w') : Gr B S w' v L g l := by
  rcases h with h | ⟨ho, hk⟩
  · exact .inl h
  · exact .inr ⟨owns_out ho o, hk⟩
theorem Gr.rest {B n : Nat} {S T : Nat → Prop} {w : World} {v g : Value} {L l : List Int} (h : Gr B S w v L g l) (hK : Kn B w v n L) (hT : ∀ k, T k → S k) (hv : ∀ k, v.ownBlock = some k → ¬ T k) : Rd B T w g l := by
  rcases h with ⟨b, c1, hb, rfl, h1, h2⟩ | ⟨ho, hk⟩
  · rcases hK with ⟨rfl, _⟩ | ⟨b', cap, cur, rfl, hB, hg, h3, h4, hm, hs, ht⟩
    · simp [Value.ownBlock] at hb
    · simp only [Value.ownBlock, Option.some.injEq] at hb
      subst hb
      refine .inr ⟨b', c1, cur, rfl, hB, hv b' rfl, hg, ?_⟩
      rw [← h2, List.length_take, Nat.min_eq_left h1, ← bV_take, ← ht, List.take_take, Nat.min_eq_left h1]
  · exact rd_of_owns ho (fun k hk' ht => hk k hk' (hT k ht))
end Go.Proofs.YtekjfbmebekmeaaGreat.Bo
