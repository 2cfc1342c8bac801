import Derived.Test.YtlfcjbeldnkkoaaGb37
import Derived.Deep.AppendLies
namespace Go.Proofs.Ytlfcjbeldnkkoaa
open Go.RowKit
set_option linter.unusedVariables false
set_option linter.unusedSimpArgs false
def upd {α : Type} (r : Nat → α) (j : Nat) (v : α) : Nat → α := fun i => if i = j then v else r i
theorem ShZ.notp {w : World} {p : Nat} {ct tt : Int} {r : Nat → Value} {L : Nat → List Value} (h : ShZ w p ct tt r L) {j : Nat} (hj : j < 4) : ¬ (r j).ownBlock = some p := own_kind (h.row j hj) h.st (by decide)
/-- a row's cell is stored -/
theorem ShZ.store {w : World} {p : Nat} {ct tt : Int} {r : Nat → Value} (st : w.heap[p]? = some (.cells #[.int .i64 ct, .int .i64 tt, .bool false, r 0, r 1, r 2, r 3] 29 (0, 0))) (j : Nat) (hj : j < 4) (v : Value) (L : Nat → List Value)
    (row : ∀ i, i < 4 → w.ownsRow 0 38 1 (upd r j v i) (L i).length (L i)) (sep : ∀ i k b, i < 4 → k < 4 → ¬ i = k → (upd r j v i).ownBlock = some b → ¬ (upd r j v k).ownBlock = some b) : ShZ (w.setCell ⟨p, 3 + j, none⟩ v) p ct tt (upd r j v) L := by
  have c : Chg (fun k => k = p) w (w.setCell ⟨p, 3 + j, none⟩ v) := Chg.setCell (S := fun k => k = p) (Chg.refl _ w) (p := ⟨p, 3 + j, none⟩) rfl v
  refine ⟨?_, fun i hi => owns_chg (row i hi) (fun k hk e => own_kind (row i hi) st (by decide) (by rw [hk, e])) c, sep⟩
  rw [set_atL st]
  obtain rfl | rfl | rfl | rfl : j = 0 ∨ j = 1 ∨ j = 2 ∨ j = 3 := by omega
  all_goals rfl
/-- a row has one more -/
theorem ShZ.push {w wA w8 : World} {p : Nat} {ct tt : Int} {r : Nat → Value} {L : Nat → List Value} (h : ShZ w p ct tt r L) (j : Nat) (hj : j < 4) (o : Out w wA) {v x : Value} (hgrow : wA.grownBy w8 (r j).ownBlock) (hown : w8.ownsRow 0 38 1 v ((L j).length + 1) (L j ++ [x])) (hv : ∀ b, v.ownBlock = some b → (r j).ownBlock = some b ∨ w.heap.size ≤ b) :
    ShZ (w8.setCell ⟨p, 3 + j, none⟩ v) p ct tt (upd r j v) (upd L j (L j ++ [x])) ∧ Chg (fun b => b = p ∨ (r j).ownBlock = some b) w (w8.setCell ⟨p, 3 + j, none⟩ v) := by
  have hA := h.out o
  have c8 : Chg (fun b => (r j).ownBlock = some b) wA w8 := Chg.of_grown hgrow (fun k h => h)
  have st8 : w8.heap[p]? = _ := (c8.block p hA.lt (fun e => hA.notp hj e)).trans hA.st
  refine ⟨ShZ.store st8 j hj v _ (fun i hi => ?_) (fun i k b hi hk hne hib hkb => ?_), ((Chg.of_out (S := fun b => b = p ∨ (r j).ownBlock = some b) o).trans c8 (fun x hx _ => .inr hx)).setCell (p := ⟨p, 3 + j, none⟩) (.inl rfl) _⟩
  · unfold upd
    by_cases hij : i = j
    · rw [if_pos hij, if_pos hij, List.length_append, List.length_singleton]; exact hown
    · rw [if_neg hij, if_neg hij]
      exact owns_chg (hA.row i hi) (fun k hk e => h.sep i j k hi hj hij hk e) c8
  · unfold upd at hib hkb
    by_cases hij : i = j
    · have hkj : ¬ k = j := fun e => hne (hij.trans e.symm)
      rw [if_pos hij] at hib
      rw [if_neg hkj] at hkb
      rcases hv b hib with h1 | h1
      · exact h.sep k j b hk hj hkj hkb h1
      · have := ((h.row k hk).lt b hkb).2; omega
    · rw [if_neg hij] at hib
      by_cases hkj : k = j
      · rw [if_pos hkj] at hkb
        rcases hv b hkb with h1 | h1
        · exact h.sep i j b hi hj hij hib h1
        · have := ((h.row i hi).lt b hib).2; omega
      · rw [if_neg hkj] at hkb
        exact h.sep i k b hi hk hne hib hkb
theorem infoZl : (Try.prog.info? 38).map (fun i => (i.zero, i.size, i.bytes)) = some (some (.slice none 0 0), 1, 24) := by kernel_rfl
/-- the shelf's own blocks that a keeping writes -/
def SOZ (p : Nat) (r : Nat → Value) (b : Nat) : Prop := b = p ∨ (r 2).ownBlock = some b ∨ (r 3).ownBlock = some b
/-- what a keeping leaves behind -/
def KpZ (w : World) (p : Nat) (ct tt : Int) (r : Nat → Value) (L : Nat → List Value) (x y : Value) (w' : World) : Prop :=
  ∃ v2 v3, ShZ w' p ct tt (upd (upd r 2 v2) 3 v3) (upd (upd L 2 (L 2 ++ [x])) 3 (L 3 ++ [y])) ∧ Chg (SOZ p r) w w' ∧ (∀ b, v2.ownBlock = some b → (r 2).ownBlock = some b ∨ w.heap.size ≤ b) ∧ (∀ b, v3.ownBlock = some b → (r 3).ownBlock = some b ∨ w.heap.size ≤ b)
set_option maxRecDepth 20000 in
set_option maxHeartbeats 1000000 in
theorem keepZ_any (w : World) (p : Nat) (ct tt : Int) (r : Nat → Value) (L : Nat → List Value) (h : ShZ w p ct tt r L) (hK : (L 2).length ≤ 1000000000000) (hl2 : (L 3).length = (L 2).length) (a a' : Option Addr) (n c n' c' : Nat) :
    Calls Try.prog 86 #[.pointer (some ⟨p, 0, none⟩), .slice a n c, .slice a' n' c'] w fun e w' => (∃ q, e = .returned q) ∧ KpZ w p ct tt r L (.slice a n c) (.slice a' n' c') w' := by
  obtain ⟨i0, hi, hz0, hz1, hz2⟩ := info_parts infoZl
  obtain ⟨a2, c2, e2⟩ := own_form (h.row 2 (by omega))
  obtain ⟨a3, c3, e3⟩ := own_form (h.row 3 (by omega))
  have k5 : w.cell? ⟨p, 5, none⟩ = some (.slice a2 (L 2).length c2) := by rw [cell_atL h.st, ← e2]; rfl
  have H := hidOf h
  have E2 := hidOf e2
  have E3 := hidOf e3
  have R2 : Hid (∀ O, (w.alloc O).ownsRow 0 38 1 (.slice a2 (L 2).length c2) (L 2).length (L 2)) := fun O => by
    have := (h.out ((Out.refl w).alloc O)).row 2 (by omega)
    rw [e2] at this; exact this
  have HP : Hid (∀ O w8, (w.alloc O).grownBy w8 (Value.slice a2 (L 2).length c2).ownBlock → w8.cell? ⟨p, 5, none⟩ = some (.slice a2 (L 2).length c2) ∧ w8.frozen? ⟨p, 5, none⟩ = false) := fun O w8 hg => by
    have hA := h.out ((Out.refl w).alloc O)
    have hs : w8.heap[p]? = _ := (hg.block p hA.lt (fun e => hA.notp (j := 2) (by omega) (by rw [e2]; exact e.symm))).trans hA.st
    exact ⟨by rw [cell_atL hs, ← e2]; rfl, frozen_atL hs 5⟩
  have hl3 : (L 3).length ≤ 1000000000000 := by omega
  clear h hl2 e2 e3
  go_enter Try.func86, Try.ntmps86
  go_upto_region 1 with (at_builtin; refine wpList_append_lies _ rfl (.tmp 10) (.tmp 12) 27 rfl 0 38 i0 _ 1 24 Try.underlying27 hi hz0 hz1 hz2 rfl (by decide) (.slice a2 (L 2).length c2) (L 2).length (L 2) rfl (R2.out _) ⟨w.heap.size, 0, none⟩ 1 1 [.slice a n c] rfl rfl (news_new w _ _ _ rfl) (by intro u hu; simp at hu; subst hu; rfl) (by decide) (by unfold maxLen; omega) (by omega) (Nat.zero_le _) _ rfl ?_; intro g8 cap8 w8 hown8 hgrow8 hg8 hlt8; obtain ⟨q8, f8⟩ := HP.out _ w8 hgrow8; have W8 := hidOf hown8; have G8 := hidOf hgrow8; have Hg8 := hidOf hg8; clear hown8 hgrow8 hg8 hlt8)
  have B8 : Hid (∀ b, (Value.slice (some ⟨g8, 0, none⟩) ((L 2).length + 1) cap8).ownBlock = some b → (r 2).ownBlock = some b ∨ w.heap.size ≤ b) := fun b hb => by
    simp [Value.ownBlock] at hb
    subst hb
    rcases Hg8.out with h | h
    · exact .inl (by rw [E2.out]; exact h)
    · right; rw [h, size_alloc]; omega
  have hP := H.out.push 2 (by omega) ((Out.refl w).alloc _) (by rw [E2.out]; exact G8.out) W8.out B8.out
  have S8 := hidOf hP.1
  have C8 := hidOf hP.2
  clear hP G8 W8 Hg8 R2 HP k5 q8 f8
  have hz : (3 : Nat) + 2 = 5 := rfl
  rw [hz] at S8 C8
  clear hz
  generalize w8.setCell ⟨p, 5, none⟩ (.slice (some ⟨g8, 0, none⟩) ((L 2).length + 1) cap8) = w4 at *
  have k6 : w4.cell? ⟨p, 6, none⟩ = some (.slice a3 (L 3).length c3) := by
    rw [cell_atL S8.out.st, ← E3.out]; rfl
  have R3 : Hid (∀ O, (w4.alloc O).ownsRow 0 38 1 (.slice a3 (L 3).length c3) (L 3).length (L 3)) := fun O => by
    have := (S8.out.out ((Out.refl w4).alloc O)).row 3 (by omega)
    rw [← E3.out]; exact this
  have HP3 : Hid (∀ O w9, (w4.alloc O).grownBy w9 (Value.slice a3 (L 3).length c3).ownBlock → w9.cell? ⟨p, 6, none⟩ = some (.slice a3 (L 3).length c3) ∧ w9.frozen? ⟨p, 6, none⟩ = false) := fun O w9 hg => by
    have hA := S8.out.out ((Out.refl w4).alloc O)
    have hs : w9.heap[p]? = _ := (hg.block p hA.lt (fun e => hA.notp (j := 3) (by omega) (by show (r 3).ownBlock = _; rw [E3.out]; exact e.symm))).trans hA.st
    exact ⟨by rw [cell_atL hs, ← E3.out]; rfl, frozen_atL hs 6⟩
  go_wp2_with (at_builtin; refine wpList_append_lies _ rfl (.tmp 20) (.tmp 22) 27 rfl 0 38 i0 _ 1 24 Try.underlying27 hi hz0 hz1 hz2 rfl (by decide) (.slice a3 (L 3).length c3) (L 3).length (L 3) rfl (R3.out _) ⟨w4.heap.size, 0, none⟩ 1 1 [.slice a' n' c'] rfl rfl (news_new w4 _ _ _ rfl) (by intro u hu; simp at hu; subst hu; rfl) (by decide) (by unfold maxLen; omega) (by omega) (Nat.zero_le _) _ rfl ?_; intro g9 cap9 w9 hown9 hgrow9 hg9 hlt9; obtain ⟨q9, f9⟩ := HP3.out _ w9 hgrow9; have W9 := hidOf hown9; have G9 := hidOf hgrow9; have Hg9 := hidOf hg9; clear hown9 hgrow9 hg9 hlt9)
  have B9 : Hid (∀ b, (Value.slice (some ⟨g9, 0, none⟩) ((L 3).length + 1) cap9).ownBlock = some b → (r 3).ownBlock = some b ∨ w4.heap.size ≤ b) := fun b hb => by
    simp [Value.ownBlock] at hb
    subst hb
    rcases Hg9.out with h | h
    · exact .inl (by rw [E3.out]; exact h)
    · right; rw [h, size_alloc]; omega
  have hP := S8.out.push 3 (by omega) ((Out.refl w4).alloc _) (by show World.grownBy _ _ (r 3).ownBlock; rw [E3.out]; exact G9.out) W9.out B9.out
  have S9 := hidOf hP.1
  have C9 := hidOf hP.2
  clear hP q9 f9
  go_end0
  have z1 := C8.out.size
  refine ⟨⟨_, rfl⟩, _, _, S9.out, ?_, B8.out, fun b hb => (B9.out b hb).imp id (fun h => by omega)⟩
  refine (C8.out.mono (fun b hb _ => ?_)).trans C9.out (fun b hb _ => ?_)
  · rcases hb with h | h
    · exact .inl h
    · exact .inr (.inl h)
  · rcases hb with h | h
    · exact .inl h
    · exact .inr (.inr h)
end Go.Proofs.Ytlfcjbeldnkkoaa
namespace Go.Proofs.Ytlfcjbeldnkkoaa
open Go.RowKit
set_option linter.unusedVariables false
set_option linter.unusedSimpArgs false
/-- what stands in a place that was written over -/
def mk8 (l k : Int) : Fs := ⟨[109, 105, 110, 101], 1000003 * l + k, 0, 0, 0, 0, 0, none, 0, 0⟩
def mks (l a : Int) (n : Nat) : List Fs := (List.range n).map (fun (k : Nat) => mk8 l (a + (k : Int)))
theorem mks_len (l a : Int) (n : Nat) : (mks l a n).length = n := by simp [mks]
theorem mks_succ (l a : Int) (n : Nat) : mks l a (n + 1) = mks l a n ++ [mk8 l (a + n)] := by simp [mks, List.range_succ]
theorem mks_get (l a : Int) {n k : Nat} (h : k < n) : (mks l a n)[k]? = some (mk8 l (a + k)) := by simp [mks, h]
set_option maxRecDepth 20000 in
theorem mine9_any (z : Int) (w : World) : Calls Try.prog 84 #[.int .i64 z] w fun e w' => e = .returned (.agg #[.string ⟨#[109, 105, 110, 101]⟩, .int .i64 z, .int .i64 0, .int .i64 0, .int .i64 0, .int .i64 0, .int .i64 0, .slice none 0 0]) ∧ Out w w' := by
  go_enter Try.func84, Try.ntmps84
  go_wp2
  refine bodyPost_ret (results_cell_row rfl _ _ w.heap.size 46 _ (0, 0) _ rfl (heap_alloc_new _ _) Try.underlying46 rfl (by kernel_rfl)) rfl ?_
  exact ⟨rfl, Out.alloc (Out.refl _) _⟩
/-- some symbols -/
def ExZ (w : World) (v : Value) (n : Nat) : Prop := ∃ M : List Fs, M.length = n ∧ OwZ 0 v M w
theorem ExZ.out {w w' : World} {v : Value} {n : Nat} (h : ExZ w v n) (o : Out w w') : ExZ w' v n := by
  obtain ⟨M, h1, h2⟩ := h
  exact ⟨M, h1, h2.out o⟩
theorem ExZ.app {w w' : World} {v u u' : Value} {n : Nat} {L zs : List Fs} (h : ExZ w v n) (a : App8 w w' u u' L zs) : ExZ w' v n := by
  obtain ⟨M, h1, h2⟩ := h
  obtain ⟨M', h3, h4⟩ := a.ex 0 v M h2
  exact ⟨M', by omega, h4⟩
theorem ExZ.form {w : World} {v : Value} {n : Nat} (h : ExZ w v n) : ∃ a c, v = .slice a n c := by
  obtain ⟨M, rfl, h⟩ := h
  exact own_form h
theorem own_blkZ {B s n : Nat} {w : World} {e : TypeId} {v : Value} {xs : List Value} (h : w.ownsRow B e s v n xs) {b : Nat} (hb : v.ownBlock = some b) : b < w.heap.size ∧ ∃ cs, w.heap[b]? = some (.cells cs e (0, 0)) := by
  rcases h.2 with ⟨hv, _⟩ | ⟨g, cap, cur, hv, _, hg, _⟩
  · rw [hv] at hb; cases hb
  · rw [hv] at hb; simp [Value.ownBlock] at hb; subst hb; exact ⟨(Array.getElem?_eq_some_iff.1 hg).1, cur, hg⟩
/-- the queue's own blocks and lists of symbols lie apart -/
theorem ShZ.soq {w : World} {p : Nat} {ct tt : Int} {r : Nat → Value} {L : Nat → List Value} (h : ShZ w p ct tt r L) {v : Value} {N : List Fs} {B : Nat} (hv : OwZ B v N w) {b : Nat} (hb : v.ownBlock = some b) : ¬ SOZ p r b := fun hs => by
  obtain ⟨_, cs, hc⟩ := own_blkZ hv hb
  rcases hs with e | e | e
  · have := h.st; rw [← e, hc] at this; simp at this
  · exact own_kind (h.row 2 (by omega)) hc (by decide) e
  · exact own_kind (h.row 3 (by omega)) hc (by decide) e
/-- only lists of symbols turn -/
theorem ShZ.sym {w w' : World} {p : Nat} {ct tt : Int} {r : Nat → Value} {L : Nat → List Value} (h : ShZ w p ct tt r L) {S : Nat → Prop} (c : Chg S w w') (hS : ∀ b, b < w.heap.size → S b → ∃ cs, w.heap[b]? = some (.cells cs 46 (0, 0))) : ShZ w' p ct tt r L := by
  refine ⟨(c.block p h.lt (fun hs => ?_)).trans h.st, fun j hj => owns_chg (h.row j hj) (fun k hk hs => ?_) c, h.sep⟩
  · obtain ⟨cs, hb⟩ := hS p h.lt hs
    rw [h.st] at hb; simp at hb
  · obtain ⟨cs, hb⟩ := hS k (own_blkZ (h.row j hj) hk).1 hs
    exact own_kind (h.row j hj) hb (by decide) hk
/-- the blocks that a writing writes -/
def WFZ (p : Nat) (r0 : Nat → Value) (F : List Value) (b : Nat) : Prop := b = p ∨ (r0 2).ownBlock = some b ∨ (r0 3).ownBlock = some b ∨ ∃ x ∈ F, x.ownBlock = some b
/-- each list has a block of its own -/
def DstZ (F : List Value) : Prop := ∀ (i j : Nat) x y, F[i]? = some x → F[j]? = some y → ¬ i = j → ∀ b, x.ownBlock = some b → ¬ y.ownBlock = some b
/-- amid the writing: K, W at rest; P, R kept but still under way; the lists from lo on lie as they were handed in, those ahead of hi with marks -/
structure WZr (w : World) (p : Nat) (ct tt : Int) (r0 : Nat → Value) (F : List Value) (base : Int) (wr : World) (r : Nat → Value) (L : Nat → List Value) (K W P R : List Value) (lo hi : Nat) : Prop where
  sh : ShZ wr p ct tt r L
  r0_ : r 0 = r0 0
  l0 : L 0 = F
  l2 : L 2 = K ++ P
  l3 : L 3 = W ++ R
  kl : W.length = K.length
  pl : R.length = P.length
  pr : PrZ wr K W
  ks : ∀ (l : Nat) y b, K[l]? = some y ∨ W[l]? = some y → y.ownBlock = some b → ∀ (j : Nat) x, lo ≤ j → F[j]? = some x → ¬ x.ownBlock = some b
  fm : ∀ (j : Nat) x, lo ≤ j → F[j]? = some x → ∃ N : List Fs, N.length ≤ 100000000000 ∧ OwZ 0 x N wr ∧ (j < hi → N = mks (base + j) 0 N.length)
  fb : ∀ x ∈ F, ∀ b, x.ownBlock = some b → b < w.heap.size
  b2 : ∀ b, (r 2).ownBlock = some b → (r0 2).ownBlock = some b ∨ w.heap.size ≤ b
  b3 : ∀ b, (r 3).ownBlock = some b → (r0 3).ownBlock = some b ∨ w.heap.size ≤ b
  chg : Chg (WFZ p r0 F) w wr
def WZ (w : World) (p : Nat) (ct tt : Int) (r0 : Nat → Value) (F : List Value) (base : Int) (wr : World) (K W P R : List Value) (lo hi : Nat) : Prop := ∃ r L, WZr w p ct tt r0 F base wr r L K W P R lo hi
section
variable {w : World} {p : Nat} {ct tt : Int} {r0 : Nat → Value} {F : List Value} {base : Int} {wr w' : World} {K W P R : List Value} {lo hi : Nat}
theorem WZ.out (h : WZ w p ct tt r0 F base wr K W P R lo hi) (o : Out wr w') : WZ w p ct tt r0 F base w' K W P R lo hi := by
  obtain ⟨r, L, h⟩ := h
  exact ⟨r, L, h.sh.out o, h.r0_, h.l0, h.l2, h.l3, h.kl, h.pl, h.pr.out o, h.ks, fun j x hj hx => by
    obtain ⟨N, h1, h2, h3⟩ := h.fm j x hj hx
    exact ⟨N, h1, h2.out o, h3⟩, h.fb, h.b2, h.b3, h.chg.then_out o⟩
/-- the list in place i turns -/
theorem WZ.turn (h : WZ w p ct tt r0 F base wr K W P R lo hi) (hd : DstZ F) {i hi' : Nat} {f : Value} {N : List Fs} (hf : F[i]? = some f) (hlo : lo ≤ i) (c : Chg (fun b => f.ownBlock = some b) wr w') (hN : N.length ≤ 100000000000) (ho : OwZ 0 f N w') (hm : i < hi' → N = mks (base + i) 0 N.length) (hh : ∀ j, ¬ j = i → j < hi' → j < hi) : WZ w p ct tt r0 F base w' K W P R lo hi' := by
  obtain ⟨r, L, h⟩ := h
  obtain ⟨N0, _, ho0, _⟩ := h.fm i f hlo hf
  refine ⟨r, L, h.sh.sym c (fun b _ hb => (own_blkZ ho0 hb).2), h.r0_, h.l0, h.l2, h.l3, h.kl, h.pl, h.pr.chg c (fun l y b hy hb hs => h.ks l y b hy hb i f hlo hf hs), h.ks, fun j x hj hx => ?_, h.fb, h.b2, h.b3, h.chg.trans c (fun b hb _ => .inr (.inr (.inr ⟨f, List.mem_of_getElem? hf, hb⟩)))⟩
  by_cases hji : j = i
  · subst hji
    rw [hf] at hx
    obtain rfl := Option.some.inj hx
    exact ⟨N, hN, ho, hm⟩
  · obtain ⟨N1, h1, h2, h3⟩ := h.fm j x hj hx
    exact ⟨N1, h1, h2.chg c (fun b hb hs => hd j i x f hx hf hji b hb hs), fun hlt => h3 (hh j hji hlt)⟩
theorem WZ.up (h : WZ w p ct tt r0 F base wr K W P R lo hi) {lo' : Nat} (hl : lo ≤ lo') : WZ w p ct tt r0 F base wr K W P R lo' hi := by
  obtain ⟨r, L, h⟩ := h
  exact ⟨r, L, h.sh, h.r0_, h.l0, h.l2, h.l3, h.kl, h.pl, h.pr, fun l y b hy hb j x hj hx => h.ks l y b hy hb j x (by omega) hx, fun j x hj hx => h.fm j x (by omega) hx, h.fb, h.b2, h.b3, h.chg⟩
/-- a pair is kept -/
theorem WZ.keep (h : WZ w p ct tt r0 F base wr K W P R lo hi) (hK : K.length + P.length ≤ 1000000000000) (a a' : Option Addr) (n c n' c' : Nat) :
    Calls Try.prog 86 #[.pointer (some ⟨p, 0, none⟩), .slice a n c, .slice a' n' c'] wr fun e w' => (∃ q, e = .returned q) ∧ WZ w p ct tt r0 F base w' K W (P ++ [.slice a n c]) (R ++ [.slice a' n' c']) lo hi ∧ (∀ B v N, OwZ B v N wr → OwZ B v N w') ∧ wr.heap.size ≤ w'.heap.size := by
  obtain ⟨r, L, h⟩ := h
  refine (keepZ_any wr p ct tt r L h.sh (by rw [h.l2, List.length_append]; exact hK) (by rw [h.l2, h.l3, List.length_append, List.length_append, h.kl, h.pl]) a a' n c n' c').mono ?_
  rintro e w' ⟨he, v2, v3, hS, hC, h2, h3⟩
  have keep : ∀ B v N, OwZ B v N wr → OwZ B v N w' := fun B v N hv => hv.chg hC (fun b hb hs => h.sh.soq hv hb hs)
  have hz := h.chg.size
  refine ⟨he, ⟨_, _, hS, h.r0_, h.l0, ?_, ?_, h.kl, by simp [h.pl], ?_, h.ks, fun j x hj hx => ?_, h.fb, ?_, ?_, ?_⟩, keep, hC.size⟩
  · show L 2 ++ _ = _; rw [h.l2, List.append_assoc]
  · show L 3 ++ _ = _; rw [h.l3, List.append_assoc]
  · intro i x y hx hy
    obtain ⟨N, a1, c1, a2, c2, e1, e2, o1, o2, hb⟩ := h.pr i x y hx hy
    exact ⟨N, a1, c1, a2, c2, e1, e2, keep _ _ _ o1, keep _ _ _ o2, hb⟩
  · obtain ⟨N, h4, h5, h6⟩ := h.fm j x hj hx
    exact ⟨N, h4, keep _ _ _ h5, h6⟩
  · intro b hb
    rcases h2 b hb with h9 | h9
    · exact h.b2 b h9
    · right; omega
  · intro b hb
    rcases h3 b hb with h9 | h9
    · exact h.b3 b h9
    · right; omega
  · refine h.chg.trans hC (fun b hb hlt => ?_)
    rcases hb with e | e | e
    · exact .inl e
    · rcases h.b2 b e with h9 | h9
      · exact .inr (.inl h9)
      · omega
    · rcases h.b3 b e with h9 | h9
      · exact .inr (.inr (.inl h9))
      · omega
/-- a kept pair comes to rest -/
theorem WZ.rest {x y : Value} (h : WZ w p ct tt r0 F base wr K W (x :: P) (y :: R) lo hi) {N : List Fs} (hN : N.length ≤ 1000000000000) (h1 : OwZ 0 x N wr) (h2 : OwZ 0 y N wr) (hx : ∀ b, x.ownBlock = some b → ∀ (j : Nat) z, lo ≤ j → F[j]? = some z → ¬ z.ownBlock = some b) (hy : ∀ b, y.ownBlock = some b → ∀ (j : Nat) z, lo ≤ j → F[j]? = some z → ¬ z.ownBlock = some b) : WZ w p ct tt r0 F base wr (K ++ [x]) (W ++ [y]) P R lo hi := by
  obtain ⟨r, L, h⟩ := h
  obtain ⟨ax, cx, ex⟩ := own_form h1
  obtain ⟨ay, cy, ey⟩ := own_form h2
  refine ⟨r, L, h.sh, h.r0_, h.l0, by rw [h.l2]; simp, by rw [h.l3]; simp, by simp [h.kl], by have := h.pl; simpa using this, ?_, ?_, h.fm, h.fb, h.b2, h.b3, h.chg⟩
  · intro i u z hu hz
    by_cases hi : i < K.length
    · rw [List.getElem?_append_left hi] at hu
      rw [List.getElem?_append_left (by rw [h.kl]; exact hi)] at hz
      exact h.pr i u z hu hz
    · have hie : i - K.length = 0 := by have := (List.getElem?_eq_some_iff.1 hu).1; simp at this; omega
      rw [List.getElem?_append_right (by omega), hie] at hu
      rw [List.getElem?_append_right (by rw [h.kl]; omega), h.kl, hie] at hz
      simp at hu hz
      subst hu hz
      exact ⟨N, ax, cx, ay, cy, ex, ey, h1, h2, hN⟩
  · intro l u b hu hb
    rcases hu with hu | hu
    · by_cases hi : l < K.length
      · rw [List.getElem?_append_left hi] at hu
        exact h.ks l u b (.inl hu) hb
      · have hie : l - K.length = 0 := by have := (List.getElem?_eq_some_iff.1 hu).1; simp at this; omega
        rw [List.getElem?_append_right (by omega), hie] at hu
        simp at hu
        subst hu
        exact hx b hb
    · by_cases hi : l < W.length
      · rw [List.getElem?_append_left hi] at hu
        exact h.ks l u b (.inr hu) hb
      · have hie : l - W.length = 0 := by have := (List.getElem?_eq_some_iff.1 hu).1; simp at this; omega
        rw [List.getElem?_append_right (by omega), hie] at hu
        simp at hu
        subst hu
        exact hy b hb
/-- a block that is new is none of the lists' -/
theorem WZ.new (h : WZ w p ct tt r0 F base wr K W P R lo hi) {b : Nat} (hb : w.heap.size ≤ b) (j : Nat) (z : Value) (hz : F[j]? = some z) : ¬ z.ownBlock = some b := fun e => by
  obtain ⟨r, L, h⟩ := h
  have := h.fb z (List.mem_of_getElem? hz) b e
  omega
theorem WZ.fown (h : WZ w p ct tt r0 F base wr K W P R lo hi) {j : Nat} {x : Value} (hj : lo ≤ j) (hx : F[j]? = some x) : ∃ N : List Fs, N.length ≤ 100000000000 ∧ OwZ 0 x N wr ∧ (j < hi → N = mks (base + j) 0 N.length) := by
  obtain ⟨r, L, h⟩ := h
  exact h.fm j x hj hx
theorem WZ.size (h : WZ w p ct tt r0 F base wr K W P R lo hi) : w.heap.size ≤ wr.heap.size := by
  obtain ⟨r, L, h⟩ := h
  exact h.chg.size
theorem WZ.cells (h : WZ w p ct tt r0 F base wr K W P R lo hi) {af : Option Addr} {cf : Nat} (e : r0 0 = .slice af F.length cf) : wr.cell? ⟨p, 0, none⟩ = some (.int .i64 ct) ∧ wr.cell? ⟨p, 1, none⟩ = some (.int .i64 tt) ∧ wr.cell? ⟨p, 2, none⟩ = some (.bool false) ∧ wr.cell? ⟨p, 3, none⟩ = some (.slice af F.length cf) ∧ (∀ j, wr.frozen? ⟨p, j, none⟩ = false) ∧ wr.ownsRow 0 38 1 (.slice af F.length cf) F.length F := by
  obtain ⟨r, L, h⟩ := h
  refine ⟨by rw [cell_atL h.sh.st]; rfl, by rw [cell_atL h.sh.st]; rfl, by rw [cell_atL h.sh.st]; rfl, by rw [cell_atL h.sh.st, ← e, ← h.r0_]; rfl, fun j => frozen_atL h.sh.st j, ?_⟩
  have := h.sh.row 0 (by omega)
  rw [h.r0_, e, h.l0] at this
  exact this
end
end Go.Proofs.Ytlfcjbeldnkkoaa
