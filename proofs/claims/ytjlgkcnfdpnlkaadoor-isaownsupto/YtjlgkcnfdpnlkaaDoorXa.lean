import Derived.Test.YtjlgkcnfdpnlkaaDoorOh
import Derived.Deep.RegionHeld3
import Derived.Deep.RegionLaw
namespace Go.Proofs.YtjlgkcnfdpnlkaaDoor
open Go.RowKit
set_option linter.unusedVariables false
set_option linter.unusedSimpArgs false
def gB (B : List Int) (k : Nat) : Int := B.getD k 0
def bV (B : List Int) : List Value := B.map (Value.int .i64)
theorem owns_row {w : World} {B g n : Nat} {e : TypeId} {f : Nat → Value} {xs : List Value} (h : w.rowIs g e n f) (hB : B ≤ g) (hn : n ≤ maxLen) (hx : xs.length = n) (hf : ∀ j, j < n → xs[j]? = some (f j)) : w.ownsRow B e 1 (.slice (some ⟨g, 0, none⟩) n n) n xs := by
  obtain ⟨c, hb, hs, hc⟩ := h
  refine ⟨by omega, .inr ⟨g, n, c, rfl, hB, hb, Nat.le_refl _, hn, by omega, ?_⟩⟩
  apply List.ext_getElem?
  intro j
  rw [Nat.mul_one, List.getElem?_take]
  by_cases hj : j < n
  · rw [if_pos hj, hf j hj, ← hc j hj]; simp
  · rw [if_neg hj, List.getElem?_eq_none (by omega)]
theorem Chg.mono {S T : Nat → Prop} {w w' : World} (h : Chg S w w') (hST : ∀ x, S x → x < w.heap.size → T x) : Chg T w w' :=
  ⟨h.os, h.tape, h.output, h.size, fun k hk ht => h.block k hk (fun hs => ht (hST k hs hk))⟩
theorem Chg.out {S : Nat → Prop} {w0 w w' : World} (h : Chg S w w') (ho : Out w0 w) (hS : ∀ k, S k → w0.heap.size ≤ k) : Out w0 w' :=
  Below.trans ho (h.below ho.size hS)
theorem Chg.cell {S : Nat → Prop} {w w' : World} (h : Chg S w w') {a : Addr} {v : Value} (hc : w.cell? a = some v) (hs : ¬ S a.block) : w'.cell? a = some v := by
  rw [← hc]; exact World.cell?_of_block (h.block _ (World.block_lt_of_cell? w a hc) hs)
/-- bytes at an address, that read B -/
def BytA (w : World) (a : Option Addr) (B : List Int) : Prop :=
  B = [] ∨ ∃ b off, a = some ⟨b, off, none⟩ ∧ ∀ k, k < B.length → w.cell? ⟨b, off + k, none⟩ = some (.int .i64 (gB B k))
theorem BytA.out {w w' : World} {a : Option Addr} {B : List Int} (h : BytA w a B) (o : Out w w') : BytA w' a B := by
  rcases h with h | ⟨b, off, rfl, h⟩
  · exact .inl h
  · exact .inr ⟨b, off, rfl, fun k hk => cell_later o (h k hk)⟩
theorem Out.drewN {w w' : World} (h : Out w w') (m : Nat) : Out w (w'.drewN m) := ⟨h.os, h.tape, h.output, h.size, h.block⟩
theorem Out.setCell {w w' : World} (h : Out w w') {a : Addr} (ha : w.heap.size ≤ a.block) (u : Value) : Out w (w'.setCell a u) := Below.setCell h ha u
theorem cell_at {w : World} {p : Nat} {cs : Array Value} {t : TypeId} (h : w.heap[p]? = some (.cells cs t (0, 0))) (j : Nat) : w.cell? ⟨p, j, none⟩ = cs[j]? := by simp [World.cell?, h]
theorem frozen_at {w : World} {p : Nat} {cs : Array Value} {t : TypeId} (h : w.heap[p]? = some (.cells cs t (0, 0))) (j : Nat) : w.frozen? ⟨p, j, none⟩ = false := by simp [World.frozen?, h]
theorem set_at {w : World} {p : Nat} {cs : Array Value} {t : TypeId} (h : w.heap[p]? = some (.cells cs t (0, 0))) (j : Nat) (u : Value) : (w.setCell ⟨p, j, none⟩ u).heap[p]? = some (.cells (cs.setIfInBounds j u) t (0, 0)) := by
  simp [World.setCell, Array.getElem?_modify, h]
theorem cell_fresh (w : World) (cs : Array Value) (t : TypeId) (j : Nat) (b : Nat) (hb : b = w.heap.size) : (w.alloc (.cells cs t)).cell? ⟨b, j, none⟩ = cs[j]? := by
  subst hb
  rw [World.cell?, show (w.alloc (.cells cs t)).heap[w.heap.size]? = some (.cells cs t) from heap_alloc_new w _]
  rfl
theorem owns_chg {B size : Nat} {S : Nat → Prop} {w w' : World} {e : TypeId} {v : Value} {n : Nat} {xs : List Value} (h : w.ownsRow B e size v n xs) (hs : ∀ k, v.ownBlock = some k → ¬ S k) (hc : Chg S w w') : w'.ownsRow B e size v n xs := by
  refine ⟨h.1, ?_⟩
  rcases h.2 with hn | ⟨g, cap, cur, rfl, hb, hg, rest⟩
  · exact .inl hn
  · refine .inr ⟨g, cap, cur, rfl, hb, ?_, rest⟩
    rw [hc.block g (Array.getElem?_eq_some_iff.1 hg).1 (hs g rfl)]
    exact hg
theorem owns_out {B size : Nat} {w w' : World} {e : TypeId} {v : Value} {n : Nat} {xs : List Value} (h : w.ownsRow B e size v n xs) (o : Out w w') : w'.ownsRow B e size v n xs := owns_chg (S := fun _ => False) h (fun _ _ h => h) (Chg.of_out o)
theorem news_new (w : World) (cs : Array Value) (t : TypeId) (b : Nat) (hb : b = w.heap.size) : ∀ j u, cs.toList[j]? = some u → (w.alloc (.cells cs t)).cell? ((⟨b, 0, none⟩ : Addr).add j) = some u := by
  intro j u hu
  rw [WideShapes.add_plain, Nat.zero_add, cell_fresh _ _ _ _ _ hb]
  simpa using hu
theorem bV_one (B : List Int) : ∀ u ∈ bV B, u.oneCell' = true := by
  intro u hu
  obtain ⟨z, -, rfl⟩ := List.mem_map.1 hu
  rfl
theorem bV_get {B : List Int} {j : Nat} {u : Value} (h : (bV B)[j]? = some u) : j < B.length ∧ u = .int .i64 (gB B j) := by
  rw [bV, List.getElem?_map] at h
  obtain ⟨z, hz, rfl⟩ := Option.map_eq_some_iff.1 h
  exact ⟨(List.getElem?_eq_some_iff.1 hz).1, by simp [gB, List.getD, hz]⟩
theorem owns_void (w : World) (B size : Nat) (e : TypeId) (hB : B ≤ w.heap.size) : (w.alloc (.cells #[] e)).ownsRow B e size (.slice (some ⟨w.heap.size, 0, none⟩) 0 0) 0 [] :=
  ⟨by simp, .inr ⟨w.heap.size, 0, #[], rfl, hB, by show (w.heap.push _)[w.heap.size]? = _; simp, by omega, by simp [maxLen], by simp, by simp⟩⟩
theorem owns_bytA {w : World} {B : Nat} {v : Value} {L : List Int} (h : w.ownsRow B 3 1 v L.length (bV L)) : ∃ a cap, v = .slice a L.length cap ∧ BytA w a L ∧ L.length ≤ cap := by
  rcases h.2 with ⟨rfl, h0⟩ | ⟨g, cap, cur, rfl, hb, hg, hn, hm, hs, ht⟩
  · obtain rfl : L = [] := List.length_eq_zero_iff.1 h0
    exact ⟨none, 0, rfl, .inl rfl, Nat.le_refl _⟩
  · refine ⟨_, cap, rfl, .inr ⟨g, 0, rfl, fun k hk => ?_⟩, hn⟩
    have e1 : (bV L)[k]? = some (.int .i64 (gB L k)) := by simp [bV, gB, List.getD, List.getElem?_eq_getElem hk]
    rw [← ht, List.getElem?_take, if_pos (by omega)] at e1
    rw [cell_at hg, Nat.zero_add]; simpa using e1
/-- a list at rest: it reads l, its block is none of S -/
def Rd (B : Nat) (S : Nat → Prop) (w : World) (v : Value) (l : List Int) : Prop :=
  (v = .slice none 0 0 ∧ l = []) ∨ ∃ g c cur, v = .slice (some ⟨g, 0, none⟩) l.length c ∧ B ≤ g ∧ ¬ S g ∧ w.heap[g]? = some (.cells cur 3 (0, 0)) ∧ cur.toList.take l.length = bV l ∧ l.length ≤ maxLen
theorem Rd.bytA {B : Nat} {S : Nat → Prop} {w : World} {v : Value} {l : List Int} (h : Rd B S w v l) : ∃ a c, v = .slice a l.length c ∧ BytA w a l := by
  rcases h with ⟨rfl, rfl⟩ | ⟨g, c, cur, rfl, hB, hS, hg, ht⟩
  · exact ⟨none, 0, rfl, .inl rfl⟩
  · refine ⟨_, c, rfl, .inr ⟨g, 0, rfl, fun k hk => ?_⟩⟩
    have e1 : (bV l)[k]? = some (.int .i64 (gB l k)) := by simp [bV, gB, List.getD, List.getElem?_eq_getElem hk]
    rw [← ht.1, List.getElem?_take, if_pos hk] at e1
    rw [cell_at hg, Nat.zero_add]; simpa using e1
theorem Rd.drewN {B : Nat} {S : Nat → Prop} {w : World} {v : Value} {l : List Int} (h : Rd B S w v l) (m : Nat) : Rd B S (w.drewN m) v l := h
theorem Rd.chg {B : Nat} {S T U : Nat → Prop} {w w' : World} {v : Value} {l : List Int} (h : Rd B S w v l) (c : Chg U w w') (hU : ∀ k cur, ¬ S k → w.heap[k]? = some (.cells cur 3 (0, 0)) → ¬ U k) (hT : ∀ k, k < w.heap.size → ¬ S k → ¬ T k) : Rd B T w' v l := by
  rcases h with h | ⟨g, cc, cur, rfl, hB, hS, hg, ht⟩
  · exact .inl h
  · have hlt : g < w.heap.size := (Array.getElem?_eq_some_iff.1 hg).1
    exact .inr ⟨g, cc, cur, rfl, hB, hT g hlt hS, (c.block g hlt (hU g cur hS hg)).trans hg, ht⟩
theorem Rd.out {B : Nat} {S : Nat → Prop} {w w' : World} {v : Value} {l : List Int} (h : Rd B S w v l) (o : Out w w') (hS : ∀ k, w.heap.size ≤ k → ¬ S k) : Rd B S w' v l := h.chg (Chg.of_out (S := fun _ => False) o) (fun _ _ _ _ h => h) (fun _ _ h => h)
theorem Rd.mono {B : Nat} {S T : Nat → Prop} {w : World} {v : Value} {l : List Int} (h : Rd B S w v l) (hT : ∀ k, ¬ S k → ¬ T k) : Rd B T w v l := h.chg (Chg.refl (fun _ => False) w) (fun _ _ _ _ h => h) (fun k _ h => hT k h)
theorem rd_of_owns {B : Nat} {S : Nat → Prop} {w : World} {v : Value} {l : List Int} (h : w.ownsRow B 3 1 v l.length (bV l)) (hS : ∀ k, v.ownBlock = some k → ¬ S k) : Rd B S w v l := by
  rcases h.2 with ⟨rfl, h0⟩ | ⟨g, cap, cur, rfl, hb, hg, hn, hm, hs, ht⟩
  · exact .inl ⟨rfl, List.length_eq_zero_iff.1 h0⟩
  · exact .inr ⟨g, cap, cur, rfl, hb, hS g rfl, hg, by simpa using ht, by omega⟩
theorem BytA.nums {w : World} {a : Option Addr} {c : Nat} {l : List Int} (hv : (a = none ∧ l = [] ∧ c = 0) ∨ ∃ b, a = some ⟨b, 0, none⟩) (h : BytA w a l) : NumsAt w (.slice a l.length c) l := by
  rcases hv with ⟨rfl, rfl, rfl⟩ | ⟨b, rfl⟩
  · exact .inl ⟨rfl, rfl⟩
  · refine .inr ⟨b, c, rfl, fun j hj => ?_⟩
    rcases h with rfl | ⟨b', off, e, hc⟩
    · simp at hj
    · injection e with e
      injection e with e1 e2
      subst e1 e2
      have := hc j hj
      rw [Nat.zero_add] at this
      exact this
theorem Rd.nums {B : Nat} {S : Nat → Prop} {w : World} {v : Value} {l : List Int} (h : Rd B S w v l) : NumsAt w v l := by
  have h' := h
  rcases h with ⟨rfl, rfl⟩ | ⟨g, c, cur, rfl, hB, hS, hg, ht⟩
  · exact .inl ⟨rfl, rfl⟩
  · obtain ⟨a, c', e, hb⟩ := h'.bytA
    injection e with e1 _ e3
    subst e1 e3
    exact hb.nums (.inr ⟨g, rfl⟩)
theorem Rd.small {B : Nat} {S : Nat → Prop} {w : World} {v : Value} {l : List Int} (h : Rd B S w v l) : l.length ≤ 9223372036854775807 := by
  rcases h with ⟨_, rfl⟩ | ⟨g, c, cur, _, _, _, _, _, hl⟩
  · simp
  · simpa [maxLen] using hl
theorem pairs_of {B : Nat} {S T : Nat → Prop} {w : World} {xs ys : List Value} (h : ∀ (j : Nat) x y, xs[j]? = some x → ys[j]? = some y → ∃ l, Rd B S w x l ∧ Rd B T w y l) : Pairs w xs ys := fun j x y hx hy => by
  obtain ⟨l, h1, h2⟩ := h j x y hx hy
  exact ⟨l, h1.nums, h2.nums, h1.small⟩
def markB (k : Nat) (m : Int) : List Int := markL k m
theorem markB_len (k : Nat) (m : Int) : (markB k m).length = k := markL_len k m
theorem markX_any (w : World) (k : Nat) (m : Int) (hk : k ≤ 10000000) (h1 : 0 ≤ m) (h2 : m ≤ 2000000000) : Calls Tryd.prog 42 #[.int .i64 k, .int .i64 m] w fun e w' => ∃ g, e = .returned (.slice (some ⟨g, 0, none⟩) k k) ∧ w'.ownsRow w.heap.size 3 1 (.slice (some ⟨g, 0, none⟩) k k) (markB k m).length (bV (markB k m)) ∧ Out w w' := by
  obtain ⟨i0, hi, hz0, hz1, hz2⟩ := info_parts info3
  have hmk := run_make_row (P := Tryd.prog) 25 3 i0 (.int .i64 0) Tryd.underlying25 hi hz0 hz1 rfl .i64 .i64 k (by rw [hz2]; omega) (by omega)
  go_enter Tryd.func42, Tryd.ntmps42
  go_wp2
  clear hmk
  go_loopw [6] (fun i wr => ∃ j : Nat, j ≤ k ∧ i = .int .i64 j ∧ Hid (wr.rowIs w.heap.size 3 k (fun x => if x < j then .int .i64 (m + 7 * x + 1) else .int .i64 0)) ∧ Hid (Out w wr)) (fun i _ => (k + 1 - intOf i).toNat)
  case atStart => exact ⟨0, by omega, rfl, by simpa [Hid] using World.rowIs_made w (.int .i64 0) k 3, hidOf (Out.alloc (Out.refl _) _)⟩
  case round =>
    obtain ⟨j, hj, rfl, Hrow, Hor⟩ := hrel
    by_cases hjk : j < k
    · have hc := Hrow.out.cell hjk
      have hf := Hrow.out.frozen j
      have hlt : (j : Int) < k := by omega
      go_wp2
      go_roundw
      case rel =>
        refine ⟨j + 1, by omega, by simp, ?_, hidOf (Hor.out.setCell (a := ⟨w.heap.size, j, none⟩) (Nat.le_refl _) _)⟩
        refine (Hrow.out.set j _).congr (fun x hx => ?_)
        by_cases hxj : x = j
        · subst hxj; simp
        · simp only [hxj, if_false]
          by_cases hx2 : x < j
          · rw [if_pos hx2, if_pos (by omega)]
          · rw [if_neg hx2, if_neg (by omega)]
      case measure => simp [intOf]; omega
    · have hlt : ¬ (j : Int) < k := by omega
      obtain rfl : j = k := by omega
      go_wp2
      go_ret
      refine ⟨w.heap.size, rfl, ?_, Hor.out⟩
      rw [markB_len]
      refine owns_row Hrow.out (Nat.le_refl _) (by simp only [maxLen]; omega) (by simp [bV, markB, markL]) (fun x hx => ?_)
      simp [bV, markB, markL, hx]
theorem markX_two (w : World) (kI mI : Int) (k : Nat) (m : Int) (he : kI = (k : Int)) (hm : mI = m) (hk : k ≤ 10000000) (h1 : 0 ≤ m) (h2 : m ≤ 2000000000) : Calls Tryd.prog 42 #[.int .i64 kI, .int .i64 mI] w fun e w' => ∃ g, e = .returned (.slice (some ⟨g, 0, none⟩) k k) ∧ w'.ownsRow w.heap.size 3 1 (.slice (some ⟨g, 0, none⟩) k k) (markB k m).length (bV (markB k m)) ∧ Out w w' := by
  subst he hm; exact markX_any w k _ hk h1 h2
/-- CopyInts -/
theorem copyW (w : World) (a : Option Addr) (n cap : Nat) (B : List Int) (hn : B.length = n) (hi : BytA w a B) (hm : n ≤ 1010000) : Calls Tryd.prog 27 #[.slice a n cap] w fun e w' => ∃ a1 c1, e = .returned (.slice a1 n c1) ∧ w'.ownsRow w.heap.size 3 1 (.slice a1 n c1) n (bV B) ∧ Out w w' := by
  obtain ⟨i0, hi0, hz0, hz1, hz2⟩ := info_parts info3
  cases a with
  | none =>
    obtain rfl : B = [] := by
      rcases hi with h | ⟨b, off, h, _⟩
      · exact h
      · cases h
    obtain rfl : n = 0 := by simpa using hn.symm
    go_enter Tryd.func27, Tryd.ntmps27
    go_wp2
    go_ret
    exact ⟨_, _, rfl, owns_void w _ _ _ (Nat.le_refl _), Out.alloc (Out.refl _) _⟩
  | some ad =>
    have hcells : ∀ j u, (bV B)[j]? = some u → (w.alloc (.cells #[] 3)).cell? (ad.add j) = some u := by
      intro j u hu
      obtain ⟨hj, rfl⟩ := bV_get hu
      rcases hi with rfl | ⟨b, off, h, hc⟩
      · simp at hj
      · cases h
        rw [WideShapes.add_plain]
        exact cell_later ((Out.refl w).alloc _) (hc j hj)
    go_enter Tryd.func27, Tryd.ntmps27
    go_wp2_with (first | (at_builtin; go_loud (refine wpList_append_own _ rfl (.tmp 3) (.tmp 4) 25 rfl w.heap.size 3 i0 (.int .i64 0) 1 8 Tryd.underlying25 hi0 hz0 hz1 hz2 rfl (by decide) _ 0 [] rfl (owns_void w _ _ _ (Nat.le_refl _)) ad n cap (bV B) rfl (by simp [bV, hn]) hcells (bV_one B) (by simp only [maxLen]; omega) (by omega) (by rw [size_alloc]; omega) ?_); intro v1 w1 hown1 hgrow1 _))
    go_ret
    have h1 : w1.ownsRow w.heap.size 3 1 v1 B.length (bV B) := by have h := hown1; simp only [Nat.zero_add, List.nil_append] at h; rw [hn]; exact h
    obtain ⟨a1, c1, rfl, _, _⟩ := owns_bytA h1
    refine ⟨a1, c1, by rw [hn]; rfl, by rw [hn] at h1; exact h1, ?_⟩
    exact Chg.out (S := fun k => k = w.heap.size) (Chg.of_grown hgrow1 (fun k h => (Option.some.inj h).symm)) ((Out.refl w).alloc _) (fun k hk => by omega)
end Go.Proofs.YtjlgkcnfdpnlkaaDoor
