import Derived.Test.YtjlgkcnfdpnlkaaDoorOa
import Derived.Test.YtjlgkcnfdpnlkaaDoorMd
import Derived.Deep.OwnRows
namespace Go.Proofs.YtjlgkcnfdpnlkaaDoor
open Go.RowKit
set_option linter.unusedVariables false
set_option linter.unusedSimpArgs false

theorem owns_empty (w : World) (B : Nat) (hB : B ≤ w.heap.size) : (w.alloc (.cells #[] 3)).ownsRow B 3 1 (.slice (some ⟨w.heap.size, 0, none⟩) 0 0) 0 [] :=
  ⟨rfl, .inr ⟨w.heap.size, 0, #[], rfl, hB, by show (w.heap.push _)[w.heap.size]? = _; simp, by omega, by simp [maxLen], rfl, rfl⟩⟩
theorem ints_one (l : List Int) : ∀ u ∈ l.map (Value.int .i64), u.oneCell' = true := by
  intro u hu
  obtain ⟨z, -, rfl⟩ := List.mem_map.1 hu
  rfl
theorem copy_nil (w : World) : Calls Tryd.prog 27 #[.slice none 0 0] w fun e w' => ∃ v, e = .returned v ∧ Own w w' v [] := by
  obtain ⟨i0, hi, hz0, hz1, hz2⟩ := info_parts info3
  go_enter Tryd.func27, Tryd.ntmps27
  go_wp2
  go_ret
  exact ⟨_, rfl, owns_empty w _ (Nat.le_refl _), Out.alloc (Out.refl _) _⟩
theorem copy_some (w : World) (b c : Nat) (l : List Int) (h : ∀ j u, (l.map (Value.int .i64))[j]? = some u → w.cell? ((⟨b, 0, none⟩ : Addr).add j) = some u) (hb : b < w.heap.size) (hl : l.length ≤ 1000000) : Calls Tryd.prog 27 #[.slice (some ⟨b, 0, none⟩) l.length c] w fun e w' => ∃ v, e = .returned v ∧ Own w w' v l := by
  obtain ⟨i0, hi, hz0, hz1, hz2⟩ := info_parts info3
  have h' : ∀ j u, (l.map (Value.int .i64))[j]? = some u → (w.alloc (.cells #[] 3)).cell? ((⟨b, 0, none⟩ : Addr).add j) = some u := by
    intro j u hu
    rw [Below.cell (Below.alloc (Below.refl w.heap.size w) (Nat.le_refl _) _) (by simp only [Addr.add]; split <;> simpa using hb)]
    exact h j u hu
  go_enter Tryd.func27, Tryd.ntmps27
  go_wp2_with (first | (at_builtin; refine wpList_append_own _ rfl (.tmp 3) (.tmp 4) 25 rfl w.heap.size 3 i0 (.int .i64 0) 1 8 Tryd.underlying25 hi hz0 hz1 hz2 rfl (by decide) _ 0 [] rfl (owns_empty w _ (Nat.le_refl _)) ⟨b, 0, none⟩ l.length c (l.map (Value.int .i64)) rfl (by simp) h' (ints_one l) (by simp only [maxLen]; omega) (by omega) (by rw [size_alloc]; omega) ?_; intro v1 w1 hown1 hgrow1 _))
  go_ret
  refine ⟨_, rfl, by simpa using hown1, Below.grown (Out.alloc (Out.refl _) _) hgrow1 (by rw [size_alloc]; omega) (fun k hk => ?_)⟩
  have e : w.heap.size = k := Option.some.inj hk
  omega
def markL (k : Nat) (m : Int) : List Int := (List.range k).map (fun j : Nat => m + 7 * (j : Int) + 1)
theorem markL_len (k : Nat) (m : Int) : (markL k m).length = k := by simp [markL]
theorem owns_of_rowIs {w : World} {B g n : Nat} {e : TypeId} {f : Nat → Value} {xs : List Value} (h : w.rowIs g e n f) (hB : B ≤ g) (hn : n ≤ maxLen) (hx : xs.length = n) (hf : ∀ j, j < n → xs[j]? = some (f j)) : w.ownsRow B e 1 (.slice (some ⟨g, 0, none⟩) n n) n xs := by
  obtain ⟨c, hb, hs, hc⟩ := h
  refine ⟨by omega, .inr ⟨g, n, c, rfl, hB, hb, Nat.le_refl _, hn, by omega, ?_⟩⟩
  apply List.ext_getElem?
  intro j
  rw [Nat.mul_one, List.getElem?_take]
  by_cases hj : j < n
  · rw [if_pos hj, hf j hj, ← hc j hj]; simp
  · rw [if_neg hj, List.getElem?_eq_none (by omega)]
theorem marked_any (w : World) (k : Nat) (m : Int) (hk : k ≤ 100000) (h1 : 0 ≤ m) (h2 : m ≤ 1000000000) : Calls Tryd.prog 42 #[.int .i64 k, .int .i64 m] w fun e w' => ∃ v, e = .returned v ∧ Own w w' v (markL k m) := by
  obtain ⟨i0, hi, hz0, hz1, hz2⟩ := info_parts info3
  have hmk := run_make_row (P := Tryd.prog) 25 3 i0 (.int .i64 0) Tryd.underlying25 hi hz0 hz1 rfl .i64 .i64 k (by rw [hz2]; omega) (by omega)
  go_enter Tryd.func42, Tryd.ntmps42
  go_wp2
  clear hmk
  go_loopw [6] (fun i wr => ∃ j : Nat, j ≤ k ∧ i = .int .i64 j ∧ wr.rowIs w.heap.size 3 k (fun x => if x < j then .int .i64 (m + 7 * x + 1) else .int .i64 0) ∧ Out w wr) (fun i _ => (k + 1 - intOf i).toNat)
  case atStart => exact ⟨0, by omega, rfl, by simpa using World.rowIs_made w (.int .i64 0) k 3, Out.alloc (Out.refl _) _⟩
  case round =>
    obtain ⟨j, hj, rfl, hrow, hor⟩ := hrel
    by_cases hjk : j < k
    · have hc := hrow.cell hjk
      have hf := hrow.frozen j
      have hlt : (j : Int) < k := by omega
      go_wp2
      go_roundw
      case rel =>
        refine ⟨j + 1, by omega, by simp, (hrow.set j _).congr (fun x hx => ?_), Below.setCell hor (Nat.le_refl _) _⟩
        by_cases hxj : x = j
        · subst hxj; simp
        · simp only [hxj, if_false]
          by_cases hx2 : x < j
          · rw [if_pos hx2, if_pos (by omega)]
          · rw [if_neg hx2, if_neg (by omega)]
      case measure => simp [intOf]; omega
    · have hlt : ¬ (j : Int) < k := by omega
      obtain rfl : j = k := by omega
      go_wp2
      go_ret
      refine ⟨_, rfl, ?_, hor⟩
      rw [markL_len]
      refine owns_of_rowIs hrow (Nat.le_refl _) (by simp only [maxLen]; omega) (by simp [markL]) (fun x hx => ?_)
      simp [markL, hx]
end Go.Proofs.YtjlgkcnfdpnlkaaDoor
