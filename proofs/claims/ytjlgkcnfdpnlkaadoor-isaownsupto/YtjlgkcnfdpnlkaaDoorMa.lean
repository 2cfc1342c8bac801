import Derived.Test.YtjlgkcnfdpnlkaaDoorLg
import Derived.Test.YtjlgkcnfdpnlkaaDoorLh
import Derived.Deep.QuietTactic
import Derived.BigQuiet
namespace Go.Proofs.YtjlgkcnfdpnlkaaDoor
open Go.RowKit
set_option linter.unusedVariables false
set_option linter.unusedSimpArgs false

theorem info3 : (Tryd.prog.info? 3).map (fun i => (i.zero, i.size, i.bytes)) = some (some (.int .i64 0), 1, 8) := by kernel_rfl
/-- a list of numbers in memory of the call's own -/
def Own (w w' : World) (v : Value) (l : List Int) : Prop := w'.ownsRow w.heap.size 3 1 v l.length (l.map (Value.int .i64)) ∧ Out w w'
theorem own_out {w wr w1 : World} {v : Value} {n : Nat} {xs : List Value} {o : Obj} (hor : Out w wr) (hown : wr.ownsRow w.heap.size 3 1 v n xs) (hg : (wr.alloc o).grownBy w1 v.ownBlock) : Out w w1 :=
  Below.grown (Out.alloc hor o) hg (Nat.le_trans hor.size (by rw [size_alloc]; omega)) (fun k hk => (hown.lt k hk).1)
theorem one_new (w : World) (z : Int) (t : TypeId) : ∀ j u, [Value.int .i64 z][j]? = some u → (w.alloc (.cells #[.int .i64 z] t)).cell? ((⟨w.heap.size, 0, none⟩ : Addr).add j) = some u :=
  news_at w #[.int .i64 z] t w.heap.size rfl
theorem one_cell (z : Int) : ∀ u ∈ [Value.int .i64 z], u.oneCell' = true := by intro u hu; simp at hu; subst hu; rfl
def upL (a : Int) : Nat → List Int
  | 0 => []
  | k + 1 => upL a k ++ [a + k]
theorem upL_len (a : Int) : ∀ k, (upL a k).length = k
  | 0 => rfl
  | k + 1 => by simp [upL, upL_len a k]
theorem up_step {w : World} {base : Nat} {v : Value} {a : Int} {k : Nat} (h : w.ownsRow base 3 1 v (k + 1) ((upL a k).map (Value.int .i64) ++ [.int .i64 (a + k)])) : w.ownsRow base 3 1 v (k + 1) ((upL a (k + 1)).map (Value.int .i64)) := by
  simpa [upL] using h
theorem registers_any (a b : Int) (n : Nat) (hn : (n : Int) = b - a + 1) (h1 : n ≤ 20) (h2 : -100 ≤ a) (h3 : b ≤ 100) (w : World) : Calls Tryd.prog 16 #[.int .i64 a, .int .i64 b] w fun e w' => ∃ v, e = .returned v ∧ Own w w' v (upL a n) := by
  have hn1 : (n : Int) ≤ b - a + 1 := by omega
  have hn2 : b - a + 1 ≤ (n : Int) := by omega
  clear hn
  obtain ⟨i0, hi, hz0, hz1, hz2⟩ := info_parts info3
  go_enter Tryd.func16, Tryd.ntmps16
  go_wp2
  go_loopw [5, 6] (fun v i wr => ∃ k : Nat, k ≤ n ∧ i = .int .i64 (a + k) ∧ wr.ownsRow w.heap.size 3 1 v k ((upL a k).map (Value.int .i64)) ∧ Out w wr) (fun _ i _ => (b + 1 - intOf i).toNat)
  case atStart => exact ⟨0, by omega, by simp, World.ownsRow_nil _ _ _ _, Out.refl _⟩
  case round =>
    obtain ⟨k, hk, rfl, hown, hor⟩ := hrel
    by_cases hkn : k < n
    · have hle : a + k ≤ b := by omega
      go_wp2_with (first | (at_builtin; refine wpList_append_own _ rfl (.tmp 13) (.tmp 15) 25 rfl w.heap.size 3 i0 (.int .i64 0) 1 8 Tryd.underlying25 hi hz0 hz1 hz2 rfl (by decide) _ _ _ rfl (hown.alloc _) ⟨wr.heap.size, 0, none⟩ 1 1 [.int .i64 (a + k)] rfl rfl (one_new _ _ _) (one_cell _) (by simp only [maxLen]; omega) (by omega) (Nat.le_trans hor.size (by rw [size_alloc]; omega)) ?_; intro v1 w1 hown1 hgrow1 _))
      have ho1 := own_out hor hown hgrow1
      go_roundw
      case rel => exact ⟨k + 1, by omega, by simp; omega, up_step hown1, ho1⟩
      case measure => simp [intOf]; omega
    · have hle : ¬ a + k ≤ b := by omega
      obtain rfl : k = n := by omega
      go_wp2
      go_ret
      exact ⟨_, rfl, by rw [upL_len]; exact hown, hor⟩
theorem upTo_any (a b : Int) (n : Nat) (hn : (n : Int) = b - a + 1) (h1 : n ≤ 20) (h2 : -100 ≤ a) (h3 : b ≤ 100) (w : World) : Calls Tryd.prog 24 #[.int .i64 a, .int .i64 b] w fun e w' => ∃ v, e = .returned v ∧ Own w w' v (upL a n) := by
  have hn1 : (n : Int) ≤ b - a + 1 := by omega
  have hn2 : b - a + 1 ≤ (n : Int) := by omega
  clear hn
  obtain ⟨i0, hi, hz0, hz1, hz2⟩ := info_parts info3
  go_enter Tryd.func24, Tryd.ntmps24
  go_wp2
  go_loopw [5, 6] (fun v i wr => ∃ k : Nat, k ≤ n ∧ i = .int .i64 (a + k) ∧ wr.ownsRow w.heap.size 3 1 v k ((upL a k).map (Value.int .i64)) ∧ Out w wr) (fun _ i _ => (b + 1 - intOf i).toNat)
  case atStart => exact ⟨0, by omega, by simp, World.ownsRow_nil _ _ _ _, Out.refl _⟩
  case round =>
    obtain ⟨k, hk, rfl, hown, hor⟩ := hrel
    by_cases hkn : k < n
    · have hle : a + k ≤ b := by omega
      go_wp2_with (first | (at_builtin; refine wpList_append_own _ rfl (.tmp 13) (.tmp 15) 25 rfl w.heap.size 3 i0 (.int .i64 0) 1 8 Tryd.underlying25 hi hz0 hz1 hz2 rfl (by decide) _ _ _ rfl (hown.alloc _) ⟨wr.heap.size, 0, none⟩ 1 1 [.int .i64 (a + k)] rfl rfl (one_new _ _ _) (one_cell _) (by simp only [maxLen]; omega) (by omega) (Nat.le_trans hor.size (by rw [size_alloc]; omega)) ?_; intro v1 w1 hown1 hgrow1 _))
      have ho1 := own_out hor hown hgrow1
      go_roundw
      case rel => exact ⟨k + 1, by omega, by simp; omega, up_step hown1, ho1⟩
      case measure => simp [intOf]; omega
    · have hle : ¬ a + k ≤ b := by omega
      obtain rfl : k = n := by omega
      go_wp2
      go_ret
      exact ⟨_, rfl, by rw [upL_len]; exact hown, hor⟩
end Go.Proofs.YtjlgkcnfdpnlkaaDoor
