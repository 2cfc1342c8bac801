import Derived.Test.YtjlgkcnfdpnlkaaDoorMa
import Derived.Test.YtjlgkcnfdpnlkaaDoorSh
import Derived.Sort.OwnSortedInts
import Derived.Lib.SlicesCompact
namespace Go.Proofs.YtjlgkcnfdpnlkaaDoor
open Go.RowKit Go.Sort
set_option linter.unusedVariables false
set_option linter.unusedSimpArgs false

def sortZ (zs : List Int) : List Int := zs.mergeSort fun x y => decide (x ≤ y)
theorem sortZ_len (zs : List Int) : (sortZ zs).length = zs.length := by simp [sortZ]
theorem sortZ_eq {zs ts : List Int} (hp : ts.Perm zs) (hs : ts.Pairwise fun x y => x ≤ y) : sortZ zs = ts := by
  refine List.Perm.eq_of_pairwise (le := fun a b => decide (a ≤ b) = true) (fun a b _ _ h1 h2 => ?_) (List.pairwise_mergeSort ?_ ?_ zs) (hs.imp (by simp)) ((List.mergeSort_perm zs _).trans hp.symm)
  · simp at h1 h2; omega
  · intro a b c; simp; omega
  · intro a b; simp; omega
theorem sort_own {base : Nat} {wr : World} {v : Value} {zs : List Int} (h : wr.ownsRow base 3 1 v zs.length (zs.map (Value.int .i64))) (hp : 0 < zs.length) (hl : zs.length ≤ 1000000) :
    Calls Tryd.prog 29 #[v] wr fun e w' => e = .returned (.tuple #[]) ∧ w'.ownsRow base 3 1 v zs.length ((sortZ zs).map (Value.int .i64)) ∧ wr.grownBy w' v.ownBlock := by
  rcases h.2 with ⟨_, e⟩ | ⟨g, cap, cur, rfl, hb, hg, h1, h2, h3, h4⟩
  · omega
  · have hH : Holds (Value.int .i64) wr g 0 zs.toArray := holds_of_blockI hg (by simpa using h4)
    refine (Tryd.slices_Sort_int g 0 cap zs wr hH (Array.getElem?_eq_some_iff.1 hg).1 (by omega)).mono ?_
    rintro e w' ⟨rfl, n, os, rfl⟩
    exact ⟨rfl, ownsRow_sortedI (sortZ_len zs) hb hg h1 h2 h3, grownBy_sortedI _⟩
theorem own_prefix {w : World} {base e g n m cap : Nat} {xs ys : List Value} (h : w.ownsRow base e 1 (.slice (some ⟨g, 0, none⟩) n cap) n (xs ++ ys)) (hm : xs.length = m) (hle : m ≤ n) : w.ownsRow base e 1 (.slice (some ⟨g, 0, none⟩) m cap) m xs := by
  refine ⟨by omega, ?_⟩
  rcases h.2 with ⟨hx, _⟩ | ⟨g', cap', cur, hv, hb, hg, h1, h2, h3, h4⟩
  · simp at hx
  · simp only [Value.slice.injEq, Option.some.injEq, Addr.mk.injEq, and_true, true_and] at hv
    obtain ⟨rfl, rfl⟩ := hv
    refine .inr ⟨g, cap, cur, rfl, hb, hg, by omega, h2, h3, ?_⟩
    have : (cur.toList.take (n * 1)).take (m * 1) = (xs ++ ys).take (m * 1) := by rw [h4]
    rw [List.take_take, Nat.min_eq_left (by omega)] at this
    rw [this, Nat.mul_one, ← hm, List.take_left]
theorem compact_own {base : Nat} {wr : World} {v : Value} {zs : List Int} (h : wr.ownsRow base 3 1 v zs.length (zs.map (Value.int .i64))) (hp : 0 < zs.length) (hl : zs.length ≤ 1000000) (hc : (Lib.compact zs).length ≤ zs.length) :
    Calls Tryd.prog 53 #[v] wr fun e w' => ∃ v', e = .returned v' ∧ w'.ownsRow base 3 1 v' (Lib.compact zs).length ((Lib.compact zs).map (Value.int .i64)) ∧ wr.grownBy w' v.ownBlock := by
  rcases h.2 with ⟨_, e⟩ | ⟨g, cap, cur, rfl, hb, hg, h1, h2, h3, h4⟩
  · omega
  · have hH : Holds (Value.int .i64) wr g 0 zs.toArray := holds_of_blockI hg (by simpa using h4)
    refine (Tryd.slices_Compact_int g 0 cap zs wr hH (by omega) h1).mono ?_
    rintro e w' ⟨rfl, q, rfl⟩
    have hl : (Lib.compact zs ++ List.replicate (zs.length - (Lib.compact zs).length) 0).length = zs.length := by simp; omega
    have := ownsRow_sortedI (n := q) (os := #[]) hl hb hg h1 h2 h3
    rw [grow_empty, List.map_append] at this
    have g2 := grownBy_sortedI (w := wr) (g := g) (n := q) (os := #[]) (Lib.compact zs ++ List.replicate (zs.length - (Lib.compact zs).length) 0).toArray
    rw [grow_empty] at g2
    exact ⟨_, rfl, own_prefix this (by simp) hc, g2⟩
theorem out_grown2 {w X w1 : World} {v : Value} {e size n : Nat} {xs : List Value} (h : Out w X) (hown : X.ownsRow w.heap.size e size v n xs) (hg : X.grownBy w1 v.ownBlock) : Out w w1 :=
  Below.grown h hg h.size (fun k hk => (hown.lt k hk).1)
theorem rising_any (b cap : Nat) (zs : List Int) (w : World) (hp : 0 < zs.length) (hl : zs.length ≤ 1000) (hc : ∀ j, j < zs.length → w.cell? ⟨b, j, none⟩ = some (.int .i64 (zs.getD j 0))) (hk : (Lib.compact (sortZ zs)).length ≤ zs.length) :
    Calls Tryd.prog 37 #[.slice (some ⟨b, 0, none⟩) zs.length cap] w fun e w' => ∃ v, e = .returned v ∧ Own w w' v (Lib.compact (sortZ zs)) := by
  have hcl := Tryd.slices_Clone_int b 0 zs.length cap zs w (Nat.le_refl _) (by omega) (by simpa using hc)
  rw [List.take_length] at hcl
  go_enter Tryd.func37, Tryd.ntmps37
  go_wp2_with (first | (go_at_call 52; refine hcl.mono ?_; rintro e w1 ⟨v1, rfl, hown1, _, hb1⟩; clear hcl) | (go_at_call 29; refine (sort_own hown1 hp (by omega)).mono ?_; rintro e w2 ⟨rfl, hown2, hg2⟩) | (go_at_call 53; refine (compact_own (zs := sortZ zs) (by rw [sortZ_len]; exact hown2) (by rw [sortZ_len]; exact hp) (by rw [sortZ_len]; omega) (by rw [sortZ_len]; exact hk)).mono ?_; rintro e w3 ⟨v3, rfl, hown3, hg3⟩))
  go_ret
  have o1 : Out w w1 := hb1
  have o2 : Out w w2 := out_grown2 o1 hown1 hg2
  exact ⟨_, rfl, hown3, out_grown2 o2 hown2 hg3⟩
end Go.Proofs.YtjlgkcnfdpnlkaaDoor
