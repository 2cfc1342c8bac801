import Derived.Test.YthdgmhohofakgaaGreatDoorAk
namespace Go.Proofs.YthdgmhohofakgaaGreatDoor
open Go.RowKit
open Go.Maps (Keyed)
set_option linter.unusedVariables false
set_option linter.unusedSimpArgs false
theorem plF_keep {N : List (List UInt8)} {x y : List UInt8} (h : x ∈ N) : plF 1 (N ++ [y]) x = plF 1 N x := by rw [plF_snoc, if_pos h]
theorem plF_new {N : List (List UInt8)} {x : List UInt8} (h : ¬ x ∈ N) : plF 1 (N ++ [x]) x = szF 1 N := by rw [plF_snoc, if_neg h, if_pos rfl]
def addN (N : List (List UInt8)) (x : List UInt8) : List (List UInt8) := if x ∈ N then N else N ++ [x]
theorem addN_mem (N : List (List UInt8)) (x : List UInt8) : x ∈ addN N x := by unfold addN; split <;> simp_all
theorem addN_sub {N : List (List UInt8)} {x y : List UInt8} (h : y ∈ N) : y ∈ addN N x := by unfold addN; split <;> simp_all
theorem addN_pl {N : List (List UInt8)} {x y : List UInt8} (h : y ∈ N) : plF 1 (addN N x) y = plF 1 N y := by
  unfold addN
  split
  · rfl
  · exact plF_keep h
theorem addN_ok {N : List (List UInt8)} {x : List UInt8} (hd : N.Nodup) (hn : ∀ y ∈ N, nameOk y = true) (hx : nameOk x = true) : (addN N x).Nodup ∧ ∀ y ∈ addN N x, nameOk y = true := by
  unfold addN
  split
  · exact ⟨hd, hn⟩
  · rename_i h
    refine ⟨by rw [List.nodup_append]; exact ⟨hd, by simp, fun a ha b hb e => h (by simp at hb; rw [hb] at e; rw [← e]; exact ha)⟩, fun y hy => ?_⟩
    rcases List.mem_append.1 hy with hy | hy
    · exact hn y hy
    · simp at hy; rw [hy]; exact hx
theorem addN_sz (N : List (List UInt8)) (x : List UInt8) : szF 1 (addN N x) ≤ szF 1 N + x.length + 1 := by
  unfold addN
  split
  · omega
  · rw [szF_snoc]; omega
theorem add_any (p : Nat) (x : List UInt8) (w : World) (N : List (List UInt8)) (F : Nat → Prop) (h : Tab p w N F) (hx : nameOk x = true) (hb : szF 1 N ≤ 1000000000000) (hlt : ∀ k, F k → k < w.heap.size) : Calls Tryz.prog 70 #[.pointer (some ⟨p, 0, none⟩), .string ⟨x.toArray⟩] w fun e w' => e = .returned (.tuple #[.int .i64 (plF 1 (addN N x) x : Nat), .int .i64 0]) ∧ Tab p w' (addN N x) (FN F w w') ∧ Chg F w w' := by
  by_cases hm : x ∈ N
  · have e : addN N x = N := by unfold addN; rw [if_pos hm]
    rw [e]
    refine (add_old p x w N F h hx hm).mono ?_
    rintro e w' ⟨rfl, rfl⟩
    exact ⟨rfl, h.mono (fun k hk => .inl hk), Chg.refl _ _⟩
  · have e : addN N x = N ++ [x] := by unfold addN; rw [if_neg hm]
    rw [e, plF_new hm]
    exact add_new p x w N F h hx hm hb
theorem FN_lt {F : Nat → Prop} {w w' : World} (hlt : ∀ k, F k → k < w.heap.size) (hs : w.heap.size ≤ w'.heap.size) : ∀ k, FN F w w' k → k < w'.heap.size := fun k hk => by
  rcases hk with h | h
  · have := hlt k h; omega
  · exact h.2
theorem snoc_ind {α : Type} {P : List α → Prop} (h0 : P []) (hs : ∀ l x, P l → P (l ++ [x])) : ∀ l, P l := by
  have key : ∀ n (l : List α), l.length = n → P l := by
    intro n
    induction n with
    | zero => intro l hl; rw [List.length_eq_zero_iff.1 hl]; exact h0
    | succ n ih =>
      intro l hl
      rcases list_cases l with rfl | ⟨M, x, rfl⟩
      · simp at hl
      · exact hs M x (ih M (by simpa using hl))
  exact fun l => key _ l rfl
def namesF (K : List (List UInt8)) : List (List UInt8) := K.foldl addN []
theorem namesF_snoc (K : List (List UInt8)) (x : List UInt8) : namesF (K ++ [x]) = addN (namesF K) x := by simp [namesF]
theorem namesF_ok (K : List (List UInt8)) (h : ∀ x ∈ K, nameOk x = true) : (namesF K).Nodup ∧ (∀ x ∈ namesF K, nameOk x = true) ∧ (∀ x ∈ K, x ∈ namesF K) ∧ szF 1 (namesF K) ≤ 1 + 65 * K.length := by
  revert h
  refine snoc_ind (P := fun K => (∀ x ∈ K, nameOk x = true) → (namesF K).Nodup ∧ (∀ x ∈ namesF K, nameOk x = true) ∧ (∀ x ∈ K, x ∈ namesF K) ∧ szF 1 (namesF K) ≤ 1 + 65 * K.length) ?_ ?_ K
  · exact fun _ => ⟨by simp [namesF], by simp [namesF], by simp, by simp [namesF, szF]⟩
  · intro K x ih h
    obtain ⟨a, b, c, d⟩ := ih (fun y hy => h y (by simp [hy]))
    have hx := h x (by simp)
    rw [namesF_snoc]
    obtain ⟨a1, a2⟩ := addN_ok a b hx
    refine ⟨a1, a2, ?_, ?_⟩
    · intro y hy
      rcases List.mem_append.1 hy with hy | hy
      · exact addN_sub (c y hy)
      · simp at hy; rw [hy]; exact addN_mem _ _
    · have h1 := addN_sz (namesF K) x
      have h2 : x.length ≤ 64 := by simp [nameOk] at hx; exact hx.1.2
      simp only [List.length_append, List.length_singleton]
      omega
theorem tw_split : ∀ l : List UInt8, (0 : UInt8) ∈ l → l = l.takeWhile (fun b => b != 0) ++ 0 :: l.drop ((l.takeWhile (fun b => b != 0)).length + 1)
  | [], h => by cases h
  | c :: r, h => by
    by_cases hc : c = 0
    · subst hc; simp
    · have h2 : (0 : UInt8) ∈ r := by
        rcases List.mem_cons.1 h with h | h
        · exact absurd h.symm hc
        · exact h
      have ih := tw_split r h2
      have e : (c :: r).takeWhile (fun b => b != 0) = c :: r.takeWhile (fun b => b != 0) := by simp [hc]
      rw [e, List.length_cons, List.drop_succ_cons, List.cons_append, ← ih]
theorem nmP_split (l : List UInt8) (h : ¬ nmP l = []) : l = nmP l ++ 0 :: l.drop ((nmP l).length + 1) ∧ nameOk (nmP l) = true := by
  have hle := nmP_le l
  have h0 : (l.take 65).contains 0 = true := by
    unfold nmP at h
    split at h
    · assumption
    · exact absurd rfl h
  have e : nmP l = l.takeWhile (fun b => b != 0) := by unfold nmP; rw [if_pos h0]
  have hm : (0 : UInt8) ∈ l := List.mem_of_mem_take (List.contains_iff_mem.1 h0)
  refine ⟨by rw [e]; exact tw_split l hm, ?_⟩
  have hz : (nmP l).contains 0 = false := by
    cases hc : (nmP l).contains 0 with
    | false => rfl
    | true =>
      have hx := List.contains_iff_mem.1 hc
      rw [e] at hx
      have := tw_all (fun b => b != 0) l 0 hx
      simp at this
  have he : (nmP l).isEmpty = false := by
    cases hq : nmP l with
    | nil => exact absurd hq h
    | cons a r => rfl
  simp only [nameOk, hz, he, Bool.not_false, Bool.true_and, Bool.and_true, decide_eq_true_eq]
  exact hle.1
theorem byF_cons (x : List UInt8) (M : List (List UInt8)) : byF (x :: M) = x ++ 0 :: byF M := by simp [byF]
theorem rdR_inv : ∀ (n : Nat) (l : List UInt8) (A N : List (List UInt8)) (p : Nat), l.length ≤ n → A.Nodup → rdR l A = (some N, p) → ∃ M, N = A ++ M ∧ l = byF M ∧ N.Nodup ∧ ∀ x ∈ M, nameOk x = true
  | n, [], A, N, p, _, hA, h => by
    rw [rdR_nil] at h
    cases h
    exact ⟨[], by simp, rfl, hA, by simp⟩
  | 0, c :: r, A, N, p, hl, _, h => by simp at hl
  | n + 1, c :: r, A, N, p, hl, hA, h => by
    by_cases hx : nmP (c :: r) ∈ A ∨ nmP (c :: r) = []
    · rw [rdR_bad _ _ (by simp) hx] at h; cases h
    · have hx1 : ¬ nmP (c :: r) ∈ A := fun q => hx (.inl q)
      have hx2 : ¬ nmP (c :: r) = [] := fun q => hx (.inr q)
      obtain ⟨hs, hok⟩ := nmP_split _ hx2
      rw [rdR_ok _ _ (by simp) hx1 hx2] at h
      have hl2 : ((c :: r).drop ((nmP (c :: r)).length + 1)).length ≤ n := by rw [List.length_drop]; omega
      obtain ⟨M, h1, h2, h3, h4⟩ := rdR_inv n _ _ N p hl2 (List.nodup_append.2 ⟨hA, by simp, by intro a ha b hb; simp at hb; rw [hb]; exact fun e => hx1 (e ▸ ha)⟩) h
      refine ⟨nmP (c :: r) :: M, by rw [h1]; simp, ?_, h3, ?_⟩
      · rw [byF_cons, ← h2]; exact hs
      · intro x hxm
        rcases List.mem_cons.1 hxm with q | q
        · rw [q]; exact hok
        · exact h4 x q
theorem rdP_inv {l : List UInt8} {N : List (List UInt8)} (h : (rdP l).1 = some N) : l = byP N ∧ N.Nodup ∧ ∀ x ∈ N, nameOk x = true := by
  cases l with
  | nil => cases h
  | cons c r =>
    by_cases hc : c = 0
    · subst hc
      rw [rdP_zero] at h
      obtain ⟨M, h1, h2, h3, h4⟩ := rdR_inv r.length r [] N (rdR r []).2 (Nat.le_refl _) (by simp) (Prod.ext h rfl)
      rw [List.nil_append] at h1
      subst h1
      exact ⟨by rw [byP, ← h2], h3, h4⟩
    · simp only [rdP, if_neg hc] at h
      cases h
theorem atF_idx : ∀ (N : List (List UInt8)) (a : Nat) (p : Int) (x : List UInt8), atF a N p = some x → ∃ k, N[k]? = some x ∧ p = (szF a (N.take k) : Nat)
  | [], _, _, _, h => by cases h
  | y :: r, a, p, x, h => by
    unfold atF at h
    split at h
    · rename_i e
      cases h
      exact ⟨0, rfl, by rw [← e]; rfl⟩
    · obtain ⟨k, h1, h2⟩ := atF_idx r _ p x h
      exact ⟨k + 1, by simpa using h1, by rw [h2]; rfl⟩
theorem szF_le {N : List (List UInt8)} {k j : Nat} (h : k ≤ j) : szF 1 (N.take k) ≤ szF 1 (N.take j) := by
  have := szF_take (N.take j) k
  rwa [List.take_take, Nat.min_eq_left h] at this
theorem szF_lt {N : List (List UInt8)} {k j : Nat} {x : List UInt8} (h : k < j) (hx : N[k]? = some x) : szF 1 (N.take k) < szF 1 (N.take j) := by
  have h1 := szF_le (N := N) (show k + 1 ≤ j from h)
  rw [take_snoc hx, szF_snoc] at h1
  omega
theorem idx_eq {N : List (List UInt8)} {k j : Nat} {x y : List UInt8} (hx : N[k]? = some x) (hy : N[j]? = some y) (h : szF 1 (N.take k) = szF 1 (N.take j)) : k = j := by
  rcases Nat.lt_trichotomy k j with q | q | q
  · have := szF_lt q hx; omega
  · exact q
  · have := szF_lt q hy; omega
theorem pl_of {N : List (List UInt8)} (hd : N.Nodup) {k : Nat} {x : List UInt8} (hx : N[k]? = some x) : plF 1 N x = szF 1 (N.take k) := by
  obtain ⟨j, h1, h2⟩ := plF_at N 1 x (List.mem_of_getElem? hx)
  have : j = k := by
    obtain ⟨hj, ej⟩ := List.getElem?_eq_some_iff.1 h1
    obtain ⟨hk, ek⟩ := List.getElem?_eq_some_iff.1 hx
    rcases Nat.lt_trichotomy j k with q | q | q
    · exact absurd (ej.trans ek.symm) (List.pairwise_iff_getElem.1 hd j k hj hk q)
    · exact q
    · exact absurd (ek.trans ej.symm) (List.pairwise_iff_getElem.1 hd k j hk hj q)
  rw [h2, this]
end Go.Proofs.YthdgmhohofakgaaGreatDoor
