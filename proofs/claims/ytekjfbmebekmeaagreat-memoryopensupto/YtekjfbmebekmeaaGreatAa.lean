import Derived.Test.YtekjfbmebekmeaaGreatEa
import Derived.OwnWalk
import Derived.Deep.RegionHeld3
import Derived.Deep.Cut
import Derived.Maps.OwnSet
namespace Go.Proofs.YtekjfbmebekmeaaGreat
open Go.RowKit
set_option linter.unusedVariables false
set_option linter.unusedSimpArgs false
/-- names, in plain words: the size of what stands behind a place -/
def szF : Nat → List (List UInt8) → Nat
  | a, [] => a
  | a, y :: r => szF (a + y.length + 1) r
def stF : Nat → List (List UInt8) → List Int
  | _, [] => []
  | a, y :: r => (a : Int) :: stF (a + y.length + 1) r
def plF : Nat → List (List UInt8) → List UInt8 → Nat
  | _, [], _ => 0
  | a, y :: r, x => if y = x then a else plF (a + y.length + 1) r x
def atF : Nat → List (List UInt8) → Int → Option (List UInt8)
  | _, [], _ => none
  | a, y :: r, p => if (a : Int) = p then some y else atF (a + y.length + 1) r p
theorem szF_ge : ∀ (N : List (List UInt8)) (a : Nat), a + N.length ≤ szF a N
  | [], a => by simp [szF]
  | y :: r, a => by have := szF_ge r (a + y.length + 1); simp only [szF, List.length_cons]; omega
theorem szF_add : ∀ (N M : List (List UInt8)) (a : Nat), szF a (N ++ M) = szF (szF a N) M
  | [], _, _ => rfl
  | y :: r, M, a => by simp only [List.cons_append, szF]; exact szF_add r M _
theorem szF_snoc (N : List (List UInt8)) (x : List UInt8) (a : Nat) : szF a (N ++ [x]) = szF a N + x.length + 1 := by rw [szF_add]; rfl
theorem stF_add : ∀ (N M : List (List UInt8)) (a : Nat), stF a (N ++ M) = stF a N ++ stF (szF a N) M
  | [], _, _ => rfl
  | y :: r, M, a => by simp only [List.cons_append, stF, szF]; rw [stF_add r M]
theorem stF_snoc (N : List (List UInt8)) (x : List UInt8) (a : Nat) : stF a (N ++ [x]) = stF a N ++ [(szF a N : Int)] := by rw [stF_add]; rfl
theorem stF_len : ∀ (N : List (List UInt8)) (a : Nat), (stF a N).length = N.length
  | [], _ => rfl
  | y :: r, a => by simp only [stF, List.length_cons]; rw [stF_len r]
theorem stF_ge : ∀ (N : List (List UInt8)) (a : Nat) (z : Int), z ∈ stF a N → (a : Int) ≤ z
  | [], _, _, h => by simp [stF] at h
  | y :: r, a, z, h => by
    simp only [stF, List.mem_cons] at h
    rcases h with rfl | h
    · exact Int.le_refl _
    · have := stF_ge r _ z h; omega
theorem stF_rise : ∀ (N : List (List UInt8)) (a : Nat), (stF a N).Pairwise (· ≤ ·)
  | [], _ => List.Pairwise.nil
  | y :: r, a => List.Pairwise.cons (fun z hz => by have := stF_ge r _ z hz; omega) (stF_rise r _)
theorem plF_zero : ∀ (N : List (List UInt8)) (a : Nat) (x : List UInt8), 1 ≤ a → (x ∈ N ↔ 0 < plF a N x)
  | [], _, _, _ => by simp [plF]
  | y :: r, a, x, h => by
    unfold plF
    by_cases e : y = x
    · rw [if_pos e]; simp [e]; omega
    · rw [if_neg e, ← plF_zero r _ x (by omega)]; simp [Ne.symm e]
theorem plF_snoc : ∀ (N : List (List UInt8)) (a : Nat) (y x : List UInt8), plF a (N ++ [y]) x = if x ∈ N then plF a N x else if y = x then szF a N else 0
  | [], a, y, x => by simp [plF, szF]
  | z :: r, a, y, x => by
    simp only [List.cons_append, plF, szF]
    by_cases e : z = x
    · rw [if_pos e]; simp [e]
    · rw [if_neg e, plF_snoc r _ y x, if_neg e]
      simp [Ne.symm e]
/-- a place, found by halving -/
theorem at_search : ∀ (N : List (List UInt8)) (a : Nat) (p : Int), (stF a N).contains p = (atF a N p).isSome ∧ ∀ x, atF a N p = some x → N[(stF a N).countP (· < p)]? = some x
  | [], _, _ => by simp [stF, atF]
  | y :: r, a, p => by
    obtain ⟨h1, h2⟩ := at_search r (a + y.length + 1) p
    unfold stF atF
    by_cases e : (a : Int) = p
    · rw [if_pos e]
      refine ⟨by simp [e], fun x hx => ?_⟩
      have h0 : (stF (a + y.length + 1) r).countP (· < p) = 0 := by
        rw [List.countP_eq_zero]
        intro z hz
        have := stF_ge r _ z hz
        simp; omega
      rw [List.countP_cons, h0]
      simp [e]
      exact Option.some.inj hx
    · rw [if_neg e]
      refine ⟨by rw [← h1]; simp [Ne.symm e], fun x hx => ?_⟩
      have h3 := h2 x hx
      by_cases hl : (a : Int) < p
      · rw [List.countP_cons_of_pos (by simpa using hl)]
        simpa using h3
      · exfalso
        have hc : (stF (a + y.length + 1) r).contains p = true := by rw [h1, hx]; rfl
        have := stF_ge r _ p (by simpa using hc)
        omega
theorem atF_end : ∀ (N : List (List UInt8)) (a : Nat) (x : List UInt8) (k : Nat), N[k]? = some x → atF a N (szF a (N.take k)) = some x
  | [], _, _, _, h => by simp at h
  | y :: r, a, x, 0, h => by simp at h; subst h; simp [atF, szF]
  | y :: r, a, x, k + 1, h => by
    simp only [List.take_succ_cons, szF]
    unfold atF
    have h1 := szF_ge (r.take k) (a + y.length + 1)
    rw [if_neg (by omega)]
    exact atF_end r _ x k (by simpa using h)
theorem plF_at : ∀ (N : List (List UInt8)) (a : Nat) (x : List UInt8), x ∈ N → ∃ k, N[k]? = some x ∧ plF a N x = szF a (N.take k)
  | [], _, _, h => by simp at h
  | y :: r, a, x, h => by
    unfold plF
    by_cases e : y = x
    · exact ⟨0, by simp [e], by rw [if_pos e]; rfl⟩
    · rw [if_neg e]
      obtain ⟨k, h1, h2⟩ := plF_at r (a + y.length + 1) x (by simpa [Ne.symm e] using h)
      exact ⟨k + 1, by simpa using h1, by rw [h2]; rfl⟩
/-- the bytes -/
def byF (N : List (List UInt8)) : List UInt8 := N.flatMap fun x => x ++ [0]
def byP (N : List (List UInt8)) : List UInt8 := 0 :: byF N
theorem byF_snoc (N : List (List UInt8)) (x : List UInt8) : byF (N ++ [x]) = byF N ++ (x ++ [0]) := by simp [byF]
theorem byF_len : ∀ (N : List (List UInt8)) (a : Nat), a + (byF N).length = szF a N
  | [], _ => rfl
  | y :: r, a => by
    have := byF_len r (a + y.length + 1)
    simp only [byF, List.flatMap_cons, List.length_append, List.length_cons, List.length_nil, szF] at this ⊢
    omega
theorem byP_len (N : List (List UInt8)) : (byP N).length = szF 1 N := by rw [← byF_len N 1]; simp [byP]; omega
def nameOk (x : List UInt8) : Bool := !x.isEmpty && decide (x.length ≤ 64) && !x.contains 0
/-- the name that bytes begin with -/
def nmP (l : List UInt8) : List UInt8 := if (l.take 65).contains 0 then l.takeWhile (fun b => b != 0) else []
def rdF : Nat → List UInt8 → List (List UInt8) → Option (List (List UInt8)) × Nat
  | 0, _, N => (some N, 0)
  | _ + 1, [], N => (some N, 0)
  | f + 1, c :: r, N => if nmP (c :: r) ∈ N ∨ nmP (c :: r) = [] then (none, szF 1 N) else rdF f ((c :: r).drop ((nmP (c :: r)).length + 1)) (N ++ [nmP (c :: r)])
def rdP : List UInt8 → Option (List (List UInt8)) × Nat
  | [] => (none, 0)
  | c :: r => if c = 0 then rdF r.length r [] else (none, 0)
theorem rdF_fuel : ∀ (f g : Nat) (l : List UInt8) (N : List (List UInt8)), l.length ≤ f → l.length ≤ g → rdF f l N = rdF g l N
  | 0, 0, _, _, _, _ => rfl
  | 0, g + 1, [], _, _, _ => rfl
  | 0, g + 1, c :: r, _, h, _ => by simp at h
  | f + 1, 0, [], _, _, _ => rfl
  | f + 1, 0, c :: r, _, _, h => by simp at h
  | f + 1, g + 1, [], _, _, _ => rfl
  | f + 1, g + 1, c :: r, N, hf, hg => by
    unfold rdF
    have hd : ((c :: r).drop ((nmP (c :: r)).length + 1)).length ≤ r.length := by rw [List.length_drop]; simp
    simp only [List.length_cons] at hf hg
    rw [rdF_fuel f g _ _ (by omega) (by omega)]
end Go.Proofs.YtekjfbmebekmeaaGreat
