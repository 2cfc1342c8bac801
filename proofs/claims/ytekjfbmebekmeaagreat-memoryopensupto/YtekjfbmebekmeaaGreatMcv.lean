import Derived.Test.YtekjfbmebekmeaaGreatMcb
namespace Go.Proofs.YtekjfbmebekmeaaGreat
open Go.RowKit
set_option linter.unusedVariables false
set_option linter.unusedSimpArgs false
/-- two lists by rising first parts, of the same pairs, are one -/
theorem sorted_eq : ∀ (P Q : List (Nat × List UInt8)), P.Pairwise (fun a b => a.1 < b.1) → Q.Pairwise (fun a b => a.1 < b.1) → P.Perm Q → P = Q
  | [], Q, _, _, h => (List.nil_perm.1 h).symm
  | a :: P, [], _, _, h => by simpa using h.length_eq
  | a :: P, b :: Q, hp, hq, h => by
    obtain ⟨h1, h2⟩ := List.pairwise_cons.1 hp
    obtain ⟨h3, h4⟩ := List.pairwise_cons.1 hq
    have e : a = b := by
      rcases List.mem_cons.1 (h.mem_iff.1 (List.mem_cons_self)) with e | ha
      · exact e
      · rcases List.mem_cons.1 (h.mem_iff.2 (List.mem_cons_self)) with e | hb
        · exact e.symm
        · have := h1 b hb
          have := h3 a ha
          omega
    subst e
    rw [sorted_eq P Q h2 h4 (List.Perm.cons_inv h)]
theorem srt_fd {R : List Rg} (h : Srt R) : (R.map fdR).Pairwise (fun a b => a.1 < b.1) := List.pairwise_map.2 h
/-- one pair's bytes are others -/
def updP (f : Nat) (d : List UInt8) (p : Nat × List UInt8) : Nat × List UInt8 := if p.1 = f then (p.1, d) else p
theorem fd_upd (f : Nat) (d : List UInt8) (z : Rg) : fdR (updR f d z) = updP f d (fdR z) := by
  unfold updR updP fdR
  by_cases h : z.f = f <;> simp [h]
theorem any_perm {α : Type} {P Q : List α} (h : P.Perm Q) (f : α → Bool) : P.any f = Q.any f := by
  rw [Bool.eq_iff_iff, List.any_eq_true, List.any_eq_true]
  exact ⟨fun ⟨x, hx, hf⟩ => ⟨x, h.mem_iff.1 hx, hf⟩, fun ⟨x, hx, hf⟩ => ⟨x, h.mem_iff.2 hx, hf⟩⟩
end Go.Proofs.YtekjfbmebekmeaaGreat
