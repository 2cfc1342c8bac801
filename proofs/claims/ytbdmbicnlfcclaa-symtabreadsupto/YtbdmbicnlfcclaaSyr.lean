import Derived.Test.YtbdmbicnlfcclaaSyq
namespace Go.Proofs.Ytbdmbicnlfcclaa
open Go.RowKit
set_option linter.unusedVariables false
set_option linter.unusedSimpArgs false
theorem rd_more (c u : List UInt8) (hu : 1 ≤ u.length ∧ u.length ≤ 23) : ∀ (L : List Sy) (q : Rn) (P : List UInt8) (e : Int) (n : Nat) (S : List Sy), wrF q L P = (some c, e) → (∀ s ∈ L, SyOk s) → L.length + 1 ≤ n → rdG (stB (c ++ u)) (c ++ u).length n P.length q S = (none, ((c ++ u).length : Int), 100)
  | [], q, P, e, n, S, h, _, hn => by
    rw [wrF] at h
    cases h
    obtain ⟨m, rfl⟩ : ∃ m, n = m + 1 := ⟨n - 1, by omega⟩
    rw [rdG_cut (by rw [List.length_append]; omega) (by rw [List.length_append]; omega)]
  | s :: r, q, P, e, n, S, h, hk, hn => by
    obtain ⟨h0, q', ht, h2⟩ := wrF_cons h
    obtain ⟨_, t, hb, _⟩ := wrF_app r q' (P ++ enB s) c e h2
    obtain ⟨m, rfl⟩ : ∃ m, n = m + 1 := ⟨n - 1, by rw [List.length_cons] at hn; omega⟩
    have hst : stB (c ++ u) P.length q = (some (s, q'), 0, 0) := by
      rw [stB, hb, List.append_assoc (P ++ enB s), cut_mid P (enB s) (t ++ u) P.length 24 rfl (enB_len s)]
      exact te_en h0 (hk s (List.mem_cons_self ..)) ht
    have hlen : (c ++ u).length = P.length + 24 + t.length + u.length := by rw [hb, List.length_append, List.length_append, List.length_append, enB_len]
    rw [rdG_step (by omega) hst]
    have ih := rd_more c u hu r q' (P ++ enB s) e m (S ++ [s]) h2 (fun x hx => hk x (List.mem_cons_of_mem _ hx)) (by rw [List.length_cons] at hn; omega)
    rw [show (P ++ enB s).length = P.length + 24 from by rw [List.length_append, enB_len]] at ih
    exact ih
/-- bytes that end within an entry are refused at their end -/
theorem cut_S {L : List Sy} {c u : List UInt8} {e : Int} (h : wrP L = (some c, e)) (hk : ∀ s ∈ L, SyOk s) (hu : 1 ≤ u.length ∧ u.length ≤ 23) : rdS (c ++ u) = (none, ((c ++ u).length : Int), 100) := by
  obtain ⟨he, t, hb, hl⟩ := wrF_app L ⟨0, 0, 0⟩ _ c e h
  have h24 : (c ++ u).length = 24 + 24 * L.length + u.length := by rw [List.length_append, hb, List.length_append, hl, List.length_replicate]
  have hz : fzP (c ++ u) = none := by
    rw [fzP, if_neg (by omega), hb, List.append_assoc, List.take_append_of_le_length (by simp), show (List.replicate 24 (0 : UInt8)).take 24 = List.replicate 24 0 from by decide]
    decide
  rw [rdS, hz]
  have := rd_more c u hu L ⟨0, 0, 0⟩ (List.replicate 24 0) e (c ++ u).length [] h hk (by omega)
  rw [List.length_replicate] at this
  exact this
/-- the parts of awake -/
def s1 : Sy := ⟨258, 1, 0, 0, 0, 0⟩
theorem wr_s1 : wrP [s1] = (some (List.replicate 24 0 ++ [2, 1, 0, 0, 16] ++ List.replicate 19 0), 0) := by kernel_rfl
theorem rd_24 : rdS (List.replicate 24 0) = (some [], 0, 0) := by kernel_rfl
theorem rd_48 : rdS (List.replicate 48 0) = (none, 28, 100) := by kernel_rfl
end Go.Proofs.Ytbdmbicnlfcclaa
