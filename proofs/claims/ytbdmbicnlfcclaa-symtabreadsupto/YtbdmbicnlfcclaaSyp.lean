import Derived.Test.YtbdmbicnlfcclaaSyo
namespace Go.Proofs.Ytbdmbicnlfcclaa
open Go.RowKit
set_option linter.unusedVariables false
set_option linter.unusedSimpArgs false
theorem wrF_cons {q : Rn} {s : Sy} {r : List Sy} {P b : List UInt8} {e : Int} (h : wrF q (s :: r) P = (some b, e)) : 0 < soP s ∧ ∃ q', tkS q (soP s) s.va = some q' ∧ wrF q' r (P ++ enB s) = (some b, e) := by
  rw [wrF] at h
  split at h
  · cases h
  · rename_i h0
    split at h
    · cases h
    · rename_i q' ht
      exact ⟨by omega, q', ht, h⟩
theorem wrF_app : ∀ (L : List Sy) (q : Rn) (P b : List UInt8) (e : Int), wrF q L P = (some b, e) → e = 0 ∧ ∃ t, b = P ++ t ∧ t.length = 24 * L.length
  | [], q, P, b, e, h => by
    rw [wrF] at h
    cases h
    exact ⟨rfl, [], by simp, rfl⟩
  | s :: r, q, P, b, e, h => by
    obtain ⟨_, q', _, h2⟩ := wrF_cons h
    obtain ⟨he, t, ht, hl⟩ := wrF_app r q' (P ++ enB s) b e h2
    exact ⟨he, enB s ++ t, by rw [ht, List.append_assoc], by rw [List.length_append, enB_len, hl, List.length_cons]; omega⟩
theorem rd_wr (b : List UInt8) : ∀ (L : List Sy) (q : Rn) (P : List UInt8) (e : Int) (n : Nat) (S : List Sy), wrF q L P = (some b, e) → (∀ s ∈ L, SyOk s) → L.length ≤ n → rdG (stB b) b.length n P.length q S = (some (S ++ L), 0, 0)
  | [], q, P, e, n, S, h, _, _ => by
    rw [wrF] at h
    cases h
    rw [rdG_end (Nat.le_refl _), List.append_nil]
  | s :: r, q, P, e, n, S, h, hk, hn => by
    obtain ⟨h0, q', ht, h2⟩ := wrF_cons h
    obtain ⟨_, t, hb, _⟩ := wrF_app r q' (P ++ enB s) b e h2
    obtain ⟨m, rfl⟩ : ∃ m, n = m + 1 := ⟨n - 1, by rw [List.length_cons] at hn; omega⟩
    have hst : stB b P.length q = (some (s, q'), 0, 0) := by
      rw [stB, hb, cut_mid P (enB s) t P.length 24 rfl (enB_len s)]
      exact te_en h0 (hk s (List.mem_cons_self ..)) ht
    have hlen : b.length = P.length + 24 + t.length := by rw [hb, List.length_append, List.length_append, enB_len]
    rw [rdG_step (by omega) hst]
    have ih := rd_wr b r q' (P ++ enB s) e m (S ++ [s]) h2 (fun x hx => hk x (List.mem_cons_of_mem _ hx)) (by rw [List.length_cons] at hn; omega)
    rw [List.length_append, enB_len] at ih
    rw [ih, List.append_assoc]
    rfl
/-- what is read of what was written is the symbols -/
theorem back_S {L : List Sy} {b : List UInt8} {e : Int} (h : wrP L = (some b, e)) (hk : ∀ s ∈ L, SyOk s) : e = 0 ∧ b.length = 24 + 24 * L.length ∧ rdS b = (some L, 0, 0) := by
  obtain ⟨he, t, hb, hl⟩ := wrF_app L ⟨0, 0, 0⟩ _ b e h
  have h24 : b.length = 24 + 24 * L.length := by rw [hb, List.length_append, hl, List.length_replicate]
  have hz : fzP b = none := by
    rw [fzP, if_neg (by omega), hb, List.take_append_of_le_length (by simp), show (List.replicate 24 (0 : UInt8)).take 24 = List.replicate 24 0 from by decide]
    decide
  refine ⟨he, h24, ?_⟩
  rw [rdS, hz]
  have := rd_wr b L ⟨0, 0, 0⟩ (List.replicate 24 0) e b.length [] h hk (by omega)
  rw [List.length_replicate, List.nil_append] at this
  exact this
theorem wrF_er : ∀ (L : List Sy) (q : Rn) (P : List UInt8) (e : Int), wrF q L P = (none, e) → e = 100 ∨ e = 101
  | [], q, P, e, h => by rw [wrF] at h; cases h
  | s :: r, q, P, e, h => by
    rw [wrF] at h
    split at h
    · cases h; exact .inl rfl
    · split at h
      · cases h; exact .inr rfl
      · exact wrF_er r _ _ e h
/-- a beginning of what may be written is one, and its bytes are a beginning of the bytes -/
theorem wr_beg : ∀ (L : List Sy) (q : Rn) (P b : List UInt8) (e : Int) (k : Nat), wrF q L P = (some b, e) → ∃ t, wrF q (L.take k) P = (some (P ++ t), 0) ∧ (P ++ t) <+: b
  | L, q, P, b, e, 0, h => by
    obtain ⟨_, t, hb, _⟩ := wrF_app L q P b e h
    exact ⟨[], by rw [List.take_zero, wrF, List.append_nil], by rw [List.append_nil, hb]; exact List.prefix_append _ _⟩
  | [], q, P, b, e, k + 1, h => by
    rw [wrF] at h
    cases h
    exact ⟨[], by rw [List.take_nil, wrF, List.append_nil], by rw [List.append_nil]; exact List.prefix_refl _⟩
  | s :: r, q, P, b, e, k + 1, h => by
    obtain ⟨h0, q', ht, h2⟩ := wrF_cons h
    obtain ⟨t, h3, h4⟩ := wr_beg r q' (P ++ enB s) b e k h2
    refine ⟨enB s ++ t, ?_, by rw [← List.append_assoc]; exact h4⟩
    rw [List.take_succ_cons, wrF, if_neg (by omega)]
    simp only [ht]
    rw [h3, List.append_assoc]
end Go.Proofs.Ytbdmbicnlfcclaa
