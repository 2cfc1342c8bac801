import Derived.Test.YtlhcjcoimlgciaaPk
namespace Go.Proofs.Ytlhcjcoimlgciaa
open Go.RowKit
set_option linter.unusedVariables false
set_option linter.unusedSimpArgs false
theorem dec_small (B : List Int) (hB : Byts B) (h : B.length ≤ 28147497671064) (N : Nat) (_ : errD may (B.drop (decN may B N).2) = 0) (hl : (decN may B N).2 < B.length) : (decN may B N).1.length < 3518437208883 := by
  have := (decN_inv may B hB N).2.2.2.2
  omega
theorem dec_many (l : List Ins) (h : ∀ x ∈ l, Fit x ∧ may x = 0) (hm : l.length ≤ 3518437208883) (N : Nat) (_ : errD may ((encL l).drop (decN may (encL l) N).2) = 0) (hl : (decN may (encL l) N).2 < (encL l).length) : (decN may (encL l) N).1.length < 3518437208883 := by
  have key : ∀ n, n ≤ l.length → decN may (encL l) n = (l.take n, (encL (l.take n)).length) := by
    have := decN_enc may l [] h
    rwa [List.append_nil] at this
  by_cases hN : N < l.length
  · rw [key N (by omega)]; simp; omega
  · have e1 := key l.length (Nat.le_refl _)
    rw [List.take_length] at e1
    have hs : Stuck may (encL l) l.length := by unfold Stuck; rw [e1]; simp
    have e2 : decN may (encL l) N = decN may (encL l) l.length := by
      obtain ⟨q, rfl⟩ := Nat.exists_eq_add_of_le (show l.length ≤ N by omega)
      exact stuck_later hs q
    rw [e2, e1] at hl
    simp at hl
def exitI : Ins := ⟨149, 0, 0, 0, 0⟩
theorem exit_may : may exitI = 0 := by decide +kernel
theorem exit_enc : encL [exitI] = [149, 0, 0, 0, 0, 0, 0, 0] := by decide +kernel
theorem exit_fit : Fit exitI := may_fit exitI exit_may (by decide) (by decide)
theorem exit_dec : DecIs may [149, 0, 0, 0, 0, 0, 0, 0] [exitI] 0 0 := by
  rw [← exit_enc]
  exact dec_back may [exitI] (fun x hx => by simp at hx; subst hx; exact ⟨exit_fit, exit_may⟩)
theorem exit_byts : Byts [149, 0, 0, 0, 0, 0, 0, 0] := by rw [← exit_enc]; exact encL_byts _
theorem insA_one (w : World) (b : Nat) (x : Ins) (c0 : w.cell? ⟨b, 0, none⟩ = some (.int .i64 x.o)) (c1 : w.cell? ⟨b, 1, none⟩ = some (.int .i64 x.d)) (c2 : w.cell? ⟨b, 2, none⟩ = some (.int .i64 x.s)) (c3 : w.cell? ⟨b, 3, none⟩ = some (.int .i64 x.f)) (c4 : w.cell? ⟨b, 4, none⟩ = some (.int .i64 x.i)) : InsA w (some ⟨b, 0, none⟩) [x] :=
  .inr ⟨b, 0, rfl, fun k y hy => by
    match k, hy with
    | 0, hy => cases hy; exact ⟨c0, c1, c2, c3, c4⟩⟩
theorem enc_ok {w w' : World} {l : List Ins} {v : Value} {k f : Int} (h : EncIs w w' l v k f) (hm : ∀ x ∈ l, may x = 0) : k = 0 ∧ f = 0 ∧ OwnB w w' v (encL l) ∧ ∃ g, w.heap.size ≤ g ∧ v = .slice (some ⟨g, 0, none⟩) (encL l).length (encL l).length := by
  rcases h with ⟨_, href, hne⟩ | ⟨h0, h1, _, h2, h3⟩
  · exact absurd (href.one (.inl ⟨hm, rfl, rfl⟩)).2 hne
  · exact ⟨h0, h1, h2, h3⟩
def exitC : Obj := .cells #[.int .i64 149, .int .i64 0, .int .i64 0, .int .i64 0, .int .i64 0] 25
end Go.Proofs.Ytlhcjcoimlgciaa
