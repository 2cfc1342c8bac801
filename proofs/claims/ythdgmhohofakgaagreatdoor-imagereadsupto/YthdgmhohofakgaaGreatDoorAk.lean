import Derived.Test.YthdgmhohofakgaaGreatDoorAj
namespace Go.Proofs.YthdgmhohofakgaaGreatDoor
open Go.RowKit
open Go.Maps (Keyed)
set_option linter.unusedVariables false
set_option linter.unusedSimpArgs false
theorem byP_last (A : List (List UInt8)) : ∃ C, byP A = C ++ [0] := by
  rcases list_cases A with rfl | ⟨M, y, rfl⟩
  · exact ⟨[], rfl⟩
  · exact ⟨byP M ++ y, by rw [byP_snoc]⟩
theorem byP_app (A B : List (List UInt8)) : byP (A ++ B) = byP A ++ byF B := by simp [byP, byF]
/-- a name stands in the bytes at its place -/
theorem place_bytes {N : List (List UInt8)} {x : List UInt8} (hx : x ∈ N) : ∃ C D, byP N = C ++ ([0] ++ (x ++ ([0] ++ D))) ∧ plF 1 N x = C.length + 1 ∧ atF 1 N (plF 1 N x : Nat) = some x := by
  obtain ⟨k, hk, hp⟩ := plF_at N 1 x hx
  have hN : N = N.take k ++ ([x] ++ N.drop (k + 1)) := by
    have hk' : k < N.length := (List.getElem?_eq_some_iff.1 hk).1
    have hd := List.drop_eq_getElem_cons hk'
    have hx' : N[k] = x := by rw [List.getElem?_eq_getElem hk'] at hk; exact Option.some.inj hk
    rw [hx'] at hd
    rw [List.singleton_append, ← hd, List.take_append_drop]
  obtain ⟨C, hC⟩ := byP_last (N.take k)
  refine ⟨C, byF (N.drop (k + 1)), ?_, ?_, by rw [hp]; exact atF_end N 1 x k hk⟩
  · conv => lhs; rw [hN]
    rw [byP_app, hC]
    simp [byF]
  · rw [hp, ← byP_len, hC]; simp
theorem nmP_name (x r : List UInt8) (h : nameOk x = true) : nmP (x ++ 0 :: r) = x := by
  unfold nameOk at h
  simp only [Bool.and_eq_true, decide_eq_true_eq, Bool.not_eq_true'] at h
  obtain ⟨⟨h1, h2⟩, h3⟩ := h
  have h0 : ¬ (0 : UInt8) ∈ x := by simpa using h3
  have hc : ((x ++ 0 :: r).take 65).contains 0 = true := by
    have : (0 : UInt8) ∈ (x ++ 0 :: r).take 65 := by
      refine List.mem_of_getElem? (i := x.length) ?_
      rw [List.getElem?_take, if_pos (by omega), List.getElem?_append_right (Nat.le_refl _)]
      simp
    simpa using this
  unfold nmP
  rw [if_pos hc, List.takeWhile_append_of_pos (fun a ha => by simp; intro e; exact h0 (e ▸ ha))]
  simp
theorem name_ne {x : List UInt8} (h : nameOk x = true) : ¬ x = [] := fun e => by rw [e] at h; cases h
theorem rd_back : ∀ (M A : List (List UInt8)), (A ++ M).Nodup → (∀ x ∈ M, nameOk x = true) → rdR (byF M) A = (some (A ++ M), 0)
  | [], A, _, _ => by simp [byF, rdR_nil]
  | x :: r, A, hd, hn => by
    have hx := hn x (by simp)
    have e : byF (x :: r) = x ++ 0 :: byF r := by simp [byF]
    have hnm := nmP_name x (byF r) hx
    rw [e, rdR_ok _ _ (by simp) ?_ (by rw [hnm]; exact name_ne hx), hnm]
    · have e2 : (x ++ 0 :: byF r).drop (x.length + 1) = byF r := by
        rw [show x ++ 0 :: byF r = (x ++ [0]) ++ byF r by simp, List.drop_left' (by simp)]
      rw [e2, rd_back r (A ++ [x]) (by simpa using hd) (fun y hy => hn y (by simp [hy]))]
      simp
    · rw [hnm]
      intro hm
      have := List.nodup_append.1 hd
      exact this.2.2 x hm x (by simp) rfl
theorem read_back {N : List (List UInt8)} (hd : N.Nodup) (hn : ∀ x ∈ N, nameOk x = true) : rdP (byP N) = (some N, 0) := by
  show rdR (byF N) [] = _
  rw [rd_back N [] (by simpa using hd) hn]
  simp
theorem OwB.rest {B : Nat} {v : Value} {O : List UInt8} {w : World} (h : OwB B v O w) : ∃ a cp, v = .slice a O.length cp ∧ O.length ≤ cp ∧ RestAt w.heap.size w a O := by
  rcases h.2 with ⟨hv, hn⟩ | ⟨g, cap, cur, hv, hb, hg, hc, _⟩
  · exact ⟨none, 0, by rw [hv, hn], by omega, .inl (List.length_eq_zero_iff.1 hn)⟩
  · refine ⟨_, _, hv, hc, .inr ⟨g, 0, (Array.getElem?_eq_some_iff.1 hg).1, rfl, fun k x hx => ?_⟩⟩
    have h1 := World.ownsRow.cells h (g := g) (by rw [hv]; rfl) k (.int .u8 (x.toNat : Int)) (by simp [Lib.byteCells, hx])
    rw [Nat.zero_add, ← h1, Go.WideShapes.add_plain, Nat.zero_add]
end Go.Proofs.YthdgmhohofakgaaGreatDoor
