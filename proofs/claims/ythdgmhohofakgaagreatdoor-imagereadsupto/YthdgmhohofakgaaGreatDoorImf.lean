import Derived.Test.YthdgmhohofakgaaGreatDoorIme
namespace Go.Proofs.YthdgmhohofakgaaGreatDoor
open Go.RowKit
set_option linter.unusedVariables false
set_option linter.unusedSimpArgs false
theorem g4_same {l k : List UInt8} {p : Nat} (h : ∀ i, i < 28 → l.getD i 0 = k.getD i 0) (hp : p + 4 ≤ 28) : g4 l p = g4 k p := by
  simp only [g4, g1, h p (by omega), h (p + 1) (by omega), h (p + 2) (by omega), h (p + 3) (by omega)]
theorem hd_other {l k : List UInt8} (h : hdF l = none) (hk : k.length < 28 ∨ ∀ i, i < 28 → l.getD i 0 = k.getD i 0) (hn : k.length ≠ l.length) : ∃ p, hdF k = some p := by
  obtain ⟨h1, h2, h3⟩ := hd_none h
  unfold hdF
  by_cases hl : k.length < 28
  · rw [if_pos hl]; exact ⟨_, rfl⟩
  · have hs := hk.resolve_left hl
    rw [if_neg hl]
    cases hf : fstB (fun i => k.getD i 0 != opB.getD i 0) 8 with
    | some i => exact ⟨i, rfl⟩
    | none =>
      simp only
      rw [← g4_same hs (p := 8) (by omega), ← g4_same hs (p := 12) (by omega), ← g4_same hs (p := 16) (by omega), ← g4_same hs (p := 20) (by omega), h3, if_pos (fun e => hn e.symm)]
      exact ⟨8, rfl⟩
theorem rd_hd {l : List UInt8} {p : Nat} (h : hdF l = some p) : rdI l = (nilM, p, 170) := by unfold rdI pasR; rw [h]
theorem rd_out {l k : List UInt8} {m : Img} (h : pasR l = .ok m) (hk : k.length < 28 ∨ ∀ i, i < 28 → l.getD i 0 = k.getD i 0) (hn : k.length ≠ l.length) : (rdI k).2.2 = 170 := by
  have hh : hdF l = none := by
    cases e : hdF l with
    | none => rfl
    | some p => unfold pasR at h; rw [e] at h; cases h
  obtain ⟨p, hp⟩ := hd_other hh hk hn
  rw [rd_hd hp]
theorem pas_of {l : List UInt8} {m : Img} {k : Nat} (h : rdI l = (m, k, 0)) : pasR l = .ok m ∧ k = 0 ∧ Ok17 m := by
  unfold rdI at h
  cases hp : pasR l with
  | error p => rw [hp] at h; simp at h
  | ok m' =>
    rw [hp] at h
    simp only at h
    split at h
    · rename_i h0
      simp only [Prod.mk.injEq, and_true] at h
      obtain ⟨rfl, rfl⟩ := h
      exact ⟨rfl, rfl, ck_ok h0⟩
    · rename_i h0
      simp only [Prod.mk.injEq] at h
      exact absurd h.2.2 h0
theorem rd_err {l : List UInt8} (h : (rdI l).2.2 ≠ 0) : (rdI l).1 = nilM := by
  unfold rdI at h ⊢
  cases hp : pasR l with
  | error p => rfl
  | ok m =>
    rw [hp] at h
    simp only at h ⊢
    split
    · rename_i h0; rw [if_pos h0] at h; exact absurd rfl h
    · rfl
/-- the places that are told lie in the bytes -/
theorem tx_le (l : List UInt8) : ∀ (n j p q : Nat), j ≤ n → p + 8 * j ≤ l.length → txR l j p = .error q → q ≤ l.length
  | n, 0, p, q, _, _, h => by simp [txR] at h
  | n + 1, j + 1, p, q, hj, hp, h => by
    unfold txR at h
    cases hw : isW (insR l p).o
    · simp only [hw, Bool.false_eq_true, if_false] at h
      cases hr : txR l j (p + 8) with
      | ok R => rw [hr] at h; cases h
      | error r =>
        rw [hr] at h
        have h : r = q := by simpa [Except.map] using h
        subst h
        exact tx_le l n j (p + 8) r (by omega) (by omega) hr
    · simp only [hw, if_true] at h
      cases j with
      | zero => simp only [Except.error.injEq] at h; omega
      | succ i =>
        simp only at h
        split at h
        · simp only [Except.error.injEq] at h
          have : tz4 (g4 l (p + 8)) ≤ 3 := by unfold tz4; (repeat' split) <;> omega
          omega
        · cases hr : txR l i (p + 16) with
          | ok R => rw [hr] at h; cases h
          | error r =>
            rw [hr] at h
            have h : r = q := by simpa [Except.map] using h
            subst h
            exact tx_le l n i (p + 16) r (by omega) (by omega) hr
theorem fn_le (l : List UInt8) (N : List (List UInt8)) (T : List Ins) : ∀ (n p fi sl nx q : Nat), p + 16 * n ≤ l.length → fnR l N T n p fi sl nx = .error q → q ≤ l.length
  | 0, _, _, _, _, _, _, h => by simp [fnR] at h
  | n + 1, p, fi, sl, nx, q, hp, h => by
    unfold fnR at h
    cases hnm : nmT N nx (g4 l p) with
    | none => rw [hnm] at h; simp only [Except.error.injEq] at h; omega
    | some r =>
      obtain ⟨x, nx'⟩ := r
      rw [hnm] at h
      simp only at h
      split at h
      · simp only [Except.error.injEq] at h; omega
      split at h
      · simp only [Except.error.injEq] at h; omega
      cases hr : fnR l N T n (p + 16) (fi + (cntO (T.drop fi) (g4 l (p + 12))).1) (sl + g4 l (p + 12)) nx' with
      | ok R => rw [hr] at h; cases h
      | error r =>
        rw [hr] at h
        have h : r = q := by simpa [Except.map] using h
        subst h
        exact fn_le l N T n _ _ _ _ r (by omega) hr
theorem td_le (l : List UInt8) (N : List (List UInt8)) : ∀ (n p nx q : Nat), p + 20 * n ≤ l.length → tdR l N n p nx = .error q → q ≤ l.length
  | 0, _, _, _, _, h => by simp [tdR] at h
  | n + 1, p, nx, q, hp, h => by
    unfold tdR at h
    cases hnm : nmT N nx (g4 l p) with
    | none => rw [hnm] at h; simp only [Except.error.injEq] at h; omega
    | some r =>
      obtain ⟨x, nx'⟩ := r
      rw [hnm] at h
      simp only at h
      cases hr : tdR l N n (p + 20) nx' with
      | ok R => rw [hr] at h; cases h
      | error r =>
        rw [hr] at h
        have h : r = q := by simpa [Except.map] using h
        subst h
        exact td_le l N n _ _ r (by omega) hr
theorem rdF_le : ∀ (f : Nat) (l : List UInt8) (N : List (List UInt8)) (B : Nat), szF 1 N + l.length ≤ B → (rdF f l N).2 ≤ B
  | 0, _, N, B, h => by simp [rdF]
  | f + 1, [], N, B, h => by simp [rdF]
  | f + 1, c :: r, N, B, h => by
    unfold rdF
    split
    · simp only [List.length_cons] at h; show szF 1 N ≤ B; omega
    · rename_i hx
      refine rdF_le f _ _ B ?_
      have hne : ¬ nmP (c :: r) = [] := fun h => hx (.inr h)
      have h1 := nmP_end (c :: r) hne
      rw [szF_snoc, List.length_drop]
      omega
theorem rdP_le17 (l : List UInt8) : (rdP l).2 ≤ l.length := by
  cases l with
  | nil => simp [rdP]
  | cons c r =>
    show (if c = 0 then rdF r.length r [] else (none, 0)).2 ≤ _
    split
    · exact rdF_le r.length r [] (r.length + 1) (by simp only [szF]; omega)
    · simp
theorem ptE_le {r : Option Nat} {e : Int} {x : Nat × Int} {B : Nat} (h : ∀ k, r = some k → k ≤ B) (hx : x.1 ≤ B) : (ptE r e x).1 ≤ B := by
  cases r with
  | none => exact hx
  | some k => exact h k rfl
theorem ck_le (m : Img) : (ckP m).1 ≤ 2 + m.T.length + m.F.length + m.D.length := by
  unfold ckP
  refine ptE_le (fun k hk => ?_) (ptE_le (fun k hk => ?_) (ptE_le (fun k hk => ?_) (ptE_le (fun k hk => ?_) (ptE_le (fun k hk => ?_) (ptE_le (fun k hk => ?_) (by simp))))))
  · unfold cntP at hk; repeat' split at hk
    all_goals (simp at hk; try omega)
  · unfold namP at hk; split at hk
    · rename_i h1; simp at hk; subst hk; have := (fstB_in h1).1; omega
    · cases h1 : fstB (tdB m.D) m.D.length with
      | none => rw [h1] at hk; simp at hk
      | some j => rw [h1] at hk; simp at hk; have := (fstB_in h1).1; omega
  · unfold funP at hk; split at hk
    · rename_i h1; simp at hk; subst hk; have := (fstB_in h1).1; omega
    · split at hk
      · simp at hk; omega
      · cases hk
  · unfold tabP at hk; split at hk
    · rename_i h1; simp at hk; subst hk; have := (fstB_in h1).1; omega
    · split at hk
      · simp at hk; omega
      · cases hk
  · unfold entP at hk; split at hk
    · simp at hk; omega
    · cases hk
  · have := (fstB_in hk).1; omega
theorem rd_le (l : List UInt8) : (rdI l).2.1 ≤ l.length := by
  unfold rdI
  cases hp : pasR l with
  | error p =>
    show p ≤ _
    unfold pasR at hp
    cases hh : hdF l with
    | some q =>
      rw [hh] at hp; simp only [Except.error.injEq] at hp; subst hp
      unfold hdF at hh
      split at hh
      · simp at hh; omega
      split at hh
      · rename_i h1; simp at hh; subst hh; have := (fstB_in h1).1; omega
      split at hh
      · simp at hh; omega
      · cases hh
    | none =>
      obtain ⟨h1, _, h3⟩ := hd_none hh
      unfold sizP at h3
      rw [hh] at hp
      simp only at hp
      cases ht : txR l (g4 l 8) 28 with
      | error q => rw [ht] at hp; simp only [Except.error.injEq] at hp; subst hp; exact tx_le l _ _ 28 q (Nat.le_refl _) (by omega) ht
      | ok T =>
        rw [ht] at hp
        simp only at hp
        have hrl := rdP_le17 (l.drop (l.length - g4 l 20))
        rw [List.length_drop] at hrl
        obtain ⟨sN, pN, hrd⟩ : ∃ a b, rdP (l.drop (l.length - g4 l 20)) = (a, b) := ⟨_, _, rfl⟩
        rw [hrd] at hp hrl
        cases sN with
        | none => simp only [Except.error.injEq] at hp hrl; omega
        | some N =>
          simp only at hp
          unfold enR at hp
          cases hf : fnR l N T (g4 l 12) (28 + 8 * g4 l 8) 0 0 1 with
          | error q => rw [hf] at hp; simp only [Except.error.injEq] at hp; subst hp; exact fn_le l N T _ _ _ _ _ q (by omega) hf
          | ok r =>
            obtain ⟨F, nx⟩ := r
            rw [hf] at hp
            simp only at hp
            cases hdd : tdR l N (g4 l 16) (28 + 8 * g4 l 8 + 16 * g4 l 12) nx with
            | error q => rw [hdd] at hp; simp only [Except.error.injEq] at hp; subst hp; exact td_le l N _ _ _ q (by omega) hdd
            | ok r =>
              obtain ⟨D, ny⟩ := r
              rw [hdd] at hp
              simp only at hp
              split at hp
              · simp only [Except.error.injEq] at hp; omega
              · cases hp
  | ok m =>
    simp only
    split
    · exact Nat.zero_le _
    · show (ckP m).1 ≤ _
      have h1 := ck_le m
      have h2 := wrB_len m
      rw [(forth_I hp).1] at h2
      have h3 : m.T.length ≤ slotsP m.T := by unfold slotsP; omega
      unfold sizP at h2
      omega
end Go.Proofs.YthdgmhohofakgaaGreatDoor
