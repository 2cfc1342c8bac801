import Derived.Test.YtbnoaedkonnflaaDoorImf
import Derived.Test.YtbnoaedkonnflaaDoorIml
namespace Go.Proofs.YtbnoaedkonnflaaDoor
open Go.RowKit
set_option linter.unusedVariables false
set_option linter.unusedSimpArgs false
theorem szF_mem : ∀ (N : List (List UInt8)) (a : Nat) (x : List UInt8), x ∈ N → x.length < szF a N
  | [], _, _, h => by cases h
  | y :: r, a, x, h => by
    show x.length < szF (a + y.length + 1) r
    rcases List.mem_cons.mp h with rfl | h
    · have := szF_ge r (a + x.length + 1); omega
    · exact szF_mem r _ x h
theorem nmT_mem {N : List (List UInt8)} {nx pl ny : Nat} {x : List UInt8} (h : nmT N nx pl = some (x, ny)) : x ∈ N := by
  unfold nmT at h
  split at h
  · cases h
  · cases ha : atF 1 N pl with
    | none => rw [ha] at h; cases h
    | some y =>
      rw [ha] at h
      simp only [Option.some.injEq, Prod.mk.injEq] at h
      obtain ⟨k, hk, _⟩ := atF_idx N 1 _ y ha
      rw [← h.1]; exact List.mem_of_getElem? hk
theorem fn_small (l : List UInt8) (N : List (List UInt8)) (T : List Ins) : ∀ (n p fi sl nx : Nat) (F : List Fn) (ny : Nat), fnR l N T n p fi sl nx = .ok (F, ny) → ∀ x ∈ F, x.nm ∈ N ∧ 0 ≤ x.ob ∧ x.ob < 4294967296
  | 0, p, fi, sl, nx, F, ny, h, x, hx => by
    simp only [fnR, Except.ok.injEq, Prod.mk.injEq] at h
    rw [← h.1] at hx; cases hx
  | n + 1, p, fi, sl, nx, F, ny, h, x, hx => by
    unfold fnR at h
    cases hnm : nmT N nx (g4 l p) with
    | none => rw [hnm] at h; cases h
    | some q =>
      obtain ⟨y, nx'⟩ := q
      rw [hnm] at h
      simp only at h
      split at h
      · cases h
      split at h
      · cases h
      cases hr : fnR l N T n (p + 16) (fi + (cntO (T.drop fi) (g4 l (p + 12))).1) (sl + g4 l (p + 12)) nx' with
      | error r => rw [hr] at h; cases h
      | ok R =>
        rw [hr] at h
        simp only [Except.map, Except.ok.injEq, Prod.mk.injEq] at h
        rw [← h.1] at hx
        rcases List.mem_cons.mp hx with rfl | hx
        · exact ⟨nmT_mem hnm, by have := g4_lt l (p + 4); simp only; omega, by have := g4_lt l (p + 4); simp only; omega⟩
        · exact fn_small l N T n _ _ _ _ R.1 R.2 hr x hx
theorem pas_small {l : List UInt8} {m : Img} (h : pasR l = .ok m) (hl : l.length ≤ 1000000000000) : ∀ x ∈ m.F, OkK x.nm x.ob := by
  intro x hx
  unfold pasR at h
  cases hh : hdF l with
  | some q => rw [hh] at h; cases h
  | none =>
    rw [hh] at h; simp only at h
    cases ht : txR l (g4 l 8) 28 with
    | error q => rw [ht] at h; cases h
    | ok T =>
      rw [ht] at h; simp only at h
      obtain ⟨rN, q, hrd⟩ : ∃ rN q, rdP (l.drop (l.length - g4 l 20)) = (rN, q) := ⟨_, _, rfl⟩
      rw [hrd] at h
      cases rN with
      | none => cases h
      | some N =>
        simp only at h
        unfold enR at h
        cases hf : fnR l N T (g4 l 12) (28 + 8 * g4 l 8) 0 0 1 with
        | error q => rw [hf] at h; cases h
        | ok y =>
          obtain ⟨Fs, n1⟩ := y
          rw [hf] at h; simp only at h
          cases hd : tdR l N (g4 l 16) (28 + 8 * g4 l 8 + 16 * g4 l 12) n1 with
          | error q => rw [hd] at h; cases h
          | ok z =>
            obtain ⟨D, n2⟩ := z
            rw [hd] at h; simp only at h
            split at h
            · cases h
            · simp only [Except.ok.injEq] at h
              rw [← h] at hx
              obtain ⟨h1, h2, h3⟩ := fn_small l N T _ _ _ _ _ Fs n1 hf x hx
              have hb := rdP_inv (l := l.drop (l.length - g4 l 20)) (N := N) (by rw [hrd])
              have := szF_mem N 1 x.nm h1
              have hz : (l.drop (l.length - g4 l 20)).length = szF 1 N := by rw [hb.1, byP_len]
              rw [List.length_drop] at hz
              exact ⟨by omega, by omega, by omega⟩
end Go.Proofs.YtbnoaedkonnflaaDoor
