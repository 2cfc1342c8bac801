import Derived.Test.YtpkbchhjcgiiaaaSyu
namespace Go.Proofs.Ytpkbchhjcgiiaaa
open Go.RowKit
set_option linter.unusedVariables false
set_option linter.unusedSimpArgs false
theorem w64_nonneg {n : Nat} (h : n < 18446744073709551616) (h0 : 0 ≤ wrap64 (n : Int)) : wrap64 (n : Int) = n := by
  by_cases hs : n ≤ 9223372036854775807
  · exact w64_small n hs
  · exfalso
    have e : wrap64 (n : Int) = (n : Int) - 18446744073709551616 := by
      rw [← wrap64_eq, IntKind.wrap_i64]
      omega
    omega
theorem w64_le (n : Int) : wrap64 n ≤ 9223372036854775807 := by
  rw [← wrap64_eq, IntKind.wrap_i64]
  omega
theorem le_of (l : List UInt8) (n : Nat) (h : l.length = n) : leB (nmB l) n = l := by rw [← h]; exact le_nm l
theorem nm_lt8 (l : List UInt8) (h : l.length ≤ 8) : nmB l < 18446744073709551616 := by
  have h1 := nmB_lt l
  have h2 : 256 ^ l.length ≤ 256 ^ 8 := Nat.pow_le_pow_right (by omega) h
  omega
theorem nu_le_back {l : List UInt8} {i n : Nat} (hl : i + n ≤ l.length) (hn : n ≤ 8) (h0 : 0 ≤ nuB l i n) : leB (nuB l i n).toNat n = (l.drop i).take n := by
  have hlen : ((l.drop i).take n).length = n := by rw [List.length_take, List.length_drop]; omega
  have e : nuB l i n = nmB ((l.drop i).take n) := w64_nonneg (nm_lt8 _ (by omega)) h0
  rw [e, Int.toNat_natCast]
  exact le_of _ _ hlen
theorem parts6 (l : List UInt8) (h : l.length = 24) : (l.drop 0).take 4 ++ (l.drop 4).take 1 ++ (l.drop 5).take 1 ++ (l.drop 6).take 2 ++ (l.drop 8).take 8 ++ (l.drop 16).take 8 = l := by
  have key : ∀ i n, (l.drop i).take n ++ l.drop (i + n) = l.drop i := fun i n => by rw [← List.drop_drop, List.take_append_drop]
  have e1 : (l.drop 16).take 8 = l.drop 16 := List.take_of_length_le (by simp [h])
  rw [e1]
  simp only [List.append_assoc]
  rw [key 8 8, key 6 2, key 5 1, key 4 1, key 0 4, List.drop_zero]
/-- an entry that was taken is that of its symbol -/
theorem te_back {q q' : Rn} {l : List UInt8} {s : Sy} {a : Nat} {e : Int} (h : teP q l = (some (s, q'), a, e)) (hl : l.length = 24) : 0 < soP s ∧ SyOk s ∧ enB s = l ∧ tkS q (soP s) s.va = some q' := by
  unfold teP at h
  split at h
  · cases h
  rename_i h0
  split at h
  · cases h
  rename_i h5
  split at h
  · cases h
  rename_i hf
  split at h
  · cases h
  rename_i q2 ht
  cases h
  obtain ⟨f1, f2, f3⟩ := ff_facts hf
  have hb := nu_byte l 4
  have hna := nu_small l 0 4 (by omega)
  have hnl := nmB_lt ((l.drop 0).take 4)
  have hn4 : ((l.drop 0).take 4).length = 4 := by rw [List.length_take, List.length_drop]; omega
  rw [hn4] at hnl
  have h6 := nu_small l 6 2 (by omega)
  have e16 : 16 * (nuB l 4 1 / 16) + nuB l 4 1 % 16 = nuB l 4 1 := by omega
  have hso : soP (syB l) = fifP (nuB l 4 1) := by
    unfold soP
    rw [if_pos]
    · rw [show 16 * (syB l).bi + (syB l).ki = nuB l 4 1 from e16]
    · refine ⟨?_, ?_, ?_, ?_, ?_, ?_, ?_⟩
      · show 0 ≤ nuB l 4 1 / 16; omega
      · show nuB l 4 1 / 16 < 16; omega
      · show 0 ≤ nuB l 4 1 % 16; omega
      · show nuB l 4 1 % 16 < 16; omega
      · show 0 ≤ nuB l 0 4; omega
      · show nuB l 0 4 ≤ 4294967295; omega
      · rw [show 16 * (syB l).bi + (syB l).ki = nuB l 4 1 from e16]; exact hf
  refine ⟨by rw [hso]; omega, ⟨w64_le _, w64_le _⟩, ?_, by rw [hso]; exact ht⟩
  have hva := va_pos f2
  have hsi := si_pos f3
  have p0 : leB (nuB l 0 4).toNat 4 = (l.drop 0).take 4 := nu_le_back (by omega) (by omega) (by omega)
  have p4 : leB (nuB l 4 1).toNat 1 = (l.drop 4).take 1 := nu_le_back (by omega) (by omega) hb.1
  have p6 : leB (nuB l 6 2).toNat 2 = (l.drop 6).take 2 := nu_le_back (by omega) (by omega) (by omega)
  have p8 : leB (nuB l 8 8).toNat 8 = (l.drop 8).take 8 := nu_le_back (by omega) (by omega) hva
  have p16 : leB (nuB l 16 8).toNat 8 = (l.drop 16).take 8 := nu_le_back (by omega) (by omega) hsi
  have p5 : leB 0 1 = (l.drop 5).take 1 := by
    have h5' : l[5]? = some 0 := Classical.byContradiction h5
    obtain ⟨hi, hx⟩ := List.getElem?_eq_some_iff.1 h5'
    rw [List.drop_eq_getElem_cons hi, hx]
    rfl
  unfold enB
  rw [show 16 * (syB l).bi + (syB l).ki = nuB l 4 1 from e16]
  show leB (nuB l 0 4).toNat 4 ++ leB (nuB l 4 1).toNat 1 ++ leB 0 1 ++ leB (nuB l 6 2).toNat 2 ++ leB (nuB l 8 8).toNat 8 ++ leB (nuB l 16 8).toNat 8 = l
  rw [p0, p4, p5, p6, p8, p16]
  exact parts6 l hl
theorem rd_forth (b : List UInt8) : ∀ (n p : Nat) (q : Rn) (S L : List Sy) (a e : Int), b.length ≤ n + p → rdG (stB b) b.length n p q S = (some L, a, e) → a = 0 ∧ e = 0 ∧ ∃ M, L = S ++ M ∧ (∀ s ∈ M, SyOk s) ∧ ∀ P, wrF q M P = (some (P ++ b.drop p), 0)
  | 0, p, q, S, L, a, e, hn, h => by
    rw [rdG] at h
    cases h
    exact ⟨rfl, rfl, [], by simp, by simp, fun P => by rw [List.drop_eq_nil_of_le (by omega), List.append_nil]; rfl⟩
  | n + 1, p, q, S, L, a, e, hn, h => by
    rw [rdG] at h
    split at h
    · cases h
      exact ⟨rfl, rfl, [], by simp, by simp, fun P => by rw [List.drop_eq_nil_of_le (by omega), List.append_nil]; rfl⟩
    · rename_i c1
      split at h
      · cases h
      · rename_i c2
        split at h
        · cases h
        · rename_i s q' k1 k2 hst
          obtain ⟨r1, r2, M, rfl, r3, r4⟩ := rd_forth b n (p + 24) q' (S ++ [s]) L a e (by omega) h
          obtain ⟨t1, t2, t3, t4⟩ := te_back hst (by rw [List.length_take, List.length_drop]; omega)
          refine ⟨r1, r2, s :: M, by simp, fun x hx => ?_, fun P => ?_⟩
          · rcases List.mem_cons.1 hx with rfl | hx
            · exact t2
            · exact r3 x hx
          · rw [wrF, if_neg (by omega), t4]
            simp only
            rw [r4, t3, List.append_assoc, ← List.drop_drop, List.take_append_drop]
theorem fz_none : ∀ (l : List UInt8) (k : Nat), fzB l k = none → l = List.replicate l.length 0
  | [], _, _ => rfl
  | x :: r, k, h => by
    rw [fzB] at h
    split at h
    · rename_i hx
      rw [hx, List.length_cons, List.replicate_succ, ← fz_none r (k + 1) h]
    · cases h
theorem fz_some : ∀ (l : List UInt8) (k j : Nat), fzB l k = some j → j < k + l.length
  | [], _, _, h => by cases h
  | x :: r, k, j, h => by
    rw [fzB] at h
    split at h
    · have := fz_some r (k + 1) j h; simp; omega
    · cases h; simp
theorem one_P {b : List UInt8} {L : List Sy} {a e : Int} (h : rdS b = (some L, a, e)) : a = 0 ∧ e = 0 ∧ wrP L = (some b, 0) ∧ (∀ s ∈ L, SyOk s) ∧ fzP b = none ∧ rdG (stB b) b.length b.length 24 ⟨0, 0, 0⟩ [] = (some L, a, e) := by
  unfold rdS at h
  split at h
  · cases h
  · rename_i hz
    have hz2 := hz
    unfold fzP at hz
    split at hz
    · cases hz
    · rename_i hlen
      have ht := fz_none _ _ hz
      rw [List.length_take, Nat.min_eq_left (by omega)] at ht
      obtain ⟨r1, r2, M, rfl, r3, r4⟩ := rd_forth b b.length 24 ⟨0, 0, 0⟩ [] L a e (by omega) h
      refine ⟨r1, r2, ?_, by simpa using r3, hz2, h⟩
      first | rw [wrP, r4, ← ht, List.take_append_drop] | rw [List.nil_append, wrP, r4, ← ht, List.take_append_drop]
end Go.Proofs.Ytpkbchhjcgiiaaa
