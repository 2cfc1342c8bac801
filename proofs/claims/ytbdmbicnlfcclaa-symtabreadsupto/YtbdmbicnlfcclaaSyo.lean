import Derived.Test.YtbdmbicnlfcclaaSyn
namespace Go.Proofs.Ytbdmbicnlfcclaa
open Go.RowKit
set_option linter.unusedVariables false
set_option linter.unusedSimpArgs false
theorem cut_mid (A B C : List UInt8) (i n : Nat) (hA : A.length = i) (hB : B.length = n) : ((A ++ B ++ C).drop i).take n = B := by
  rw [List.append_assoc, List.drop_append_of_le_length (by omega), show A.drop i = [] from List.drop_eq_nil_of_le (by omega), List.nil_append, List.take_append_of_le_length (by omega), List.take_of_length_le (by omega)]
theorem nu_le {l : List UInt8} {i n k : Nat} (h : (l.drop i).take n = leB k n) (hk : k < 256 ^ n) (h2 : k ≤ 9223372036854775807) : nuB l i n = k := by
  rw [nuB, h, nm_le, Nat.mod_eq_of_lt hk]
  exact w64_small k h2
theorem en_na {s : Sy} (h : 0 < soP s) (hk : SyOk s) : nuB (enB s) 0 4 = s.na := by
  obtain ⟨_, _, _, h1, h2, _⟩ := so_facts h
  rw [nu_le (k := s.na.toNat) _ (by omega) (by omega)]
  · omega
  · have := cut_mid [] (leB s.na.toNat 4) (leB (16 * s.bi + s.ki).toNat 1 ++ leB 0 1 ++ leB s.se.toNat 2 ++ leB s.va.toNat 8 ++ leB s.si.toNat 8) 0 4 rfl (leB_len _ _)
    simpa [enB] using this
theorem en_fi {s : Sy} (h : 0 < soP s) (hk : SyOk s) : nuB (enB s) 4 1 = 16 * s.bi + s.ki := by
  obtain ⟨_, _, _, _, _, h1, h2, h3, h4, _⟩ := so_facts h
  rw [nu_le (k := (16 * s.bi + s.ki).toNat) _ (by omega) (by omega)]
  · omega
  · have := cut_mid (leB s.na.toNat 4) (leB (16 * s.bi + s.ki).toNat 1) (leB 0 1 ++ leB s.se.toNat 2 ++ leB s.va.toNat 8 ++ leB s.si.toNat 8) 4 1 (leB_len _ _) (leB_len _ _)
    simpa [enB] using this
theorem en_5 (s : Sy) : (enB s)[5]? = some 0 := by
  have e : enB s = (leB s.na.toNat 4 ++ leB (16 * s.bi + s.ki).toNat 1) ++ ([0] ++ (leB s.se.toNat 2 ++ leB s.va.toNat 8 ++ leB s.si.toNat 8)) := by
    simp only [enB, List.append_assoc]
    rfl
  rw [e, List.getElem?_append_right (by simp [leB_len])]
  simp [leB_len]
theorem en_se {s : Sy} (h : 0 < soP s) (hk : SyOk s) : nuB (enB s) 6 2 = s.se := by
  obtain ⟨_, _, _, _, _, _, _, _, _, h7⟩ := so_facts h
  obtain ⟨f1, _, _⟩ := ff_facts h7
  have := se_pos (soP s)
  rw [nu_le (k := s.se.toNat) _ (by omega) (by omega)]
  · omega
  · have := cut_mid (leB s.na.toNat 4 ++ leB (16 * s.bi + s.ki).toNat 1 ++ leB 0 1) (leB s.se.toNat 2) (leB s.va.toNat 8 ++ leB s.si.toNat 8) 6 2 (by simp [leB_len]) (leB_len _ _)
    simpa [enB] using this
theorem en_va {s : Sy} (h : 0 < soP s) (hk : SyOk s) : nuB (enB s) 8 8 = s.va := by
  obtain ⟨_, _, _, _, _, _, _, _, _, h7⟩ := so_facts h
  obtain ⟨_, f2, _⟩ := ff_facts h7
  have h1 := va_pos f2
  have h2 := hk.va
  rw [nu_le (k := s.va.toNat) _ (by omega) (by omega)]
  · omega
  · have := cut_mid (leB s.na.toNat 4 ++ leB (16 * s.bi + s.ki).toNat 1 ++ leB 0 1 ++ leB s.se.toNat 2) (leB s.va.toNat 8) (leB s.si.toNat 8) 8 8 (by simp [leB_len]) (leB_len _ _)
    simpa [enB] using this
theorem en_si {s : Sy} (h : 0 < soP s) (hk : SyOk s) : nuB (enB s) 16 8 = s.si := by
  obtain ⟨_, _, _, _, _, _, _, _, _, h7⟩ := so_facts h
  obtain ⟨_, _, f3⟩ := ff_facts h7
  have h1 := si_pos f3
  have h2 := hk.si
  rw [nu_le (k := s.si.toNat) _ (by omega) (by omega)]
  · omega
  · have := cut_mid (leB s.na.toNat 4 ++ leB (16 * s.bi + s.ki).toNat 1 ++ leB 0 1 ++ leB s.se.toNat 2 ++ leB s.va.toNat 8) (leB s.si.toNat 8) [] 16 8 (by simp [leB_len]) (leB_len _ _)
    simpa [enB] using this
theorem en_sy {s : Sy} (h : 0 < soP s) (hk : SyOk s) : syB (enB s) = s := by
  obtain ⟨_, _, _, _, _, h1, h2, h3, h4, _⟩ := so_facts h
  obtain ⟨na, bi, ki, se, va, si⟩ := s
  rw [syB, en_na h hk, en_fi h hk, en_se h hk, en_va h hk, en_si h hk]
  simp only at h1 h2 h3 h4 ⊢
  rw [show (16 * bi + ki) / 16 = bi by omega, show (16 * bi + ki) % 16 = ki by omega]
/-- an entry that was laid is taken up -/
theorem te_en {q q' : Rn} {s : Sy} (h : 0 < soP s) (hk : SyOk s) (ht : tkS q (soP s) s.va = some q') : teP q (enB s) = (some (s, q'), 0, 0) := by
  obtain ⟨h0, _, h1, _, _, _, _, _, _, h7⟩ := so_facts h
  unfold teP
  rw [en_fi h hk, ← h1, if_neg (by omega), if_neg (by rw [en_5]; simp), en_sy h hk, h7]
  simp only [ht]
end Go.Proofs.Ytbdmbicnlfcclaa
