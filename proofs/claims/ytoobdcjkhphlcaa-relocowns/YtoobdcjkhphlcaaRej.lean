import Derived.Test.YtoobdcjkhphlcaaRei
namespace Go.Proofs.Ytoobdcjkhphlcaa
open Go.RowKit
set_option linter.unusedVariables false
set_option linter.unusedSimpArgs false
/-- relocations that may be, each slot above the one ahead -/
def Rise (ah : Int) : List Rl → Prop
  | [] => True
  | s :: r => 0 < mayP s ∧ ah < s.sl ∧ Rise s.sl r
def bdR (L : List Rl) : List UInt8 := L.flatMap fun s => enR s (mayP s)
theorem bdR_cons (s : Rl) (r : List Rl) : bdR (s :: r) = enR s (mayP s) ++ bdR r := rfl
theorem bdR_len (L : List Rl) : (bdR L).length = 16 * L.length := by
  induction L with
  | nil => rfl
  | cons s r ih => rw [bdR_cons, List.length_append, ih, enR_len]; simp; omega
theorem wr_rise : ∀ (L : List Rl) (ah : Int) (b0 : List UInt8), Rise ah L → wrF ah L b0 = (some (b0 ++ bdR L), 0)
  | [], ah, b0, _ => by simp [wrF, bdR]
  | s :: r, ah, b0, h => by
    obtain ⟨h1, h2, h3⟩ := h
    rw [wrF, if_neg (by omega), if_neg (by omega), wr_rise r _ _ h3, bdR_cons, List.append_assoc]
theorem rise_wr : ∀ (L : List Rl) (ah : Int) (b0 b : List UInt8) (e : Int), wrF ah L b0 = (some b, e) → Rise ah L
  | [], ah, b0, b, e, _ => trivial
  | s :: r, ah, b0, b, e, h => by
    rw [wrF] at h
    split at h
    · cases h
    · rename_i h1
      split at h
      · cases h
      · rename_i h2
        exact ⟨by omega, by omega, rise_wr r _ _ _ _ h⟩
theorem wr_er : ∀ (L : List Rl) (ah : Int) (b0 : List UInt8) (e : Int), wrF ah L b0 = (none, e) → e = 110 ∨ e = 111
  | [], ah, b0, e, h => by cases h
  | s :: r, ah, b0, e, h => by
    rw [wrF] at h
    split at h
    · cases h; exact .inl rfl
    · split at h
      · cases h; exact .inr rfl
      · exact wr_er r _ _ _ h
theorem nuB_app (P l r : List UInt8) (n : Nat) (hn : l.length = n) : nuB (P ++ (l ++ r)) P.length n = nmB l := by
  unfold nuB
  rw [List.drop_left, ← hn, List.take_left]
theorem te_en {ah : Int} {s : Rl} (h1 : 0 < mayP s) (h2 : ah < s.sl) : teP ah (enR s (mayP s)) = (some s, 0, 0) := by
  obtain ⟨f1, f2, f3, f4, f5, f6⟩ := may_facts h1
  have hk : s.ki = 1 ∨ s.ki = 2 := by
    rw [f5] at h1
    unfold tyP at h1
    split at h1
    · exact .inl (by assumption)
    · split at h1
      · exact .inr (by assumption)
      · omega
  have e0 : nuB (enR s (mayP s)) 0 8 = (8 * s.sl).toNat := by
    have := nuB_app [] (leB (8 * s.sl).toNat 8) (leB (mayP s) 4 ++ leB s.sy.toNat 4) 8 (leB_len _ _)
    rw [List.nil_append, List.length_nil, ← List.append_assoc, nm_le] at this
    rw [enR, this]
    exact Nat.mod_eq_of_lt (by rw [show (256 : Nat) ^ 8 = 18446744073709551616 by rfl]; omega)
  have e8 : nuB (enR s (mayP s)) 8 4 = mayP s := by
    have := nuB_app (leB (8 * s.sl).toNat 8) (leB (mayP s) 4) (leB s.sy.toNat 4) 4 (leB_len _ _)
    rw [leB_len, ← List.append_assoc, nm_le] at this
    rw [enR, this]
    exact Nat.mod_eq_of_lt (by rw [show (256 : Nat) ^ 4 = 4294967296 by rfl]; omega)
  have e12 : nuB (enR s (mayP s)) 12 4 = s.sy.toNat := by
    have := nuB_app (leB (8 * s.sl).toNat 8 ++ leB (mayP s) 4) (leB s.sy.toNat 4) [] 4 (leB_len _ _)
    rw [List.length_append, leB_len, leB_len, List.append_nil, nm_le] at this
    rw [enR, this]
    exact Nat.mod_eq_of_lt (by rw [show (256 : Nat) ^ 4 = 4294967296 by rfl]; omega)
  have hkd : (kdP (mayP s) : Int) = s.ki := by
    rw [f5]
    rcases hk with h | h <;> rw [h] <;> rfl
  have hkd0 : ¬ kdP (mayP s) = 0 := by omega
  have hs : (⟨((8 * s.sl).toNat / 8 : Nat), (kdP (mayP s) : Nat), (s.sy.toNat : Nat)⟩ : Rl) = s := by
    rw [hkd]
    obtain ⟨x, y, z⟩ := s
    simp only at f1 f2 f3 f4 ⊢
    rw [Rl.mk.injEq]
    exact ⟨by omega, rfl, by omega⟩
  have g1 : ¬ ((8 * s.sl).toNat % 8 ≠ 0) := by omega
  have g2 : ¬ (524288 ≤ (8 * s.sl).toNat) := by omega
  have g3 : ¬ ((((8 * s.sl).toNat / 8 : Nat) : Int) ≤ ah) := by omega
  have g4 : ¬ s.sy.toNat = 0 := by omega
  unfold teP
  rw [e0, e8, e12, if_neg g1, if_neg g2, if_neg g3, if_neg hkd0, if_neg g4, hs]
theorem rd_body : ∀ (L : List Rl) (ah : Int) (P : List UInt8) (S : List Rl) (c n : Nat), Rise ah L → c ≤ 16 * L.length → c ≤ n → rdF (P ++ (bdR L).take c) n P.length ah S = if c % 16 = 0 then (some (S ++ L.take (c / 16)), 0, 0) else (none, ((P.length + c / 16 * 16 : Nat) : Int), 110)
  | [], ah, P, S, c, n, _, hc, hn => by
    obtain rfl : c = 0 := by simpa using hc
    rw [rdF, rdG_end (by simp)]
    simp
  | s :: r, ah, P, S, c, n, h, hc, hn => by
    obtain ⟨h1, h2, h3⟩ := h
    have hbl := bdR_len (s :: r)
    have htl : ((bdR (s :: r)).take c).length = c := by rw [List.length_take, hbl]; omega
    by_cases hc0 : c = 0
    · subst hc0
      rw [rdF, rdG_end (by simp)]
      simp
    obtain ⟨n', rfl⟩ : ∃ n', n = n' + 1 := ⟨n - 1, by omega⟩
    by_cases hc16 : c < 16
    · rw [rdF, rdG_cut (by rw [List.length_append, htl]; omega) (by rw [List.length_append, htl]; omega), if_neg (by omega)]
      congr 2
      omega
    · have hen := enR_len s (mayP s)
      have hbt : (bdR (s :: r)).take c = enR s (mayP s) ++ (bdR r).take (c - 16) := by
        rw [bdR_cons, List.take_append, hen, List.take_of_length_le (by omega)]
      have hst : stB (P ++ (bdR (s :: r)).take c) P.length ah = (some s, 0, 0) := by
        rw [stB, List.drop_left, hbt, ← hen, List.take_left]
        exact te_en h1 h2
      rw [rdF, rdG_step (by rw [List.length_append, htl]; omega) hst, hbt, ← List.append_assoc]
      have hP : (P ++ enR s (mayP s)).length = P.length + 16 := by rw [List.length_append, hen]
      have := rd_body r s.sl (P ++ enR s (mayP s)) (S ++ [s]) (c - 16) n' h3 (by simp at hc; omega) (by omega)
      rw [rdF, hP] at this
      rw [this]
      by_cases hm : c % 16 = 0
      · rw [if_pos (by omega), if_pos hm]
        congr 2
        rw [show c / 16 = (c - 16) / 16 + 1 by omega]
        simp
      · rw [if_neg (by omega), if_neg hm]
        congr 2
        omega
theorem back_P {L : List Rl} {b : List UInt8} {e : Int} (h : wrP L = (some b, e)) : e = 0 ∧ b.length = 16 * L.length ∧ L.length ≤ 65536 ∧ (∀ c, c ≤ b.length → rdP (b.take c) = if c % 16 = 0 then (some (L.take (c / 16)), 0, 0) else (none, ((c / 16 * 16 : Nat) : Int), 110)) := by
  have hr := rise_wr L (-1) [] b e h
  have hw := wr_rise L (-1) [] hr
  rw [wrP, hw] at h
  obtain ⟨rfl, rfl⟩ : bdR L = b ∧ (0 : Int) = e := by simpa using h
  have hlen : ∀ (M : List Rl) (a : Int), Rise a M → -1 ≤ a → a < 65536 → (M.length : Int) + a < 65536 := by
    intro M
    induction M with
    | nil => intro a _ _ h; simpa using h
    | cons s r ih =>
      intro a h h1 _
      obtain ⟨k1, k2, k3⟩ := h
      have f := may_facts k1
      have := ih s.sl k3 (by omega) f.2.1
      simp only [List.length_cons]
      omega
  have hll := hlen L (-1) hr (by omega) (by omega)
  refine ⟨rfl, bdR_len L, by omega, fun c hc => ?_⟩
  rw [bdR_len] at hc
  have := rd_body L (-1) [] [] c ((bdR L).take c).length hr hc (by rw [List.length_take, bdR_len]; omega)
  simpa [rdP] using this
theorem take_parts (l : List UInt8) (h : l.length = 16) : l.take 8 ++ (l.drop 8).take 4 ++ (l.drop 12).take 4 = l := by
  have e1 : (l.drop 12).take 4 = l.drop 12 := List.take_of_length_le (by simp [h])
  have e2 : (l.drop 8).take 4 ++ l.drop 12 = l.drop 8 := by
    have : (l.drop 8).drop 4 = l.drop 12 := by rw [List.drop_drop]
    rw [← this, List.take_append_drop]
  rw [e1, List.append_assoc, e2, List.take_append_drop]
theorem le_of (l : List UInt8) (n : Nat) (h : l.length = n) : leB (nmB l) n = l := by rw [← h]; exact le_nm l
theorem te_back {ah : Int} {l : List UInt8} {s : Rl} {a : Nat} {e : Int} (h : teP ah l = (some s, a, e)) (hl : l.length = 16) : 0 < mayP s ∧ ah < s.sl ∧ enR s (mayP s) = l := by
  have b12 := nu_lt l 12 4
  unfold teP at h
  split at h
  · cases h
  rename_i c1
  split at h
  · cases h
  rename_i c2
  split at h
  · cases h
  rename_i c3
  split at h
  · cases h
  rename_i c4
  split at h
  · cases h
  rename_i c5
  cases h
  have ht : nuB l 8 4 = 1 ∨ nuB l 8 4 = 10 := by
    unfold kdP at c4
    split at c4
    · exact .inl (by assumption)
    · split at c4
      · exact .inr (by assumption)
      · exact absurd rfl c4
  have htk : tyP (kdP (nuB l 8 4) : Nat) = nuB l 8 4 := by rcases ht with h | h <;> rw [h] <;> rfl
  have hm : mayP ⟨(nuB l 0 8 / 8 : Nat), (kdP (nuB l 8 4) : Nat), (nuB l 12 4 : Nat)⟩ = nuB l 8 4 := by
    unfold mayP
    rw [if_pos ⟨by simp only; omega, by simp only; omega, by simp only; omega, by simp only; omega⟩]
    exact htk
  refine ⟨by rw [hm]; omega, by simp only; omega, ?_⟩
  rw [hm, enR]
  simp only
  have e1 : ((8 : Int) * (nuB l 0 8 / 8 : Nat)).toNat = nuB l 0 8 := by omega
  have e2 : ((nuB l 12 4 : Nat) : Int).toNat = nuB l 12 4 := by omega
  rw [e1, e2]
  have p1 : leB (nuB l 0 8) 8 = l.take 8 := le_of _ _ (by simp [hl])
  have p2 : leB (nuB l 8 4) 4 = (l.drop 8).take 4 := le_of _ _ (by simp [hl])
  have p3 : leB (nuB l 12 4) 4 = (l.drop 12).take 4 := le_of _ _ (by simp [hl])
  rw [p1, p2, p3]
  exact take_parts l hl
theorem rd_forth (b : List UInt8) : ∀ (n p : Nat) (ah : Int) (S L : List Rl) (a e : Int), b.length ≤ n + p → rdF b n p ah S = (some L, a, e) → a = 0 ∧ e = 0 ∧ ∃ M, L = S ++ M ∧ Rise ah M ∧ b.drop p = bdR M
  | 0, p, ah, S, L, a, e, hn, h => by
    rw [rdF, rdG] at h
    cases h
    exact ⟨rfl, rfl, [], by simp, trivial, by rw [List.drop_eq_nil_of_le (by omega)]; rfl⟩
  | n + 1, p, ah, S, L, a, e, hn, h => by
    rw [rdF, rdG] at h
    split at h
    · cases h
      exact ⟨rfl, rfl, [], by simp, trivial, by rw [List.drop_eq_nil_of_le (by omega)]; rfl⟩
    · rename_i c1
      split at h
      · cases h
      · rename_i c2
        split at h
        · cases h
        · rename_i s k1 k2 hst
          obtain ⟨r1, r2, M, rfl, r3, r4⟩ := rd_forth b n (p + 16) s.sl (S ++ [s]) L a e (by omega) h
          obtain ⟨t1, t2, t3⟩ := te_back hst (by rw [List.length_take, List.length_drop]; omega)
          refine ⟨r1, r2, s :: M, by simp, ⟨t1, t2, r3⟩, ?_⟩
          rw [bdR_cons, t3, ← r4, ← List.drop_drop, List.take_append_drop]
theorem te_no {q : Int} {l : List UInt8} {a : Nat} {e : Int} (h : teP q l = (none, a, e)) : (a = 0 ∨ a = 8 ∨ a = 12) ∧ (e = 110 ∨ (e = 111 ∧ a = 0 ∧ 0 ≤ q)) := by
  unfold teP at h
  repeat' split at h
  all_goals first | (cases h; done) | skip
  · cases h; exact ⟨.inl rfl, .inl rfl⟩
  · cases h; exact ⟨.inl rfl, .inl rfl⟩
  · cases h; exact ⟨.inl rfl, .inr ⟨rfl, rfl, by omega⟩⟩
  · cases h; exact ⟨.inr (.inl rfl), .inl rfl⟩
  · cases h; exact ⟨.inr (.inr rfl), .inl rfl⟩
theorem rd_err (b : List UInt8) : ∀ (n p : Nat) (ah : Int) (S : List Rl) (a e : Int), p % 16 = 0 → (p = 0 → ah < 0) → rdF b n p ah S = (none, a, e) → 0 ≤ a ∧ a < b.length ∧ a % 4 = 0 ∧ (e = 110 ∨ (e = 111 ∧ a % 16 = 0 ∧ 0 < a))
  | 0, p, ah, S, a, e, _, _, h => by
    rw [rdF, rdG] at h
    cases h
  | n + 1, p, ah, S, a, e, hp, h0, h => by
    rw [rdF, rdG] at h
    split at h
    · cases h
    · rename_i c1
      split at h
      · cases h
        exact ⟨by omega, by omega, by omega, .inl rfl⟩
      · rename_i c2
        split at h
        · rename_i k1 k2 hst
          obtain ⟨t1, t2⟩ := te_no hst
          cases h
          refine ⟨by omega, by omega, by omega, ?_⟩
          rcases t2 with t2 | ⟨t2, t3, t4⟩
          · exact .inl t2
          · exact .inr ⟨t2, by omega, by have := fun hh => h0 hh; omega⟩
        · rename_i s k1 k2 hst
          exact rd_err b n (p + 16) s.sl (S ++ [s]) a e (by omega) (by omega) h
theorem bytes_P {b : List UInt8} {L : List Rl} {a e : Int} (h : rdP b = (some L, a, e)) : a = 0 ∧ e = 0 ∧ wrP L = (some b, 0) ∧ L.length ≤ 65536 := by
  obtain ⟨r1, r2, M, hM, r3, r4⟩ := rd_forth b b.length 0 (-1) [] L a e (by omega) h
  rw [List.drop_zero] at r4
  rw [List.nil_append] at hM
  subst hM
  have hw := wr_rise L (-1) [] r3
  rw [List.nil_append, ← r4] at hw
  exact ⟨r1, r2, hw, (back_P hw).2.2.1⟩
end Go.Proofs.Ytoobdcjkhphlcaa
