import Derived.Test.YtcjhgihpahnnoaaGreatDoorGl
namespace Go.Proofs.YtcjhgihpahnnoaaGreatDoor
open Go.RowKit
set_option linter.unusedVariables false
set_option linter.unusedSimpArgs false
/-- behind the mnemonic, as it is printed, and then z -/
theorem tail_atZ (z : List UInt8) (hz : stopP z = true) (o d s f i : Int) (t : List UInt8) (a b c : Int) (r : RS) (ha : ¬ a = 0 → opOk o d s f i t a r) (hb : ¬ a = 0 → ¬ b = 0 → opOk o d s f i t b (opE o d s f i t a r)) (hc : ¬ a = 0 → ¬ b = 0 → ¬ c = 0 → opOk o d s f i t c (opE o d s f i t b (opE o d s f i t a r))) :
    ∃ q : RS, opdL (a, b, c) (r.at (tailP (a, b, c) (opdTx o d s f i t) ++ z)) = q.at z := by
  unfold opdL tailP
  simp only
  by_cases h1 : a = 0
  · rw [if_pos h1, if_pos h1]
    exact ⟨r, rfl⟩
  · rw [if_neg h1, if_neg h1]
    rw [List.cons_append, at_blank r 32 _ (.inl rfl), List.append_assoc]
    by_cases h2 : b = 0
    · rw [if_pos h2, if_pos h2]
      exact ⟨_, op_at o d s f i t a r (ha h1) z hz⟩
    · rw [if_neg h2, if_neg h2, op_at o d s f i t a r (ha h1) _ rfl, List.cons_append, List.cons_append, comma_at, List.append_assoc]
      by_cases h3 : c = 0
      · rw [if_pos h3, if_pos h3]
        exact ⟨_, op_at o d s f i t b _ (hb h1 h2) z hz⟩
      · rw [if_neg h3, if_neg h3, op_at o d s f i t b _ (hb h1 h2) _ rfl, List.cons_append, List.cons_append, comma_at, List.append_nil]
        exact ⟨_, op_at o d s f i t c _ (hc h1 h2 h3) z hz⟩
theorem tail_stopZ (t : Int × Int × Int) (x : Int → List UInt8) (z : List UInt8) (hz : stopP z = true) : stopP (tailP t x ++ z) = true := by
  unfold tailP
  split
  · exact hz
  · rfl
theorem parse_coreZ (z : List UInt8) (hz : stopP z = true) (hzt : ¬ tokP z = []) (o d s f i : Int) (t : List UInt8) (m : Mn) (a b c : Int) (hW : wordOk (wordP o s f i) m = true) (hT : tOf o s f = (a, b, c)) (hT' : tOf m.1 m.2.1 m.2.2.1 = (a, b, c))
    (ha : ¬ a = 0 → opOk o d s f i t a (r0Of m)) (hb : ¬ a = 0 → ¬ b = 0 → opOk o d s f i t b (opE o d s f i t a (r0Of m))) (hc : ¬ a = 0 → ¬ b = 0 → ¬ c = 0 → opOk o d s f i t c (opE o d s f i t b (opE o d s f i t a (r0Of m))))
    (hzz : rzOf o d s f i t a b c (r0Of m) = ⟨[], [], o, d, s, f, i, t, false, false⟩) : (parseP (lineP o d s f i t ++ z)).e = 41 := by
  simp only [wordOk, Bool.and_eq_true, beq_iff_eq] at hW
  obtain ⟨⟨h1, h2⟩, h3⟩ := hW
  unfold lineP
  rw [hT, List.append_assoc]
  generalize wordP o s f i = W at *
  have hst := tail_stopZ (a, b, c) (opdTx o d s f i t) z hz
  obtain ⟨q, htail⟩ := tail_atZ z hz o d s f i t a b c (r0Of m) ha hb hc
  generalize tailP (a, b, c) (opdTx o d s f i t) ++ z = T at *
  have hn : newR (W ++ T) = ⟨T, W, 0, 0, 0, 0, 0, [], false, false⟩ := at_run ⟨[], [], 0, 0, 0, 0, 0, [], false, false⟩ W T h1 h2 hst
  have hb2 : (behindS m (newR (W ++ T))).wrong = true := by
    rw [hn]
    unfold behindS
    rw [hT']
    show (opsS (a, b, c) ((r0Of m).at T)).wrong = true
    unfold opsS
    rw [htail]
    show ((q.at z).wrong || !(tokP z).isEmpty) = true
    have : (tokP z).isEmpty = false := by
      cases e : tokP z with
      | nil => exact absurd e hzt
      | cons _ _ => rfl
    rw [this]
    simp
  have hm : meanOf (newR (W ++ T)).tok = some m := by rw [hn]; exact h3
  unfold parseP
  rw [hm]
  simp only [hb2, if_true]
theorem line_1Z (z : List UInt8) (hz : stopP z = true) (hzt : ¬ tokP z = []) (o d s f i : Int) (t : List UInt8) (hk : formP o = 1) (h : mayP o d s f i = 0) (ht : tfitP o s f i t = true) : (parseP (lineP o d s f i t ++ z)).e = 41 := by
  obtain ⟨_, h1, h2, h3, h4⟩ := may_parts o d s f i h
  have ho := ops_at 1 (by decide) o hk (by decide)
  have : o = 149 := by simpa [opsL, opsT] using ho
  subst this
  have e : useD 149 (formP 149) = false ∧ useS 149 (formP 149) = false ∧ useO 149 (formP 149) = false ∧ useI 149 (formP 149) = false ∧ ordersP 149 = false ∧ formP 149 = 1 := by decide +kernel
  rw [e.1] at h1
  rw [e.2.1, e.2.2.2.2.2] at h2
  rw [e.2.2.1, e.2.2.2.2.2] at h3
  rw [e.2.2.2.1, e.2.2.2.2.2] at h4
  have hd : d = 0 := by simpa [dstP] using h1
  have hs : s = 0 := by simpa [srcP] using h2
  have hf : f = 0 := by simpa [offP] using h3
  have hi : i = 0 := by simpa [immP, e.2.2.2.2.1] using h4
  have htt : t = [] := by simpa [tfitP, hk] using ht
  subst hd hs hf hi htt
  exact parse_coreZ z hz hzt 149 0 0 0 0 [] (149, 0, 0, 0) 0 0 0 (by decide +kernel) (by decide +kernel) (by decide +kernel) (fun h => absurd rfl h) (fun h => absurd rfl h) (fun h => absurd rfl h) rfl
theorem line_2Z (z : List UInt8) (hz : stopP z = true) (hzt : ¬ tokP z = []) (o d s f i : Int) (t : List UInt8) (hk : formP o = 2) (h : mayP o d s f i = 0) (ht : tfitP o s f i t = true) : (parseP (lineP o d s f i t ++ z)).e = 41 := by
  obtain ⟨_, h1, h2, h3, h4⟩ := may_parts o d s f i h
  have ho := ops_at 2 (by decide) o hk (by decide)
  obtain ⟨u1, u2, u3, u4⟩ := uses_of 2 o ho
  simp only at u1 u2 u3 u4
  rw [u1] at h1
  rw [u2, hk] at h2
  rw [u3, hk] at h3
  rw [u4, hk] at h4
  have hd : isReg d = true := by simpa [dstP] using h1
  have hs : s = 0 := by simpa [srcP] using h2
  have hf : f = 0 := by simpa [offP] using h3
  have htt : t = [] := by simpa [tfitP, hk] using ht
  have hi : i ∈ (if ordersP o then [16, 32, 64] else [0] : List Int) := by
    cases hz : ordersP o
    · simpa [immP, hz] using h4
    · have := h4
      simp [immP, hz] at this
      simp
      omega
  subst hs hf htt
  have hA : ∀ o ∈ opsL 2, ∀ i ∈ (if ordersP o then [16, 32, 64] else [0] : List Int), wordOk (wordP o 0 0 i) (o, 0, 0, i) = true ∧ tOf o 0 0 = (1, 0, 0) := by decide +kernel
  obtain ⟨a1, a2⟩ := hA o ho i hi
  refine parse_coreZ z hz hzt o d 0 0 i [] (o, 0, 0, i) 1 0 0 a1 a2 a2 (fun _ => .inl ⟨rfl, hd⟩) (fun _ h => absurd rfl h) (fun _ h => absurd rfl h) rfl
theorem line_3Z (z : List UInt8) (hz : stopP z = true) (hzt : ¬ tokP z = []) (o d s f i : Int) (t : List UInt8) (hk : formP o = 3) (h : mayP o d s f i = 0) (ht : tfitP o s f i t = true) : (parseP (lineP o d s f i t ++ z)).e = 41 := by
  obtain ⟨_, h1, h2, h3, h4⟩ := may_parts o d s f i h
  have ho := ops_at 3 (by decide) o hk (by decide)
  have u1 : useD o (formP o) = true := (uses_of 3 o ho).1
  have u2 : useS o (formP o) = (hasSrc o) := (uses_of 3 o ho).2.1
  have u3 : useO o (formP o) = false := (uses_of 3 o ho).2.2.1
  have u4 : useI o (formP o) = (!hasSrc o) := (uses_of 3 o ho).2.2.2
  rw [u1] at h1
  rw [u2, hk] at h2
  rw [u3, hk] at h3
  rw [u4, hk] at h4
  have hd : isReg d = true := by simpa [dstP] using h1
  have htt : t = [] := by simpa [tfitP, hk] using ht
  have hf : (f == 0 || variantP o f) = true := by
    unfold offP at h3
    simp only [Bool.false_eq_true, if_false] at h3
    split at h3
    · rename_i hz; simp [hz]
    · simp only [beq_self_eq_true, if_true] at h3; simp [h3]
  have hfi : f ∈ ([0, 1, 8, 16, 32] : List Int) := by
    by_cases hz : f = 0
    · simp [hz]
    · exact variant_in (by simpa [hz] using hf)
  subst htt
  have hA : ∀ o ∈ opsL 3, ∀ f ∈ ([0, 1, 8, 16, 32] : List Int), (f == 0 || variantP o f) = true → wordOk (wordP o 0 f 0) (mo3 o f, 0, f, 0) = true ∧ formP (mo3 o f) = 3 ∧ (8 ≤ f → hasSrc o = true) ∧ (¬ 8 ≤ f → hasSrc o = true → orB (mo3 o f) = o) ∧ (hasSrc o = false → mo3 o f = o) ∧ ordersP o = false ∧ ¬ o = 24 := by decide +kernel
  obtain ⟨a1, a2, a3, a4, a5, a6, a7⟩ := hA o ho f hfi hf
  have hW : wordOk (wordP o s f i) (mo3 o f, 0, f, 0) = true := by rw [w3 o s f i ho]; exact a1
  cases hx : hasSrc o
  · rw [hx] at h2 h4
    have hs : s = 0 := by simpa [srcP] using h2
    have h8 : ¬ 8 ≤ f := fun h8 => by rw [a3 h8] at hx; cases hx
    have hi : (decide (-2147483648 ≤ i) && decide (i ≤ 2147483647)) = true := by simpa [immP] using h4
    have e1 : tOf o s f = (1, 4, 0) := by unfold tOf opdsP; rw [hk, if_pos rfl, if_neg h8]
    have e2 : tOf (mo3 o f) 0 f = (1, 4, 0) := by unfold tOf opdsP; rw [a2, if_pos rfl, if_neg h8]
    subst hs
    refine parse_coreZ z hz hzt o d 0 f i [] (mo3 o f, 0, f, 0) 1 4 0 hW e1 e2 (fun _ => .inl ⟨rfl, hd⟩) (fun _ _ => .inr (.inr (.inr (.inr (.inl ⟨rfl, hx, ?_⟩))))) (fun _ _ h => absurd rfl h) ?_
    · exact imm32 hi _ (by show ¬ mo3 o f = 24; rw [a5 hx]; exact a7)
    · show (if hasSrc o then _ else _) = _
      rw [hx]
      show ({ r0Of (mo3 o f, 0, f, 0) with d := d, i := i } : RS) = _
      unfold r0Of
      simp only [a5 hx]
  · rw [hx] at h2 h4
    have hs : isReg s = true := by simpa [srcP] using h2
    have hi : i = 0 := by simpa [immP, a6] using h4
    subst hi
    by_cases h8 : 8 ≤ f
    · have e1 : tOf o s f = (1, 2, 0) := by unfold tOf opdsP; rw [hk, if_pos rfl, if_pos h8]
      have em : mo3 o f = o := by unfold mo3; rw [if_pos h8]
      have e2 : tOf (mo3 o f) 0 f = (1, 2, 0) := by unfold tOf opdsP; rw [a2, if_pos rfl, if_pos h8]
      refine parse_coreZ z hz hzt o d s f 0 [] (mo3 o f, 0, f, 0) 1 2 0 hW e1 e2 (fun _ => .inl ⟨rfl, hd⟩) (fun _ _ => .inr (.inl ⟨rfl, hs⟩)) (fun _ _ h => absurd rfl h) ?_
      rw [em]
      rfl
    · have e1 : tOf o s f = (1, 4, 0) := by unfold tOf opdsP; rw [hk, if_pos rfl, if_neg h8]
      have e2 : tOf (mo3 o f) 0 f = (1, 4, 0) := by unfold tOf opdsP; rw [a2, if_pos rfl, if_neg h8]
      refine parse_coreZ z hz hzt o d s f 0 [] (mo3 o f, 0, f, 0) 1 4 0 hW e1 e2 (fun _ => .inl ⟨rfl, hd⟩) (fun _ _ => .inr (.inr (.inr (.inl ⟨rfl, hx, hs⟩)))) (fun _ _ h => absurd rfl h) ?_
      show (if hasSrc o then _ else _) = _
      rw [hx]
      show ({ r0Of (mo3 o f, 0, f, 0) with d := d, o := orB (mo3 o f), s := s } : RS) = _
      unfold r0Of
      simp only [a4 h8 hx]
theorem line_4Z (z : List UInt8) (hz : stopP z = true) (hzt : ¬ tokP z = []) (o d s f i : Int) (t : List UInt8) (hk : formP o = 4) (h : mayP o d s f i = 0) (ht : tfitP o s f i t = true) : (parseP (lineP o d s f i t ++ z)).e = 41 := by
  obtain ⟨_, h1, h2, h3, h4⟩ := may_parts o d s f i h
  have ho := ops_at 4 (by decide) o hk (by decide)
  have u1 : useD o (formP o) = true := (uses_of 4 o ho).1
  have u2 : useS o (formP o) = (true) := (uses_of 4 o ho).2.1
  have u3 : useO o (formP o) = true := (uses_of 4 o ho).2.2.1
  have u4 : useI o (formP o) = (false) := (uses_of 4 o ho).2.2.2
  rw [u1] at h1
  rw [u2, hk] at h2
  rw [u3, hk] at h3
  rw [u4, hk] at h4
  have hA : ∀ o ∈ opsL 4, wordOk (wordP o 0 0 0) (o, 0, 0, 0) = true ∧ (¬ cls o = 0 ∧ ¬ cls o = 7 ∧ ¬ cls o = 4 ∧ ¬ cls o = 5 ∧ ¬ cls o = 6) ∧ ordersP o = false := by decide +kernel
  obtain ⟨a1, a2, a4⟩ := hA o ho
  have hd : isReg d = true := by simpa [dstP] using h1
  have hs : isReg s = true := by simpa [srcP] using h2
  have hf := off16 (f := f) (by simpa [offP] using h3)
  have hi : i = 0 := by simpa [immP, a4] using h4
  have htt : t = [] := by simpa [tfitP, hk] using ht
  subst hi htt
  have e1 : tOf o s f = (1, 5, 0) := by unfold tOf opdsP; rw [hk]; rfl
  have e2 : tOf o 0 0 = (1, 5, 0) := by unfold tOf opdsP; rw [hk]; rfl
  have hW : wordOk (wordP o s f 0) (o, 0, 0, 0) = true := by rw [wM o s f 0 a2]; rw [wM o 0 0 0 a2] at a1; exact a1
  exact parse_coreZ z hz hzt o d s f 0 [] (o, 0, 0, 0) 1 5 0 hW e1 e2 (fun _ => .inl ⟨rfl, hd⟩) (fun _ _ => .inr (.inr (.inr (.inr (.inr (.inl ⟨rfl, hs, hf⟩)))))) (fun _ _ h => absurd rfl h) rfl
theorem line_5Z (z : List UInt8) (hz : stopP z = true) (hzt : ¬ tokP z = []) (o d s f i : Int) (t : List UInt8) (hk : formP o = 5) (h : mayP o d s f i = 0) (ht : tfitP o s f i t = true) : (parseP (lineP o d s f i t ++ z)).e = 41 := by
  obtain ⟨_, h1, h2, h3, h4⟩ := may_parts o d s f i h
  have ho := ops_at 5 (by decide) o hk (by decide)
  have u1 : useD o (formP o) = true := (uses_of 5 o ho).1
  have u2 : useS o (formP o) = ((cls o == 3)) := (uses_of 5 o ho).2.1
  have u3 : useO o (formP o) = true := (uses_of 5 o ho).2.2.1
  have u4 : useI o (formP o) = ((cls o == 2)) := (uses_of 5 o ho).2.2.2
  have hA : ∀ o ∈ opsL 5, wordOk (wordP o 0 0 0) (o, 0, 0, 0) = true ∧ (¬ cls o = 0 ∧ ¬ cls o = 7 ∧ ¬ cls o = 4 ∧ ¬ cls o = 5 ∧ ¬ cls o = 6) ∧ ordersP o = false ∧ (memT.find? (fun r => bits .andNot .i64 o 24 == r.1)).isSome = true ∧ (cls o == 2) = !(cls o == 3) ∧ ¬ o = 24 := by decide +kernel
  obtain ⟨a1, a2, a4, a5, a6, a7⟩ := hA o ho
  rw [a6] at u4
  have u2' := u2
  rw [u1] at h1
  rw [u2, hk] at h2
  rw [u3, hk] at h3
  rw [u4, hk] at h4
  have hd : isReg d = true := by simpa [dstP] using h1
  have hf := off16 (f := f) (by simpa [offP] using h3)
  have htt : t = [] := by simpa [tfitP, hk] using ht
  subst htt
  have hW : wordOk (wordP o s f i) (o, 0, 0, 0) = true := by rw [wM o s f i a2, wM_some o i a5]; rw [wM o 0 0 0 a2] at a1; exact a1
  cases hx : (cls o == 3)
  · rw [hx] at h2 h4 u2'
    have hs : s = 0 := by simpa [srcP] using h2
    have hi : (decide (-2147483648 ≤ i) && decide (i ≤ 2147483647)) = true := by simpa [immP] using h4
    have e1 : tOf o s f = (6, 3, 0) := by unfold tOf opdsP; rw [u2', hk]; rfl
    have e2 : tOf o 0 0 = (6, 3, 0) := by unfold tOf opdsP; rw [u2', hk]; rfl
    subst hs
    exact parse_coreZ z hz hzt o d 0 f i [] (o, 0, 0, 0) 6 3 0 hW e1 e2 (fun _ => .inr (.inr (.inr (.inr (.inr (.inr (.inl ⟨rfl, hd, hf⟩))))))) (fun _ _ => .inr (.inr (.inl ⟨rfl, imm32 hi _ a7⟩))) (fun _ _ h => absurd rfl h) rfl
  · rw [hx] at h2 h4 u2'
    have hs : isReg s = true := by simpa [srcP] using h2
    have hi : i = 0 := by simpa [immP, a4] using h4
    have e1 : tOf o s f = (6, 2, 0) := by unfold tOf opdsP; rw [u2', hk]; rfl
    have e2 : tOf o 0 0 = (6, 2, 0) := by unfold tOf opdsP; rw [u2', hk]; rfl
    subst hi
    exact parse_coreZ z hz hzt o d s f 0 [] (o, 0, 0, 0) 6 2 0 hW e1 e2 (fun _ => .inr (.inr (.inr (.inr (.inr (.inr (.inl ⟨rfl, hd, hf⟩))))))) (fun _ _ => .inr (.inl ⟨rfl, hs⟩)) (fun _ _ h => absurd rfl h) rfl
theorem line_6Z (z : List UInt8) (hz : stopP z = true) (hzt : ¬ tokP z = []) (o d s f i : Int) (t : List UInt8) (hk : formP o = 6) (h : mayP o d s f i = 0) (ht : tfitP o s f i t = true) : (parseP (lineP o d s f i t ++ z)).e = 41 := by
  obtain ⟨_, h1, h2, h3, h4⟩ := may_parts o d s f i h
  have ho := ops_at 6 (by decide) o hk (by decide)
  have u1 : useD o (formP o) = true := (uses_of 6 o ho).1
  have u2 : useS o (formP o) = (true) := (uses_of 6 o ho).2.1
  have u3 : useO o (formP o) = true := (uses_of 6 o ho).2.2.1
  have u4 : useI o (formP o) = (false) := (uses_of 6 o ho).2.2.2
  have u2' := u2
  rw [u1] at h1
  rw [u2, hk] at h2
  rw [u3, hk] at h3
  rw [u4, hk] at h4
  have hA : ∀ o ∈ opsL 6, ∀ i ∈ immsT, wordOk (wordP o 0 0 i) (o, 0, 0, i) = true ∧ (¬ cls o = 0 ∧ ¬ cls o = 7 ∧ ¬ cls o = 4 ∧ ¬ cls o = 5 ∧ ¬ cls o = 6) := by decide +kernel
  have hi : i ∈ immsT := by simpa [immP, atomP] using h4
  obtain ⟨a1, a2⟩ := hA o ho i hi
  have hd : isReg d = true := by simpa [dstP] using h1
  have hs : isReg s = true := by simpa [srcP] using h2
  have hf := off16 (f := f) (by simpa [offP] using h3)
  have htt : t = [] := by simpa [tfitP, hk] using ht
  subst htt
  have hW : wordOk (wordP o s f i) (o, 0, 0, i) = true := by rw [wM o s f i a2]; rw [wM o 0 0 i a2] at a1; exact a1
  have e1 : tOf o s f = (6, 2, 0) := by unfold tOf opdsP; rw [u2', hk]; rfl
  have e2 : tOf o 0 0 = (6, 2, 0) := by unfold tOf opdsP; rw [u2', hk]; rfl
  exact parse_coreZ z hz hzt o d s f i [] (o, 0, 0, i) 6 2 0 hW e1 e2 (fun _ => .inr (.inr (.inr (.inr (.inr (.inr (.inl ⟨rfl, hd, hf⟩))))))) (fun _ _ => .inr (.inl ⟨rfl, hs⟩)) (fun _ _ h => absurd rfl h) rfl
theorem line_7Z (z : List UInt8) (hz : stopP z = true) (hzt : ¬ tokP z = []) (o d s f i : Int) (t : List UInt8) (hk : formP o = 7) (h : mayP o d s f i = 0) (ht : tfitP o s f i t = true) : (parseP (lineP o d s f i t ++ z)).e = 41 := by
  obtain ⟨_, h1, h2, h3, h4⟩ := may_parts o d s f i h
  have ho := ops_at 7 (by decide) o hk (by decide)
  have u1 : useD o (formP o) = false := (uses_of 7 o ho).1
  have u2 : useS o (formP o) = (false) := (uses_of 7 o ho).2.1
  have u3 : useO o (formP o) = (o == 5) := (uses_of 7 o ho).2.2.1
  have u4 : useI o (formP o) = ((o == 6)) := (uses_of 7 o ho).2.2.2
  rw [u1] at h1
  rw [u2, hk] at h2
  have hA : ∀ o ∈ opsL 7, wordOk (wordP o 0 0 0) (o, 0, 0, 0) = true ∧ (¬ cls o = 0 ∧ ¬ cls o = 7 ∧ ¬ cls o = 4 ∧ (cls o = 5 ∨ cls o = 6)) := by decide +kernel
  obtain ⟨a1, a2⟩ := hA o ho
  have hd : d = 0 := by simpa [dstP] using h1
  have hs : s = 0 := by simpa [srcP] using h2
  have htt : nameP t = true ∧ f = 0 ∧ i = 0 := by simpa [tfitP, hk, and_assoc] using ht
  obtain ⟨hn, hf, hi⟩ := htt
  subst hd hs hf hi
  have e1 : tOf o 0 0 = (7, 0, 0) := by unfold tOf opdsP; rw [hk]; rfl
  exact parse_coreZ z hz hzt o 0 0 0 0 t (o, 0, 0, 0) 7 0 0 a1 e1 e1 (fun _ => .inr (.inr (.inr (.inr (.inr (.inr (.inr (.inl ⟨rfl, hn⟩)))))))) (fun _ h => absurd rfl h) (fun _ h => absurd rfl h) rfl
theorem line_8Z (z : List UInt8) (hz : stopP z = true) (hzt : ¬ tokP z = []) (o d s f i : Int) (t : List UInt8) (hk : formP o = 8) (h : mayP o d s f i = 0) (ht : tfitP o s f i t = true) : (parseP (lineP o d s f i t ++ z)).e = 41 := by
  obtain ⟨_, h1, h2, h3, h4⟩ := may_parts o d s f i h
  have ho := ops_at 8 (by decide) o hk (by decide)
  have u1 : useD o (formP o) = true := (uses_of 8 o ho).1
  have u2 : useS o (formP o) = (hasSrc o) := (uses_of 8 o ho).2.1
  have u3 : useO o (formP o) = true := (uses_of 8 o ho).2.2.1
  have u4 : useI o (formP o) = (!hasSrc o) := (uses_of 8 o ho).2.2.2
  rw [u1] at h1
  rw [u2, hk] at h2
  rw [u4, hk] at h4
  have hA : ∀ o ∈ opsL 8, wordOk (wordP o 0 0 0) (mo3 o 0, 0, 0, 0) = true ∧ (¬ cls o = 0 ∧ ¬ cls o = 7 ∧ ¬ cls o = 4 ∧ (cls o = 5 ∨ cls o = 6)) ∧ formP (mo3 o 0) = 8 ∧ (hasSrc o = true → orB (mo3 o 0) = o) ∧ (hasSrc o = false → mo3 o 0 = o) ∧ ordersP o = false ∧ ¬ o = 24 := by decide +kernel
  obtain ⟨a1, a2, a3, a4, a5, a6, a7⟩ := hA o ho
  have hd : isReg d = true := by simpa [dstP] using h1
  have htt : nameP t = true ∧ f = 0 := by simpa [tfitP, hk, and_assoc] using ht
  obtain ⟨hn, hf⟩ := htt
  subst hf
  have e1 : tOf o s 0 = (1, 4, 7) := by unfold tOf opdsP; rw [hk]; rfl
  have e2 : tOf (mo3 o 0) 0 0 = (1, 4, 7) := by unfold tOf opdsP; rw [a3]; rfl
  have hW : wordOk (wordP o s 0 i) (mo3 o 0, 0, 0, 0) = true := by rw [wJ o s 0 i a2]; exact a1
  cases hx : hasSrc o
  · rw [hx] at h2 h4
    have hs : s = 0 := by simpa [srcP] using h2
    have hi : (decide (-2147483648 ≤ i) && decide (i ≤ 2147483647)) = true := by simpa [immP] using h4
    subst hs
    refine parse_coreZ z hz hzt o d 0 0 i t (mo3 o 0, 0, 0, 0) 1 4 7 hW e1 e2 (fun _ => .inl ⟨rfl, hd⟩) (fun _ _ => .inr (.inr (.inr (.inr (.inl ⟨rfl, hx, ?_⟩))))) (fun _ _ _ => .inr (.inr (.inr (.inr (.inr (.inr (.inr (.inl ⟨rfl, hn⟩)))))))) ?_
    · exact imm32 hi _ (by show ¬ mo3 o 0 = 24; rw [a5 hx]; exact a7)
    · have e4 : opE o d 0 0 i t 4 (opE o d 0 0 i t 1 (r0Of (mo3 o 0, 0, 0, 0))) = { r0Of (mo3 o 0, 0, 0, 0) with d := d, i := i } := by
        show (if hasSrc o then _ else _) = _
        rw [hx]
        rfl
      show { opE o d 0 0 i t 4 (opE o d 0 0 i t 1 (r0Of (mo3 o 0, 0, 0, 0))) with tgt := t } = _
      rw [e4]
      unfold r0Of
      simp only [a5 hx]
  · rw [hx] at h2 h4
    have hs : isReg s = true := by simpa [srcP] using h2
    have hi : i = 0 := by simpa [immP, a6] using h4
    subst hi
    refine parse_coreZ z hz hzt o d s 0 0 t (mo3 o 0, 0, 0, 0) 1 4 7 hW e1 e2 (fun _ => .inl ⟨rfl, hd⟩) (fun _ _ => .inr (.inr (.inr (.inl ⟨rfl, hx, hs⟩)))) (fun _ _ _ => .inr (.inr (.inr (.inr (.inr (.inr (.inr (.inl ⟨rfl, hn⟩)))))))) ?_
    have e4 : opE o d s 0 0 t 4 (opE o d s 0 0 t 1 (r0Of (mo3 o 0, 0, 0, 0))) = { r0Of (mo3 o 0, 0, 0, 0) with d := d, o := orB (mo3 o 0), s := s } := by
      show (if hasSrc o then _ else _) = _
      rw [hx]
      rfl
    show { opE o d s 0 0 t 4 (opE o d s 0 0 t 1 (r0Of (mo3 o 0, 0, 0, 0))) with tgt := t } = _
    rw [e4]
    unfold r0Of
    simp only [a4 hx]
theorem line_9Z (z : List UInt8) (hz : stopP z = true) (hzt : ¬ tokP z = []) (o d s f i : Int) (t : List UInt8) (hk : formP o = 9) (h : mayP o d s f i = 0) (ht : tfitP o s f i t = true) : (parseP (lineP o d s f i t ++ z)).e = 41 := by
  obtain ⟨_, h1, h2, h3, h4⟩ := may_parts o d s f i h
  have ho := ops_at 9 (by decide) o hk (by decide)
  have u1 : useD o (formP o) = false := (uses_of 9 o ho).1
  have u2 : useS o (formP o) = (false) := (uses_of 9 o ho).2.1
  have u3 : useO o (formP o) = false := (uses_of 9 o ho).2.2.1
  have u4 : useI o (formP o) = (true) := (uses_of 9 o ho).2.2.2
  rw [u1] at h1
  rw [u2, hk] at h2
  rw [u3, hk] at h3
  rw [u4, hk] at h4
  have hA : ∀ o ∈ opsL 9, wordOk (wordP o 0 0 0) (o, 0, 0, 0) = true ∧ (¬ cls o = 0 ∧ ¬ cls o = 7 ∧ ¬ cls o = 4 ∧ (cls o = 5 ∨ cls o = 6)) ∧ ¬ o = 24 := by decide +kernel
  obtain ⟨a1, a2, a7⟩ := hA o ho
  have hd : d = 0 := by simpa [dstP] using h1
  have hs : s = 0 ∨ s = 1 := by simpa [srcP] using h2
  have hf : f = 0 := by simpa [offP] using h3
  have hi : (decide (-2147483648 ≤ i) && decide (i ≤ 2147483647)) = true := by simpa [immP] using h4
  subst hd hf
  have e1 : tOf o s 0 = (8, 0, 0) := by unfold tOf opdsP; rw [hk]; rfl
  have e2 : tOf o 0 0 = (8, 0, 0) := by unfold tOf opdsP; rw [hk]; rfl
  have hW : wordOk (wordP o s 0 i) (o, 0, 0, 0) = true := by rw [wJ o s 0 i a2]; exact a1
  rcases hs with rfl | rfl
  · have htt : t = [] := by simpa [tfitP, hk] using ht
    subst htt
    exact parse_coreZ z hz hzt o 0 0 0 i [] (o, 0, 0, 0) 8 0 0 hW e1 e2 (fun _ => .inr (.inr (.inr (.inr (.inr (.inr (.inr (.inr (.inr ⟨rfl, by decide, imm32 hi _ a7⟩))))))))) (fun _ h => absurd rfl h) (fun _ h => absurd rfl h) rfl
  · have htt : nameP t = true ∧ i = -1 := by simpa [tfitP, hk] using ht
    obtain ⟨hn, rfl⟩ := htt
    exact parse_coreZ z hz hzt o 0 1 0 (-1) t (o, 0, 0, 0) 8 0 0 hW e1 e2 (fun _ => .inr (.inr (.inr (.inr (.inr (.inr (.inr (.inr (.inl ⟨rfl, rfl, hn⟩))))))))) (fun _ h => absurd rfl h) (fun _ h => absurd rfl h) rfl
theorem line_10Z (z : List UInt8) (hz : stopP z = true) (hzt : ¬ tokP z = []) (o d s f i : Int) (t : List UInt8) (hk : formP o = 10) (h : mayP o d s f i = 0) (ht : tfitP o s f i t = true) (hi : -9223372036854775808 ≤ i ∧ i < 9223372036854775808) : (parseP (lineP o d s f i t ++ z)).e = 41 := by
  obtain ⟨_, h1, h2, h3, h4⟩ := may_parts o d s f i h
  have ho := ops_at 10 (by decide) o hk (by decide)
  have u1 : useD o (formP o) = true := (uses_of 10 o ho).1
  have u2 : useS o (formP o) = (false) := (uses_of 10 o ho).2.1
  have u3 : useO o (formP o) = false := (uses_of 10 o ho).2.2.1
  have u4 : useI o (formP o) = (true) := (uses_of 10 o ho).2.2.2
  rw [u1] at h1
  rw [u2, hk] at h2
  rw [u3, hk] at h3
  have ho' : o = 24 := by simpa [opsL, opsT] using ho
  subst ho'
  have hd : isReg d = true := by simpa [dstP] using h1
  have hs : s = 0 ∨ s = 1 := by simpa [srcP] using h2
  have hf : f = 0 := by simpa [offP] using h3
  subst hf
  rcases hs with rfl | rfl
  · have htt : t = [] := by simpa [tfitP, hk] using ht
    subst htt
    exact parse_coreZ z hz hzt 24 d 0 0 i [] (24, 0, 0, 0) 1 3 0 (by rw [show wordP 24 0 0 i = wordP 24 0 0 0 from rfl]; decide +kernel) (by decide +kernel) (by decide +kernel) (fun _ => .inl ⟨rfl, hd⟩) (fun _ _ => .inr (.inr (.inl ⟨rfl, by show (if (24 : Int) = 24 then _ else _); rw [if_pos rfl]; exact hi⟩))) (fun _ _ h => absurd rfl h) rfl
  · have htt : nameP t = true ∧ i = 0 := by simpa [tfitP, hk] using ht
    obtain ⟨hn, rfl⟩ := htt
    exact parse_coreZ z hz hzt 24 d 1 0 0 t (24, 1, 0, 0) 1 7 0 (by decide +kernel) (by decide +kernel) (by decide +kernel) (fun _ => .inl ⟨rfl, hd⟩) (fun _ _ => .inr (.inr (.inr (.inr (.inr (.inr (.inr (.inl ⟨rfl, hn⟩)))))))) (fun _ _ h => absurd rfl h) rfl
theorem parse_lineZ (z : List UInt8) (hz : stopP z = true) (hzt : ¬ tokP z = []) (o d s f i : Int) (t : List UInt8) (h : mayP o d s f i = 0) (ht : tfitP o s f i t = true) (hi : -9223372036854775808 ≤ i ∧ i < 9223372036854775808) : (parseP (lineP o d s f i t ++ z)).e = 41 := by
  have hn := (may_parts o d s f i h).1
  have hle := form_le o
  rcases (show formP o = 1 ∨ formP o = 2 ∨ formP o = 3 ∨ formP o = 4 ∨ formP o = 5 ∨ formP o = 6 ∨ formP o = 7 ∨ formP o = 8 ∨ formP o = 9 ∨ formP o = 10 from by omega) with hk | hk | hk | hk | hk | hk | hk | hk | hk | hk
  · exact line_1Z z hz hzt o d s f i t hk h ht
  · exact line_2Z z hz hzt o d s f i t hk h ht
  · exact line_3Z z hz hzt o d s f i t hk h ht
  · exact line_4Z z hz hzt o d s f i t hk h ht
  · exact line_5Z z hz hzt o d s f i t hk h ht
  · exact line_6Z z hz hzt o d s f i t hk h ht
  · exact line_7Z z hz hzt o d s f i t hk h ht
  · exact line_8Z z hz hzt o d s f i t hk h ht
  · exact line_9Z z hz hzt o d s f i t hk h ht
  · exact line_10Z z hz hzt o d s f i t hk h ht hi
end Go.Proofs.YtcjhgihpahnnoaaGreatDoor
