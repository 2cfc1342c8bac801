import Derived.Test.YtkihaohdcgjioaaGreatDoorGr14
namespace Go.Proofs.YtkihaohdcgjioaaGreatDoor
open Go.RowKit
set_option linter.unusedVariables false
set_option linter.unusedSimpArgs false
def r0Of (m : Mn) : RS := ⟨[], [], m.1, 0, m.2.1, m.2.2.1, m.2.2.2, [], false, false⟩
def rzOf (o d s f i : Int) (t : List UInt8) (a b c : Int) (r : RS) : RS :=
  if a = 0 then r else if b = 0 then opE o d s f i t a r else if c = 0 then opE o d s f i t b (opE o d s f i t a r) else opE o d s f i t c (opE o d s f i t b (opE o d s f i t a r))
def wordOk (W : List UInt8) (m : Mn) : Bool := headOk W && W.all runU && (meanOf W == some m)
theorem parse_core (o d s f i : Int) (t : List UInt8) (m : Mn) (a b c : Int) (hW : wordOk (wordP o s f i) m = true) (hT : tOf o s f = (a, b, c)) (hT' : tOf m.1 m.2.1 m.2.2.1 = (a, b, c))
    (ha : ¬ a = 0 → opOk o d s f i t a (r0Of m)) (hb : ¬ a = 0 → ¬ b = 0 → opOk o d s f i t b (opE o d s f i t a (r0Of m))) (hc : ¬ a = 0 → ¬ b = 0 → ¬ c = 0 → opOk o d s f i t c (opE o d s f i t b (opE o d s f i t a (r0Of m))))
    (hz : rzOf o d s f i t a b c (r0Of m) = ⟨[], [], o, d, s, f, i, t, false, false⟩) : parseP (lineP o d s f i t) = ⟨o, d, s, f, i, t, 0⟩ := by
  simp only [wordOk, Bool.and_eq_true, beq_iff_eq] at hW
  obtain ⟨⟨h1, h2⟩, h3⟩ := hW
  unfold lineP
  rw [hT]
  generalize wordP o s f i = W at *
  have hst := tail_stop (a, b, c) (opdTx o d s f i t)
  have htail := tail_at o d s f i t a b c (r0Of m) ha hb hc
  generalize tailP (a, b, c) (opdTx o d s f i t) = T at *
  have hn : newR (W ++ T) = ⟨T, W, 0, 0, 0, 0, 0, [], false, false⟩ := at_run ⟨[], [], 0, 0, 0, 0, 0, [], false, false⟩ W T h1 h2 hst
  have hb2 : behindS m (newR (W ++ T)) = ⟨[], [], o, d, s, f, i, t, false, false⟩ := by
    rw [hn]
    unfold behindS
    rw [hT']
    show opsS (a, b, c) ((r0Of m).at T) = _
    unfold opsS
    rw [htail]
    unfold rzOf at hz
    rw [hz]
    rfl
  have hm : meanOf (newR (W ++ T)).tok = some m := by rw [hn]; exact h3
  unfold parseP
  rw [hm]
  simp only [hb2, Bool.false_eq_true, if_false]
theorem form_ex (op : Int) (h : formP op ≠ 0) : ∃ l ∈ opsT, op ∈ l := by
  apply Classical.byContradiction
  intro hn
  exact h (formIn_none op opsT 0 (fun x hx hop => hn ⟨x, hx, hop⟩))
theorem ops_at (k : Nat) (hk : k < 11) (o : Int) (h : formP o = (k : Int)) (hk0 : ¬ k = 0) : o ∈ opsL k := by
  have h0 : formP o ≠ 0 := by rw [h]; omega
  obtain ⟨l, hl, ho⟩ := form_ex o h0
  have := (show ∀ j : Fin 11, ∀ x ∈ opsL j.val, formP x = (j.val : Int) by decide +kernel)
  obtain ⟨j, hj, e⟩ := List.getElem_of_mem hl
  have hj' : j < 11 := hj
  have e2 : opsL j = l := by rw [← e]; exact getD_lt opsT [] j hj
  have e3 := this ⟨j, hj'⟩ o (by rw [e2]; exact ho)
  rw [h] at e3
  have : j = k := by simp only at e3; omega
  subst this
  rw [e2]
  exact ho
theorem may_parts (o d s f i : Int) (h : mayP o d s f i = 0) : ¬ formP o = 0 ∧ dstP (useD o (formP o)) d = true ∧ srcP (formP o) (useS o (formP o)) s = true ∧ offP o (formP o) (useO o (formP o)) f = true ∧ immP o (formP o) s (useI o (formP o)) i = true := by
  unfold mayP at h
  by_cases hf : formP o = 0
  · rw [if_pos (by simpa using hf)] at h; simp at h
  rw [if_neg (by simpa using hf)] at h
  cases hO : fitO o d s f i
  · rw [hO] at h; simp at h
  simp only [fitO, fitP, Bool.and_eq_true] at hO
  exact ⟨hf, hO.1, hO.2.1, hO.2.2.1, hO.2.2.2⟩
theorem form_le (o : Int) : 0 ≤ formP o ∧ formP o ≤ 10 := by
  by_cases h : formP o = 0
  · rw [h]; decide
  · obtain ⟨l, hl, ho⟩ := form_ex o h
    exact (show ∀ l ∈ opsT, ∀ x ∈ l, 0 ≤ formP x ∧ formP x ≤ 10 by decide +kernel) l hl o ho
theorem line_1 (o d s f i : Int) (t : List UInt8) (hk : formP o = 1) (h : mayP o d s f i = 0) (ht : tfitP o s f i t = true) : parseP (lineP o d s f i t) = ⟨o, d, s, f, i, t, 0⟩ := by
  obtain ⟨_, h1, h2, h3, h4⟩ := may_parts o d s f i h
  have ho := ops_at 1 (by decide) o hk (by decide)
  have : o = 149 := by simpa [opsL, opsT] using ho
  subst this
  have e : useD 149 (formP 149) = false ∧ useS 149 (formP 149) = false ∧ useO 149 (formP 149) = false ∧ useI 149 (formP 149) = false ∧ ordersP 149 = false ∧ formP 149 = 1 := by decide +kernel
  rw [e.1] at h1
  rw [e.2.1, e.2.2.2.2.2] at h2
  rw [e.2.2.1, e.2.2.2.2.2] at h3
  rw [e.2.2.2.1, e.2.2.2.2.2] at h4
  have hd : d = 0 := by simpa [dstP] using h1
  have hs : s = 0 := by simpa [srcP] using h2
  have hf : f = 0 := by simpa [offP] using h3
  have hi : i = 0 := by simpa [immP, e.2.2.2.2.1] using h4
  have htt : t = [] := by simpa [tfitP, hk] using ht
  subst hd hs hf hi htt
  exact parse_core 149 0 0 0 0 [] (149, 0, 0, 0) 0 0 0 (by decide +kernel) (by decide +kernel) (by decide +kernel) (fun h => absurd rfl h) (fun h => absurd rfl h) (fun h => absurd rfl h) rfl
theorem uses_of : ∀ k : Fin 11, ∀ o ∈ opsL k.val, useD o (formP o) = (match k.val with | 1 => false | 7 => false | 9 => false | _ => true) ∧ useS o (formP o) = (match k.val with | 3 => hasSrc o | 4 => true | 5 => (cls o == 3) | 6 => true | 8 => hasSrc o | _ => false) ∧ useO o (formP o) = (match k.val with | 4 => true | 5 => true | 6 => true | 7 => (o == 5) | 8 => true | _ => false) ∧ useI o (formP o) = (match k.val with | 3 => !hasSrc o | 5 => (cls o == 2) | 7 => (o == 6) | 8 => !hasSrc o | 9 => true | 10 => true | _ => false) := by decide +kernel
theorem line_2 (o d s f i : Int) (t : List UInt8) (hk : formP o = 2) (h : mayP o d s f i = 0) (ht : tfitP o s f i t = true) : parseP (lineP o d s f i t) = ⟨o, d, s, f, i, t, 0⟩ := by
  obtain ⟨_, h1, h2, h3, h4⟩ := may_parts o d s f i h
  have ho := ops_at 2 (by decide) o hk (by decide)
  obtain ⟨u1, u2, u3, u4⟩ := uses_of 2 o ho
  simp only at u1 u2 u3 u4
  rw [u1] at h1
  rw [u2, hk] at h2
  rw [u3, hk] at h3
  rw [u4, hk] at h4
  have hd : isReg d = true := by simpa [dstP] using h1
  have hs : s = 0 := by simpa [srcP] using h2
  have hf : f = 0 := by simpa [offP] using h3
  have htt : t = [] := by simpa [tfitP, hk] using ht
  have hi : i ∈ (if ordersP o then [16, 32, 64] else [0] : List Int) := by
    cases hz : ordersP o
    · simpa [immP, hz] using h4
    · have := h4
      simp [immP, hz] at this
      simp
      omega
  subst hs hf htt
  have hA : ∀ o ∈ opsL 2, ∀ i ∈ (if ordersP o then [16, 32, 64] else [0] : List Int), wordOk (wordP o 0 0 i) (o, 0, 0, i) = true ∧ tOf o 0 0 = (1, 0, 0) := by decide +kernel
  obtain ⟨a1, a2⟩ := hA o ho i hi
  refine parse_core o d 0 0 i [] (o, 0, 0, i) 1 0 0 a1 a2 a2 (fun _ => .inl ⟨rfl, hd⟩) (fun _ h => absurd rfl h) (fun _ h => absurd rfl h) rfl
theorem imm32 {i : Int} (h : (decide (-2147483648 ≤ i) && decide (i ≤ 2147483647)) = true) (r : RS) (hr : ¬ r.o = 24) : immOk i r := by
  simp only [Bool.and_eq_true, decide_eq_true_eq] at h
  unfold immOk
  rw [if_neg hr]
  omega
theorem off16 {f : Int} (h : (decide (-32768 ≤ f) && decide (f ≤ 32767)) = true) : -32768 ≤ f ∧ f < 32768 := by
  simp only [Bool.and_eq_true, decide_eq_true_eq] at h
  omega
theorem w3 (o s f i : Int) (ho : o ∈ opsL 3) : wordP o s f i = wordP o 0 f 0 := by
  have hA : ∀ o ∈ opsL 3, ¬ cls o = 0 ∧ (cls o = 7 ∨ cls o = 4) ∧ ¬ shrO o = 13 := by decide +kernel
  obtain ⟨a1, a2, a3⟩ := hA o ho
  have e : ∀ s i, wordP o s f i = wReck o f 0 := by
    intro s i
    unfold wordP wReck
    rw [if_neg a1, if_neg a3, if_neg a3]
    rcases a2 with a2 | a2
    · rw [if_pos a2]
    · rw [if_pos a2]
      split <;> rfl
  rw [e, e]
theorem variant_in {o f : Int} (h : variantP o f = true) : f ∈ ([0, 1, 8, 16, 32] : List Int) := by
  unfold variantP at h
  repeat' split at h
  all_goals simp at h
  all_goals simp
  all_goals omega
def mo3 (o f : Int) : Int := if 8 ≤ f then o else if hasSrc o then o - 8 else o
theorem line_3 (o d s f i : Int) (t : List UInt8) (hk : formP o = 3) (h : mayP o d s f i = 0) (ht : tfitP o s f i t = true) : parseP (lineP o d s f i t) = ⟨o, d, s, f, i, t, 0⟩ := by
  obtain ⟨_, h1, h2, h3, h4⟩ := may_parts o d s f i h
  have ho := ops_at 3 (by decide) o hk (by decide)
  have u1 : useD o (formP o) = true := (uses_of 3 o ho).1
  have u2 : useS o (formP o) = (hasSrc o) := (uses_of 3 o ho).2.1
  have u3 : useO o (formP o) = false := (uses_of 3 o ho).2.2.1
  have u4 : useI o (formP o) = (!hasSrc o) := (uses_of 3 o ho).2.2.2
  rw [u1] at h1
  rw [u2, hk] at h2
  rw [u3, hk] at h3
  rw [u4, hk] at h4
  have hd : isReg d = true := by simpa [dstP] using h1
  have htt : t = [] := by simpa [tfitP, hk] using ht
  have hf : (f == 0 || variantP o f) = true := by
    unfold offP at h3
    simp only [Bool.false_eq_true, if_false] at h3
    split at h3
    · rename_i hz; simp [hz]
    · simp only [beq_self_eq_true, if_true] at h3; simp [h3]
  have hfi : f ∈ ([0, 1, 8, 16, 32] : List Int) := by
    by_cases hz : f = 0
    · simp [hz]
    · exact variant_in (by simpa [hz] using hf)
  subst htt
  have hA : ∀ o ∈ opsL 3, ∀ f ∈ ([0, 1, 8, 16, 32] : List Int), (f == 0 || variantP o f) = true → wordOk (wordP o 0 f 0) (mo3 o f, 0, f, 0) = true ∧ formP (mo3 o f) = 3 ∧ (8 ≤ f → hasSrc o = true) ∧ (¬ 8 ≤ f → hasSrc o = true → orB (mo3 o f) = o) ∧ (hasSrc o = false → mo3 o f = o) ∧ ordersP o = false ∧ ¬ o = 24 := by decide +kernel
  obtain ⟨a1, a2, a3, a4, a5, a6, a7⟩ := hA o ho f hfi hf
  have hW : wordOk (wordP o s f i) (mo3 o f, 0, f, 0) = true := by rw [w3 o s f i ho]; exact a1
  cases hx : hasSrc o
  · rw [hx] at h2 h4
    have hs : s = 0 := by simpa [srcP] using h2
    have h8 : ¬ 8 ≤ f := fun h8 => by rw [a3 h8] at hx; cases hx
    have hi : (decide (-2147483648 ≤ i) && decide (i ≤ 2147483647)) = true := by simpa [immP] using h4
    have e1 : tOf o s f = (1, 4, 0) := by unfold tOf opdsP; rw [hk, if_pos rfl, if_neg h8]
    have e2 : tOf (mo3 o f) 0 f = (1, 4, 0) := by unfold tOf opdsP; rw [a2, if_pos rfl, if_neg h8]
    subst hs
    refine parse_core o d 0 f i [] (mo3 o f, 0, f, 0) 1 4 0 hW e1 e2 (fun _ => .inl ⟨rfl, hd⟩) (fun _ _ => .inr (.inr (.inr (.inr (.inl ⟨rfl, hx, ?_⟩))))) (fun _ _ h => absurd rfl h) ?_
    · exact imm32 hi _ (by show ¬ mo3 o f = 24; rw [a5 hx]; exact a7)
    · show (if hasSrc o then _ else _) = _
      rw [hx]
      show ({ r0Of (mo3 o f, 0, f, 0) with d := d, i := i } : RS) = _
      unfold r0Of
      simp only [a5 hx]
  · rw [hx] at h2 h4
    have hs : isReg s = true := by simpa [srcP] using h2
    have hi : i = 0 := by simpa [immP, a6] using h4
    subst hi
    by_cases h8 : 8 ≤ f
    · have e1 : tOf o s f = (1, 2, 0) := by unfold tOf opdsP; rw [hk, if_pos rfl, if_pos h8]
      have em : mo3 o f = o := by unfold mo3; rw [if_pos h8]
      have e2 : tOf (mo3 o f) 0 f = (1, 2, 0) := by unfold tOf opdsP; rw [a2, if_pos rfl, if_pos h8]
      refine parse_core o d s f 0 [] (mo3 o f, 0, f, 0) 1 2 0 hW e1 e2 (fun _ => .inl ⟨rfl, hd⟩) (fun _ _ => .inr (.inl ⟨rfl, hs⟩)) (fun _ _ h => absurd rfl h) ?_
      rw [em]
      rfl
    · have e1 : tOf o s f = (1, 4, 0) := by unfold tOf opdsP; rw [hk, if_pos rfl, if_neg h8]
      have e2 : tOf (mo3 o f) 0 f = (1, 4, 0) := by unfold tOf opdsP; rw [a2, if_pos rfl, if_neg h8]
      refine parse_core o d s f 0 [] (mo3 o f, 0, f, 0) 1 4 0 hW e1 e2 (fun _ => .inl ⟨rfl, hd⟩) (fun _ _ => .inr (.inr (.inr (.inl ⟨rfl, hx, hs⟩)))) (fun _ _ h => absurd rfl h) ?_
      show (if hasSrc o then _ else _) = _
      rw [hx]
      show ({ r0Of (mo3 o f, 0, f, 0) with d := d, o := orB (mo3 o f), s := s } : RS) = _
      unfold r0Of
      simp only [a4 h8 hx]
theorem wM (o s f i : Int) (h0 : ¬ cls o = 0 ∧ ¬ cls o = 7 ∧ ¬ cls o = 4 ∧ ¬ cls o = 5 ∧ ¬ cls o = 6) : wordP o s f i = wMem o i := by
  unfold wordP
  rw [if_neg h0.1, if_neg h0.2.1, if_neg h0.2.2.1, if_neg h0.2.2.2.1, if_neg h0.2.2.2.2]
theorem wM_some (o i : Int) (h : (memT.find? (fun r => bits .andNot .i64 o 24 == r.1)).isSome = true) : wMem o i = wMem o 0 := by
  unfold wMem
  split
  · rfl
  · rename_i h'; rw [h'] at h; cases h
theorem line_4 (o d s f i : Int) (t : List UInt8) (hk : formP o = 4) (h : mayP o d s f i = 0) (ht : tfitP o s f i t = true) : parseP (lineP o d s f i t) = ⟨o, d, s, f, i, t, 0⟩ := by
  obtain ⟨_, h1, h2, h3, h4⟩ := may_parts o d s f i h
  have ho := ops_at 4 (by decide) o hk (by decide)
  have u1 : useD o (formP o) = true := (uses_of 4 o ho).1
  have u2 : useS o (formP o) = (true) := (uses_of 4 o ho).2.1
  have u3 : useO o (formP o) = true := (uses_of 4 o ho).2.2.1
  have u4 : useI o (formP o) = (false) := (uses_of 4 o ho).2.2.2
  rw [u1] at h1
  rw [u2, hk] at h2
  rw [u3, hk] at h3
  rw [u4, hk] at h4
  have hA : ∀ o ∈ opsL 4, wordOk (wordP o 0 0 0) (o, 0, 0, 0) = true ∧ (¬ cls o = 0 ∧ ¬ cls o = 7 ∧ ¬ cls o = 4 ∧ ¬ cls o = 5 ∧ ¬ cls o = 6) ∧ ordersP o = false := by decide +kernel
  obtain ⟨a1, a2, a4⟩ := hA o ho
  have hd : isReg d = true := by simpa [dstP] using h1
  have hs : isReg s = true := by simpa [srcP] using h2
  have hf := off16 (f := f) (by simpa [offP] using h3)
  have hi : i = 0 := by simpa [immP, a4] using h4
  have htt : t = [] := by simpa [tfitP, hk] using ht
  subst hi htt
  have e1 : tOf o s f = (1, 5, 0) := by unfold tOf opdsP; rw [hk]; rfl
  have e2 : tOf o 0 0 = (1, 5, 0) := by unfold tOf opdsP; rw [hk]; rfl
  have hW : wordOk (wordP o s f 0) (o, 0, 0, 0) = true := by rw [wM o s f 0 a2]; rw [wM o 0 0 0 a2] at a1; exact a1
  exact parse_core o d s f 0 [] (o, 0, 0, 0) 1 5 0 hW e1 e2 (fun _ => .inl ⟨rfl, hd⟩) (fun _ _ => .inr (.inr (.inr (.inr (.inr (.inl ⟨rfl, hs, hf⟩)))))) (fun _ _ h => absurd rfl h) rfl
theorem line_5 (o d s f i : Int) (t : List UInt8) (hk : formP o = 5) (h : mayP o d s f i = 0) (ht : tfitP o s f i t = true) : parseP (lineP o d s f i t) = ⟨o, d, s, f, i, t, 0⟩ := by
  obtain ⟨_, h1, h2, h3, h4⟩ := may_parts o d s f i h
  have ho := ops_at 5 (by decide) o hk (by decide)
  have u1 : useD o (formP o) = true := (uses_of 5 o ho).1
  have u2 : useS o (formP o) = ((cls o == 3)) := (uses_of 5 o ho).2.1
  have u3 : useO o (formP o) = true := (uses_of 5 o ho).2.2.1
  have u4 : useI o (formP o) = ((cls o == 2)) := (uses_of 5 o ho).2.2.2
  have hA : ∀ o ∈ opsL 5, wordOk (wordP o 0 0 0) (o, 0, 0, 0) = true ∧ (¬ cls o = 0 ∧ ¬ cls o = 7 ∧ ¬ cls o = 4 ∧ ¬ cls o = 5 ∧ ¬ cls o = 6) ∧ ordersP o = false ∧ (memT.find? (fun r => bits .andNot .i64 o 24 == r.1)).isSome = true ∧ (cls o == 2) = !(cls o == 3) ∧ ¬ o = 24 := by decide +kernel
  obtain ⟨a1, a2, a4, a5, a6, a7⟩ := hA o ho
  rw [a6] at u4
  have u2' := u2
  rw [u1] at h1
  rw [u2, hk] at h2
  rw [u3, hk] at h3
  rw [u4, hk] at h4
  have hd : isReg d = true := by simpa [dstP] using h1
  have hf := off16 (f := f) (by simpa [offP] using h3)
  have htt : t = [] := by simpa [tfitP, hk] using ht
  subst htt
  have hW : wordOk (wordP o s f i) (o, 0, 0, 0) = true := by rw [wM o s f i a2, wM_some o i a5]; rw [wM o 0 0 0 a2] at a1; exact a1
  cases hx : (cls o == 3)
  · rw [hx] at h2 h4 u2'
    have hs : s = 0 := by simpa [srcP] using h2
    have hi : (decide (-2147483648 ≤ i) && decide (i ≤ 2147483647)) = true := by simpa [immP] using h4
    have e1 : tOf o s f = (6, 3, 0) := by unfold tOf opdsP; rw [u2', hk]; rfl
    have e2 : tOf o 0 0 = (6, 3, 0) := by unfold tOf opdsP; rw [u2', hk]; rfl
    subst hs
    exact parse_core o d 0 f i [] (o, 0, 0, 0) 6 3 0 hW e1 e2 (fun _ => .inr (.inr (.inr (.inr (.inr (.inr (.inl ⟨rfl, hd, hf⟩))))))) (fun _ _ => .inr (.inr (.inl ⟨rfl, imm32 hi _ a7⟩))) (fun _ _ h => absurd rfl h) rfl
  · rw [hx] at h2 h4 u2'
    have hs : isReg s = true := by simpa [srcP] using h2
    have hi : i = 0 := by simpa [immP, a4] using h4
    have e1 : tOf o s f = (6, 2, 0) := by unfold tOf opdsP; rw [u2', hk]; rfl
    have e2 : tOf o 0 0 = (6, 2, 0) := by unfold tOf opdsP; rw [u2', hk]; rfl
    subst hi
    exact parse_core o d s f 0 [] (o, 0, 0, 0) 6 2 0 hW e1 e2 (fun _ => .inr (.inr (.inr (.inr (.inr (.inr (.inl ⟨rfl, hd, hf⟩))))))) (fun _ _ => .inr (.inl ⟨rfl, hs⟩)) (fun _ _ h => absurd rfl h) rfl
theorem line_6 (o d s f i : Int) (t : List UInt8) (hk : formP o = 6) (h : mayP o d s f i = 0) (ht : tfitP o s f i t = true) : parseP (lineP o d s f i t) = ⟨o, d, s, f, i, t, 0⟩ := by
  obtain ⟨_, h1, h2, h3, h4⟩ := may_parts o d s f i h
  have ho := ops_at 6 (by decide) o hk (by decide)
  have u1 : useD o (formP o) = true := (uses_of 6 o ho).1
  have u2 : useS o (formP o) = (true) := (uses_of 6 o ho).2.1
  have u3 : useO o (formP o) = true := (uses_of 6 o ho).2.2.1
  have u4 : useI o (formP o) = (false) := (uses_of 6 o ho).2.2.2
  have u2' := u2
  rw [u1] at h1
  rw [u2, hk] at h2
  rw [u3, hk] at h3
  rw [u4, hk] at h4
  have hA : ∀ o ∈ opsL 6, ∀ i ∈ immsT, wordOk (wordP o 0 0 i) (o, 0, 0, i) = true ∧ (¬ cls o = 0 ∧ ¬ cls o = 7 ∧ ¬ cls o = 4 ∧ ¬ cls o = 5 ∧ ¬ cls o = 6) := by decide +kernel
  have hi : i ∈ immsT := by simpa [immP, atomP] using h4
  obtain ⟨a1, a2⟩ := hA o ho i hi
  have hd : isReg d = true := by simpa [dstP] using h1
  have hs : isReg s = true := by simpa [srcP] using h2
  have hf := off16 (f := f) (by simpa [offP] using h3)
  have htt : t = [] := by simpa [tfitP, hk] using ht
  subst htt
  have hW : wordOk (wordP o s f i) (o, 0, 0, i) = true := by rw [wM o s f i a2]; rw [wM o 0 0 i a2] at a1; exact a1
  have e1 : tOf o s f = (6, 2, 0) := by unfold tOf opdsP; rw [u2', hk]; rfl
  have e2 : tOf o 0 0 = (6, 2, 0) := by unfold tOf opdsP; rw [u2', hk]; rfl
  exact parse_core o d s f i [] (o, 0, 0, i) 6 2 0 hW e1 e2 (fun _ => .inr (.inr (.inr (.inr (.inr (.inr (.inl ⟨rfl, hd, hf⟩))))))) (fun _ _ => .inr (.inl ⟨rfl, hs⟩)) (fun _ _ h => absurd rfl h) rfl
theorem wJ (o s f i : Int) (h0 : ¬ cls o = 0 ∧ ¬ cls o = 7 ∧ ¬ cls o = 4 ∧ (cls o = 5 ∨ cls o = 6)) : wordP o s f i = wordP o 0 0 0 := by
  have e : ∀ s f i, wordP o s f i = if cls o = 5 then pick2 jumpT (shrO o) false else pick2 jumpT (shrO o) true := by
    intro s f i
    unfold wordP
    rw [if_neg h0.1, if_neg h0.2.1, if_neg h0.2.2.1]
    rcases h0.2.2.2 with h5 | h5
    · rw [if_pos h5, if_pos h5]
    · rw [if_neg (show ¬ cls o = 5 by omega), if_pos h5, if_neg (show ¬ cls o = 5 by omega)]
  rw [e, e]
theorem line_7 (o d s f i : Int) (t : List UInt8) (hk : formP o = 7) (h : mayP o d s f i = 0) (ht : tfitP o s f i t = true) : parseP (lineP o d s f i t) = ⟨o, d, s, f, i, t, 0⟩ := by
  obtain ⟨_, h1, h2, h3, h4⟩ := may_parts o d s f i h
  have ho := ops_at 7 (by decide) o hk (by decide)
  have u1 : useD o (formP o) = false := (uses_of 7 o ho).1
  have u2 : useS o (formP o) = (false) := (uses_of 7 o ho).2.1
  have u3 : useO o (formP o) = (o == 5) := (uses_of 7 o ho).2.2.1
  have u4 : useI o (formP o) = ((o == 6)) := (uses_of 7 o ho).2.2.2
  rw [u1] at h1
  rw [u2, hk] at h2
  have hA : ∀ o ∈ opsL 7, wordOk (wordP o 0 0 0) (o, 0, 0, 0) = true ∧ (¬ cls o = 0 ∧ ¬ cls o = 7 ∧ ¬ cls o = 4 ∧ (cls o = 5 ∨ cls o = 6)) := by decide +kernel
  obtain ⟨a1, a2⟩ := hA o ho
  have hd : d = 0 := by simpa [dstP] using h1
  have hs : s = 0 := by simpa [srcP] using h2
  have htt : nameP t = true ∧ f = 0 ∧ i = 0 := by simpa [tfitP, hk, and_assoc] using ht
  obtain ⟨hn, hf, hi⟩ := htt
  subst hd hs hf hi
  have e1 : tOf o 0 0 = (7, 0, 0) := by unfold tOf opdsP; rw [hk]; rfl
  exact parse_core o 0 0 0 0 t (o, 0, 0, 0) 7 0 0 a1 e1 e1 (fun _ => .inr (.inr (.inr (.inr (.inr (.inr (.inr (.inl ⟨rfl, hn⟩)))))))) (fun _ h => absurd rfl h) (fun _ h => absurd rfl h) rfl
theorem line_8 (o d s f i : Int) (t : List UInt8) (hk : formP o = 8) (h : mayP o d s f i = 0) (ht : tfitP o s f i t = true) : parseP (lineP o d s f i t) = ⟨o, d, s, f, i, t, 0⟩ := by
  obtain ⟨_, h1, h2, h3, h4⟩ := may_parts o d s f i h
  have ho := ops_at 8 (by decide) o hk (by decide)
  have u1 : useD o (formP o) = true := (uses_of 8 o ho).1
  have u2 : useS o (formP o) = (hasSrc o) := (uses_of 8 o ho).2.1
  have u3 : useO o (formP o) = true := (uses_of 8 o ho).2.2.1
  have u4 : useI o (formP o) = (!hasSrc o) := (uses_of 8 o ho).2.2.2
  rw [u1] at h1
  rw [u2, hk] at h2
  rw [u4, hk] at h4
  have hA : ∀ o ∈ opsL 8, wordOk (wordP o 0 0 0) (mo3 o 0, 0, 0, 0) = true ∧ (¬ cls o = 0 ∧ ¬ cls o = 7 ∧ ¬ cls o = 4 ∧ (cls o = 5 ∨ cls o = 6)) ∧ formP (mo3 o 0) = 8 ∧ (hasSrc o = true → orB (mo3 o 0) = o) ∧ (hasSrc o = false → mo3 o 0 = o) ∧ ordersP o = false ∧ ¬ o = 24 := by decide +kernel
  obtain ⟨a1, a2, a3, a4, a5, a6, a7⟩ := hA o ho
  have hd : isReg d = true := by simpa [dstP] using h1
  have htt : nameP t = true ∧ f = 0 := by simpa [tfitP, hk, and_assoc] using ht
  obtain ⟨hn, hf⟩ := htt
  subst hf
  have e1 : tOf o s 0 = (1, 4, 7) := by unfold tOf opdsP; rw [hk]; rfl
  have e2 : tOf (mo3 o 0) 0 0 = (1, 4, 7) := by unfold tOf opdsP; rw [a3]; rfl
  have hW : wordOk (wordP o s 0 i) (mo3 o 0, 0, 0, 0) = true := by rw [wJ o s 0 i a2]; exact a1
  cases hx : hasSrc o
  · rw [hx] at h2 h4
    have hs : s = 0 := by simpa [srcP] using h2
    have hi : (decide (-2147483648 ≤ i) && decide (i ≤ 2147483647)) = true := by simpa [immP] using h4
    subst hs
    refine parse_core o d 0 0 i t (mo3 o 0, 0, 0, 0) 1 4 7 hW e1 e2 (fun _ => .inl ⟨rfl, hd⟩) (fun _ _ => .inr (.inr (.inr (.inr (.inl ⟨rfl, hx, ?_⟩))))) (fun _ _ _ => .inr (.inr (.inr (.inr (.inr (.inr (.inr (.inl ⟨rfl, hn⟩)))))))) ?_
    · exact imm32 hi _ (by show ¬ mo3 o 0 = 24; rw [a5 hx]; exact a7)
    · have e4 : opE o d 0 0 i t 4 (opE o d 0 0 i t 1 (r0Of (mo3 o 0, 0, 0, 0))) = { r0Of (mo3 o 0, 0, 0, 0) with d := d, i := i } := by
        show (if hasSrc o then _ else _) = _
        rw [hx]
        rfl
      show { opE o d 0 0 i t 4 (opE o d 0 0 i t 1 (r0Of (mo3 o 0, 0, 0, 0))) with tgt := t } = _
      rw [e4]
      unfold r0Of
      simp only [a5 hx]
  · rw [hx] at h2 h4
    have hs : isReg s = true := by simpa [srcP] using h2
    have hi : i = 0 := by simpa [immP, a6] using h4
    subst hi
    refine parse_core o d s 0 0 t (mo3 o 0, 0, 0, 0) 1 4 7 hW e1 e2 (fun _ => .inl ⟨rfl, hd⟩) (fun _ _ => .inr (.inr (.inr (.inl ⟨rfl, hx, hs⟩)))) (fun _ _ _ => .inr (.inr (.inr (.inr (.inr (.inr (.inr (.inl ⟨rfl, hn⟩)))))))) ?_
    have e4 : opE o d s 0 0 t 4 (opE o d s 0 0 t 1 (r0Of (mo3 o 0, 0, 0, 0))) = { r0Of (mo3 o 0, 0, 0, 0) with d := d, o := orB (mo3 o 0), s := s } := by
      show (if hasSrc o then _ else _) = _
      rw [hx]
      rfl
    show { opE o d s 0 0 t 4 (opE o d s 0 0 t 1 (r0Of (mo3 o 0, 0, 0, 0))) with tgt := t } = _
    rw [e4]
    unfold r0Of
    simp only [a4 hx]
theorem line_9 (o d s f i : Int) (t : List UInt8) (hk : formP o = 9) (h : mayP o d s f i = 0) (ht : tfitP o s f i t = true) : parseP (lineP o d s f i t) = ⟨o, d, s, f, i, t, 0⟩ := by
  obtain ⟨_, h1, h2, h3, h4⟩ := may_parts o d s f i h
  have ho := ops_at 9 (by decide) o hk (by decide)
  have u1 : useD o (formP o) = false := (uses_of 9 o ho).1
  have u2 : useS o (formP o) = (false) := (uses_of 9 o ho).2.1
  have u3 : useO o (formP o) = false := (uses_of 9 o ho).2.2.1
  have u4 : useI o (formP o) = (true) := (uses_of 9 o ho).2.2.2
  rw [u1] at h1
  rw [u2, hk] at h2
  rw [u3, hk] at h3
  rw [u4, hk] at h4
  have hA : ∀ o ∈ opsL 9, wordOk (wordP o 0 0 0) (o, 0, 0, 0) = true ∧ (¬ cls o = 0 ∧ ¬ cls o = 7 ∧ ¬ cls o = 4 ∧ (cls o = 5 ∨ cls o = 6)) ∧ ¬ o = 24 := by decide +kernel
  obtain ⟨a1, a2, a7⟩ := hA o ho
  have hd : d = 0 := by simpa [dstP] using h1
  have hs : s = 0 ∨ s = 1 := by simpa [srcP] using h2
  have hf : f = 0 := by simpa [offP] using h3
  have hi : (decide (-2147483648 ≤ i) && decide (i ≤ 2147483647)) = true := by simpa [immP] using h4
  subst hd hf
  have e1 : tOf o s 0 = (8, 0, 0) := by unfold tOf opdsP; rw [hk]; rfl
  have e2 : tOf o 0 0 = (8, 0, 0) := by unfold tOf opdsP; rw [hk]; rfl
  have hW : wordOk (wordP o s 0 i) (o, 0, 0, 0) = true := by rw [wJ o s 0 i a2]; exact a1
  rcases hs with rfl | rfl
  · have htt : t = [] := by simpa [tfitP, hk] using ht
    subst htt
    exact parse_core o 0 0 0 i [] (o, 0, 0, 0) 8 0 0 hW e1 e2 (fun _ => .inr (.inr (.inr (.inr (.inr (.inr (.inr (.inr (.inr ⟨rfl, by decide, imm32 hi _ a7⟩))))))))) (fun _ h => absurd rfl h) (fun _ h => absurd rfl h) rfl
  · have htt : nameP t = true ∧ i = -1 := by simpa [tfitP, hk] using ht
    obtain ⟨hn, rfl⟩ := htt
    exact parse_core o 0 1 0 (-1) t (o, 0, 0, 0) 8 0 0 hW e1 e2 (fun _ => .inr (.inr (.inr (.inr (.inr (.inr (.inr (.inr (.inl ⟨rfl, rfl, hn⟩))))))))) (fun _ h => absurd rfl h) (fun _ h => absurd rfl h) rfl
theorem line_10 (o d s f i : Int) (t : List UInt8) (hk : formP o = 10) (h : mayP o d s f i = 0) (ht : tfitP o s f i t = true) (hi : -9223372036854775808 ≤ i ∧ i < 9223372036854775808) : parseP (lineP o d s f i t) = ⟨o, d, s, f, i, t, 0⟩ := by
  obtain ⟨_, h1, h2, h3, h4⟩ := may_parts o d s f i h
  have ho := ops_at 10 (by decide) o hk (by decide)
  have u1 : useD o (formP o) = true := (uses_of 10 o ho).1
  have u2 : useS o (formP o) = (false) := (uses_of 10 o ho).2.1
  have u3 : useO o (formP o) = false := (uses_of 10 o ho).2.2.1
  have u4 : useI o (formP o) = (true) := (uses_of 10 o ho).2.2.2
  rw [u1] at h1
  rw [u2, hk] at h2
  rw [u3, hk] at h3
  have ho' : o = 24 := by simpa [opsL, opsT] using ho
  subst ho'
  have hd : isReg d = true := by simpa [dstP] using h1
  have hs : s = 0 ∨ s = 1 := by simpa [srcP] using h2
  have hf : f = 0 := by simpa [offP] using h3
  subst hf
  rcases hs with rfl | rfl
  · have htt : t = [] := by simpa [tfitP, hk] using ht
    subst htt
    exact parse_core 24 d 0 0 i [] (24, 0, 0, 0) 1 3 0 (by rw [show wordP 24 0 0 i = wordP 24 0 0 0 from rfl]; decide +kernel) (by decide +kernel) (by decide +kernel) (fun _ => .inl ⟨rfl, hd⟩) (fun _ _ => .inr (.inr (.inl ⟨rfl, by show (if (24 : Int) = 24 then _ else _); rw [if_pos rfl]; exact hi⟩))) (fun _ _ h => absurd rfl h) rfl
  · have htt : nameP t = true ∧ i = 0 := by simpa [tfitP, hk] using ht
    obtain ⟨hn, rfl⟩ := htt
    exact parse_core 24 d 1 0 0 t (24, 1, 0, 0) 1 7 0 (by decide +kernel) (by decide +kernel) (by decide +kernel) (fun _ => .inl ⟨rfl, hd⟩) (fun _ _ => .inr (.inr (.inr (.inr (.inr (.inr (.inr (.inl ⟨rfl, hn⟩)))))))) (fun _ _ h => absurd rfl h) rfl
theorem parse_line (o d s f i : Int) (t : List UInt8) (h : mayP o d s f i = 0) (ht : tfitP o s f i t = true) (hi : -9223372036854775808 ≤ i ∧ i < 9223372036854775808) : parseP (lineP o d s f i t) = ⟨o, d, s, f, i, t, 0⟩ := by
  have hn := (may_parts o d s f i h).1
  have hle := form_le o
  rcases (show formP o = 1 ∨ formP o = 2 ∨ formP o = 3 ∨ formP o = 4 ∨ formP o = 5 ∨ formP o = 6 ∨ formP o = 7 ∨ formP o = 8 ∨ formP o = 9 ∨ formP o = 10 from by omega) with hk | hk | hk | hk | hk | hk | hk | hk | hk | hk
  · exact line_1 o d s f i t hk h ht
  · exact line_2 o d s f i t hk h ht
  · exact line_3 o d s f i t hk h ht
  · exact line_4 o d s f i t hk h ht
  · exact line_5 o d s f i t hk h ht
  · exact line_6 o d s f i t hk h ht
  · exact line_7 o d s f i t hk h ht
  · exact line_8 o d s f i t hk h ht
  · exact line_9 o d s f i t hk h ht
  · exact line_10 o d s f i t hk h ht hi
end Go.Proofs.YtkihaohdcgjioaaGreatDoor
