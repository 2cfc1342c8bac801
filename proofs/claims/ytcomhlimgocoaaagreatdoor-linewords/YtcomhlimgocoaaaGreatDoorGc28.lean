import Derived.Test.YtcomhlimgocoaaaGreatDoorGc27
namespace Go.Proofs.YtcomhlimgocoaaaGreatDoor
open Go.RowKit
set_option linter.unusedVariables false
set_option linter.unusedSimpArgs false
theorem Steps.inv {c : Int} {l : List Int} {r : RS} {x : Int × Int × Int × Int × Int × List UInt8} (h : Steps (c :: l) r x) : ∃ r', EffOk r c (flds r') ∧ Steps l r' x := by
  cases h with
  | cons _ _ _ r' _ h1 h2 => exact ⟨r', h1, h2⟩
theorem Steps.inv0 {r : RS} {x : Int × Int × Int × Int × Int × List UInt8} (h : Steps [] r x) : x = flds r := by
  cases h
  rfl
theorem eff_1 {r : RS} {c : Int} {y : Int × Int × Int × Int × Int × List UInt8} (h : EffOk r c y) (hc : c = 1) : ∃ d, isReg d = true ∧ y = (r.o, d, r.s, r.f, r.i, r.tgt) := by
  cases h <;> first | exact ⟨_, ‹_›, rfl⟩ | exact absurd hc (by decide)
theorem eff_2 {r : RS} {c : Int} {y : Int × Int × Int × Int × Int × List UInt8} (h : EffOk r c y) (hc : c = 2) : ∃ s, isReg s = true ∧ y = (r.o, r.d, s, r.f, r.i, r.tgt) := by
  cases h <;> first | exact ⟨_, ‹_›, rfl⟩ | exact absurd hc (by decide)
theorem eff_3 {r : RS} {c : Int} {y : Int × Int × Int × Int × Int × List UInt8} (h : EffOk r c y) (hc : c = 3) : ∃ i, immOk i r ∧ y = (r.o, r.d, r.s, r.f, i, r.tgt) := by
  cases h <;> first | exact ⟨_, ‹_›, rfl⟩ | exact absurd hc (by decide)
theorem eff_4 {r : RS} {c : Int} {y : Int × Int × Int × Int × Int × List UInt8} (h : EffOk r c y) (hc : c = 4) : (∃ s, isReg s = true ∧ y = (orB r.o, r.d, s, r.f, r.i, r.tgt)) ∨ (∃ i, immOk i r ∧ y = (r.o, r.d, r.s, r.f, i, r.tgt)) := by
  cases h <;> first | exact .inl ⟨_, ‹_›, rfl⟩ | exact .inr ⟨_, ‹_›, rfl⟩ | exact absurd hc (by decide)
theorem eff_5 {r : RS} {c : Int} {y : Int × Int × Int × Int × Int × List UInt8} (h : EffOk r c y) (hc : c = 5) : ∃ s f, isReg s = true ∧ (-32768 ≤ f ∧ f < 32768) ∧ y = (r.o, r.d, s, f, r.i, r.tgt) := by
  cases h <;> first | exact ⟨_, _, ‹_›, ‹_›, rfl⟩ | exact absurd hc (by decide)
theorem eff_6 {r : RS} {c : Int} {y : Int × Int × Int × Int × Int × List UInt8} (h : EffOk r c y) (hc : c = 6) : ∃ d f, isReg d = true ∧ (-32768 ≤ f ∧ f < 32768) ∧ y = (r.o, d, r.s, f, r.i, r.tgt) := by
  cases h <;> first | exact ⟨_, _, ‹_›, ‹_›, rfl⟩ | exact absurd hc (by decide)
theorem eff_7 {r : RS} {c : Int} {y : Int × Int × Int × Int × Int × List UInt8} (h : EffOk r c y) (hc : c = 7) : ∃ t, nameP t = true ∧ y = (r.o, r.d, r.s, r.f, r.i, t) := by
  cases h <;> first | exact ⟨_, ‹_›, rfl⟩ | exact absurd hc (by decide)
theorem eff_8 {r : RS} {c : Int} {y : Int × Int × Int × Int × Int × List UInt8} (h : EffOk r c y) (hc : c = 8) : (∃ t, nameP t = true ∧ y = (r.o, r.d, 1, r.f, -1, t)) ∨ (∃ i, immOk i r ∧ y = (r.o, r.d, r.s, r.f, i, r.tgt)) := by
  cases h <;> first | exact .inl ⟨_, ‹_›, rfl⟩ | exact .inr ⟨_, ‹_›, rfl⟩ | exact absurd hc (by decide)
theorem flds_mk {r : RS} {o d s f i : Int} {t : List UInt8} (h : flds r = (o, d, s, f, i, t)) : r.o = o ∧ r.d = d ∧ r.s = s ∧ r.f = f ∧ r.i = i ∧ r.tgt = t := by simpa [flds] using h
theorem off_0 (o fm : Int) (z : Bool) : offP o fm z 0 = true := by unfold offP; cases z <;> rfl
theorem law_1 (r : RS) (x) (hr : flds r = (149, 0, 0, 0, 0, [])) (h : Steps (listOf (tOf 149 0 0)) r x) : Lawful x := by
  rw [show listOf (tOf 149 0 0) = [] from by decide +kernel] at h
  rw [h.inv0, hr]
  exact ⟨by decide +kernel, by decide +kernel, by decide, by decide⟩
theorem law_2 (r : RS) (x) (o i : Int) (hk : formP o = 2) (ho : o ∈ opsL 2) (hi : immP o 2 0 false i = true) (hi' : 0 ≤ i ∧ i < 256) (hr : flds r = (o, 0, 0, 0, i, [])) (h : Steps (listOf (tOf o 0 0)) r x) : Lawful x := by
  rw [show listOf (tOf o 0 0) = [1] from by unfold tOf opdsP; rw [hk]; rfl] at h
  obtain ⟨r1, e1, h⟩ := h.inv
  obtain ⟨d, hd, e1⟩ := eff_1 e1 rfl
  obtain ⟨q1, q2, q3, q4, q5, q6⟩ := flds_mk hr
  rw [h.inv0, e1, q1, q3, q4, q5, q6]
  have u1 : useD o (formP o) = true := (uses_of 2 o ho).1
  have u2 : useS o (formP o) = false := (uses_of 2 o ho).2.1
  have u4 : useI o (formP o) = false := (uses_of 2 o ho).2.2.2
  refine ⟨may_mk o d 0 0 i (by rw [hk]; decide) (by rw [u1]; exact hd) (by rw [u2, hk]; rfl) (off_0 _ _ _) (by rw [u4, hk]; exact hi), ?_, by show _ ≤ i; omega, by show i < _; omega⟩
  show tfitP o 0 0 i [] = true
  unfold tfitP
  rw [hk]
  rfl
theorem law_3 (r : RS) (x) (o f : Int) (hk : formP o = 3) (ho : o ∈ opsL 3) (hz : ordersP o = false) (h24 : ¬ o = 24) (hf : (f == 0 || variantP o f) = true) (h8 : 8 ≤ f → hasSrc o = true) (h8' : ¬ 8 ≤ f → hasSrc o = false ∧ orB o ∈ opsL 3 ∧ formP (orB o) = 3 ∧ hasSrc (orB o) = true ∧ ordersP (orB o) = false ∧ (f == 0 || variantP (orB o) f) = true)
    (hr : flds r = (o, 0, 0, f, 0, [])) (h : Steps (listOf (tOf o 0 f)) r x) : Lawful x := by
  have hoff : ∀ o, (f == 0 || variantP o f) = true → offP o 3 false f = true := by
    intro o h
    unfold offP
    cases hz : (f == 0)
    · rw [hz] at h; simpa using h
    · rfl
  obtain ⟨q1, q2, q3, q4, q5, q6⟩ := flds_mk hr
  by_cases hc : 8 ≤ f
  · rw [show listOf (tOf o 0 f) = [1, 2] from by unfold tOf opdsP; rw [hk, if_pos rfl, if_pos hc]; rfl] at h
    obtain ⟨r1, e1, h⟩ := h.inv
    obtain ⟨d, hd, e1⟩ := eff_1 e1 rfl
    obtain ⟨p1, p2, p3, p4, p5, p6⟩ := flds_mk e1
    obtain ⟨r2, e2, h⟩ := h.inv
    obtain ⟨s, hs, e2⟩ := eff_2 e2 rfl
    rw [h.inv0, e2, p1, p2, p4, p5, p6, q1, q4, q5, q6]
    have u1 : useD o (formP o) = true := (uses_of 3 o ho).1
    have u2 : useS o (formP o) = hasSrc o := (uses_of 3 o ho).2.1
    have u3 : useO o (formP o) = false := (uses_of 3 o ho).2.2.1
    have u4 : useI o (formP o) = !hasSrc o := (uses_of 3 o ho).2.2.2
    rw [h8 hc] at u2 u4
    refine ⟨may_mk o d s f 0 (by rw [hk]; decide) (by rw [u1]; exact hd) (by rw [u2, hk]; exact hs) (by rw [u3, hk]; exact hoff o hf) (by rw [u4, hk]; show (if ordersP o then _ else _) = _; rw [hz]; rfl), ?_, by show (_ : Int) ≤ 0; decide, by show (0 : Int) < _; decide⟩
    show tfitP o s f 0 [] = true
    unfold tfitP
    rw [hk]
    rfl
  · obtain ⟨a1, a2, a3, a4, a5, a6⟩ := h8' hc
    rw [show listOf (tOf o 0 f) = [1, 4] from by unfold tOf opdsP; rw [hk, if_pos rfl, if_neg hc]; rfl] at h
    obtain ⟨r1, e1, h⟩ := h.inv
    obtain ⟨d, hd, e1⟩ := eff_1 e1 rfl
    obtain ⟨p1, p2, p3, p4, p5, p6⟩ := flds_mk e1
    obtain ⟨r2, e2, h⟩ := h.inv
    rcases eff_4 e2 rfl with ⟨s, hs, e2⟩ | ⟨i, hi, e2⟩
    · rw [h.inv0, e2, p1, p2, p4, p5, p6, q1, q4, q5, q6]
      have u1 : useD (orB o) (formP (orB o)) = true := (uses_of 3 _ a2).1
      have u2 : useS (orB o) (formP (orB o)) = hasSrc (orB o) := (uses_of 3 _ a2).2.1
      have u3 : useO (orB o) (formP (orB o)) = false := (uses_of 3 _ a2).2.2.1
      have u4 : useI (orB o) (formP (orB o)) = !hasSrc (orB o) := (uses_of 3 _ a2).2.2.2
      rw [a4] at u2 u4
      refine ⟨may_mk (orB o) d s f 0 (by rw [a3]; decide) (by rw [u1]; exact hd) (by rw [u2, a3]; exact hs) (by rw [u3, a3]; exact hoff _ a6) (by rw [u4, a3]; show (if ordersP (orB o) then _ else _) = _; rw [a5]; rfl), ?_, by show (_ : Int) ≤ 0; decide, by show (0 : Int) < _; decide⟩
      show tfitP (orB o) s f 0 [] = true
      unfold tfitP
      rw [a3]
      rfl
    · obtain ⟨hi1, hi2, hi3⟩ := imm32_of hi (by rw [p1, q1]; exact h24)
      rw [h.inv0, e2, p1, p2, p3, p4, p6, q1, q3, q4, q6]
      have u1 : useD o (formP o) = true := (uses_of 3 o ho).1
      have u2 : useS o (formP o) = hasSrc o := (uses_of 3 o ho).2.1
      have u3 : useO o (formP o) = false := (uses_of 3 o ho).2.2.1
      have u4 : useI o (formP o) = !hasSrc o := (uses_of 3 o ho).2.2.2
      rw [a1] at u2 u4
      refine ⟨may_mk o d 0 f i (by rw [hk]; decide) (by rw [u1]; exact hd) (by rw [u2, hk]; rfl) (by rw [u3, hk]; exact hoff o hf) (by rw [u4, hk]; exact hi1), ?_, hi2, hi3⟩
      show tfitP o 0 f i [] = true
      unfold tfitP
      rw [hk]
      rfl
theorem law_4 (r : RS) (x) (o : Int) (hk : formP o = 4) (ho : o ∈ opsL 4) (hz : ordersP o = false) (hr : flds r = (o, 0, 0, 0, 0, [])) (h : Steps (listOf (tOf o 0 0)) r x) : Lawful x := by
  obtain ⟨q1, q2, q3, q4, q5, q6⟩ := flds_mk hr
  rw [show listOf (tOf o 0 0) = [1, 5] from by unfold tOf opdsP; rw [hk]; rfl] at h
  obtain ⟨r1, e1, h⟩ := h.inv
  obtain ⟨d, hd, e1⟩ := eff_1 e1 rfl
  obtain ⟨p1, p2, p3, p4, p5, p6⟩ := flds_mk e1
  obtain ⟨r2, e2, h⟩ := h.inv
  obtain ⟨s, f, hs, hf, e2⟩ := eff_5 e2 rfl
  rw [h.inv0, e2, p1, p2, p5, p6, q1, q5, q6]
  have u1 : useD o (formP o) = true := (uses_of 4 o ho).1
  have u2 : useS o (formP o) = true := (uses_of 4 o ho).2.1
  have u3 : useO o (formP o) = true := (uses_of 4 o ho).2.2.1
  have u4 : useI o (formP o) = false := (uses_of 4 o ho).2.2.2
  refine ⟨may_mk o d s f 0 (by rw [hk]; decide) (by rw [u1]; exact hd) (by rw [u2, hk]; exact hs) (by rw [u3, hk]; exact off16_of hf) (by rw [u4, hk]; show (if ordersP o then _ else _) = _; rw [hz]; rfl), ?_, by show (_ : Int) ≤ 0; decide, by show (0 : Int) < _; decide⟩
  show tfitP o s f 0 [] = true
  unfold tfitP
  rw [hk]
  rfl
theorem law_5 (r : RS) (x) (o : Int) (hk : formP o = 5) (ho : o ∈ opsL 5) (hz : ordersP o = false) (h24 : ¬ o = 24) (hcl : (cls o == 2) = !(cls o == 3)) (hr : flds r = (o, 0, 0, 0, 0, [])) (h : Steps (listOf (tOf o 0 0)) r x) : Lawful x := by
  obtain ⟨q1, q2, q3, q4, q5, q6⟩ := flds_mk hr
  have u1 : useD o (formP o) = true := (uses_of 5 o ho).1
  have u2 : useS o (formP o) = (cls o == 3) := (uses_of 5 o ho).2.1
  have u3 : useO o (formP o) = true := (uses_of 5 o ho).2.2.1
  have u4 : useI o (formP o) = (cls o == 2) := (uses_of 5 o ho).2.2.2
  rw [hcl] at u4
  cases hx : (cls o == 3)
  · rw [hx] at u2 u4
    rw [show listOf (tOf o 0 0) = [6, 3] from by unfold tOf opdsP; rw [u2, hk]; rfl] at h
    obtain ⟨r1, e1, h⟩ := h.inv
    obtain ⟨d, f, hd, hf, e1⟩ := eff_6 e1 rfl
    obtain ⟨p1, p2, p3, p4, p5, p6⟩ := flds_mk e1
    obtain ⟨r2, e2, h⟩ := h.inv
    obtain ⟨i, hi, e2⟩ := eff_3 e2 rfl
    obtain ⟨hi1, hi2, hi3⟩ := imm32_of hi (by rw [p1, q1]; exact h24)
    rw [h.inv0, e2, p1, p2, p3, p4, p6, q1, q3, q6]
    refine ⟨may_mk o d 0 f i (by rw [hk]; decide) (by rw [u1]; exact hd) (by rw [u2, hk]; rfl) (by rw [u3, hk]; exact off16_of hf) (by rw [u4, hk]; exact hi1), ?_, hi2, hi3⟩
    show tfitP o 0 f i [] = true
    unfold tfitP
    rw [hk]
    rfl
  · rw [hx] at u2 u4
    rw [show listOf (tOf o 0 0) = [6, 2] from by unfold tOf opdsP; rw [u2, hk]; rfl] at h
    obtain ⟨r1, e1, h⟩ := h.inv
    obtain ⟨d, f, hd, hf, e1⟩ := eff_6 e1 rfl
    obtain ⟨p1, p2, p3, p4, p5, p6⟩ := flds_mk e1
    obtain ⟨r2, e2, h⟩ := h.inv
    obtain ⟨s, hs, e2⟩ := eff_2 e2 rfl
    rw [h.inv0, e2, p1, p2, p4, p5, p6, q1, q5, q6]
    refine ⟨may_mk o d s f 0 (by rw [hk]; decide) (by rw [u1]; exact hd) (by rw [u2, hk]; exact hs) (by rw [u3, hk]; exact off16_of hf) (by rw [u4, hk]; show (if ordersP o then _ else _) = _; rw [hz]; rfl), ?_, by show (_ : Int) ≤ 0; decide, by show (0 : Int) < _; decide⟩
    show tfitP o s f 0 [] = true
    unfold tfitP
    rw [hk]
    rfl
theorem law_6 (r : RS) (x) (o i : Int) (hk : formP o = 6) (ho : o ∈ opsL 6) (hi : atomP i = true) (hi' : 0 ≤ i ∧ i < 256) (hr : flds r = (o, 0, 0, 0, i, [])) (h : Steps (listOf (tOf o 0 0)) r x) : Lawful x := by
  obtain ⟨q1, q2, q3, q4, q5, q6⟩ := flds_mk hr
  have u1 : useD o (formP o) = true := (uses_of 6 o ho).1
  have u2 : useS o (formP o) = true := (uses_of 6 o ho).2.1
  have u3 : useO o (formP o) = true := (uses_of 6 o ho).2.2.1
  have u4 : useI o (formP o) = false := (uses_of 6 o ho).2.2.2
  rw [show listOf (tOf o 0 0) = [6, 2] from by unfold tOf opdsP; rw [u2, hk]; rfl] at h
  obtain ⟨r1, e1, h⟩ := h.inv
  obtain ⟨d, f, hd, hf, e1⟩ := eff_6 e1 rfl
  obtain ⟨p1, p2, p3, p4, p5, p6⟩ := flds_mk e1
  obtain ⟨r2, e2, h⟩ := h.inv
  obtain ⟨s, hs, e2⟩ := eff_2 e2 rfl
  rw [h.inv0, e2, p1, p2, p4, p5, p6, q1, q5, q6]
  refine ⟨may_mk o d s f i (by rw [hk]; decide) (by rw [u1]; exact hd) (by rw [u2, hk]; exact hs) (by rw [u3, hk]; exact off16_of hf) (by rw [u4, hk]; exact hi), ?_, by show _ ≤ i; omega, by show i < _; omega⟩
  show tfitP o s f i [] = true
  unfold tfitP
  rw [hk]
  rfl
theorem law_7 (r : RS) (x) (o : Int) (hk : formP o = 7) (ho : o ∈ opsL 7) (h1 : offP o 7 (o == 5) 0 = true) (h2 : immP o 7 0 (o == 6) 0 = true) (hr : flds r = (o, 0, 0, 0, 0, [])) (h : Steps (listOf (tOf o 0 0)) r x) : Lawful x := by
  obtain ⟨q1, q2, q3, q4, q5, q6⟩ := flds_mk hr
  rw [show listOf (tOf o 0 0) = [7] from by unfold tOf opdsP; rw [hk]; rfl] at h
  obtain ⟨r1, e1, h⟩ := h.inv
  obtain ⟨t, ht, e1⟩ := eff_7 e1 rfl
  rw [h.inv0, e1, q1, q2, q3, q4, q5]
  have u1 : useD o (formP o) = false := (uses_of 7 o ho).1
  have u2 : useS o (formP o) = false := (uses_of 7 o ho).2.1
  have u3 : useO o (formP o) = (o == 5) := (uses_of 7 o ho).2.2.1
  have u4 : useI o (formP o) = (o == 6) := (uses_of 7 o ho).2.2.2
  refine ⟨may_mk o 0 0 0 0 (by rw [hk]; decide) (by rw [u1]; rfl) (by rw [u2, hk]; rfl) (by rw [u3, hk]; exact h1) (by rw [u4, hk]; exact h2), ?_, by show (_ : Int) ≤ 0; decide, by show (0 : Int) < _; decide⟩
  show tfitP o 0 0 0 t = true
  unfold tfitP
  rw [hk, if_pos rfl, ht]
  rfl
theorem law_8 (r : RS) (x) (o : Int) (hk : formP o = 8) (ho : o ∈ opsL 8) (h24 : ¬ o = 24) (a1 : hasSrc o = false) (a2 : orB o ∈ opsL 8) (a3 : formP (orB o) = 8) (a4 : hasSrc (orB o) = true) (a5 : ordersP (orB o) = false) (hr : flds r = (o, 0, 0, 0, 0, [])) (h : Steps (listOf (tOf o 0 0)) r x) : Lawful x := by
  obtain ⟨q1, q2, q3, q4, q5, q6⟩ := flds_mk hr
  rw [show listOf (tOf o 0 0) = [1, 4, 7] from by unfold tOf opdsP; rw [hk]; rfl] at h
  obtain ⟨r1, e1, h⟩ := h.inv
  obtain ⟨d, hd, e1⟩ := eff_1 e1 rfl
  obtain ⟨p1, p2, p3, p4, p5, p6⟩ := flds_mk e1
  obtain ⟨r2, e2, h⟩ := h.inv
  obtain ⟨r3, e3, h⟩ := h.inv
  obtain ⟨t, ht, e3⟩ := eff_7 e3 rfl
  rcases eff_4 e2 rfl with ⟨s, hs, e2⟩ | ⟨i, hi, e2⟩
  · obtain ⟨y1, y2, y3, y4, y5, y6⟩ := flds_mk e2
    rw [h.inv0, e3, y1, y2, y3, y4, y5, p1, p2, p4, p5, q1, q4, q5]
    have u1 : useD (orB o) (formP (orB o)) = true := (uses_of 8 _ a2).1
    have u2 : useS (orB o) (formP (orB o)) = hasSrc (orB o) := (uses_of 8 _ a2).2.1
    have u4 : useI (orB o) (formP (orB o)) = !hasSrc (orB o) := (uses_of 8 _ a2).2.2.2
    rw [a4] at u2 u4
    refine ⟨may_mk (orB o) d s 0 0 (by rw [a3]; decide) (by rw [u1]; exact hd) (by rw [u2, a3]; exact hs) (off_0 _ _ _) (by rw [u4, a3]; show (if ordersP (orB o) then _ else _) = _; rw [a5]; rfl), ?_, by show (_ : Int) ≤ 0; decide, by show (0 : Int) < _; decide⟩
    show tfitP (orB o) s 0 0 t = true
    unfold tfitP
    rw [a3, if_neg (by decide), if_pos rfl, ht]
    rfl
  · obtain ⟨hi1, hi2, hi3⟩ := imm32_of hi (by rw [p1, q1]; exact h24)
    obtain ⟨y1, y2, y3, y4, y5, y6⟩ := flds_mk e2
    rw [h.inv0, e3, y1, y2, y3, y4, y5, p1, p2, p3, p4, q1, q3, q4]
    have u1 : useD o (formP o) = true := (uses_of 8 o ho).1
    have u2 : useS o (formP o) = hasSrc o := (uses_of 8 o ho).2.1
    have u3 : useO o (formP o) = true := (uses_of 8 o ho).2.2.1
    have u4 : useI o (formP o) = !hasSrc o := (uses_of 8 o ho).2.2.2
    rw [a1] at u2 u4
    refine ⟨may_mk o d 0 0 i (by rw [hk]; decide) (by rw [u1]; exact hd) (by rw [u2, hk]; rfl) (by rw [u3, hk]; rfl) (by rw [u4, hk]; exact hi1), ?_, hi2, hi3⟩
    show tfitP o 0 0 i t = true
    unfold tfitP
    rw [hk, if_neg (by decide), if_pos rfl, ht]
    rfl
theorem law_9 (r : RS) (x) (hr : flds r = (133, 0, 0, 0, 0, [])) (h : Steps (listOf (tOf 133 0 0)) r x) : Lawful x := by
  obtain ⟨q1, q2, q3, q4, q5, q6⟩ := flds_mk hr
  rw [show listOf (tOf 133 0 0) = [8] from by decide +kernel] at h
  obtain ⟨r1, e1, h⟩ := h.inv
  have hk : formP 133 = 9 := by decide +kernel
  have ho : (133 : Int) ∈ opsL 9 := by decide +kernel
  have u1 : useD 133 (formP 133) = false := (uses_of 9 _ ho).1
  have u2 : useS 133 (formP 133) = false := (uses_of 9 _ ho).2.1
  have u3 : useO 133 (formP 133) = false := (uses_of 9 _ ho).2.2.1
  have u4 : useI 133 (formP 133) = true := (uses_of 9 _ ho).2.2.2
  rcases eff_8 e1 rfl with ⟨t, ht, e1⟩ | ⟨i, hi, e1⟩
  · rw [h.inv0, e1, q1, q2, q4]
    refine ⟨may_mk 133 0 1 0 (-1) (by rw [hk]; decide) (by rw [u1]; rfl) (by rw [u2, hk]; rfl) (by rw [u3, hk]; rfl) (by rw [u4, hk]; rfl), ?_, by show (_ : Int) ≤ -1; decide, by show (-1 : Int) < _; decide⟩
    show tfitP 133 1 0 (-1) t = true
    unfold tfitP
    rw [hk, if_neg (by decide), if_neg (by decide), if_pos (by decide), ht]
    rfl
  · obtain ⟨hi1, hi2, hi3⟩ := imm32_of hi (by rw [q1]; decide)
    rw [h.inv0, e1, q1, q2, q3, q4, q6]
    refine ⟨may_mk 133 0 0 0 i (by rw [hk]; decide) (by rw [u1]; rfl) (by rw [u2, hk]; rfl) (by rw [u3, hk]; rfl) (by rw [u4, hk]; exact hi1), ?_, hi2, hi3⟩
    show tfitP 133 0 0 i [] = true
    unfold tfitP
    rw [hk]
    rfl
theorem law_10 (r : RS) (x) (s : Int) (hs : s = 0 ∨ s = 1) (hr : flds r = (24, 0, s, 0, 0, [])) (h : Steps (listOf (tOf 24 s 0)) r x) : Lawful x := by
  obtain ⟨q1, q2, q3, q4, q5, q6⟩ := flds_mk hr
  have hk : formP 24 = 10 := by decide +kernel
  have ho : (24 : Int) ∈ opsL 10 := by decide +kernel
  have u1 : useD 24 (formP 24) = true := (uses_of 10 _ ho).1
  have u2 : useS 24 (formP 24) = false := (uses_of 10 _ ho).2.1
  have u3 : useO 24 (formP 24) = false := (uses_of 10 _ ho).2.2.1
  have u4 : useI 24 (formP 24) = true := (uses_of 10 _ ho).2.2.2
  rcases hs with rfl | rfl
  · rw [show listOf (tOf 24 0 0) = [1, 3] from by decide +kernel] at h
    obtain ⟨r1, e1, h⟩ := h.inv
    obtain ⟨d, hd, e1⟩ := eff_1 e1 rfl
    obtain ⟨p1, p2, p3, p4, p5, p6⟩ := flds_mk e1
    obtain ⟨r2, e2, h⟩ := h.inv
    obtain ⟨i, hi, e2⟩ := eff_3 e2 rfl
    unfold immOk at hi
    rw [if_pos (by rw [p1, q1])] at hi
    rw [h.inv0, e2, p1, p2, p3, p4, p6, q1, q3, q4, q6]
    refine ⟨may_mk 24 d 0 0 i (by rw [hk]; decide) (by rw [u1]; exact hd) (by rw [u2, hk]; rfl) (by rw [u3, hk]; rfl) (by rw [u4, hk]; rfl), ?_, hi.1, hi.2⟩
    show tfitP 24 0 0 i [] = true
    unfold tfitP
    rw [hk]
    rfl
  · rw [show listOf (tOf 24 1 0) = [1, 7] from by decide +kernel] at h
    obtain ⟨r1, e1, h⟩ := h.inv
    obtain ⟨d, hd, e1⟩ := eff_1 e1 rfl
    obtain ⟨p1, p2, p3, p4, p5, p6⟩ := flds_mk e1
    obtain ⟨r2, e2, h⟩ := h.inv
    obtain ⟨t, ht, e2⟩ := eff_7 e2 rfl
    rw [h.inv0, e2, p1, p2, p3, p4, p5, q1, q3, q4, q5]
    refine ⟨may_mk 24 d 1 0 0 (by rw [hk]; decide) (by rw [u1]; exact hd) (by rw [u2, hk]; rfl) (by rw [u3, hk]; rfl) (by rw [u4, hk]; rfl), ?_, by show (_ : Int) ≤ 0; decide, by show (0 : Int) < _; decide⟩
    show tfitP 24 1 0 0 t = true
    unfold tfitP
    rw [hk, if_neg (by decide), if_neg (by decide), if_neg (by decide), if_pos (by decide), ht]
    rfl
end Go.Proofs.YtcomhlimgocoaaaGreatDoor
