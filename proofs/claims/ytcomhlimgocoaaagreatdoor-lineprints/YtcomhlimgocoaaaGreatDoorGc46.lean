import Derived.Test.YtcomhlimgocoaaaGreatDoorGc45
namespace Go.Proofs.YtcomhlimgocoaaaGreatDoor
open Go.RowKit
set_option linter.unusedVariables false
set_option linter.unusedSimpArgs false
def kinB (o : Int) : Bool :=
  (!(formP o == 3) || (!useO o 3 && useD o 3 && !(o == 24) && !ordersP o && (useS o 3 == hasSrc o) && (useI o 3 == !hasSrc o) && !(cls o == 0) && ((cls o == 7) || (cls o == 4)) && !(shrO o == 13) && (bOp o + 8 == o || bOp o == o) && (hasSrc o == (o == bOp o + 8)))) &&
  (!(formP o == 2) || (!useO o 2 && useD o 2 && !useS o 2 && !useI o 2 && ((cls o == 7) || (cls o == 4)) && (ordersP o == (shrO o == 13)))) &&
  (!(formP o == 4) || (useO o 4 && useD o 4 && useS o 4 && !useI o 4 && !ordersP o && (cls o == 1))) &&
  (!(formP o == 5) || (useO o 5 && useD o 5 && (useS o 5 == !useI o 5) && !ordersP o && ((cls o == 2) || (cls o == 3)) && !(o == 219) && !(o == 195))) &&
  (!(formP o == 6) || (useO o 6 && useD o 6 && useS o 6 && !useI o 6 && !ordersP o && (cls o == 3) && (o == 219 || o == 195))) &&
  (!(formP o == 7) || (!useD o 7 && !useS o 7 && !ordersP o && (o == 5 && useO o 7 && !useI o 7 || o == 6 && !useO o 7 && useI o 7))) &&
  (!(formP o == 8) || (useO o 8 && useD o 8 && (useS o 8 == hasSrc o) && (useI o 8 == !hasSrc o) && !ordersP o && ((cls o == 5) || (cls o == 6)) && !(o == 5) && !(o == 6) && (bOp o + 8 == o || bOp o == o) && (hasSrc o == (o == bOp o + 8)))) &&
  (!(formP o == 9) || o == 133) && (!(formP o == 10) || o == 24) && (!(formP o == 1) || o == 149) && (decide (1 ≤ formP o) && decide (formP o ≤ 10))
theorem kin_all : ∀ l ∈ opsT, ∀ o ∈ l, kinB o = true := by decide +kernel
theorem find_one (p : Rw → Bool) (r : Rw) : [r].find? p = if p r then some r else none := by
  simp only [List.find?_cons, List.find?_nil]
  cases p r <;> rfl
theorem find_two (p : Rw → Bool) (r : Rw) (l : List Rw) : (r :: l).find? p = if p r then some r else l.find? p := by
  simp only [List.find?_cons]
  cases p r <;> rfl
theorem find_map4 (p : Rw → Bool) (g : Int → Rw) (y : Int) (c : Bool) : ∀ L : List Int, (∀ x ∈ L, p (g x) = (y == x && c)) → (L.map g).find? p = if c && L.contains y then some (g y) else none
  | [], _ => by simp
  | x :: L, h => by
    rw [List.map_cons, find_two, h x (by simp), find_map4 p g y c L (fun z hz => h z (by simp [hz]))]
    by_cases e : y = x
    · subst e; cases c <;> simp
    · have : (y == x) = false := by simpa using e
      cases c <;> simp [this, e]
theorem reg_in (d : Int) : (d == 0 || inR d 0 10) = isReg d := by
  rw [Bool.eq_iff_iff]; simp [inR, isReg]; omega
/-- the row that an instruction is of, and that it may be -/
def Fnd (o d s f i : Int) (r : Rw) : Prop := findR o d s f i = if fitO o d s f i then some r else none
def cB (o d s i : Int) : Bool := isReg d && (if hasSrc o then isReg s else s == 0) && (if hasSrc o then i == 0 else inR i (-2147483648) 2147483647)
theorem law1 {o x : Int} (w : List UInt8) (k10 : bOp o + 8 = o ∨ bOp o = o) (k11 : hasSrc o = (o == bOp o + 8)) (d s f i : Int) : (ofR ⟨w, 1, bOp o, x, 0⟩ o s f i && lawR ⟨w, 1, bOp o, x, 0⟩ o d s f i) = (f == x && cB o d s i) := by
  have e1 : opR ⟨w, 1, bOp o, x, 0⟩ o = true := by simp [opR, twoR]; omega
  have e2 : secR ⟨w, 1, bOp o, x, 0⟩ o = hasSrc o := by simp [secR, twoR, k11]
  have e3 : ofR ⟨w, 1, bOp o, x, 0⟩ o s f i = (f == x) := by simp [ofR, e1]
  have e4 : usR ⟨w, 1, bOp o, x, 0⟩ o = (true, hasSrc o, false, !hasSrc o) := by simp [usR, e2]
  rw [e3]
  unfold lawR cB
  rw [e4]
  simp only [Bool.true_and, Bool.false_and, Bool.or_false, reg_in]
  cases hasSrc o <;> cases (f == x) <;> simp [reg_in]
theorem law2 {o x : Int} (w : List UInt8) (hs : hasSrc o = true) (d s f i : Int) : (ofR ⟨w, 2, o, x, 0⟩ o s f i && lawR ⟨w, 2, o, x, 0⟩ o d s f i) = (f == x && cB o d s i) := by
  have e3 : ofR ⟨w, 2, o, x, 0⟩ o s f i = (f == x) := by simp [ofR, opR]
  have e4 : usR ⟨w, 2, o, x, 0⟩ o = (true, true, false, false) := by simp [usR]
  rw [e3]
  unfold lawR cB
  rw [e4, hs]
  cases (f == x) <;> simp [reg_in]
theorem var_off (o f : Int) (h0 : ¬ f = 0) : variantP o f = (offsO o).contains f := by
  unfold variantP offsO
  split
  · rw [Bool.eq_iff_iff]; simp
  · split
    · rw [Bool.eq_iff_iff]; simp
    · rw [Bool.eq_iff_iff]
      cases hb : (bits BinOp.and IntKind.i64 o 240 == 176) <;> cases hs : hasSrc o <;> cases ho : (o == 191) <;> simp [or_assoc]
theorem offs_mv (o x : Int) (h : x ∈ offsO o) (h1 : ¬ x = 1) : hasSrc o = true := by
  unfold offsO at h
  split at h
  · simp at h; omega
  · split at h
    · simp at h; omega
    · cases hb : (bits BinOp.and IntKind.i64 o 240 == 176) <;> cases hs : hasSrc o
      all_goals first | rfl | (simp [hb, hs] at h)
theorem find3 (o d s f i : Int) (h : formP o = 3) (hp : pickO o = expO o) (hk : kinB o = true) : Fnd o d s f i (if f = 0 then ⟨wReck o 0 0, 1, bOp o, 0, 0⟩ else ⟨wOff o f, if f == 1 then 1 else 2, if f == 1 then bOp o else o, f, 0⟩) := by
  unfold Fnd findR
  rw [hp]
  simp only [kinB, h] at hk
  simp at hk
  obtain ⟨⟨⟨⟨⟨⟨⟨⟨⟨⟨k1, k2⟩, k3⟩, k4⟩, k5⟩, k6⟩, k7⟩, k8⟩, k9⟩, k10⟩, k11⟩ := hk
  have hf : fitO o d s f i = ((f == 0 || variantP o f) && cB o d s i) := by
    unfold fitO fitP dstP srcP offP immP cB inR
    simp only [h, k1, k2, k5, k6, k4]
    rw [show ((3 : Int) == 9) = false from rfl, show ((3 : Int) == 10) = false from rfl, show ((3 : Int) == 6) = false from rfl, show ((3 : Int) == 3) = true from rfl]
    cases hasSrc o <;> cases (f == 0) <;> cases (variantP o f) <;> cases isReg d <;> simp
  rw [hf]
  have he : expO o = ⟨wReck o 0 0, 1, bOp o, 0, 0⟩ :: (offsO o).map (fun x => ⟨wOff o x, if x == 1 then 1 else 2, if x == 1 then bOp o else o, x, 0⟩) := by simp [expO, h]
  rw [he, find_two, law1 _ k10 k11, find_map4 _ _ f (cB o d s i) (offsO o) (fun x hx => ?_)]
  · by_cases h0 : f = 0
    · subst h0
      cases cB o d s i <;> simp
    · have e0 : (f == 0) = false := by simpa using h0
      rw [e0, var_off o f h0, if_neg h0]
      cases cB o d s i <;> cases (offsO o).contains f <;> simp
  · by_cases e : x = 1
    · subst e; exact law1 _ k10 k11 d s f i
    · have e1 : (x == 1) = false := by simpa using e
      simp only [e1, Bool.false_eq_true, if_false]
      exact law2 _ (offs_mv o x hx e) d s f i
theorem off_in (f : Int) : (f == 0 || inR f (-32768) 32767) = (decide (-32768 ≤ f) && decide (f ≤ 32767)) := by
  rw [Bool.eq_iff_iff]; simp [inR]; omega
def wJ4 (o : Int) : List UInt8 := pick2 jumpT (shrO o) (cls o == 6)
theorem find1 (o d s f i : Int) (h : formP o = 1) (hp : pickO o = expO o) (hk : kinB o = true) : Fnd o d s f i ⟨wJ4 o, 10, o, 0, 0⟩ := by
  have ho : o = 149 := by simp [kinB, h] at hk; exact hk
  have he : expO o = [⟨wJ4 o, 10, o, 0, 0⟩] := by simp [expO, h, wJ4]
  unfold Fnd findR
  rw [hp, he, find_one]
  have hf : fitO o d s f i = (d == 0 && (s == 0 && (f == 0 && i == 0))) := by
    subst ho
    unfold fitO fitP dstP srcP offP immP
    rw [h, show useD 149 1 = false by decide, show useS 149 1 = false by decide, show useO 149 1 = false by decide, show useI 149 1 = false by decide, show ordersP 149 = false by decide]
    rw [Bool.eq_iff_iff]; simp
  have hl : (ofR ⟨wJ4 o, 10, o, 0, 0⟩ o s f i && lawR ⟨wJ4 o, 10, o, 0, 0⟩ o d s f i) = (d == 0 && (s == 0 && (f == 0 && i == 0))) := by
    simp [ofR, opR, lawR, usR, Bool.and_assoc]
  rw [hf, hl]
theorem find9 (o d s f i : Int) (h : formP o = 9) (hp : pickO o = expO o) (hk : kinB o = true) : Fnd o d s f i ⟨wJ4 o, 9, o, 0, 0⟩ := by
  have ho : o = 133 := by simp [kinB, h] at hk; exact hk
  have he : expO o = [⟨wJ4 o, 9, o, 0, 0⟩] := by simp [expO, h, wJ4]
  unfold Fnd findR
  rw [hp, he, find_one]
  have hf : fitO o d s f i = (d == 0 && ((s == 0 || s == 1) && (f == 0 && inR i (-2147483648) 2147483647))) := by
    subst ho
    unfold fitO fitP dstP srcP offP immP inR
    rw [h, show useD 133 9 = false by decide, show useS 133 9 = false by decide, show useO 133 9 = false by decide, show useI 133 9 = true by decide]
    rw [Bool.eq_iff_iff]; simp
  have hl : (ofR ⟨wJ4 o, 9, o, 0, 0⟩ o s f i && lawR ⟨wJ4 o, 9, o, 0, 0⟩ o d s f i) = (d == 0 && ((s == 0 || s == 1) && (f == 0 && inR i (-2147483648) 2147483647))) := by
    simp [ofR, opR, lawR, usR, Bool.and_assoc]
  rw [hf, hl]
theorem find10 (o d s f i : Int) (h : formP o = 10) (hp : pickO o = expO o) (hk : kinB o = true) : Fnd o d s f i (if s = 0 then ⟨[108, 100, 100, 119], 11, 24, 0, 0⟩ else ⟨[108, 100, 109, 97, 112], 12, 24, 0, 0⟩) := by
  have ho : o = 24 := by simp [kinB, h] at hk; exact hk
  have he : expO o = [⟨[108, 100, 100, 119], 11, 24, 0, 0⟩, ⟨[108, 100, 109, 97, 112], 12, 24, 0, 0⟩] := by simp [expO, h]
  subst ho
  unfold Fnd findR
  rw [hp, he, find_two, find_one]
  have hf : fitO 24 d s f i = (isReg d && ((s == 0 || s == 1) && (f == 0 && (s == 0 || inR i (-2147483648) 2147483647)))) := by
    unfold fitO fitP dstP srcP offP immP inR
    rw [h, show useD 24 10 = true by decide, show useS 24 10 = false by decide, show useO 24 10 = false by decide, show useI 24 10 = true by decide]
    rw [Bool.eq_iff_iff]; simp
  have hl : (ofR ⟨[108, 100, 100, 119], 11, 24, 0, 0⟩ 24 s f i && lawR ⟨[108, 100, 100, 119], 11, 24, 0, 0⟩ 24 d s f i) = (s == 0 && (isReg d && f == 0)) := by
    simp only [ofR, lawR, usR]
    simp [reg_in]
    cases (s == 0) <;> simp
  have hl2 : (ofR ⟨[108, 100, 109, 97, 112], 12, 24, 0, 0⟩ 24 s f i && lawR ⟨[108, 100, 109, 97, 112], 12, 24, 0, 0⟩ 24 d s f i) = (s == 1 && (isReg d && (f == 0 && inR i (-2147483648) 2147483647))) := by
    simp only [ofR, lawR, usR]
    simp [reg_in]
    cases hs : (s == 1) <;> simp [Bool.and_assoc]
  rw [hf, hl, hl2]
  by_cases h0 : s = 0
  · subst h0; simp
  · have e0 : (s == 0) = false := by simpa using h0
    rw [if_neg h0, e0]
    cases (s == 1) <;> cases isReg d <;> simp
theorem find7 (o d s f i : Int) (h : formP o = 7) (hp : pickO o = expO o) (hk : kinB o = true) : Fnd o d s f i ⟨wJ4 o, 7, o, 0, 0⟩ := by
  have he : expO o = [⟨wJ4 o, 7, o, 0, 0⟩] := by simp [expO, h, wJ4]
  unfold Fnd findR
  rw [hp, he, find_one]
  simp only [kinB, h] at hk
  simp at hk
  obtain ⟨⟨⟨k1, k2⟩, k3⟩, k4⟩ := hk
  have hf : fitO o d s f i = (ofR ⟨wJ4 o, 7, o, 0, 0⟩ o s f i && lawR ⟨wJ4 o, 7, o, 0, 0⟩ o d s f i) := by
    unfold fitO fitP dstP srcP offP immP
    rw [h, k1, k2, k3]
    rcases k4 with ⟨⟨e, a⟩, b⟩ | ⟨⟨e, a⟩, b⟩
    · rw [a, b]; subst e
      rw [Bool.eq_iff_iff]; simp [ofR, opR, lawR, usR, inR]; try omega
    · rw [a, b]; subst e
      rw [Bool.eq_iff_iff]; simp [ofR, opR, lawR, usR, inR]; try omega
  rw [hf]
theorem find4 (o d s f i : Int) (h : formP o = 4) (hp : pickO o = expO o) (hk : kinB o = true) : Fnd o d s f i ⟨wMem o 0, 4, o, 0, 0⟩ := by
  have he : expO o = [⟨wMem o 0, 4, o, 0, 0⟩] := by simp [expO, h]
  unfold Fnd findR
  rw [hp, he, find_one]
  simp only [kinB, h] at hk
  simp at hk
  obtain ⟨⟨⟨⟨⟨k1, k2⟩, k3⟩, k4⟩, k5⟩, k6⟩ := hk
  have hf : fitO o d s f i = (ofR ⟨wMem o 0, 4, o, 0, 0⟩ o s f i && lawR ⟨wMem o 0, 4, o, 0, 0⟩ o d s f i) := by
    unfold fitO fitP dstP srcP offP immP
    rw [h, k1, k2, k3, k4, k5]
    simp [ofR, opR, lawR, usR, off_in, reg_in, Bool.and_assoc]
  rw [hf]
theorem find5 (o d s f i : Int) (h : formP o = 5) (hp : pickO o = expO o) (hk : kinB o = true) : Fnd o d s f i ⟨wMem o 0, if useS o 5 then 6 else 5, o, 0, 0⟩ := by
  have he : expO o = [⟨wMem o 0, if useS o 5 then 6 else 5, o, 0, 0⟩] := by simp [expO, h]
  unfold Fnd findR
  rw [hp, he, find_one]
  simp only [kinB, h] at hk
  simp at hk
  obtain ⟨⟨⟨⟨⟨⟨k1, k2⟩, k3⟩, k4⟩, k5⟩, k6⟩, k7⟩ := hk
  have hf : fitO o d s f i = (ofR ⟨wMem o 0, if useS o 5 then 6 else 5, o, 0, 0⟩ o s f i && lawR ⟨wMem o 0, if useS o 5 then 6 else 5, o, 0, 0⟩ o d s f i) := by
    unfold fitO fitP dstP srcP offP immP
    rw [h, k1, k2, k3, k4]
    cases hu : useI o 5
    · simp [ofR, opR, lawR, usR, off_in, reg_in, Bool.and_assoc, k6, k7]
    · rw [Bool.eq_iff_iff]; simp [ofR, opR, lawR, usR, inR, isReg]; omega
  rw [hf]
theorem find6 (o d s f i : Int) (h : formP o = 6) (hp : pickO o = expO o) (hk : kinB o = true) : Fnd o d s f i ⟨wImm o i, 6, o, 0, i⟩ := by
  have he : expO o = immsT.map (fun x => ⟨wImm o x, 6, o, 0, x⟩) := by simp [expO, h]
  unfold Fnd findR
  simp only [kinB, h] at hk
  simp at hk
  obtain ⟨⟨⟨⟨⟨⟨k1, k2⟩, k3⟩, k4⟩, k5⟩, k6⟩, k7⟩ := hk
  have hc : (!(o == 219) && !(o == 195)) = false := by rcases k7 with e | e <;> subst e <;> rfl
  rw [hp, he, find_map4 _ (fun x => ⟨wImm o x, 6, o, 0, x⟩) i (isReg d && (isReg s && (decide (-32768 ≤ f) && decide (f ≤ 32767)))) immsT (fun x hx => ?_)]
  · have hf : fitO o d s f i = ((isReg d && (isReg s && (decide (-32768 ≤ f) && decide (f ≤ 32767)))) && immsT.contains i) := by
      unfold fitO fitP dstP srcP offP immP atomP
      rw [h, k1, k2, k3, k4]
      simp [Bool.and_assoc]
    rw [hf]
  · have e1 : ofR ⟨wImm o x, 6, o, 0, x⟩ o s f i = (i == x) := by
      simp only [ofR]
      simp
      intro a b
      rcases k7 with e | e <;> simp [e] at a b
    rw [e1]
    simp only [lawR, usR]
    simp [reg_in, off_in]
    cases (i == x) <;> simp [Bool.and_assoc]
theorem find8 (o d s f i : Int) (h : formP o = 8) (hp : pickO o = expO o) (hk : kinB o = true) : Fnd o d s f i ⟨wJ4 o, 8, bOp o, 0, 0⟩ := by
  have he : expO o = [⟨wJ4 o, 8, bOp o, 0, 0⟩] := by simp [expO, h, wJ4]
  unfold Fnd findR
  rw [hp, he, find_one]
  simp only [kinB, h] at hk
  simp at hk
  obtain ⟨⟨⟨⟨⟨⟨⟨⟨⟨k1, k2⟩, k3⟩, k4⟩, k5⟩, k6⟩, k7⟩, k8⟩, k9⟩, k10⟩ := hk
  have e1 : opR ⟨wJ4 o, 8, bOp o, 0, 0⟩ o = true := by simp [opR, twoR]; omega
  have e2 : secR ⟨wJ4 o, 8, bOp o, 0, 0⟩ o = hasSrc o := by simp [secR, twoR, k10]
  have e3 : ofR ⟨wJ4 o, 8, bOp o, 0, 0⟩ o s f i = true := by simp [ofR, e1]
  have e4 : usR ⟨wJ4 o, 8, bOp o, 0, 0⟩ o = (true, hasSrc o, true, !hasSrc o) := by simp [usR, e2]
  have hf : fitO o d s f i = (ofR ⟨wJ4 o, 8, bOp o, 0, 0⟩ o s f i && lawR ⟨wJ4 o, 8, bOp o, 0, 0⟩ o d s f i) := by
    rw [e3]
    unfold lawR
    rw [e4]
    unfold fitO fitP dstP srcP offP immP
    rw [h, k1, k2, k3, k4, k5]
    cases hasSrc o
    all_goals
      rw [Bool.eq_iff_iff]; simp [inR, isReg]; omega
  rw [hf]
theorem find2 (o d s f i : Int) (h : formP o = 2) (hp : pickO o = expO o) (hk : kinB o = true) : Fnd o d s f i (if ordersP o then ⟨wImm o i, 3, o, 0, i⟩ else ⟨wReck o 0 0, 3, o, 0, 0⟩) := by
  unfold Fnd findR
  simp only [kinB, h] at hk
  simp at hk
  obtain ⟨⟨⟨⟨⟨k1, k2⟩, k3⟩, k4⟩, k5⟩, k6⟩ := hk
  cases ho : ordersP o
  · have he : expO o = [⟨wReck o 0 0, 3, o, 0, 0⟩] := by simp [expO, h, ho]
    have hf : fitO o d s f i = (ofR ⟨wReck o 0 0, 3, o, 0, 0⟩ o s f i && lawR ⟨wReck o 0 0, 3, o, 0, 0⟩ o d s f i) := by
      unfold fitO fitP dstP srcP offP immP
      rw [h, k1, k2, k3, k4, ho]
      rw [Bool.eq_iff_iff]; simp [ofR, opR, lawR, usR, inR, isReg]; omega
    rw [hp, he, find_one, hf]
    simp
  · have he : expO o = [16, 32, 64].map (fun x => ⟨wImm o x, 3, o, 0, x⟩) := by simp [expO, h, ho]
    rw [hp, he, find_map4 _ (fun x => ⟨wImm o x, 3, o, 0, x⟩) i (isReg d && (s == 0 && f == 0)) [16, 32, 64] (fun x hx => ?_)]
    · have hf : fitO o d s f i = ((isReg d && (s == 0 && f == 0)) && [16, 32, 64].contains i) := by
        unfold fitO fitP dstP srcP offP immP
        rw [h, k1, k2, k3, k4, ho]
        rw [Bool.eq_iff_iff]
        simp [Bool.and_assoc, or_assoc]
      rw [hf]
      simp
    · simp only [ofR, lawR, usR]
      simp [reg_in]
      cases (i == x) <;> simp [Bool.and_assoc]
end Go.Proofs.YtcomhlimgocoaaaGreatDoor
