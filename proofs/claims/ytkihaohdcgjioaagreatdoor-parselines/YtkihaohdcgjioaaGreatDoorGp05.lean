import Derived.Test.YtkihaohdcgjioaaGreatDoorGp04
namespace Go.Proofs.YtkihaohdcgjioaaGreatDoor
set_option linter.unusedVariables false
set_option linter.unusedSimpArgs false

/-- an instruction in plain words -/
structure Ins where
  o : Int
  d : Int
  s : Int
  f : Int
  i : Int
theorem Ins.same {x y : Ins} (h0 : x.o = y.o) (h1 : x.d = y.d) (h2 : x.s = y.s) (h3 : x.f = y.f) (h4 : x.i = y.i) : x = y := by
  cases x; cases y; simp_all
def gB (B : List Int) (k : Nat) : Int := B.getD k 0
def u16 (B : List Int) (k : Nat) : Int := gB B k + 256 * gB B (k + 1)
def u32 (B : List Int) (k : Nat) : Int := gB B k + 256 * gB B (k + 1) + 65536 * gB B (k + 2) + 16777216 * gB B (k + 3)
def sx (m v : Int) : Int := if v < m then v else v - 2 * m
def slotI (B : List Int) : Ins := ⟨gB B 0, gB B 1 % 16, gB B 1 / 16, sx 32768 (u16 B 2), sx 2147483648 (u32 B 4)⟩
def wideI (B : List Int) : Ins := ⟨gB B 0, gB B 1 % 16, gB B 1 / 16, sx 32768 (u16 B 2), u32 B 4 + 4294967296 * sx 2147483648 (u32 B 12)⟩
def isW (o : Int) : Bool := o == 24
def by4 (v : Int) : List Int := [v % 256, v / 256 % 256, v / 65536 % 256, v / 16777216 % 256]
def encT (x : Ins) : List Int := if isW x.o then 0 :: 0 :: 0 :: 0 :: by4 (x.i / 4294967296) else []
def enc1 (x : Ins) : List Int := x.o % 256 :: (x.d + 16 * x.s) % 256 :: x.f % 256 :: x.f / 256 % 256 :: (by4 x.i ++ encT x)
def encL (l : List Ins) : List Int := l.flatMap enc1
def sizeI (o : Int) : Nat := if isW o then 16 else 8
def slotsP (l : List Ins) : Nat := l.length + (l.filter (fun x => isW x.o)).length
def Byts (B : List Int) : Prop := ∀ k, 0 ≤ gB B k ∧ gB B k < 256
/-- the bounds of an instruction that may be -/
structure Fit (x : Ins) : Prop where
  o0 : 0 ≤ x.o
  o1 : x.o < 256
  d0 : 0 ≤ x.d
  d1 : x.d < 16
  s0 : 0 ≤ x.s
  s1 : x.s < 16
  f0 : -32768 ≤ x.f
  f1 : x.f ≤ 32767
  i0 : isW x.o = false → -2147483648 ≤ x.i
  i1 : isW x.o = false → x.i ≤ 2147483647
  i2 : -9223372036854775808 ≤ x.i
  i3 : x.i ≤ 9223372036854775807
def errD (may : Ins → Int) (B : List Int) : Int :=
  if B.length < 8 then 30 else if isW (gB B 0) then (if B.length < 16 then 30 else if u32 B 8 == 0 then (if may (wideI B) == 0 then 0 else 32) else 31) else if may (slotI B) == 0 then 0 else 32
def insD (B : List Int) : Ins := if isW (gB B 0) then wideI B else slotI B
def sizeD (B : List Int) : Nat := sizeI (gB B 0)

theorem encT_len (x : Ins) : (encT x).length = if isW x.o then 8 else 0 := by unfold encT by4; split <;> rfl
theorem enc1_len (x : Ins) : (enc1 x).length = sizeI x.o := by
  simp only [enc1, List.length_cons, List.length_append, encT_len, sizeI, by4]; split <;> rfl
theorem slotsP_cons (x : Ins) (l : List Ins) : 8 * slotsP (x :: l) = sizeI x.o + 8 * slotsP l := by
  simp only [slotsP, List.filter_cons, sizeI]; split <;> simp <;> omega
theorem encL_len (l : List Ins) : (encL l).length = 8 * slotsP l := by
  induction l with
  | nil => rfl
  | cons x r ih =>
    have : encL (x :: r) = enc1 x ++ encL r := rfl
    rw [this, List.length_append, ih, enc1_len, slotsP_cons]
theorem encL_append (a c : List Ins) : encL (a ++ c) = encL a ++ encL c := by simp [encL, List.flatMap_append]
theorem slotsP_append (a c : List Ins) : slotsP (a ++ c) = slotsP a + slotsP c := by simp [slotsP, List.filter_append]; omega
theorem gB_cons0 (a : Int) (l : List Int) : gB (a :: l) 0 = a := rfl
theorem gB_cons (a : Int) (l : List Int) (k : Nat) : gB (a :: l) (k + 1) = gB l k := rfl
theorem gB_app (a l : List Int) (k : Nat) (h : k < a.length) : gB (a ++ l) k = gB a k := by
  simp [gB, List.getD, List.getElem?_append_left h]
theorem gB_take (B : List Int) (m k : Nat) (h : k < m) : gB (B.take m) k = gB B k := by
  simp [gB, List.getD, List.getElem?_take, h]
theorem gB_drop (B : List Int) (m k : Nat) : gB (B.drop m) k = gB B (m + k) := by
  simp [gB, List.getD]
theorem gB_out (B : List Int) (k : Nat) (h : B.length ≤ k) : gB B k = 0 := by
  simp [gB, List.getD, List.getElem?_eq_none h]
theorem Byts.drop {B : List Int} (h : Byts B) (m : Nat) : Byts (B.drop m) := fun k => by rw [gB_drop]; exact h _
theorem Byts.take {B : List Int} (h : Byts B) (m : Nat) : Byts (B.take m) := fun k => by
  by_cases g : k < m
  · rw [gB_take _ _ _ g]; exact h k
  · rw [gB_out _ _ (by simp; omega)]; omega
theorem Byts.append {B C : List Int} (h : Byts B) (k : Byts C) : Byts (B ++ C) := fun j => by
  by_cases g : j < B.length
  · rw [gB_app _ _ _ g]; exact h j
  · have : gB (B ++ C) j = gB C (j - B.length) := by simp [gB, List.getD, List.getElem?_append_right (show B.length ≤ j by omega)]
    rw [this]; exact k _
theorem Byts.nil : Byts [] := fun k => by simp [gB]
theorem Byts.cons {a : Int} {B : List Int} (h0 : 0 ≤ a) (h1 : a < 256) (h : Byts B) : Byts (a :: B) := fun k => by
  cases k with
  | zero => exact ⟨h0, h1⟩
  | succ k => exact h k
theorem Byts.by4 (v : Int) : Byts (by4 v) := Byts.cons (by omega) (by omega) (Byts.cons (by omega) (by omega) (Byts.cons (by omega) (by omega) (Byts.cons (by omega) (by omega) Byts.nil)))
theorem enc1_byts (x : Ins) : Byts (enc1 x) := by
  refine Byts.cons (by omega) (by omega) (Byts.cons (by omega) (by omega) (Byts.cons (by omega) (by omega) (Byts.cons (by omega) (by omega) ((Byts.by4 _).append ?_))))
  unfold encT
  split
  · exact Byts.cons (by omega) (by omega) (Byts.cons (by omega) (by omega) (Byts.cons (by omega) (by omega) (Byts.cons (by omega) (by omega) (Byts.by4 _))))
  · exact Byts.nil
theorem encL_byts : ∀ l : List Ins, Byts (encL l)
  | [] => Byts.nil
  | x :: r => (enc1_byts x).append (encL_byts r)
theorem by4_val (v : Int) (l : List Int) : gB (by4 v ++ l) 0 + 256 * gB (by4 v ++ l) 1 + 65536 * gB (by4 v ++ l) 2 + 16777216 * gB (by4 v ++ l) 3 = v % 4294967296 := by
  show v % 256 + 256 * (v / 256 % 256) + 65536 * (v / 65536 % 256) + 16777216 * (v / 16777216 % 256) = _
  omega
theorem sx32 (v : Int) (h0 : -2147483648 ≤ v) (h1 : v ≤ 2147483647) : sx 2147483648 (v % 4294967296) = v := by unfold sx; split <;> omega
theorem sx16 (v : Int) (h0 : -32768 ≤ v) (h1 : v ≤ 32767) : sx 32768 (v % 256 + 256 * (v / 256 % 256)) = v := by unfold sx; split <;> omega
theorem dec_enc (may : Ins → Int) (x : Ins) (h : Fit x) (hm : may x = 0) (R : List Int) : errD may (enc1 x ++ R) = 0 ∧ insD (enc1 x ++ R) = x ∧ sizeD (enc1 x ++ R) = (enc1 x).length := by
  have g0 : gB (enc1 x ++ R) 0 = x.o := by show x.o % 256 = x.o; have := h.o0; have := h.o1; omega
  have g1 : gB (enc1 x ++ R) 1 % 16 = x.d := by show (x.d + 16 * x.s) % 256 % 16 = _; have := h.d0; have := h.d1; have := h.s0; have := h.s1; omega
  have g1' : gB (enc1 x ++ R) 1 / 16 = x.s := by show (x.d + 16 * x.s) % 256 / 16 = _; have := h.d0; have := h.d1; have := h.s0; have := h.s1; omega
  have g2 : sx 32768 (u16 (enc1 x ++ R) 2) = x.f := sx16 x.f h.f0 h.f1
  have g4 : u32 (enc1 x ++ R) 4 = x.i % 4294967296 := by4_val x.i []
  have hlen : (enc1 x ++ R).length = sizeI x.o + R.length := by rw [List.length_append, enc1_len]
  refine ⟨?_, ?_, ?_⟩
  · unfold errD
    rw [g0, hlen]
    cases hw : isW x.o
    · rw [if_neg (by simp only [sizeI, hw]; simp), if_neg (by simp)]
      have : slotI (enc1 x ++ R) = x := by
        refine Ins.same g0 g1 g1' g2 ?_
        show sx _ (u32 _ 4) = _
        rw [g4]; exact sx32 _ (h.i0 hw) (h.i1 hw)
      rw [this, hm]; rfl
    · have e12 : u32 (enc1 x ++ R) 12 = x.i / 4294967296 % 4294967296 := by
        have : u32 (enc1 x ++ R) 12 = u32 (by4 (x.i / 4294967296)) 0 := by
          simp only [enc1, encT, hw, if_true, by4]; rfl
        rw [this]; exact by4_val (x.i / 4294967296) []
      have e8 : u32 (enc1 x ++ R) 8 = 0 := by simp only [enc1, encT, hw, if_true, by4]; rfl
      have : wideI (enc1 x ++ R) = x := by
        refine Ins.same g0 g1 g1' g2 ?_
        show u32 _ 4 + 4294967296 * sx _ (u32 _ 12) = _
        rw [g4, e12, sx32 _ (by have := h.i2; omega) (by have := h.i3; omega)]
        omega
      rw [if_neg (by simp only [sizeI, hw, if_true]; omega), if_pos rfl, if_neg (by simp only [sizeI, hw, if_true]; omega), e8, this, hm]; rfl
  · unfold insD
    rw [g0]
    cases hw : isW x.o
    · simp only [Bool.false_eq_true, if_false]
      refine Ins.same g0 g1 g1' g2 ?_
      show sx _ (u32 _ 4) = _
      rw [g4]; exact sx32 _ (h.i0 hw) (h.i1 hw)
    · simp only [if_true]
      have e12 : u32 (enc1 x ++ R) 12 = x.i / 4294967296 % 4294967296 := by
        have : u32 (enc1 x ++ R) 12 = u32 (by4 (x.i / 4294967296)) 0 := by
          simp only [enc1, encT, hw, if_true, by4]; rfl
        rw [this]; exact by4_val (x.i / 4294967296) []
      refine Ins.same g0 g1 g1' g2 ?_
      show u32 _ 4 + 4294967296 * sx _ (u32 _ 12) = _
      rw [g4, e12, sx32 _ (by have := h.i2; omega) (by have := h.i3; omega)]
      omega
  · unfold sizeD; rw [g0, enc1_len]
theorem val_by4 (a b c d h : Int) (ha : 0 ≤ a ∧ a < 256) (hb : 0 ≤ b ∧ b < 256) (hc : 0 ≤ c ∧ c < 256) (hd : 0 ≤ d ∧ d < 256) : by4 (a + 256 * b + 65536 * c + 16777216 * d + 4294967296 * h) = [a, b, c, d] := by
  simp only [by4, List.cons.injEq, and_true]
  omega
theorem sx_form (v : Int) : ∃ h : Int, sx 2147483648 v = v + 4294967296 * h := by
  unfold sx; split
  · exact ⟨0, by omega⟩
  · exact ⟨-1, by omega⟩
theorem take_eight (B : List Int) (h : 8 ≤ B.length) : B.take 8 = [gB B 0, gB B 1, gB B 2, gB B 3, gB B 4, gB B 5, gB B 6, gB B 7] := by
  match B, h with
  | a :: b :: c :: d :: e :: f :: g :: i :: r, _ => rfl
theorem take_sixteen (B : List Int) (h : 16 ≤ B.length) : B.take 16 = [gB B 0, gB B 1, gB B 2, gB B 3, gB B 4, gB B 5, gB B 6, gB B 7, gB B 8, gB B 9, gB B 10, gB B 11, gB B 12, gB B 13, gB B 14, gB B 15] := by
  match B, h with
  | a :: b :: c :: d :: e :: f :: g :: i :: a' :: b' :: c' :: d' :: e' :: f' :: g' :: i' :: r, _ => rfl
theorem enc_dec (may : Ins → Int) (B : List Int) (hB : Byts B) (h : errD may B = 0) : enc1 (insD B) = B.take (sizeD B) ∧ sizeD B ≤ B.length ∧ may (insD B) = 0 := by
  unfold errD at h
  by_cases h8 : B.length < 8
  · rw [if_pos h8] at h; cases h
  rw [if_neg h8] at h
  have b0 := hB 0
  have b1 := hB 1
  have b2 := hB 2
  have b3 := hB 3
  have hh : gB B 0 % 256 = gB B 0 := by omega
  have hr : (gB B 1 % 16 + 16 * (gB B 1 / 16)) % 256 = gB B 1 := by omega
  have eu : u16 B 2 = gB B 2 + 256 * gB B 3 := rfl
  have hf1 : sx 32768 (u16 B 2) % 256 = gB B 2 := by rw [eu]; unfold sx; split <;> omega
  have hf2 : sx 32768 (u16 B 2) / 256 % 256 = gB B 3 := by rw [eu]; unfold sx; split <;> omega
  cases hw : isW (gB B 0)
  · rw [hw] at h
    simp only [Bool.false_eq_true, if_false] at h
    have hm : may (slotI B) = 0 := by
      by_cases hm : may (slotI B) = 0
      · exact hm
      · have : (may (slotI B) == 0) = false := by simpa using hm
        rw [this] at h; cases h
    have e : insD B = slotI B := by simp [insD, hw]
    have es : sizeD B = 8 := by simp [sizeD, sizeI, hw]
    refine ⟨?_, by omega, by rw [e]; exact hm⟩
    rw [e, es, take_eight B (by omega)]
    obtain ⟨q, hq⟩ := sx_form (u32 B 4)
    have e4 : by4 (sx 2147483648 (u32 B 4)) = [gB B 4, gB B 5, gB B 6, gB B 7] := by
      rw [hq]; exact val_by4 _ _ _ _ q (hB 4) (hB 5) (hB 6) (hB 7)
    have eT : encT (slotI B) = [] := by unfold encT; rw [show isW (slotI B).o = false from hw]; rfl
    show gB B 0 % 256 :: (gB B 1 % 16 + 16 * (gB B 1 / 16)) % 256 :: sx 32768 (u16 B 2) % 256 :: sx 32768 (u16 B 2) / 256 % 256 :: (by4 (sx 2147483648 (u32 B 4)) ++ encT (slotI B)) = _
    rw [hh, hr, hf1, hf2, e4, eT]; rfl
  · rw [hw] at h
    simp only [if_true] at h
    by_cases h16 : B.length < 16
    · rw [if_pos h16] at h; cases h
    rw [if_neg h16] at h
    have h80 : u32 B 8 = 0 := by
      by_cases g : u32 B 8 = 0
      · exact g
      · have : (u32 B 8 == 0) = false := by simpa using g
        rw [this] at h; cases h
    rw [h80] at h
    have hm : may (wideI B) = 0 := by
      by_cases hm : may (wideI B) = 0
      · exact hm
      · have : (may (wideI B) == 0) = false := by simpa using hm
        rw [this] at h; cases h
    have e : insD B = wideI B := by simp [insD, hw]
    have es : sizeD B = 16 := by simp [sizeD, sizeI, hw]
    refine ⟨?_, by omega, by rw [e]; exact hm⟩
    rw [e, es, take_sixteen B (by omega)]
    have k8 := hB 8
    have k9 := hB 9
    have k10 := hB 10
    have k11 := hB 11
    have h80' : gB B 8 + 256 * gB B 9 + 65536 * gB B 10 + 16777216 * gB B 11 = 0 := h80
    have z8 : gB B 8 = 0 := by omega
    have z9 : gB B 9 = 0 := by omega
    have z10 : gB B 10 = 0 := by omega
    have z11 : gB B 11 = 0 := by omega
    have bd : 0 ≤ u32 B 4 ∧ u32 B 4 < 4294967296 := by
      have := hB 4; have := hB 5; have := hB 6; have := hB 7
      have e : u32 B 4 = gB B 4 + 256 * gB B 5 + 65536 * gB B 6 + 16777216 * gB B 7 := rfl
      omega
    have e4 : by4 (u32 B 4 + 4294967296 * sx 2147483648 (u32 B 12)) = [gB B 4, gB B 5, gB B 6, gB B 7] := val_by4 _ _ _ _ _ (hB 4) (hB 5) (hB 6) (hB 7)
    have ed : (u32 B 4 + 4294967296 * sx 2147483648 (u32 B 12)) / 4294967296 = sx 2147483648 (u32 B 12) := by omega
    obtain ⟨q, hq⟩ := sx_form (u32 B 12)
    have e12 : by4 (sx 2147483648 (u32 B 12)) = [gB B 12, gB B 13, gB B 14, gB B 15] := by
      rw [hq]; exact val_by4 _ _ _ _ q (hB 12) (hB 13) (hB 14) (hB 15)
    have eT : encT (wideI B) = [0, 0, 0, 0, gB B 12, gB B 13, gB B 14, gB B 15] := by
      unfold encT
      rw [show isW (wideI B).o = true from hw]
      show 0 :: 0 :: 0 :: 0 :: by4 ((u32 B 4 + 4294967296 * sx 2147483648 (u32 B 12)) / 4294967296) = _
      rw [ed, e12]
    show gB B 0 % 256 :: (gB B 1 % 16 + 16 * (gB B 1 / 16)) % 256 :: sx 32768 (u16 B 2) % 256 :: sx 32768 (u16 B 2) / 256 % 256 :: (by4 (u32 B 4 + 4294967296 * sx 2147483648 (u32 B 12)) ++ encT (wideI B)) = _
    rw [hh, hr, hf1, hf2, e4, eT, z8, z9, z10, z11]; rfl

/-- the state behind n instructions: what was taken, and where -/
def decN (may : Ins → Int) (B : List Int) : Nat → List Ins × Nat
  | 0 => ([], 0)
  | n + 1 => if (decN may B n).2 < B.length ∧ errD may (B.drop (decN may B n).2) = 0 then ((decN may B n).1 ++ [insD (B.drop (decN may B n).2)], (decN may B n).2 + sizeD (B.drop (decN may B n).2)) else decN may B n
def Stuck (may : Ins → Int) (B : List Int) (n : Nat) : Prop := ¬ ((decN may B n).2 < B.length ∧ errD may (B.drop (decN may B n).2) = 0)
theorem stuck_later {may : Ins → Int} {B : List Int} {n : Nat} (h : Stuck may B n) : ∀ k, decN may B (n + k) = decN may B n
  | 0 => rfl
  | k + 1 => by
    have ih := stuck_later h k
    have e : decN may B (n + k + 1) = decN may B (n + k) := if_neg (by rw [ih]; exact h)
    exact e.trans ih
theorem stuck_one {may : Ins → Int} {B : List Int} {n m : Nat} (h : Stuck may B n) (k : Stuck may B m) : decN may B n = decN may B m := by
  rcases Nat.le_total n m with l | l
  · obtain ⟨q, rfl⟩ := Nat.exists_eq_add_of_le l
    exact (stuck_later h q).symm
  · obtain ⟨q, rfl⟩ := Nat.exists_eq_add_of_le l
    exact stuck_later k q
theorem decN_step {may : Ins → Int} {B : List Int} {n : Nat} {is : List Ins} {at' : Nat} (h : decN may B n = (is, at')) (hl : at' < B.length) (he : errD may (B.drop at') = 0) : decN may B (n + 1) = (is ++ [insD (B.drop at')], at' + sizeD (B.drop at')) := by
  show (if _ then _ else _) = _
  rw [h]; exact if_pos ⟨hl, he⟩
/-- Decode's answer -/
def DecIs (may : Ins → Int) (B : List Int) (is : List Ins) (k : Int) (e : Int) : Prop :=
  ∃ n, Stuck may B n ∧ ((is = (decN may B n).1 ∧ (decN may B n).2 = B.length ∧ k = 0 ∧ e = 0) ∨ (is = [] ∧ (decN may B n).2 < B.length ∧ k = (decN may B n).2 / 8 ∧ e = errD may (B.drop (decN may B n).2) ∧ e ≠ 0))
theorem DecIs.one {may : Ins → Int} {B : List Int} {is is' : List Ins} {k k' e e' : Int} (h : DecIs may B is k e) (g : DecIs may B is' k' e') : is = is' ∧ k = k' ∧ e = e' := by
  obtain ⟨n, hn, h⟩ := h
  obtain ⟨m, hm, g⟩ := g
  rw [stuck_one hn hm] at h
  rcases h with ⟨rfl, h1, rfl, rfl⟩ | ⟨rfl, h1, rfl, rfl, h2⟩ <;> rcases g with ⟨rfl, g1, rfl, rfl⟩ | ⟨rfl, g1, rfl, rfl, g2⟩
  · exact ⟨rfl, rfl, rfl⟩
  · omega
  · omega
  · exact ⟨rfl, rfl, rfl⟩
/-- what holds of every state -/
theorem decN_inv (may : Ins → Int) (B : List Int) (hB : Byts B) : ∀ n, (decN may B n).2 ≤ B.length ∧ encL (decN may B n).1 = B.take (decN may B n).2 ∧ (∀ x ∈ (decN may B n).1, may x = 0) ∧ (decN may B n).2 % 8 = 0 ∧ 8 * (decN may B n).1.length ≤ (decN may B n).2
  | 0 => ⟨Nat.zero_le _, by simp [decN, encL], by simp [decN], rfl, Nat.le_refl _⟩
  | n + 1 => by
    have ih := decN_inv may B hB n
    by_cases h : (decN may B n).2 < B.length ∧ errD may (B.drop (decN may B n).2) = 0
    · obtain ⟨p, q⟩ : ∃ p q, decN may B n = (p, q) := ⟨_, _, rfl⟩
      obtain ⟨q, hq⟩ := q
      rw [hq] at h ih
      rw [decN_step hq h.1 h.2]
      obtain ⟨e1, e2, e3⟩ := enc_dec may (B.drop q) (hB.drop q) h.2
      obtain ⟨i1, i2, i3, i4, i5⟩ := ih
      simp only [List.length_drop] at e2
      simp only at i1 i2 i3 i4 i5
      refine ⟨by simp only; omega, ?_, ?_, ?_, ?_⟩
      · simp only [encL_append, i2]
        rw [show encL [insD (B.drop q)] = enc1 (insD (B.drop q)) from by simp [encL], e1, List.take_add]
      · intro x hx
        simp only [List.mem_append, List.mem_singleton] at hx
        rcases hx with hx | rfl
        · exact i3 x hx
        · exact e3
      · simp only [sizeD, sizeI]; split <;> omega
      · simp only [List.length_append, List.length_singleton, sizeD, sizeI]; split <;> omega
    · have : decN may B (n + 1) = decN may B n := if_neg h
      rw [this]; exact ih
theorem take_drop_len {B : List Int} {a : Nat} : (B.drop a).length = B.length - a := by simp
theorem flat_drop (l : List Ins) : ∀ n, n ≤ l.length → (encL l).drop (encL (l.take n)).length = encL (l.drop n) := by
  intro n hn
  have : encL l = encL (l.take n) ++ encL (l.drop n) := by rw [← encL_append, List.take_append_drop]
  rw [this, List.drop_left]
/-- the instructions' bytes, with others behind them, are read as the instructions -/
theorem decN_enc (may : Ins → Int) (l : List Ins) (R : List Int) (h : ∀ x ∈ l, Fit x ∧ may x = 0) : ∀ n, n ≤ l.length → decN may (encL l ++ R) n = (l.take n, (encL (l.take n)).length)
  | 0, _ => by simp [decN, encL]
  | n + 1, hn => by
    have ih := decN_enc may l R h n (by omega)
    have hs : l.drop n = l[n] :: l.drop (n + 1) := List.drop_eq_getElem_cons (by omega)
    have hsplit : encL l ++ R = encL (l.take n) ++ (enc1 l[n] ++ (encL (l.drop (n + 1)) ++ R)) := by
      have e1 : encL l = encL (l.take n) ++ encL (l.drop n) := by rw [← encL_append, List.take_append_drop]
      rw [e1, hs]
      show (encL _ ++ (enc1 l[n] ++ encL _)) ++ R = _
      simp only [List.append_assoc]
    obtain ⟨k1, k2, k3⟩ := dec_enc may l[n] (h _ (List.getElem_mem _)).1 (h _ (List.getElem_mem _)).2 (encL (l.drop (n + 1)) ++ R)
    have hd : (encL l ++ R).drop (encL (l.take n)).length = enc1 l[n] ++ (encL (l.drop (n + 1)) ++ R) := by rw [hsplit, List.drop_left]
    have hlt : (encL (l.take n)).length < (encL l ++ R).length := by
      rw [hsplit]; simp only [List.length_append, enc1_len, sizeI]; split <;> omega
    rw [decN_step ih hlt (by rw [hd]; exact k1), hd, k2, k3]
    have e2 : l.take (n + 1) = l.take n ++ [l[n]] := by rw [List.take_succ_eq_append_getElem]
    rw [e2, encL_append, List.length_append]
    congr 2
    simp [encL]
theorem dec_back (may : Ins → Int) (l : List Ins) (h : ∀ x ∈ l, Fit x ∧ may x = 0) : DecIs may (encL l) l 0 0 := by
  have h1 := decN_enc may l [] h l.length (Nat.le_refl _)
  simp only [List.append_nil, List.take_length] at h1
  refine ⟨l.length, ?_, .inl ?_⟩
  · unfold Stuck; rw [h1]; simp
  · rw [h1]; simp
theorem dec_cut (may : Ins → Int) (l : List Ins) (R : List Int) (h : ∀ x ∈ l, Fit x ∧ may x = 0) (h0 : 0 < R.length) (h8 : R.length < 8) : DecIs may (encL l ++ R) [] ((encL l).length / 8 : Nat) 30 := by
  have h1 := decN_enc may l R h l.length (Nat.le_refl _)
  simp only [List.take_length] at h1
  have he : errD may ((encL l ++ R).drop (encL l).length) = 30 := by
    rw [List.drop_left]; unfold errD; rw [if_pos h8]
  refine ⟨l.length, ?_, .inr ?_⟩
  · unfold Stuck; rw [h1]
    simp only
    rw [he]; simp
  · rw [h1]
    simp only
    rw [he]
    refine ⟨trivial, ?_, by simp, rfl, by decide⟩
    simp only [List.length_append]; omega
/-- an instruction that is taken off a beginning is taken off the whole -/
theorem err_take (may : Ins → Int) (B : List Int) (m : Nat) (h : errD may (B.take m) = 0) : errD may B = 0 ∧ insD (B.take m) = insD B ∧ sizeD (B.take m) = sizeD B ∧ sizeD B ≤ m := by
  unfold errD at h
  have hl : (B.take m).length = min m B.length := List.length_take
  by_cases h8 : (B.take m).length < 8
  · rw [if_pos h8] at h; cases h
  rw [if_neg h8] at h
  have g0 : gB (B.take m) 0 = gB B 0 := gB_take _ _ _ (by omega)
  have es : slotI (B.take m) = slotI B := by
    simp only [slotI, u16, u32, gB_take B m 0 (by omega), gB_take B m 1 (by omega), gB_take B m 2 (by omega), gB_take B m (2 + 1) (by omega), gB_take B m 4 (by omega), gB_take B m (4 + 1) (by omega), gB_take B m (4 + 2) (by omega), gB_take B m (4 + 3) (by omega)]
  cases hw : isW (gB B 0)
  · have e1 : insD (B.take m) = insD B := by simp only [insD, g0, hw, es]; rfl
    have e2 : sizeD B = 8 := by simp [sizeD, sizeI, hw]
    refine ⟨?_, e1, by simp only [sizeD, g0], by omega⟩
    rw [g0, hw, es] at h
    unfold errD
    rw [if_neg (by omega), hw]; exact h
  · rw [g0, hw] at h
    simp only [if_true] at h
    by_cases h16 : (B.take m).length < 16
    · rw [if_pos h16] at h; cases h
    rw [if_neg h16] at h
    have ew : wideI (B.take m) = wideI B := by
      simp only [wideI, u16, u32, gB_take B m 0 (by omega), gB_take B m 1 (by omega), gB_take B m 2 (by omega), gB_take B m (2 + 1) (by omega), gB_take B m 4 (by omega), gB_take B m (4 + 1) (by omega), gB_take B m (4 + 2) (by omega), gB_take B m (4 + 3) (by omega), gB_take B m 12 (by omega), gB_take B m (12 + 1) (by omega), gB_take B m (12 + 2) (by omega), gB_take B m (12 + 3) (by omega)]
    have e8 : u32 (B.take m) 8 = u32 B 8 := by
      simp only [u32, gB_take B m 8 (by omega), gB_take B m (8 + 1) (by omega), gB_take B m (8 + 2) (by omega), gB_take B m (8 + 3) (by omega)]
    have e2 : sizeD B = 16 := by simp [sizeD, sizeI, hw]
    refine ⟨?_, by simp only [insD, g0, hw, ew, es], by simp only [sizeD, g0], by omega⟩
    rw [ew, e8] at h
    unfold errD
    rw [if_neg (by omega), hw]
    simp only [if_true]
    rw [if_neg (by omega)]; exact h
theorem err_take_back (may : Ins → Int) (B : List Int) (m : Nat) (h : errD may B = 0) (hm : sizeD B ≤ m) : errD may (B.take m) = 0 := by
  have hl : (B.take m).length = min m B.length := List.length_take
  unfold errD at h
  by_cases h8 : B.length < 8
  · rw [if_pos h8] at h; cases h
  rw [if_neg h8] at h
  have hs8 : 8 ≤ sizeD B := by simp only [sizeD, sizeI]; split <;> omega
  have g0 : gB (B.take m) 0 = gB B 0 := gB_take _ _ _ (by omega)
  have es : slotI (B.take m) = slotI B := by
    simp only [slotI, u16, u32, gB_take B m 0 (by omega), gB_take B m 1 (by omega), gB_take B m 2 (by omega), gB_take B m (2 + 1) (by omega), gB_take B m 4 (by omega), gB_take B m (4 + 1) (by omega), gB_take B m (4 + 2) (by omega), gB_take B m (4 + 3) (by omega)]
  unfold errD
  rw [if_neg (by omega), g0]
  cases hw : isW (gB B 0)
  · rw [hw] at h; rw [es]; exact h
  · rw [hw] at h
    simp only [if_true] at h ⊢
    by_cases h16 : B.length < 16
    · rw [if_pos h16] at h; cases h
    rw [if_neg h16] at h
    have e2 : sizeD B = 16 := by simp [sizeD, sizeI, hw]
    have ew : wideI (B.take m) = wideI B := by
      simp only [wideI, u16, u32, gB_take B m 0 (by omega), gB_take B m 1 (by omega), gB_take B m 2 (by omega), gB_take B m (2 + 1) (by omega), gB_take B m 4 (by omega), gB_take B m (4 + 1) (by omega), gB_take B m (4 + 2) (by omega), gB_take B m (4 + 3) (by omega), gB_take B m 12 (by omega), gB_take B m (12 + 1) (by omega), gB_take B m (12 + 2) (by omega), gB_take B m (12 + 3) (by omega)]
    have e8 : u32 (B.take m) 8 = u32 B 8 := by
      simp only [u32, gB_take B m 8 (by omega), gB_take B m (8 + 1) (by omega), gB_take B m (8 + 2) (by omega), gB_take B m (8 + 3) (by omega)]
    rw [if_neg (by omega), ew, e8]; exact h
theorem sizeD_pos (B : List Int) : 8 ≤ sizeD B := by simp only [sizeD, sizeI]; split <;> omega
/-- of a beginning that holds all that was taken the states are the same -/
theorem decN_take (may : Ins → Int) (B : List Int) (m : Nat) : ∀ n, (decN may B n).2 ≤ m → decN may (B.take m) n = decN may B n
  | 0, _ => rfl
  | n + 1, hm => by
    by_cases h : (decN may B n).2 < B.length ∧ errD may (B.drop (decN may B n).2) = 0
    · have e : decN may B (n + 1) = ((decN may B n).1 ++ [insD (B.drop (decN may B n).2)], (decN may B n).2 + sizeD (B.drop (decN may B n).2)) := if_pos h
      rw [e] at hm ⊢
      simp only at hm
      have ih := decN_take may B m n (by omega)
      have hp := sizeD_pos (B.drop (decN may B n).2)
      have hd : (B.take m).drop (decN may B n).2 = (B.drop (decN may B n).2).take (m - (decN may B n).2) := List.drop_take ..
      have k := err_take_back may (B.drop (decN may B n).2) (m - (decN may B n).2) h.2 (by omega)
      obtain ⟨k1, k2, k3, k4⟩ := err_take may (B.drop (decN may B n).2) (m - (decN may B n).2) k
      have hlt : (decN may B n).2 < (B.take m).length := by simp only [List.length_take]; omega
      rw [decN_step (is := (decN may B n).1) (at' := (decN may B n).2) ih hlt (by rw [hd]; exact k), hd, k2, k3]
    · have e : decN may B (n + 1) = decN may B n := if_neg h
      rw [e] at hm ⊢
      have ih := decN_take may B m n hm
      have e' : decN may (B.take m) (n + 1) = decN may (B.take m) n := by
        refine if_neg ?_
        rw [ih]
        rintro ⟨h1, h2⟩
        simp only [List.length_take] at h1
        have hd : (B.take m).drop (decN may B n).2 = (B.drop (decN may B n).2).take (m - (decN may B n).2) := List.drop_take ..
        rw [hd] at h2
        exact h ⟨by omega, (err_take may _ _ h2).1⟩
      rw [e', ih]
/-- where bytes are refused: the slots ahead are taken, and no beginning that ends behind it is -/
theorem dec_refused (may : Ins → Int) (B : List Int) (hB : Byts B) (is : List Ins) (k e : Int) (h : DecIs may B is k e) (he : e ≠ 0) :
    is = [] ∧ ∃ q : Nat, k = q ∧ 8 * q < B.length ∧ (30 ≤ e ∧ e ≤ 32) ∧ (∃ is', DecIs may (B.take (8 * q)) is' 0 0) ∧ ∀ m, 8 * q < m → m ≤ B.length → ∃ e', e' ≠ 0 ∧ DecIs may (B.take m) [] k e' := by
  obtain ⟨n, hn, ⟨_, _, _, h0⟩ | ⟨rfl, h1, rfl, rfl, h2⟩⟩ := h
  · exact absurd h0 he
  obtain ⟨i1, i2, i3, i4, i5⟩ := decN_inv may B hB n
  refine ⟨rfl, (decN may B n).2 / 8, by simp, by omega, ?_, ?_, ?_⟩
  · clear he
    revert h2; unfold errD
    repeat' split
    all_goals simp
  · rw [show 8 * ((decN may B n).2 / 8) = (decN may B n).2 by omega]
    have e := decN_take may B (decN may B n).2 n (Nat.le_refl _)
    refine ⟨(decN may B n).1, n, ?_, .inl ⟨by rw [e], by rw [e]; simp; omega, rfl, rfl⟩⟩
    unfold Stuck
    rw [e]; simp; omega
  · intro m hm hm2
    rw [show 8 * ((decN may B n).2 / 8) = (decN may B n).2 by omega] at hm
    have e := decN_take may B m n (by omega)
    have hd : (B.take m).drop (decN may B n).2 = (B.drop (decN may B n).2).take (m - (decN may B n).2) := List.drop_take ..
    have hne : errD may ((B.take m).drop (decN may B n).2) ≠ 0 := by
      rw [hd]; intro h0; exact h2 (err_take may _ _ h0).1
    refine ⟨errD may ((B.take m).drop (decN may B n).2), hne, n, ?_, .inr ⟨rfl, ?_, ?_, ?_, hne⟩⟩
    · unfold Stuck; rw [e]; exact fun h => hne h.2
    · rw [e]; simp only [List.length_take]; omega
    · rw [e]
    · rw [e]
theorem dec_forth (may : Ins → Int) (B : List Int) (hB : Byts B) (is : List Ins) (k : Int) (h : DecIs may B is k 0) : k = 0 ∧ encL is = B ∧ ∀ x ∈ is, may x = 0 := by
  obtain ⟨n, hn, ⟨rfl, h1, rfl, _⟩ | ⟨_, _, _, _, h0⟩⟩ := h
  · obtain ⟨i1, i2, i3, i4, i5⟩ := decN_inv may B hB n
    exact ⟨rfl, by rw [i2, h1, List.take_length], i3⟩
  · exact absurd rfl h0
end Go.Proofs.YtkihaohdcgjioaaGreatDoor
