import Derived.Test.YtcomhlimgocoaaaGreatDoorGc19
namespace Go.Proofs.YtcomhlimgocoaaaGreatDoor
open Go.RowKit
set_option linter.unusedVariables false
set_option linter.unusedSimpArgs false
/-- what stands behind the mnemonic is read -/
def opdL (t : Int × Int × Int) (r : RS) : RS :=
  if t.1 = 0 then r else if t.2.1 = 0 then opS t.1 r else if t.2.2 = 0 then opS t.2.1 (markS [44] (opS t.1 r)) else opS t.2.2 (markS [44] (opS t.2.1 (markS [44] (opS t.1 r))))
def opsS (t : Int × Int × Int) (r : RS) : RS := { opdL t r with wrong := (opdL t r).wrong || !(opdL t r).tok.isEmpty }
def tOf (o s f : Int) : Int × Int × Int := opdsP (formP o) s f (useS o (formP o))
structure PR where
  o : Int
  d : Int
  s : Int
  f : Int
  i : Int
  tgt : List UInt8
  e : Int
def behindS (m : Mn) (r : RS) : RS := opsS (tOf m.1 m.2.1 m.2.2.1) (RS.next { r with o := m.1, d := 0, s := m.2.1, f := m.2.2.1, i := m.2.2.2 })
def parseP (l : List UInt8) : PR :=
  match meanOf (newR l).tok with
  | none => ⟨0, 0, 0, 0, 0, [], 40⟩
  | some m => if (behindS m (newR l)).wrong then ⟨0, 0, 0, 0, 0, [], 41⟩ else if (behindS m (newR l)).outside then ⟨0, 0, 0, 0, 0, [], 42⟩ else ⟨(behindS m (newR l)).o, (behindS m (newR l)).d, (behindS m (newR l)).s, (behindS m (newR l)).f, (behindS m (newR l)).i, (behindS m (newR l)).tgt, 0⟩
/-- the mnemonic of an instruction -/
def shrO (o : Int) : Nat := (o / 16).toNat
def pick2 (T : List (List UInt8 × List UInt8)) (k : Nat) (b : Bool) : List UInt8 := match T[k]? with | some r => (if b then r.2 else r.1) | none => []
def wOff (o f : Int) : List UInt8 := match offT.find? (fun r => bits .or .i64 o 8 == bits .or .i64 r.1 8 && f == r.2.1) with | some r => r.2.2 | none => []
def wImm (o i : Int) : List UInt8 := match immT.find? (fun r => o == r.1 && i == r.2.1) with | some r => r.2.2 | none => []
def wMem (o i : Int) : List UInt8 := match memT.find? (fun r => bits .andNot .i64 o 24 == r.1) with | some r => r.2.getD (bits .and .i64 o 24 / 8).toNat [] | none => wImm o i
def wReck (o f i : Int) : List UInt8 := if f = 0 then (if shrO o = 13 then wImm o i else pick2 reckT (shrO o) (!(cls o == 7))) else wOff o f
def wordP (o s f i : Int) : List UInt8 :=
  if cls o = 0 then (if s = 1 then [108, 100, 109, 97, 112] else [108, 100, 100, 119]) else if cls o = 7 then wReck o f i else if cls o = 4 then wReck o f i else if cls o = 5 then pick2 jumpT (shrO o) false else if cls o = 6 then pick2 jumpT (shrO o) true else wMem o i
/-- an operand as it is printed -/
def opdTx (o d s f i : Int) (t : List UInt8) (c : Int) : List UInt8 :=
  if c = 1 then regL d.toNat else if c = 2 then regL s.toNat else if c = 3 then Lib.itoa i else if c = 4 then (if hasSrc o then regL s.toNat else Lib.itoa i)
  else if c = 5 then placeTx s.toNat f else if c = 6 then placeTx d.toNat f else if c = 8 then (if s = 1 then t else Lib.itoa i) else t
def tailP (t : Int × Int × Int) (x : Int → List UInt8) : List UInt8 :=
  if t.1 = 0 then [] else 32 :: (x t.1 ++ (if t.2.1 = 0 then [] else 44 :: 32 :: (x t.2.1 ++ (if t.2.2 = 0 then [] else 44 :: 32 :: (x t.2.2 ++ [])))))
def lineP (o d s f i : Int) (t : List UInt8) : List UInt8 := wordP o s f i ++ tailP (tOf o s f) (opdTx o d s f i t)
/-- may it stand with that target -/
def tfitP (o s f i : Int) (t : List UInt8) : Bool :=
  if formP o = 7 then nameP t && f == 0 && i == 0 else if formP o = 8 then nameP t && f == 0 else if formP o = 9 ∧ s = 1 then nameP t && i == -1 else if formP o = 10 ∧ s = 1 then nameP t && i == 0 else t.isEmpty
/-- what an operand that is read puts in -/
def opE (o d s f i : Int) (t : List UInt8) (c : Int) (r : RS) : RS :=
  if c = 1 then { r with d := d } else if c = 2 then { r with s := s } else if c = 3 then { r with i := i } else if c = 4 then (if hasSrc o then { r with o := orB r.o, s := s } else { r with i := i })
  else if c = 5 then { r with s := s, f := f } else if c = 6 then { r with d := d, f := f } else if c = 8 then (if s = 1 then { r with s := 1, i := -1, tgt := t } else { r with i := i }) else { r with tgt := t }
def immOk (i : Int) (r : RS) : Prop := if r.o = 24 then -9223372036854775808 ≤ i ∧ i < 9223372036854775808 else -2147483648 ≤ i ∧ i < 2147483648
def opOk (o d s f i : Int) (t : List UInt8) (c : Int) (r : RS) : Prop :=
  (c = 1 ∧ isReg d = true) ∨ (c = 2 ∧ isReg s = true) ∨ (c = 3 ∧ immOk i r) ∨ (c = 4 ∧ hasSrc o = true ∧ isReg s = true) ∨ (c = 4 ∧ hasSrc o = false ∧ immOk i r) ∨
  (c = 5 ∧ isReg s = true ∧ -32768 ≤ f ∧ f < 32768) ∨ (c = 6 ∧ isReg d = true ∧ -32768 ≤ f ∧ f < 32768) ∨ (c = 7 ∧ nameP t = true) ∨ (c = 8 ∧ s = 1 ∧ nameP t = true) ∨ (c = 8 ∧ ¬ s = 1 ∧ immOk i r)
theorem isReg_nat {d : Int} (h : isReg d = true) : d.toNat < 11 ∧ ((d.toNat : Nat) : Int) = d := by
  simp only [isReg, Bool.and_eq_true, decide_eq_true_eq] at h
  omega
theorem dig_let (c : Int) (h : digP c = true) : letP c = false := by
  rw [Bool.eq_false_iff]
  intro hl
  simp only [digP, Bool.and_eq_true, decide_eq_true_eq] at h
  simp [letP] at hl
  omega
theorem itoa_start (i : Int) (l : List UInt8) (hl : stopP l = true) : startP (tokP (Lib.itoa i ++ l)) = false := by
  by_cases h : i < 0
  · rw [itoa_neg i h, List.cons_append, (tok_mark 45 _ (by decide) (by decide) (by decide)).1]
    rfl
  · rw [itoa_pos i h, (dd_tok _ l hl).1]
    obtain ⟨h1, _, c, m, h3, _⟩ := dd_all i.toNat
    rw [h3] at h1 ⊢
    simp only [List.all_cons, Bool.and_eq_true] at h1
    exact dig_let _ h1.1
theorem name_start {t : List UInt8} (h : nameP t = true) : startP t = true ∧ headOk t = true ∧ t.all runU = true := by
  unfold nameP at h
  simp only [Bool.and_eq_true] at h
  refine ⟨h.1.2, ?_, h.2⟩
  cases t with
  | nil => simp [startP] at h
  | cons c t =>
    have : letP (bI c) = true := h.1.2
    simp [headOk, this]
theorem op_at (o d s f i : Int) (t : List UInt8) (c : Int) (r : RS) (h : opOk o d s f i t c r) (l : List UInt8) (hl : stopP l = true) : opS c (r.at (opdTx o d s f i t c ++ l)) = (opE o d s f i t c r).at l := by
  rcases h with ⟨rfl, h⟩ | ⟨rfl, h⟩ | ⟨rfl, h⟩ | ⟨rfl, hx, h⟩ | ⟨rfl, hx, h⟩ | ⟨rfl, h, hf⟩ | ⟨rfl, h, hf⟩ | ⟨rfl, h⟩ | ⟨rfl, rfl, h⟩ | ⟨rfl, hs, h⟩
  · obtain ⟨h1, h2⟩ := isReg_nat h
    show { (regS (r.at (regL d.toNat ++ l))).1 with d := (regS (r.at (regL d.toNat ++ l))).2 } = { r with d := d }.at l
    rw [reg_at r _ h1 l hl]
    simp only [h2]
    rfl
  · obtain ⟨h1, h2⟩ := isReg_nat h
    show { (regS (r.at (regL s.toNat ++ l))).1 with s := (regS (r.at (regL s.toNat ++ l))).2 } = { r with s := s }.at l
    rw [reg_at r _ h1 l hl]
    simp only [h2]
    rfl
  · show immS (r.at (Lib.itoa i ++ l)) = { r with i := i }.at l
    rw [imm_at r i l hl h]
    rfl
  · obtain ⟨h1, h2⟩ := isReg_nat h
    have e1 : opdTx o d s f i t 4 = regL s.toNat := by show (if hasSrc o then _ else _) = _; rw [hx]; rfl
    have e2 : opE o d s f i t 4 r = { r with o := orB r.o, s := s } := by show (if hasSrc o then _ else _) = _; rw [hx]; rfl
    obtain ⟨k1, k2, k3, _⟩ := regL_ok ⟨s.toNat, h1⟩
    rw [e1, e2]
    show srcS (r.at (regL s.toNat ++ l)) = _
    have e3 : startP (r.at (regL s.toNat ++ l)).tok = true := by
      rw [at_run r _ _ k1 k2 hl]
      exact k3
    unfold srcS
    rw [e3]
    simp only [if_true]
    have e4 : ({ r.at (regL s.toNat ++ l) with o := orB (r.at (regL s.toNat ++ l)).o } : RS) = { r with o := orB r.o }.at (regL s.toNat ++ l) := rfl
    rw [e4, reg_at _ _ h1 l hl]
    simp only [h2]
    rfl
  · have e1 : opdTx o d s f i t 4 = Lib.itoa i := by show (if hasSrc o then _ else _) = _; rw [hx]; rfl
    have e2 : opE o d s f i t 4 r = { r with i := i } := by show (if hasSrc o then _ else _) = _; rw [hx]; rfl
    rw [e1, e2]
    show srcS (r.at (Lib.itoa i ++ l)) = _
    have e3 : startP (r.at (Lib.itoa i ++ l)).tok = false := itoa_start i l hl
    unfold srcS
    rw [e3]
    simp only [Bool.false_eq_true, if_false]
    rw [imm_at r i l hl h]
    rfl
  · obtain ⟨h1, h2⟩ := isReg_nat h
    show { (placeS (r.at (placeTx s.toNat f ++ l))).1 with s := (placeS (r.at (placeTx s.toNat f ++ l))).2.1, f := (placeS (r.at (placeTx s.toNat f ++ l))).2.2 } = { r with s := s, f := f }.at l
    rw [place_at r _ h1 f hf l]
    simp only [h2]
    rfl
  · obtain ⟨h1, h2⟩ := isReg_nat h
    show { (placeS (r.at (placeTx d.toNat f ++ l))).1 with d := (placeS (r.at (placeTx d.toNat f ++ l))).2.1, f := (placeS (r.at (placeTx d.toNat f ++ l))).2.2 } = { r with d := d, f := f }.at l
    rw [place_at r _ h1 f hf l]
    simp only [h2]
    rfl
  · show nameS (r.at (t ++ l)) = { r with tgt := t }.at l
    rw [name_at r t l h hl]
    rfl
  · show helpS (r.at (t ++ l)) = { r with s := 1, i := -1, tgt := t }.at l
    obtain ⟨n1, n2, n3⟩ := name_start h
    have e3 : startP (r.at (t ++ l)).tok = true := by
      rw [at_run r t l n2 n3 hl]
      exact n1
    unfold helpS
    rw [e3]
    simp only [if_true]
    have e4 : ({ r.at (t ++ l) with s := 1, i := -1 } : RS) = { r with s := 1, i := -1 }.at (t ++ l) := rfl
    rw [e4, name_at _ t l h hl]
    rfl
  · have e1 : opdTx o d s f i t 8 = Lib.itoa i := by show (if s = 1 then _ else _) = _; rw [if_neg hs]
    have e2 : opE o d s f i t 8 r = { r with i := i } := by show (if s = 1 then _ else _) = _; rw [if_neg hs]
    rw [e1, e2]
    show helpS (r.at (Lib.itoa i ++ l)) = _
    have e3 : startP (r.at (Lib.itoa i ++ l)).tok = false := itoa_start i l hl
    unfold helpS
    rw [e3]
    simp only [Bool.false_eq_true, if_false]
    rw [imm_at r i l hl h]
    rfl
theorem comma_at (r : RS) (l : List UInt8) : markS [44] (r.at (44 :: 32 :: l)) = r.at l := by
  rw [mark_at r 44 _ (by decide) (by decide) (by decide), at_blank r 32 l (.inl rfl)]
/-- behind the mnemonic, as it is printed -/
theorem tail_at (o d s f i : Int) (t : List UInt8) (a b c : Int) (r : RS) (ha : ¬ a = 0 → opOk o d s f i t a r) (hb : ¬ a = 0 → ¬ b = 0 → opOk o d s f i t b (opE o d s f i t a r)) (hc : ¬ a = 0 → ¬ b = 0 → ¬ c = 0 → opOk o d s f i t c (opE o d s f i t b (opE o d s f i t a r))) :
    opdL (a, b, c) (r.at (tailP (a, b, c) (opdTx o d s f i t))) = (if a = 0 then r else if b = 0 then opE o d s f i t a r else if c = 0 then opE o d s f i t b (opE o d s f i t a r) else opE o d s f i t c (opE o d s f i t b (opE o d s f i t a r))).at [] := by
  unfold opdL tailP
  simp only
  by_cases h1 : a = 0
  · rw [if_pos h1, if_pos h1, if_pos h1]
  · rw [if_neg h1, if_neg h1, if_neg h1]
    rw [at_blank r 32 _ (.inl rfl)]
    by_cases h2 : b = 0
    · rw [if_pos h2, if_pos h2, if_pos h2]
      exact op_at o d s f i t a r (ha h1) [] rfl
    · rw [if_neg h2, if_neg h2, if_neg h2, op_at o d s f i t a r (ha h1) _ rfl, comma_at]
      by_cases h3 : c = 0
      · rw [if_pos h3, if_pos h3, if_pos h3]
        exact op_at o d s f i t b _ (hb h1 h2) [] rfl
      · rw [if_neg h3, if_neg h3, if_neg h3, op_at o d s f i t b _ (hb h1 h2) _ rfl, comma_at]
        exact op_at o d s f i t c _ (hc h1 h2 h3) [] rfl
theorem tail_stop (t : Int × Int × Int) (x : Int → List UInt8) : stopP (tailP t x) = true := by
  unfold tailP
  split
  · rfl
  · rfl
end Go.Proofs.YtcomhlimgocoaaaGreatDoor
