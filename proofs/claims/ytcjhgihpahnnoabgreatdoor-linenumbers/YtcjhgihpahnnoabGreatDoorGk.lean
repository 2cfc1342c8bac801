import Derived.Test.YtcjhgihpahnnoabGreatDoorGj
import Derived.LoopN
namespace Go.Proofs.YtcjhgihpahnnoabGreatDoor
open Go.RowKit
set_option linter.unusedVariables false
set_option linter.unusedSimpArgs false
/-- the reader, standing at a text -/
def RS.at (r : RS) (l : List UInt8) : RS := { r with rest := restP l, tok := tokP l }
theorem at_blank (r : RS) (c : UInt8) (l : List UInt8) (h : c = 32 ∨ c = 9) : r.at (c :: l) = r.at l := by
  unfold RS.at
  rw [(tok_blank c l h).1, (tok_blank c l h).2]
theorem at_run (r : RS) (t u : List UInt8) (ht : headOk t = true) (ha : t.all runU = true) (hu : stopP u = true) : r.at (t ++ u) = { r with rest := u, tok := t } := by
  unfold RS.at
  rw [(tok_run t u ht ha hu).1, (tok_run t u ht ha hu).2]
theorem at_mark (r : RS) (c : UInt8) (u : List UInt8) (h : headOk [c] = false) (h1 : ¬ c = 32) (h2 : ¬ c = 9) : r.at (c :: u) = { r with rest := u, tok := [c] } := by
  unfold RS.at
  rw [(tok_mark c u h h1 h2).1, (tok_mark c u h h1 h2).2]
theorem at_next (r : RS) (u t : List UInt8) : RS.next { r with rest := u, tok := t } = r.at u := rfl
theorem regL_ok : ∀ k : Fin 11, headOk (regL k.val) = true ∧ (regL k.val).all runU = true ∧ startP (regL k.val) = true ∧ regN (regL k.val) = some k.val := by decide
theorem reg_at (r : RS) (k : Nat) (hk : k < 11) (u : List UInt8) (hu : stopP u = true) : regS (r.at (regL k ++ u)) = (r.at u, (k : Int)) := by
  obtain ⟨h1, h2, _, h4⟩ := regL_ok ⟨k, hk⟩
  rw [at_run r _ _ h1 h2 hu]
  unfold regS
  simp only
  rw [h4]
  rfl
theorem mark_at (r : RS) (c : UInt8) (u : List UInt8) (h : headOk [c] = false) (h1 : ¬ c = 32) (h2 : ¬ c = 9) : markS [c] (r.at (c :: u)) = r.at u := by
  rw [at_mark r c u h h1 h2]
  unfold markS skipP
  simp only [if_true]
  rfl
theorem skip_at (r : RS) (c : UInt8) (u : List UInt8) (h : headOk [c] = false) (h1 : ¬ c = 32) (h2 : ¬ c = 9) : skipP [c] (r.at (c :: u)) = (r.at u, true) := by
  rw [at_mark r c u h h1 h2]
  unfold skipP
  simp only [if_true]
  rfl
theorem skip_no (r : RS) (m l : List UInt8) (h : ¬ tokP l = m) : skipP m (r.at l) = (r.at l, false) := by
  unfold skipP
  rw [if_neg (show ¬ (r.at l).tok = m from h)]
theorem dd_ne (u : Nat) (l : List UInt8) (c : UInt8) (hl : stopP l = true) (hc : digU c = false) : ¬ tokP (Lib.decDigits u ++ l) = [c] := by
  rw [(dd_tok u l hl).1]
  intro e
  have := (dd_all u).1
  rw [e] at this
  simp [hc] at this
/-- a number without a sign -/
theorem num_at (r : RS) (u : Nat) (l : List UInt8) (hl : stopP l = true) (b : Bool) (half high : Int) (hu : u ≤ 18446744073709551615) (hh : (u : Int) ≤ if b then half else high) : numS b half high (r.at (Lib.decDigits u ++ l)) = r.at l ∧ ∀ width, numV b width (r.at (Lib.decDigits u ++ l)) = wrap64 (Wo.sgnW width (if b then Wo.negW u else u)) := by
  have e1 : (r.at (Lib.decDigits u ++ l)).tok = Lib.decDigits u := (dd_tok u l hl).1
  have e2 : (r.at (Lib.decDigits u ++ l)).rest = l := (dd_tok u l hl).2
  have ev := val_dd u hu
  constructor
  · unfold numS
    rw [e1, ev]
    have hd : decide ((if b then half else high) < (u : Int)) = false := decide_eq_false (by omega)
    simp only [hd, Bool.or_false, Bool.not_true]
    unfold RS.next
    simp only
    rw [e2]
    rfl
  · intro width
    unfold numV
    rw [e1, ev]
theorem wrap_neg (u : Nat) (h : 1 ≤ u) (h' : u ≤ 9223372036854775808) : Wo.negW (u : Int) = 18446744073709551616 - u := by
  unfold Wo.negW
  simp only [IntKind.wrap_u64]
  omega
/-- what a number of that width is, and what it is below 0 -/
theorem sgn_at (u : Nat) (width H M : Int) (eM : Wo.mW width = M) (eH : Wo.hW width = H) (h : (H = 32768 ∧ M = 65536) ∨ (H = 2147483648 ∧ M = 4294967296) ∨ (H = 9223372036854775808 ∧ M = 18446744073709551616)) :
    ((u : Int) < H → wrap64 (Wo.sgnW width (u : Int)) = u) ∧ ((u : Int) ≤ H → 1 ≤ u → wrap64 (Wo.sgnW width (Wo.negW (u : Int))) = -u) := by
  constructor
  · intro h1
    unfold Wo.sgnW Wo.sgnM wrap64
    rw [eM, eH]
    rcases h with ⟨rfl, rfl⟩ | ⟨rfl, rfl⟩ | ⟨rfl, rfl⟩ <;> (split <;> omega)
  · intro h1 h2
    rw [wrap_neg u h2 (by omega)]
    unfold Wo.sgnW Wo.sgnM wrap64
    rw [eM, eH]
    rcases h with ⟨rfl, rfl⟩ | ⟨rfl, rfl⟩ | ⟨rfl, rfl⟩ <;> (split <;> omega)
/-- a signed number, as it is printed -/
theorem itoa_neg (i : Int) (h : i < 0) : Lib.itoa i = 45 :: Lib.decDigits i.natAbs := by unfold Lib.itoa; rw [if_pos h]
theorem itoa_pos (i : Int) (h : ¬ i < 0) : Lib.itoa i = Lib.decDigits i.toNat := by unfold Lib.itoa; rw [if_neg h]
theorem sgn_neg (r : RS) (i : Int) (h : i < 0) (l : List UInt8) : sgnS (r.at (Lib.itoa i ++ l)) = (r.at (Lib.decDigits i.natAbs ++ l), true) := by
  rw [itoa_neg i h]
  unfold sgnS
  rw [List.cons_append, skip_at r 45 _ (by decide) (by decide) (by decide)]
  rfl
theorem sgn_pos (r : RS) (i : Int) (h : ¬ i < 0) (l : List UInt8) (hl : stopP l = true) : sgnS (r.at (Lib.itoa i ++ l)) = (r.at (Lib.decDigits i.toNat ++ l), false) := by
  rw [itoa_pos i h]
  unfold sgnS
  rw [skip_no r [45] _ (dd_ne _ l 45 hl (by decide))]
  simp only [Bool.false_eq_true, if_false]
  rw [skip_no r [43] _ (dd_ne _ l 43 hl (by decide))]
theorem imm_at (r : RS) (i : Int) (l : List UInt8) (hl : stopP l = true) (hi : if r.o = 24 then -9223372036854775808 ≤ i ∧ i < 9223372036854775808 else -2147483648 ≤ i ∧ i < 2147483648) : immS (r.at (Lib.itoa i ++ l)) = { r.at l with i := i } := by
  unfold immS
  show (if r.o = 24 then _ else _) = _
  by_cases ho : r.o = 24
  · rw [if_pos ho] at hi ⊢
    by_cases h0 : i < 0
    · rw [sgn_neg r i h0]
      obtain ⟨e1, e2⟩ := num_at r i.natAbs l hl true 9223372036854775808 18446744073709551615 (by omega) (by show _ ≤ (9223372036854775808 : Int); omega)
      simp only [e1, e2 64]
      have e3 := (sgn_at i.natAbs 64 _ _ rfl rfl (.inr (.inr ⟨rfl, rfl⟩))).2 (by show _ ≤ (9223372036854775808 : Int); omega) (by omega)
      simp only [if_true]
      rw [e3, show -(i.natAbs : Int) = i by omega]
    · rw [sgn_pos r i h0 l hl]
      obtain ⟨e1, e2⟩ := num_at r i.toNat l hl false 9223372036854775808 18446744073709551615 (by omega) (by show _ ≤ (18446744073709551615 : Int); omega)
      simp only [e1, e2 64]
      have e3 := (sgn_at i.toNat 64 _ _ rfl rfl (.inr (.inr ⟨rfl, rfl⟩))).1 (by show _ < (9223372036854775808 : Int); omega)
      simp only [Bool.false_eq_true, if_false]
      rw [e3, show ((i.toNat : Nat) : Int) = i by omega]
  · rw [if_neg ho] at hi ⊢
    by_cases h0 : i < 0
    · rw [sgn_neg r i h0]
      obtain ⟨e1, e2⟩ := num_at r i.natAbs l hl true 2147483648 4294967295 (by omega) (by show _ ≤ (2147483648 : Int); omega)
      simp only [e1, e2 32]
      have e3 := (sgn_at i.natAbs 32 _ _ rfl rfl (.inr (.inl ⟨rfl, rfl⟩))).2 (by show _ ≤ (2147483648 : Int); omega) (by omega)
      simp only [if_true]
      rw [e3, show -(i.natAbs : Int) = i by omega]
    · rw [sgn_pos r i h0 l hl]
      obtain ⟨e1, e2⟩ := num_at r i.toNat l hl false 2147483648 4294967295 (by omega) (by show _ ≤ (4294967295 : Int); omega)
      simp only [e1, e2 32]
      have e3 := (sgn_at i.toNat 32 _ _ rfl rfl (.inr (.inl ⟨rfl, rfl⟩))).1 (by show _ < (2147483648 : Int); omega)
      simp only [Bool.false_eq_true, if_false]
      rw [e3, show ((i.toNat : Nat) : Int) = i by omega]
/-- a place, as it is printed -/
def placeTx (k : Nat) (f : Int) : List UInt8 := 91 :: (regL k ++ ((if 0 ≤ f then [43] else []) ++ (Lib.itoa f ++ [93])))
theorem place_at (r : RS) (k : Nat) (hk : k < 11) (f : Int) (hf : -32768 ≤ f ∧ f < 32768) (l : List UInt8) : placeS (r.at (placeTx k f ++ l)) = (r.at l, (k : Int), f) := by
  have e0 : placeTx k f ++ l = 91 :: (regL k ++ ((if 0 ≤ f then [43] else []) ++ (Lib.itoa f ++ (93 :: l)))) := by simp [placeTx, List.append_assoc]
  have hst : stopP ((if 0 ≤ f then [43] else []) ++ (Lib.itoa f ++ (93 :: l))) = true := by
    split
    · rfl
    · rename_i h
      rw [itoa_neg f (by omega)]
      rfl
  have em : markS [91] (r.at (placeTx k f ++ l)) = r.at (regL k ++ ((if 0 ≤ f then [43] else []) ++ (Lib.itoa f ++ (93 :: l)))) := by
    rw [e0, mark_at r 91 _ (by decide) (by decide) (by decide)]
  unfold placeS
  rw [em, reg_at r k hk _ hst]
  simp only
  by_cases h0 : f < 0
  · have ep : pgnS (r.at ((if 0 ≤ f then [43] else []) ++ (Lib.itoa f ++ (93 :: l)))) = (r.at (Lib.decDigits f.natAbs ++ (93 :: l)), true) := by
      rw [if_neg (by omega), List.nil_append, itoa_neg f h0, List.cons_append]
      unfold pgnS
      rw [skip_at r 45 _ (by decide) (by decide) (by decide)]
      rfl
    rw [ep]
    obtain ⟨e1, e2⟩ := num_at r f.natAbs (93 :: l) rfl true 32768 32767 (by omega) (by show _ ≤ (32768 : Int); omega)
    simp only
    rw [e1, e2 16, mark_at r 93 _ (by decide) (by decide) (by decide)]
    have e3 := (sgn_at f.natAbs 16 _ _ rfl rfl (.inl ⟨rfl, rfl⟩)).2 (by show _ ≤ (32768 : Int); omega) (by omega)
    simp only [if_true]
    rw [e3, show -(f.natAbs : Int) = f by omega]
  · have ep : pgnS (r.at ((if 0 ≤ f then [43] else []) ++ (Lib.itoa f ++ (93 :: l)))) = (r.at (Lib.decDigits f.toNat ++ (93 :: l)), false) := by
      rw [if_pos (by omega), itoa_pos f h0]
      unfold pgnS
      have en : ¬ tokP ([43] ++ (Lib.decDigits f.toNat ++ (93 :: l))) = [45] := by
        rw [show ([43] : List UInt8) ++ (Lib.decDigits f.toNat ++ (93 :: l)) = 43 :: (Lib.decDigits f.toNat ++ (93 :: l)) from rfl, (tok_mark 43 _ (by decide) (by decide) (by decide)).1]
        decide
      rw [skip_no r [45] _ en]
      simp only [Bool.false_eq_true, if_false]
      rw [show ([43] : List UInt8) ++ (Lib.decDigits f.toNat ++ (93 :: l)) = 43 :: (Lib.decDigits f.toNat ++ (93 :: l)) from rfl, mark_at r 43 _ (by decide) (by decide) (by decide)]
    rw [ep]
    obtain ⟨e1, e2⟩ := num_at r f.toNat (93 :: l) rfl false 32768 32767 (by omega) (by show _ ≤ (32767 : Int); omega)
    simp only
    rw [e1, e2 16, mark_at r 93 _ (by decide) (by decide) (by decide)]
    have e3 := (sgn_at f.toNat 16 _ _ rfl rfl (.inl ⟨rfl, rfl⟩)).1 (by show _ < (32768 : Int); omega)
    simp only [Bool.false_eq_true, if_false]
    rw [e3, show ((f.toNat : Nat) : Int) = f by omega]
/-- a name -/
theorem name_at (r : RS) (t l : List UInt8) (ht : nameP t = true) (hl : stopP l = true) : nameS (r.at (t ++ l)) = { r.at l with tgt := t } := by
  have h1 : headOk t = true ∧ t.all runU = true := by
    unfold nameP at ht
    simp only [Bool.and_eq_true] at ht
    refine ⟨?_, ht.2⟩
    cases t with
    | nil => simp [startP] at ht
    | cons c t =>
      have : letP (bI c) = true := ht.1.2
      simp [headOk, this]
  rw [at_run r t l h1.1 h1.2 hl]
  unfold nameS
  simp only [ht, Bool.not_true, Bool.or_false]
  rfl
end Go.Proofs.YtcjhgihpahnnoabGreatDoor
namespace Go.Proofs.YtcjhgihpahnnoabGreatDoor
open Go.RowKit
set_option linter.unusedVariables false
set_option linter.unusedSimpArgs false
/-- what stands behind the mnemonic is read -/
def opdL (t : Int × Int × Int) (r : RS) : RS :=
  if t.1 = 0 then r else if t.2.1 = 0 then opS t.1 r else if t.2.2 = 0 then opS t.2.1 (markS [44] (opS t.1 r)) else opS t.2.2 (markS [44] (opS t.2.1 (markS [44] (opS t.1 r))))
def opsS (t : Int × Int × Int) (r : RS) : RS := { opdL t r with wrong := (opdL t r).wrong || !(opdL t r).tok.isEmpty }
def tOf (o s f : Int) : Int × Int × Int := opdsP (formP o) s f (useS o (formP o))
structure PR where
  o : Int
  d : Int
  s : Int
  f : Int
  i : Int
  tgt : List UInt8
  e : Int
def behindS (m : Mn) (r : RS) : RS := opsS (tOf m.1 m.2.1 m.2.2.1) (RS.next { r with o := m.1, d := 0, s := m.2.1, f := m.2.2.1, i := m.2.2.2 })
def parseP (l : List UInt8) : PR :=
  match meanOf (newR l).tok with
  | none => ⟨0, 0, 0, 0, 0, [], 40⟩
  | some m => if (behindS m (newR l)).wrong then ⟨0, 0, 0, 0, 0, [], 41⟩ else if (behindS m (newR l)).outside then ⟨0, 0, 0, 0, 0, [], 42⟩ else ⟨(behindS m (newR l)).o, (behindS m (newR l)).d, (behindS m (newR l)).s, (behindS m (newR l)).f, (behindS m (newR l)).i, (behindS m (newR l)).tgt, 0⟩
/-- the mnemonic of an instruction -/
def shrO (o : Int) : Nat := (o / 16).toNat
def pick2 (T : List (List UInt8 × List UInt8)) (k : Nat) (b : Bool) : List UInt8 := match T[k]? with | some r => (if b then r.2 else r.1) | none => []
def wOff (o f : Int) : List UInt8 := match offT.find? (fun r => bits .or .i64 o 8 == bits .or .i64 r.1 8 && f == r.2.1) with | some r => r.2.2 | none => []
def wImm (o i : Int) : List UInt8 := match immT.find? (fun r => o == r.1 && i == r.2.1) with | some r => r.2.2 | none => []
def wMem (o i : Int) : List UInt8 := match memT.find? (fun r => bits .andNot .i64 o 24 == r.1) with | some r => r.2.getD (bits .and .i64 o 24 / 8).toNat [] | none => wImm o i
def wReck (o f i : Int) : List UInt8 := if f = 0 then (if shrO o = 13 then wImm o i else pick2 reckT (shrO o) (!(cls o == 7))) else wOff o f
def wordP (o s f i : Int) : List UInt8 :=
  if cls o = 0 then (if s = 1 then [108, 100, 109, 97, 112] else [108, 100, 100, 119]) else if cls o = 7 then wReck o f i else if cls o = 4 then wReck o f i else if cls o = 5 then pick2 jumpT (shrO o) false else if cls o = 6 then pick2 jumpT (shrO o) true else wMem o i
/-- an operand as it is printed -/
def opdTx (o d s f i : Int) (t : List UInt8) (c : Int) : List UInt8 :=
  if c = 1 then regL d.toNat else if c = 2 then regL s.toNat else if c = 3 then Lib.itoa i else if c = 4 then (if hasSrc o then regL s.toNat else Lib.itoa i)
  else if c = 5 then placeTx s.toNat f else if c = 6 then placeTx d.toNat f else if c = 8 then (if s = 1 then t else Lib.itoa i) else t
def tailP (t : Int × Int × Int) (x : Int → List UInt8) : List UInt8 :=
  if t.1 = 0 then [] else 32 :: (x t.1 ++ (if t.2.1 = 0 then [] else 44 :: 32 :: (x t.2.1 ++ (if t.2.2 = 0 then [] else 44 :: 32 :: (x t.2.2 ++ [])))))
def lineP (o d s f i : Int) (t : List UInt8) : List UInt8 := wordP o s f i ++ tailP (tOf o s f) (opdTx o d s f i t)
/-- may it stand with that target -/
def tfitP (o s f i : Int) (t : List UInt8) : Bool :=
  if formP o = 7 then nameP t && f == 0 && i == 0 else if formP o = 8 then nameP t && f == 0 else if formP o = 9 ∧ s = 1 then nameP t && i == -1 else if formP o = 10 ∧ s = 1 then nameP t && i == 0 else t.isEmpty
/-- what an operand that is read puts in -/
def opE (o d s f i : Int) (t : List UInt8) (c : Int) (r : RS) : RS :=
  if c = 1 then { r with d := d } else if c = 2 then { r with s := s } else if c = 3 then { r with i := i } else if c = 4 then (if hasSrc o then { r with o := orB r.o, s := s } else { r with i := i })
  else if c = 5 then { r with s := s, f := f } else if c = 6 then { r with d := d, f := f } else if c = 8 then (if s = 1 then { r with s := 1, i := -1, tgt := t } else { r with i := i }) else { r with tgt := t }
def immOk (i : Int) (r : RS) : Prop := if r.o = 24 then -9223372036854775808 ≤ i ∧ i < 9223372036854775808 else -2147483648 ≤ i ∧ i < 2147483648
def opOk (o d s f i : Int) (t : List UInt8) (c : Int) (r : RS) : Prop :=
  (c = 1 ∧ isReg d = true) ∨ (c = 2 ∧ isReg s = true) ∨ (c = 3 ∧ immOk i r) ∨ (c = 4 ∧ hasSrc o = true ∧ isReg s = true) ∨ (c = 4 ∧ hasSrc o = false ∧ immOk i r) ∨
  (c = 5 ∧ isReg s = true ∧ -32768 ≤ f ∧ f < 32768) ∨ (c = 6 ∧ isReg d = true ∧ -32768 ≤ f ∧ f < 32768) ∨ (c = 7 ∧ nameP t = true) ∨ (c = 8 ∧ s = 1 ∧ nameP t = true) ∨ (c = 8 ∧ ¬ s = 1 ∧ immOk i r)
theorem isReg_nat {d : Int} (h : isReg d = true) : d.toNat < 11 ∧ ((d.toNat : Nat) : Int) = d := by
  simp only [isReg, Bool.and_eq_true, decide_eq_true_eq] at h
  omega
theorem dig_let (c : Int) (h : digP c = true) : letP c = false := by
  rw [Bool.eq_false_iff]
  intro hl
  simp only [digP, Bool.and_eq_true, decide_eq_true_eq] at h
  simp [letP] at hl
  omega
theorem itoa_start (i : Int) (l : List UInt8) (hl : stopP l = true) : startP (tokP (Lib.itoa i ++ l)) = false := by
  by_cases h : i < 0
  · rw [itoa_neg i h, List.cons_append, (tok_mark 45 _ (by decide) (by decide) (by decide)).1]
    rfl
  · rw [itoa_pos i h, (dd_tok _ l hl).1]
    obtain ⟨h1, _, c, m, h3, _⟩ := dd_all i.toNat
    rw [h3] at h1 ⊢
    simp only [List.all_cons, Bool.and_eq_true] at h1
    exact dig_let _ h1.1
theorem name_start {t : List UInt8} (h : nameP t = true) : startP t = true ∧ headOk t = true ∧ t.all runU = true := by
  unfold nameP at h
  simp only [Bool.and_eq_true] at h
  refine ⟨h.1.2, ?_, h.2⟩
  cases t with
  | nil => simp [startP] at h
  | cons c t =>
    have : letP (bI c) = true := h.1.2
    simp [headOk, this]
theorem op_at (o d s f i : Int) (t : List UInt8) (c : Int) (r : RS) (h : opOk o d s f i t c r) (l : List UInt8) (hl : stopP l = true) : opS c (r.at (opdTx o d s f i t c ++ l)) = (opE o d s f i t c r).at l := by
  rcases h with ⟨rfl, h⟩ | ⟨rfl, h⟩ | ⟨rfl, h⟩ | ⟨rfl, hx, h⟩ | ⟨rfl, hx, h⟩ | ⟨rfl, h, hf⟩ | ⟨rfl, h, hf⟩ | ⟨rfl, h⟩ | ⟨rfl, rfl, h⟩ | ⟨rfl, hs, h⟩
  · obtain ⟨h1, h2⟩ := isReg_nat h
    show { (regS (r.at (regL d.toNat ++ l))).1 with d := (regS (r.at (regL d.toNat ++ l))).2 } = { r with d := d }.at l
    rw [reg_at r _ h1 l hl]
    simp only [h2]
    rfl
  · obtain ⟨h1, h2⟩ := isReg_nat h
    show { (regS (r.at (regL s.toNat ++ l))).1 with s := (regS (r.at (regL s.toNat ++ l))).2 } = { r with s := s }.at l
    rw [reg_at r _ h1 l hl]
    simp only [h2]
    rfl
  · show immS (r.at (Lib.itoa i ++ l)) = { r with i := i }.at l
    rw [imm_at r i l hl h]
    rfl
  · obtain ⟨h1, h2⟩ := isReg_nat h
    have e1 : opdTx o d s f i t 4 = regL s.toNat := by show (if hasSrc o then _ else _) = _; rw [hx]; rfl
    have e2 : opE o d s f i t 4 r = { r with o := orB r.o, s := s } := by show (if hasSrc o then _ else _) = _; rw [hx]; rfl
    obtain ⟨k1, k2, k3, _⟩ := regL_ok ⟨s.toNat, h1⟩
    rw [e1, e2]
    show srcS (r.at (regL s.toNat ++ l)) = _
    have e3 : startP (r.at (regL s.toNat ++ l)).tok = true := by
      rw [at_run r _ _ k1 k2 hl]
      exact k3
    unfold srcS
    rw [e3]
    simp only [if_true]
    have e4 : ({ r.at (regL s.toNat ++ l) with o := orB (r.at (regL s.toNat ++ l)).o } : RS) = { r with o := orB r.o }.at (regL s.toNat ++ l) := rfl
    rw [e4, reg_at _ _ h1 l hl]
    simp only [h2]
    rfl
  · have e1 : opdTx o d s f i t 4 = Lib.itoa i := by show (if hasSrc o then _ else _) = _; rw [hx]; rfl
    have e2 : opE o d s f i t 4 r = { r with i := i } := by show (if hasSrc o then _ else _) = _; rw [hx]; rfl
    rw [e1, e2]
    show srcS (r.at (Lib.itoa i ++ l)) = _
    have e3 : startP (r.at (Lib.itoa i ++ l)).tok = false := itoa_start i l hl
    unfold srcS
    rw [e3]
    simp only [Bool.false_eq_true, if_false]
    rw [imm_at r i l hl h]
    rfl
  · obtain ⟨h1, h2⟩ := isReg_nat h
    show { (placeS (r.at (placeTx s.toNat f ++ l))).1 with s := (placeS (r.at (placeTx s.toNat f ++ l))).2.1, f := (placeS (r.at (placeTx s.toNat f ++ l))).2.2 } = { r with s := s, f := f }.at l
    rw [place_at r _ h1 f hf l]
    simp only [h2]
    rfl
  · obtain ⟨h1, h2⟩ := isReg_nat h
    show { (placeS (r.at (placeTx d.toNat f ++ l))).1 with d := (placeS (r.at (placeTx d.toNat f ++ l))).2.1, f := (placeS (r.at (placeTx d.toNat f ++ l))).2.2 } = { r with d := d, f := f }.at l
    rw [place_at r _ h1 f hf l]
    simp only [h2]
    rfl
  · show nameS (r.at (t ++ l)) = { r with tgt := t }.at l
    rw [name_at r t l h hl]
    rfl
  · show helpS (r.at (t ++ l)) = { r with s := 1, i := -1, tgt := t }.at l
    obtain ⟨n1, n2, n3⟩ := name_start h
    have e3 : startP (r.at (t ++ l)).tok = true := by
      rw [at_run r t l n2 n3 hl]
      exact n1
    unfold helpS
    rw [e3]
    simp only [if_true]
    have e4 : ({ r.at (t ++ l) with s := 1, i := -1 } : RS) = { r with s := 1, i := -1 }.at (t ++ l) := rfl
    rw [e4, name_at _ t l h hl]
    rfl
  · have e1 : opdTx o d s f i t 8 = Lib.itoa i := by show (if s = 1 then _ else _) = _; rw [if_neg hs]
    have e2 : opE o d s f i t 8 r = { r with i := i } := by show (if s = 1 then _ else _) = _; rw [if_neg hs]
    rw [e1, e2]
    show helpS (r.at (Lib.itoa i ++ l)) = _
    have e3 : startP (r.at (Lib.itoa i ++ l)).tok = false := itoa_start i l hl
    unfold helpS
    rw [e3]
    simp only [Bool.false_eq_true, if_false]
    rw [imm_at r i l hl h]
    rfl
theorem comma_at (r : RS) (l : List UInt8) : markS [44] (r.at (44 :: 32 :: l)) = r.at l := by
  rw [mark_at r 44 _ (by decide) (by decide) (by decide), at_blank r 32 l (.inl rfl)]
/-- behind the mnemonic, as it is printed -/
theorem tail_at (o d s f i : Int) (t : List UInt8) (a b c : Int) (r : RS) (ha : ¬ a = 0 → opOk o d s f i t a r) (hb : ¬ a = 0 → ¬ b = 0 → opOk o d s f i t b (opE o d s f i t a r)) (hc : ¬ a = 0 → ¬ b = 0 → ¬ c = 0 → opOk o d s f i t c (opE o d s f i t b (opE o d s f i t a r))) :
    opdL (a, b, c) (r.at (tailP (a, b, c) (opdTx o d s f i t))) = (if a = 0 then r else if b = 0 then opE o d s f i t a r else if c = 0 then opE o d s f i t b (opE o d s f i t a r) else opE o d s f i t c (opE o d s f i t b (opE o d s f i t a r))).at [] := by
  unfold opdL tailP
  simp only
  by_cases h1 : a = 0
  · rw [if_pos h1, if_pos h1, if_pos h1]
  · rw [if_neg h1, if_neg h1, if_neg h1]
    rw [at_blank r 32 _ (.inl rfl)]
    by_cases h2 : b = 0
    · rw [if_pos h2, if_pos h2, if_pos h2]
      exact op_at o d s f i t a r (ha h1) [] rfl
    · rw [if_neg h2, if_neg h2, if_neg h2, op_at o d s f i t a r (ha h1) _ rfl, comma_at]
      by_cases h3 : c = 0
      · rw [if_pos h3, if_pos h3, if_pos h3]
        exact op_at o d s f i t b _ (hb h1 h2) [] rfl
      · rw [if_neg h3, if_neg h3, if_neg h3, op_at o d s f i t b _ (hb h1 h2) _ rfl, comma_at]
        exact op_at o d s f i t c _ (hc h1 h2 h3) [] rfl
theorem tail_stop (t : Int × Int × Int) (x : Int → List UInt8) : stopP (tailP t x) = true := by
  unfold tailP
  split
  · rfl
  · rfl
end Go.Proofs.YtcjhgihpahnnoabGreatDoor
namespace Go.Proofs.YtcjhgihpahnnoabGreatDoor
open Go.RowKit
set_option linter.unusedVariables false
set_option linter.unusedSimpArgs false
theorem opds_rng (c s f : Int) (u : Bool) : (1 ≤ (opdsP c s f u).1 ∧ (opdsP c s f u).1 ≤ 8 ∨ (opdsP c s f u).1 = 0) ∧ (1 ≤ (opdsP c s f u).2.1 ∧ (opdsP c s f u).2.1 ≤ 8 ∨ (opdsP c s f u).2.1 = 0) ∧ (1 ≤ (opdsP c s f u).2.2 ∧ (opdsP c s f u).2.2 ≤ 8 ∨ (opdsP c s f u).2.2 = 0) := by
  unfold opdsP
  repeat' split
  all_goals decide
theorem idx3_0 (a b c : Int) (w : World) : (Instr.index 59 (.agg #[.int .u8 a, .int .u8 b, .int .u8 c]) (.int .i64 0)).run Tryz.prog w = .ok (.int .u8 a) w := by kernel_rfl
theorem idx3_1 (a b c : Int) (w : World) : (Instr.index 59 (.agg #[.int .u8 a, .int .u8 b, .int .u8 c]) (.int .i64 1)).run Tryz.prog w = .ok (.int .u8 b) w := by kernel_rfl
theorem idx3_2 (a b c : Int) (w : World) : (Instr.index 59 (.agg #[.int .u8 a, .int .u8 b, .int .u8 c]) (.int .i64 2)).run Tryz.prog w = .ok (.int .u8 c) w := by kernel_rfl
theorem tok_empty (l : List UInt8) : (⟨l.toArray⟩ : ByteArray).toList.isEmpty = l.isEmpty := by rw [mk_list]
theorem opds_at (w : World) (r : RS) (hO : TabO w) (hf : (formP r.o == 0) = false) : Calls Tryz.prog 21 #[.agg #[.int .i64 r.o, .int .i64 r.d, .int .i64 r.s, .int .i64 r.f, .int .i64 r.i]] w fun e w' => e = .returned (.agg #[.int .u8 (tOf r.o r.s r.f).1, .int .u8 (tOf r.o r.s r.f).2.1, .int .u8 (tOf r.o r.s r.f).2.2]) ∧ Out w w' :=
  opds_all r.o r.d r.s r.f r.i _ _ _ _ _ _ w (hidOf fun wx ho => info_ok_out r.o wx (hO.out ho) hf)
set_option maxRecDepth 20000 in
set_option maxHeartbeats 1600000 in
theorem operands_0 (w0 w : World) (p : Nat) (HR : Hid (Rdr w0 p w)) (r : RS) (h : RdAt w p r.cells) (hs : Sm r) (a b c : Int) (ha : a = 0) (CO : Hid (Calls Tryz.prog 21 #[.agg #[.int .i64 r.o, .int .i64 r.d, .int .i64 r.s, .int .i64 r.f, .int .i64 r.i]] w fun e w' => e = .returned (.agg #[.int .u8 a, .int .u8 b, .int .u8 c]) ∧ Out w w')) : Calls Tryz.prog 16 #[.pointer (some ⟨p, 0, none⟩)] w fun e w' => (∃ v, e = .returned v) ∧ MEnd p { r with wrong := r.wrong || !r.tok.isEmpty } w w' := by
  have d2 := (MEnd.refl h).co.1
  have d3 := (MEnd.refl h).cd.1
  have d4 := (MEnd.refl h).cs.1
  have d5 := (MEnd.refl h).cf.1
  have d6 := (MEnd.refl h).ci.1
  have H0 : Hid (∀ w1, Out w w1 → MEnd p r w w1) := fun w1 ho => ⟨h.below ho, Chg.of_out ho⟩
  subst ha
  clear h hs HR 
  have hx0 : ∀ w : World, (Instr.index 59 (.agg #[.int .u8 0, .int .u8 b, .int .u8 c]) (.int .i64 0)).run Tryz.prog w = .ok (.int .u8 0) w := fun w => idx3_0 _ _ _ w
  have hx1 : ∀ w : World, (Instr.index 59 (.agg #[.int .u8 0, .int .u8 b, .int .u8 c]) (.int .i64 1)).run Tryz.prog w = .ok (.int .u8 b) w := fun w => idx3_1 _ _ _ w
  have hx2 : ∀ w : World, (Instr.index 59 (.agg #[.int .u8 0, .int .u8 b, .int .u8 c]) (.int .i64 2)).run Tryz.prog w = .ok (.int .u8 c) w := fun w => idx3_2 _ _ _ w
  go_enter Tryz.func16, Tryz.ntmps16
  go_wp2_with (go_at_call 21; refine CO.out.mono ?_; rintro e w1 ⟨rfl, ho1⟩; have hm := H0.out _ ho1; have d8w1 := hm.cw.1; have f8w1 := hm.cw.2; have d1w1 := hm.ct; have M0 := hidOf hm; clear hm ho1)
  refine wp_loop_rounds 4 ?_
  rw [rounds_succ]
  go_wp2
  all_goals (go_end0; first | exact ⟨⟨_, rfl⟩, M0.out.set 8 _ (by rw [show r.wrong = true from ‹_›]; rfl)⟩ | exact ⟨⟨_, rfl⟩, M0.out.set 8 _ (by rw [show r.wrong = false from by simpa using ‹¬ r.wrong = true›]; rfl)⟩)
set_option maxRecDepth 20000 in
set_option maxHeartbeats 1600000 in
theorem operands_1 (w0 w : World) (p : Nat) (HR : Hid (Rdr w0 p w)) (r : RS) (h : RdAt w p r.cells) (hs : Sm r) (a b c : Int) (ha : 1 ≤ a ∧ a ≤ 8) (hb : b = 0) (CO : Hid (Calls Tryz.prog 21 #[.agg #[.int .i64 r.o, .int .i64 r.d, .int .i64 r.s, .int .i64 r.f, .int .i64 r.i]] w fun e w' => e = .returned (.agg #[.int .u8 a, .int .u8 b, .int .u8 c]) ∧ Out w w')) : Calls Tryz.prog 16 #[.pointer (some ⟨p, 0, none⟩)] w fun e w' => (∃ v, e = .returned v) ∧ MEnd p { (opS a r) with wrong := (opS a r).wrong || !(opS a r).tok.isEmpty } w w' := by
  have d2 := (MEnd.refl h).co.1
  have d3 := (MEnd.refl h).cd.1
  have d4 := (MEnd.refl h).cs.1
  have d5 := (MEnd.refl h).cf.1
  have d6 := (MEnd.refl h).ci.1
  have H0 : Hid (∀ w1, Out w w1 → MEnd p r w w1) := fun w1 ho => ⟨h.below ho, Chg.of_out ho⟩
  have CP0 : Hid (∀ wx, MEnd p r w wx → Calls Tryz.prog 33 #[.pointer (some ⟨p, 0, none⟩), .int .u8 a] wx fun e w' => (∃ v, e = .returned v) ∧ MEnd p (opS a r) w w') := operandM w0 w p HR.out r hs a ha
  have hso0 := hs.opS a
  generalize opS a r = ro0 at *
  have za : (a == 0) = false := by simp only [beq_eq_false_iff_ne]; omega
  subst hb
  clear h hs HR hso0 ha
  have hx0 : ∀ w : World, (Instr.index 59 (.agg #[.int .u8 a, .int .u8 0, .int .u8 c]) (.int .i64 0)).run Tryz.prog w = .ok (.int .u8 a) w := fun w => idx3_0 _ _ _ w
  have hx1 : ∀ w : World, (Instr.index 59 (.agg #[.int .u8 a, .int .u8 0, .int .u8 c]) (.int .i64 1)).run Tryz.prog w = .ok (.int .u8 0) w := fun w => idx3_1 _ _ _ w
  have hx2 : ∀ w : World, (Instr.index 59 (.agg #[.int .u8 a, .int .u8 0, .int .u8 c]) (.int .i64 2)).run Tryz.prog w = .ok (.int .u8 c) w := fun w => idx3_2 _ _ _ w
  go_enter Tryz.func16, Tryz.ntmps16
  go_wp2_with (go_at_call 21; refine CO.out.mono ?_; rintro e w1 ⟨rfl, ho1⟩; have hm := H0.out _ ho1; have d8w1 := hm.cw.1; have f8w1 := hm.cw.2; have d1w1 := hm.ct; have M0 := hidOf hm; clear hm ho1)
  refine wp_loop_rounds 4 ?_
  rw [rounds_succ]
  go_wp2_with (first | (go_at_call 33; refine (CP0.out _ M0.out).mono ?_; rintro e wo0 ⟨⟨vwo0, rfl⟩, hm⟩; have d8wo0 := hm.cw.1; have f8wo0 := hm.cw.2; have d1wo0 := hm.ct; have MO0 := hidOf hm; clear hm))
  rw [rounds_succ]
  go_wp2
  all_goals (go_end0; first | exact ⟨⟨_, rfl⟩, MO0.out.set 8 _ (by rw [show ro0.wrong = true from ‹_›]; rfl)⟩ | exact ⟨⟨_, rfl⟩, MO0.out.set 8 _ (by rw [show ro0.wrong = false from by simpa using ‹¬ ro0.wrong = true›]; rfl)⟩)
set_option maxRecDepth 20000 in
set_option maxHeartbeats 1600000 in
theorem operands_2 (w0 w : World) (p : Nat) (HR : Hid (Rdr w0 p w)) (r : RS) (h : RdAt w p r.cells) (hs : Sm r) (a b c : Int) (ha : 1 ≤ a ∧ a ≤ 8) (hb : 1 ≤ b ∧ b ≤ 8) (hc : c = 0) (CO : Hid (Calls Tryz.prog 21 #[.agg #[.int .i64 r.o, .int .i64 r.d, .int .i64 r.s, .int .i64 r.f, .int .i64 r.i]] w fun e w' => e = .returned (.agg #[.int .u8 a, .int .u8 b, .int .u8 c]) ∧ Out w w')) : Calls Tryz.prog 16 #[.pointer (some ⟨p, 0, none⟩)] w fun e w' => (∃ v, e = .returned v) ∧ MEnd p { (opS b (markS [44] (opS a r))) with wrong := (opS b (markS [44] (opS a r))).wrong || !(opS b (markS [44] (opS a r))).tok.isEmpty } w w' := by
  have d2 := (MEnd.refl h).co.1
  have d3 := (MEnd.refl h).cd.1
  have d4 := (MEnd.refl h).cs.1
  have d5 := (MEnd.refl h).cf.1
  have d6 := (MEnd.refl h).ci.1
  have H0 : Hid (∀ w1, Out w w1 → MEnd p r w w1) := fun w1 ho => ⟨h.below ho, Chg.of_out ho⟩
  have CP0 : Hid (∀ wx, MEnd p r w wx → Calls Tryz.prog 33 #[.pointer (some ⟨p, 0, none⟩), .int .u8 a] wx fun e w' => (∃ v, e = .returned v) ∧ MEnd p (opS a r) w w') := operandM w0 w p HR.out r hs a ha
  have hso0 := hs.opS a
  generalize opS a r = ro0 at *
  have za : (a == 0) = false := by simp only [beq_eq_false_iff_ne]; omega
  have CM1 : Hid (∀ wx, MEnd p ro0 w wx → Calls Tryz.prog 32 #[.pointer (some ⟨p, 0, none⟩), .string ⟨#[44]⟩] wx fun e w' => (∃ v, e = .returned v) ∧ MEnd p (markS [44] ro0) w w') := markM w p ro0 [44] hso0
  have hsm1 := hso0.mark [44]
  generalize markS [44] ro0 = rm1 at *
  have CP1 : Hid (∀ wx, MEnd p rm1 w wx → Calls Tryz.prog 33 #[.pointer (some ⟨p, 0, none⟩), .int .u8 b] wx fun e w' => (∃ v, e = .returned v) ∧ MEnd p (opS b rm1) w w') := operandM w0 w p HR.out rm1 hsm1 b hb
  have hso1 := hsm1.opS b
  generalize opS b rm1 = ro1 at *
  have zb : (b == 0) = false := by simp only [beq_eq_false_iff_ne]; omega
  subst hc
  clear h hs HR hsm1 hso0 hso1 ha hb
  have hx0 : ∀ w : World, (Instr.index 59 (.agg #[.int .u8 a, .int .u8 b, .int .u8 0]) (.int .i64 0)).run Tryz.prog w = .ok (.int .u8 a) w := fun w => idx3_0 _ _ _ w
  have hx1 : ∀ w : World, (Instr.index 59 (.agg #[.int .u8 a, .int .u8 b, .int .u8 0]) (.int .i64 1)).run Tryz.prog w = .ok (.int .u8 b) w := fun w => idx3_1 _ _ _ w
  have hx2 : ∀ w : World, (Instr.index 59 (.agg #[.int .u8 a, .int .u8 b, .int .u8 0]) (.int .i64 2)).run Tryz.prog w = .ok (.int .u8 0) w := fun w => idx3_2 _ _ _ w
  go_enter Tryz.func16, Tryz.ntmps16
  go_wp2_with (go_at_call 21; refine CO.out.mono ?_; rintro e w1 ⟨rfl, ho1⟩; have hm := H0.out _ ho1; have d8w1 := hm.cw.1; have f8w1 := hm.cw.2; have d1w1 := hm.ct; have M0 := hidOf hm; clear hm ho1)
  refine wp_loop_rounds 4 ?_
  rw [rounds_succ]
  go_wp2_with (first | (go_at_call 33; refine (CP0.out _ M0.out).mono ?_; rintro e wo0 ⟨⟨vwo0, rfl⟩, hm⟩; have d8wo0 := hm.cw.1; have f8wo0 := hm.cw.2; have d1wo0 := hm.ct; have MO0 := hidOf hm; clear hm))
  rw [rounds_succ]
  go_wp2_with (first | (go_at_call 33; refine (CP1.out _ MM1.out).mono ?_; rintro e wo1 ⟨⟨vwo1, rfl⟩, hm⟩; have d8wo1 := hm.cw.1; have f8wo1 := hm.cw.2; have d1wo1 := hm.ct; have MO1 := hidOf hm; clear hm) | (go_at_call 32; refine (CM1.out _ MO0.out).mono ?_; rintro e wm1 ⟨⟨vwm1, rfl⟩, hm⟩; have MM1 := hidOf hm; clear hm))
  rw [rounds_succ]
  go_wp2
  all_goals (go_end0; first | exact ⟨⟨_, rfl⟩, MO1.out.set 8 _ (by rw [show ro1.wrong = true from ‹_›]; rfl)⟩ | exact ⟨⟨_, rfl⟩, MO1.out.set 8 _ (by rw [show ro1.wrong = false from by simpa using ‹¬ ro1.wrong = true›]; rfl)⟩)
set_option maxRecDepth 20000 in
set_option maxHeartbeats 1600000 in
theorem operands_3 (w0 w : World) (p : Nat) (HR : Hid (Rdr w0 p w)) (r : RS) (h : RdAt w p r.cells) (hs : Sm r) (a b c : Int) (ha : 1 ≤ a ∧ a ≤ 8) (hb : 1 ≤ b ∧ b ≤ 8) (hc : 1 ≤ c ∧ c ≤ 8) (CO : Hid (Calls Tryz.prog 21 #[.agg #[.int .i64 r.o, .int .i64 r.d, .int .i64 r.s, .int .i64 r.f, .int .i64 r.i]] w fun e w' => e = .returned (.agg #[.int .u8 a, .int .u8 b, .int .u8 c]) ∧ Out w w')) : Calls Tryz.prog 16 #[.pointer (some ⟨p, 0, none⟩)] w fun e w' => (∃ v, e = .returned v) ∧ MEnd p { (opS c (markS [44] (opS b (markS [44] (opS a r))))) with wrong := (opS c (markS [44] (opS b (markS [44] (opS a r))))).wrong || !(opS c (markS [44] (opS b (markS [44] (opS a r))))).tok.isEmpty } w w' := by
  have d2 := (MEnd.refl h).co.1
  have d3 := (MEnd.refl h).cd.1
  have d4 := (MEnd.refl h).cs.1
  have d5 := (MEnd.refl h).cf.1
  have d6 := (MEnd.refl h).ci.1
  have H0 : Hid (∀ w1, Out w w1 → MEnd p r w w1) := fun w1 ho => ⟨h.below ho, Chg.of_out ho⟩
  have CP0 : Hid (∀ wx, MEnd p r w wx → Calls Tryz.prog 33 #[.pointer (some ⟨p, 0, none⟩), .int .u8 a] wx fun e w' => (∃ v, e = .returned v) ∧ MEnd p (opS a r) w w') := operandM w0 w p HR.out r hs a ha
  have hso0 := hs.opS a
  generalize opS a r = ro0 at *
  have za : (a == 0) = false := by simp only [beq_eq_false_iff_ne]; omega
  have CM1 : Hid (∀ wx, MEnd p ro0 w wx → Calls Tryz.prog 32 #[.pointer (some ⟨p, 0, none⟩), .string ⟨#[44]⟩] wx fun e w' => (∃ v, e = .returned v) ∧ MEnd p (markS [44] ro0) w w') := markM w p ro0 [44] hso0
  have hsm1 := hso0.mark [44]
  generalize markS [44] ro0 = rm1 at *
  have CP1 : Hid (∀ wx, MEnd p rm1 w wx → Calls Tryz.prog 33 #[.pointer (some ⟨p, 0, none⟩), .int .u8 b] wx fun e w' => (∃ v, e = .returned v) ∧ MEnd p (opS b rm1) w w') := operandM w0 w p HR.out rm1 hsm1 b hb
  have hso1 := hsm1.opS b
  generalize opS b rm1 = ro1 at *
  have zb : (b == 0) = false := by simp only [beq_eq_false_iff_ne]; omega
  have CM2 : Hid (∀ wx, MEnd p ro1 w wx → Calls Tryz.prog 32 #[.pointer (some ⟨p, 0, none⟩), .string ⟨#[44]⟩] wx fun e w' => (∃ v, e = .returned v) ∧ MEnd p (markS [44] ro1) w w') := markM w p ro1 [44] hso1
  have hsm2 := hso1.mark [44]
  generalize markS [44] ro1 = rm2 at *
  have CP2 : Hid (∀ wx, MEnd p rm2 w wx → Calls Tryz.prog 33 #[.pointer (some ⟨p, 0, none⟩), .int .u8 c] wx fun e w' => (∃ v, e = .returned v) ∧ MEnd p (opS c rm2) w w') := operandM w0 w p HR.out rm2 hsm2 c hc
  have hso2 := hsm2.opS c
  generalize opS c rm2 = ro2 at *
  have zc : (c == 0) = false := by simp only [beq_eq_false_iff_ne]; omega
  clear h hs HR hsm1 hsm2 hso0 hso1 hso2 ha hb hc
  have hx0 : ∀ w : World, (Instr.index 59 (.agg #[.int .u8 a, .int .u8 b, .int .u8 c]) (.int .i64 0)).run Tryz.prog w = .ok (.int .u8 a) w := fun w => idx3_0 _ _ _ w
  have hx1 : ∀ w : World, (Instr.index 59 (.agg #[.int .u8 a, .int .u8 b, .int .u8 c]) (.int .i64 1)).run Tryz.prog w = .ok (.int .u8 b) w := fun w => idx3_1 _ _ _ w
  have hx2 : ∀ w : World, (Instr.index 59 (.agg #[.int .u8 a, .int .u8 b, .int .u8 c]) (.int .i64 2)).run Tryz.prog w = .ok (.int .u8 c) w := fun w => idx3_2 _ _ _ w
  go_enter Tryz.func16, Tryz.ntmps16
  go_wp2_with (go_at_call 21; refine CO.out.mono ?_; rintro e w1 ⟨rfl, ho1⟩; have hm := H0.out _ ho1; have d8w1 := hm.cw.1; have f8w1 := hm.cw.2; have d1w1 := hm.ct; have M0 := hidOf hm; clear hm ho1)
  refine wp_loop_rounds 4 ?_
  rw [rounds_succ]
  go_wp2_with (first | (go_at_call 33; refine (CP0.out _ M0.out).mono ?_; rintro e wo0 ⟨⟨vwo0, rfl⟩, hm⟩; have d8wo0 := hm.cw.1; have f8wo0 := hm.cw.2; have d1wo0 := hm.ct; have MO0 := hidOf hm; clear hm))
  rw [rounds_succ]
  go_wp2_with (first | (go_at_call 33; refine (CP1.out _ MM1.out).mono ?_; rintro e wo1 ⟨⟨vwo1, rfl⟩, hm⟩; have d8wo1 := hm.cw.1; have f8wo1 := hm.cw.2; have d1wo1 := hm.ct; have MO1 := hidOf hm; clear hm) | (go_at_call 32; refine (CM1.out _ MO0.out).mono ?_; rintro e wm1 ⟨⟨vwm1, rfl⟩, hm⟩; have MM1 := hidOf hm; clear hm))
  rw [rounds_succ]
  go_wp2_with (first | (go_at_call 33; refine (CP2.out _ MM2.out).mono ?_; rintro e wo2 ⟨⟨vwo2, rfl⟩, hm⟩; have d8wo2 := hm.cw.1; have f8wo2 := hm.cw.2; have d1wo2 := hm.ct; have MO2 := hidOf hm; clear hm) | (go_at_call 32; refine (CM2.out _ MO1.out).mono ?_; rintro e wm2 ⟨⟨vwm2, rfl⟩, hm⟩; have MM2 := hidOf hm; clear hm))
  rw [rounds_succ]
  go_wp2
  all_goals (go_end0; first | exact ⟨⟨_, rfl⟩, MO2.out.set 8 _ (by rw [show ro2.wrong = true from ‹_›]; rfl)⟩ | exact ⟨⟨_, rfl⟩, MO2.out.set 8 _ (by rw [show ro2.wrong = false from by simpa using ‹¬ ro2.wrong = true›]; rfl)⟩)
theorem operands_any (w0 w : World) (p : Nat) (HR : Hid (Rdr w0 p w)) (r : RS) (h : RdAt w p r.cells) (hs : Sm r) (hf : (formP r.o == 0) = false) : Calls Tryz.prog 16 #[.pointer (some ⟨p, 0, none⟩)] w fun e w' => (∃ v, e = .returned v) ∧ MEnd p (opsS (tOf r.o r.s r.f) r) w w' := by
  have CO := hidOf (opds_at w r ((HR.out.1.out HR.out.2.1).2.2.2) hf)
  have hrng : (1 ≤ (tOf r.o r.s r.f).1 ∧ (tOf r.o r.s r.f).1 ≤ 8 ∨ (tOf r.o r.s r.f).1 = 0) ∧ (1 ≤ (tOf r.o r.s r.f).2.1 ∧ (tOf r.o r.s r.f).2.1 ≤ 8 ∨ (tOf r.o r.s r.f).2.1 = 0) ∧ (1 ≤ (tOf r.o r.s r.f).2.2 ∧ (tOf r.o r.s r.f).2.2 ≤ 8 ∨ (tOf r.o r.s r.f).2.2 = 0) := opds_rng _ _ _ _
  generalize tOf r.o r.s r.f = t at *
  obtain ⟨a, b, c⟩ := t
  obtain ⟨ha, hb, hc⟩ := hrng
  simp only at ha hb hc CO
  unfold opsS opdL
  simp only
  rcases ha with ha | ha
  · rw [if_neg (show ¬ a = 0 by omega)]
    rcases hb with hb | hb
    · rw [if_neg (show ¬ b = 0 by omega)]
      rcases hc with hc | hc
      · rw [if_neg (show ¬ c = 0 by omega)]
        exact operands_3 w0 w p HR r h hs a b c ha hb hc CO
      · rw [if_pos hc]
        exact operands_2 w0 w p HR r h hs a b c ha hb hc CO
    · rw [if_pos hb]
      exact operands_1 w0 w p HR r h hs a b c ha hb CO
  · rw [if_pos ha]
    exact operands_0 w0 w p HR r h hs a b c ha CO
end Go.Proofs.YtcjhgihpahnnoabGreatDoor
