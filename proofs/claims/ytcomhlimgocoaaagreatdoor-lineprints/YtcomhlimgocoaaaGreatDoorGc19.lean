import Derived.Test.YtcomhlimgocoaaaGreatDoorGc18
namespace Go.Proofs.YtcomhlimgocoaaaGreatDoor
open Go.RowKit
set_option linter.unusedVariables false
set_option linter.unusedSimpArgs false
/-- the reader, standing at a text -/
def RS.at (r : RS) (l : List UInt8) : RS := { r with rest := restP l, tok := tokP l }
theorem at_blank (r : RS) (c : UInt8) (l : List UInt8) (h : c = 32 ∨ c = 9) : r.at (c :: l) = r.at l := by
  unfold RS.at
  rw [(tok_blank c l h).1, (tok_blank c l h).2]
theorem at_run (r : RS) (t u : List UInt8) (ht : headOk t = true) (ha : t.all runU = true) (hu : stopP u = true) : r.at (t ++ u) = { r with rest := u, tok := t } := by
  unfold RS.at
  rw [(tok_run t u ht ha hu).1, (tok_run t u ht ha hu).2]
theorem at_mark (r : RS) (c : UInt8) (u : List UInt8) (h : headOk [c] = false) (h1 : ¬ c = 32) (h2 : ¬ c = 9) : r.at (c :: u) = { r with rest := u, tok := [c] } := by
  unfold RS.at
  rw [(tok_mark c u h h1 h2).1, (tok_mark c u h h1 h2).2]
theorem at_next (r : RS) (u t : List UInt8) : RS.next { r with rest := u, tok := t } = r.at u := rfl
theorem regL_ok : ∀ k : Fin 11, headOk (regL k.val) = true ∧ (regL k.val).all runU = true ∧ startP (regL k.val) = true ∧ regN (regL k.val) = some k.val := by decide
theorem reg_at (r : RS) (k : Nat) (hk : k < 11) (u : List UInt8) (hu : stopP u = true) : regS (r.at (regL k ++ u)) = (r.at u, (k : Int)) := by
  obtain ⟨h1, h2, _, h4⟩ := regL_ok ⟨k, hk⟩
  rw [at_run r _ _ h1 h2 hu]
  unfold regS
  simp only
  rw [h4]
  rfl
theorem mark_at (r : RS) (c : UInt8) (u : List UInt8) (h : headOk [c] = false) (h1 : ¬ c = 32) (h2 : ¬ c = 9) : markS [c] (r.at (c :: u)) = r.at u := by
  rw [at_mark r c u h h1 h2]
  unfold markS skipP
  simp only [if_true]
  rfl
theorem skip_at (r : RS) (c : UInt8) (u : List UInt8) (h : headOk [c] = false) (h1 : ¬ c = 32) (h2 : ¬ c = 9) : skipP [c] (r.at (c :: u)) = (r.at u, true) := by
  rw [at_mark r c u h h1 h2]
  unfold skipP
  simp only [if_true]
  rfl
theorem skip_no (r : RS) (m l : List UInt8) (h : ¬ tokP l = m) : skipP m (r.at l) = (r.at l, false) := by
  unfold skipP
  rw [if_neg (show ¬ (r.at l).tok = m from h)]
theorem dd_ne (u : Nat) (l : List UInt8) (c : UInt8) (hl : stopP l = true) (hc : digU c = false) : ¬ tokP (Lib.decDigits u ++ l) = [c] := by
  rw [(dd_tok u l hl).1]
  intro e
  have := (dd_all u).1
  rw [e] at this
  simp [hc] at this
/-- a number without a sign -/
theorem num_at (r : RS) (u : Nat) (l : List UInt8) (hl : stopP l = true) (b : Bool) (half high : Int) (hu : u ≤ 18446744073709551615) (hh : (u : Int) ≤ if b then half else high) : numS b half high (r.at (Lib.decDigits u ++ l)) = r.at l ∧ ∀ width, numV b width (r.at (Lib.decDigits u ++ l)) = wrap64 (Wo.sgnW width (if b then Wo.negW u else u)) := by
  have e1 : (r.at (Lib.decDigits u ++ l)).tok = Lib.decDigits u := (dd_tok u l hl).1
  have e2 : (r.at (Lib.decDigits u ++ l)).rest = l := (dd_tok u l hl).2
  have ev := val_dd u hu
  constructor
  · unfold numS
    rw [e1, ev]
    have hd : decide ((if b then half else high) < (u : Int)) = false := decide_eq_false (by omega)
    simp only [hd, Bool.or_false, Bool.not_true]
    unfold RS.next
    simp only
    rw [e2]
    rfl
  · intro width
    unfold numV
    rw [e1, ev]
theorem wrap_neg (u : Nat) (h : 1 ≤ u) (h' : u ≤ 9223372036854775808) : Wo.negW (u : Int) = 18446744073709551616 - u := by
  unfold Wo.negW
  simp only [IntKind.wrap_u64]
  omega
/-- what a number of that width is, and what it is below 0 -/
theorem sgn_at (u : Nat) (width H M : Int) (eM : Wo.mW width = M) (eH : Wo.hW width = H) (h : (H = 32768 ∧ M = 65536) ∨ (H = 2147483648 ∧ M = 4294967296) ∨ (H = 9223372036854775808 ∧ M = 18446744073709551616)) :
    ((u : Int) < H → wrap64 (Wo.sgnW width (u : Int)) = u) ∧ ((u : Int) ≤ H → 1 ≤ u → wrap64 (Wo.sgnW width (Wo.negW (u : Int))) = -u) := by
  constructor
  · intro h1
    unfold Wo.sgnW Wo.sgnM wrap64
    rw [eM, eH]
    rcases h with ⟨rfl, rfl⟩ | ⟨rfl, rfl⟩ | ⟨rfl, rfl⟩ <;> (split <;> omega)
  · intro h1 h2
    rw [wrap_neg u h2 (by omega)]
    unfold Wo.sgnW Wo.sgnM wrap64
    rw [eM, eH]
    rcases h with ⟨rfl, rfl⟩ | ⟨rfl, rfl⟩ | ⟨rfl, rfl⟩ <;> (split <;> omega)
/-- a signed number, as it is printed -/
theorem itoa_neg (i : Int) (h : i < 0) : Lib.itoa i = 45 :: Lib.decDigits i.natAbs := by unfold Lib.itoa; rw [if_pos h]
theorem itoa_pos (i : Int) (h : ¬ i < 0) : Lib.itoa i = Lib.decDigits i.toNat := by unfold Lib.itoa; rw [if_neg h]
theorem sgn_neg (r : RS) (i : Int) (h : i < 0) (l : List UInt8) : sgnS (r.at (Lib.itoa i ++ l)) = (r.at (Lib.decDigits i.natAbs ++ l), true) := by
  rw [itoa_neg i h]
  unfold sgnS
  rw [List.cons_append, skip_at r 45 _ (by decide) (by decide) (by decide)]
  rfl
theorem sgn_pos (r : RS) (i : Int) (h : ¬ i < 0) (l : List UInt8) (hl : stopP l = true) : sgnS (r.at (Lib.itoa i ++ l)) = (r.at (Lib.decDigits i.toNat ++ l), false) := by
  rw [itoa_pos i h]
  unfold sgnS
  rw [skip_no r [45] _ (dd_ne _ l 45 hl (by decide))]
  simp only [Bool.false_eq_true, if_false]
  rw [skip_no r [43] _ (dd_ne _ l 43 hl (by decide))]
theorem imm_at (r : RS) (i : Int) (l : List UInt8) (hl : stopP l = true) (hi : if r.o = 24 then -9223372036854775808 ≤ i ∧ i < 9223372036854775808 else -2147483648 ≤ i ∧ i < 2147483648) : immS (r.at (Lib.itoa i ++ l)) = { r.at l with i := i } := by
  unfold immS
  show (if r.o = 24 then _ else _) = _
  by_cases ho : r.o = 24
  · rw [if_pos ho] at hi ⊢
    by_cases h0 : i < 0
    · rw [sgn_neg r i h0]
      obtain ⟨e1, e2⟩ := num_at r i.natAbs l hl true 9223372036854775808 18446744073709551615 (by omega) (by show _ ≤ (9223372036854775808 : Int); omega)
      simp only [e1, e2 64]
      have e3 := (sgn_at i.natAbs 64 _ _ rfl rfl (.inr (.inr ⟨rfl, rfl⟩))).2 (by show _ ≤ (9223372036854775808 : Int); omega) (by omega)
      simp only [if_true]
      rw [e3, show -(i.natAbs : Int) = i by omega]
    · rw [sgn_pos r i h0 l hl]
      obtain ⟨e1, e2⟩ := num_at r i.toNat l hl false 9223372036854775808 18446744073709551615 (by omega) (by show _ ≤ (18446744073709551615 : Int); omega)
      simp only [e1, e2 64]
      have e3 := (sgn_at i.toNat 64 _ _ rfl rfl (.inr (.inr ⟨rfl, rfl⟩))).1 (by show _ < (9223372036854775808 : Int); omega)
      simp only [Bool.false_eq_true, if_false]
      rw [e3, show ((i.toNat : Nat) : Int) = i by omega]
  · rw [if_neg ho] at hi ⊢
    by_cases h0 : i < 0
    · rw [sgn_neg r i h0]
      obtain ⟨e1, e2⟩ := num_at r i.natAbs l hl true 2147483648 4294967295 (by omega) (by show _ ≤ (2147483648 : Int); omega)
      simp only [e1, e2 32]
      have e3 := (sgn_at i.natAbs 32 _ _ rfl rfl (.inr (.inl ⟨rfl, rfl⟩))).2 (by show _ ≤ (2147483648 : Int); omega) (by omega)
      simp only [if_true]
      rw [e3, show -(i.natAbs : Int) = i by omega]
    · rw [sgn_pos r i h0 l hl]
      obtain ⟨e1, e2⟩ := num_at r i.toNat l hl false 2147483648 4294967295 (by omega) (by show _ ≤ (4294967295 : Int); omega)
      simp only [e1, e2 32]
      have e3 := (sgn_at i.toNat 32 _ _ rfl rfl (.inr (.inl ⟨rfl, rfl⟩))).1 (by show _ < (2147483648 : Int); omega)
      simp only [Bool.false_eq_true, if_false]
      rw [e3, show ((i.toNat : Nat) : Int) = i by omega]
/-- a place, as it is printed -/
def placeTx (k : Nat) (f : Int) : List UInt8 := 91 :: (regL k ++ ((if 0 ≤ f then [43] else []) ++ (Lib.itoa f ++ [93])))
theorem place_at (r : RS) (k : Nat) (hk : k < 11) (f : Int) (hf : -32768 ≤ f ∧ f < 32768) (l : List UInt8) : placeS (r.at (placeTx k f ++ l)) = (r.at l, (k : Int), f) := by
  have e0 : placeTx k f ++ l = 91 :: (regL k ++ ((if 0 ≤ f then [43] else []) ++ (Lib.itoa f ++ (93 :: l)))) := by simp [placeTx, List.append_assoc]
  have hst : stopP ((if 0 ≤ f then [43] else []) ++ (Lib.itoa f ++ (93 :: l))) = true := by
    split
    · rfl
    · rename_i h
      rw [itoa_neg f (by omega)]
      rfl
  have em : markS [91] (r.at (placeTx k f ++ l)) = r.at (regL k ++ ((if 0 ≤ f then [43] else []) ++ (Lib.itoa f ++ (93 :: l)))) := by
    rw [e0, mark_at r 91 _ (by decide) (by decide) (by decide)]
  unfold placeS
  rw [em, reg_at r k hk _ hst]
  simp only
  by_cases h0 : f < 0
  · have ep : pgnS (r.at ((if 0 ≤ f then [43] else []) ++ (Lib.itoa f ++ (93 :: l)))) = (r.at (Lib.decDigits f.natAbs ++ (93 :: l)), true) := by
      rw [if_neg (by omega), List.nil_append, itoa_neg f h0, List.cons_append]
      unfold pgnS
      rw [skip_at r 45 _ (by decide) (by decide) (by decide)]
      rfl
    rw [ep]
    obtain ⟨e1, e2⟩ := num_at r f.natAbs (93 :: l) rfl true 32768 32767 (by omega) (by show _ ≤ (32768 : Int); omega)
    simp only
    rw [e1, e2 16, mark_at r 93 _ (by decide) (by decide) (by decide)]
    have e3 := (sgn_at f.natAbs 16 _ _ rfl rfl (.inl ⟨rfl, rfl⟩)).2 (by show _ ≤ (32768 : Int); omega) (by omega)
    simp only [if_true]
    rw [e3, show -(f.natAbs : Int) = f by omega]
  · have ep : pgnS (r.at ((if 0 ≤ f then [43] else []) ++ (Lib.itoa f ++ (93 :: l)))) = (r.at (Lib.decDigits f.toNat ++ (93 :: l)), false) := by
      rw [if_pos (by omega), itoa_pos f h0]
      unfold pgnS
      have en : ¬ tokP ([43] ++ (Lib.decDigits f.toNat ++ (93 :: l))) = [45] := by
        rw [show ([43] : List UInt8) ++ (Lib.decDigits f.toNat ++ (93 :: l)) = 43 :: (Lib.decDigits f.toNat ++ (93 :: l)) from rfl, (tok_mark 43 _ (by decide) (by decide) (by decide)).1]
        decide
      rw [skip_no r [45] _ en]
      simp only [Bool.false_eq_true, if_false]
      rw [show ([43] : List UInt8) ++ (Lib.decDigits f.toNat ++ (93 :: l)) = 43 :: (Lib.decDigits f.toNat ++ (93 :: l)) from rfl, mark_at r 43 _ (by decide) (by decide) (by decide)]
    rw [ep]
    obtain ⟨e1, e2⟩ := num_at r f.toNat (93 :: l) rfl false 32768 32767 (by omega) (by show _ ≤ (32767 : Int); omega)
    simp only
    rw [e1, e2 16, mark_at r 93 _ (by decide) (by decide) (by decide)]
    have e3 := (sgn_at f.toNat 16 _ _ rfl rfl (.inl ⟨rfl, rfl⟩)).1 (by show _ < (32768 : Int); omega)
    simp only [Bool.false_eq_true, if_false]
    rw [e3, show ((f.toNat : Nat) : Int) = f by omega]
/-- a name -/
theorem name_at (r : RS) (t l : List UInt8) (ht : nameP t = true) (hl : stopP l = true) : nameS (r.at (t ++ l)) = { r.at l with tgt := t } := by
  have h1 : headOk t = true ∧ t.all runU = true := by
    unfold nameP at ht
    simp only [Bool.and_eq_true] at ht
    refine ⟨?_, ht.2⟩
    cases t with
    | nil => simp [startP] at ht
    | cons c t =>
      have : letP (bI c) = true := ht.1.2
      simp [headOk, this]
  rw [at_run r t l h1.1 h1.2 hl]
  unfold nameS
  simp only [ht, Bool.not_true, Bool.or_false]
  rfl
end Go.Proofs.YtcomhlimgocoaaaGreatDoor
