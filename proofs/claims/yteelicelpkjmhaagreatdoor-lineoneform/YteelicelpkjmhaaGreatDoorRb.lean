import Derived.Test.YteelicelpkjmhaaGreatDoorQr
import Derived.Test.YteelicelpkjmhaaGreatDoorQq
import Derived.Test.YteelicelpkjmhaaGreatDoorQj
import Derived.Test.YteelicelpkjmhaaGreatDoorQi
import Derived.Lib.ItoaNum
namespace Go.Proofs.YteelicelpkjmhaaGreatDoor
open Go.RowKit
set_option linter.unusedVariables false
set_option linter.unusedSimpArgs false
/-- tokens, in plain words -/
def runU (b : UInt8) : Bool := runP (bI b)
/-- a run ends here -/
def stopP (l : List UInt8) : Bool := match l with | [] => true | c :: _ => !runU c
theorem blank_of (c : UInt8) (l : List UInt8) (h : c = 32 ∨ c = 9) : blankP (c :: l) = blankP l := by
  unfold blankP Lib.trimLeftS
  rcases h with rfl | rfl <;> rfl
theorem blank_no (c : UInt8) (l : List UInt8) (h : ¬ c = 32) (h' : ¬ c = 9) : blankP (c :: l) = c :: l := by
  unfold blankP Lib.trimLeftS
  rw [List.dropWhile_cons]
  have : ([32, 9] : List UInt8).contains c = false := by simp [h, h']
  rw [if_neg (by rw [this]; decide)]
theorem tok_blank (c : UInt8) (l : List UInt8) (h : c = 32 ∨ c = 9) : tokP (c :: l) = tokP l ∧ restP (c :: l) = restP l := by
  unfold tokP restP
  rw [blank_of c l h]
  exact ⟨rfl, rfl⟩
theorem tok_nil : tokP [] = [] ∧ restP [] = [] := ⟨rfl, rfl⟩
theorem take_all (t u : List UInt8) (ha : t.all runU = true) (hu : stopP u = true) : ((t ++ u).takeWhile runU) = t := by
  induction t with
  | nil =>
    cases u with
    | nil => rfl
    | cons c u =>
      have : runU c = false := by simpa [stopP] using hu
      simp [this]
  | cons b t ih =>
    simp only [List.all_cons, Bool.and_eq_true] at ha
    rw [List.cons_append, List.takeWhile_cons, if_pos ha.1, ih ha.2]
theorem head_not_blank {c : UInt8} (h : letP (bI c) = true ∨ digP (bI c) = true) : ¬ c = 32 ∧ ¬ c = 9 := by
  constructor <;> (rintro rfl; revert h; decide)
theorem tok_run (t u : List UInt8) (ht : headOk t = true) (ha : t.all runU = true) (hu : stopP u = true) : tokP (t ++ u) = t ∧ restP (t ++ u) = u := by
  cases t with
  | nil => simp [headOk] at ht
  | cons c t =>
    have hc : letP (bI c) = true ∨ digP (bI c) = true := by simpa [headOk] using ht
    have hb := head_not_blank hc
    have hB : blankP ((c :: t) ++ u) = (c :: t) ++ u := blank_no c (t ++ u) hb.1 hb.2
    have hh : headOk ((c :: t) ++ u) = true := by simpa [headOk] using hc
    have hr : runN ((c :: t) ++ u) = (c :: t).length := by
      unfold runN
      rw [if_pos hh]
      have := take_all (c :: t) u ha hu
      show (((c :: t) ++ u).takeWhile runU).length = _
      rw [this]
    have hn : tokN ((c :: t) ++ u) = (c :: t).length := by
      unfold tokN
      rw [if_neg (by rw [hr]; simp), hr]
    unfold tokP restP
    rw [hB, hn]
    exact ⟨List.take_left' rfl, List.drop_left' rfl⟩
theorem tok_mark (c : UInt8) (u : List UInt8) (h : headOk [c] = false) (h1 : ¬ c = 32) (h2 : ¬ c = 9) : tokP (c :: u) = [c] ∧ restP (c :: u) = u := by
  have hB := blank_no c u h1 h2
  have hh : headOk (c :: u) = false := h
  have hn : tokN (c :: u) = 1 := by
    unfold tokN runN
    rw [hh]
    simp
  unfold tokP restP
  rw [hB, hn]
  exact ⟨rfl, rfl⟩
/-- decimal digits -/
theorem digU_lt (n : Nat) (h : n < 10) : digU (UInt8.ofNat (48 + n)) = true ∧ (UInt8.ofNat (48 + n)).toNat = 48 + n := by
  have h1 : (UInt8.ofNat (48 + n)).toNat = 48 + n := by rw [UInt8.toNat_ofNat']; omega
  exact ⟨(digU_iff _).2 (by omega), h1⟩
theorem decV_app (l m : List UInt8) : ∀ a, decV a (l ++ m) = decV (decV a l) m := by
  induction l with
  | nil => intro a; rfl
  | cons b l ih => intro a; exact ih _
theorem dd_small {u : Nat} (h : u < 10) : Lib.decDigits u = [UInt8.ofNat (48 + u)] := by rw [Lib.decDigits, dif_pos h]
theorem dd_big {u : Nat} (h : ¬ u < 10) : Lib.decDigits u = Lib.decDigits (u / 10) ++ [UInt8.ofNat (48 + u % 10)] := by rw [Lib.decDigits, dif_neg h]
theorem dd_all (u : Nat) : (Lib.decDigits u).all digU = true ∧ decV 0 (Lib.decDigits u) = u ∧ (∃ c l, Lib.decDigits u = c :: l ∧ (¬ u = 0 → ¬ c = 48)) := by
  induction u using Nat.strongRecOn with
  | _ u ih =>
    by_cases h : u < 10
    · have hd := digU_lt u h
      rw [dd_small h]
      refine ⟨by rw [List.all_cons, hd.1]; rfl, ?_, _, _, rfl, fun h0 e => ?_⟩
      · show 0 * 10 + ((UInt8.ofNat (48 + u)).toNat - 48) = u
        omega
      · have e2 := congrArg UInt8.toNat e
        rw [hd.2] at e2
        have : (48 : UInt8).toNat = 48 := rfl
        omega
    · obtain ⟨i1, i2, c, l, i3, i4⟩ := ih (u / 10) (by omega)
      have hd := digU_lt (u % 10) (by omega)
      rw [dd_big h]
      refine ⟨by rw [List.all_append, i1, List.all_cons, hd.1]; rfl, ?_, c, l ++ [UInt8.ofNat (48 + u % 10)], by rw [i3]; rfl, fun _ => i4 (by omega)⟩
      rw [decV_app, i2]
      show u / 10 * 10 + ((UInt8.ofNat (48 + u % 10)).toNat - 48) = u
      omega
theorem dig_run {b : UInt8} (h : digU b = true) : runU b = true := by
  have h' : digP (bI b) = true := h
  simp [runU, runP, h']
theorem all_run {l : List UInt8} (h : l.all digU = true) : l.all runU = true := by
  rw [List.all_eq_true] at h ⊢
  exact fun x hx => dig_run (h x hx)
theorem val_dd (u : Nat) (h : u ≤ 18446744073709551615) : valP (Lib.decDigits u) = ((u : Int), false, true) := by
  obtain ⟨h1, h2, c, l, h3, h4⟩ := dd_all u
  by_cases h0 : u = 0
  · subst h0
    rw [dd_small (by decide)]
    rfl
  · have hc : ¬ c = 48 := h4 h0
    have e1 : ¬ Lib.decDigits u = [48] := by rw [h3]; intro e; injection e with e _; exact hc e
    have e2 : Lib.hasPrefix (Lib.decDigits u) [48, 120] = false := by
      rw [h3]
      have hc' : ((48 : UInt8) == c) = false := by simpa using fun e => hc e.symm
      simp [Lib.hasPrefix, List.isPrefixOf, hc']
    have e3 : Lib.hasPrefix (Lib.decDigits u) [48] = false := by
      rw [h3]
      have hc' : ((48 : UInt8) == c) = false := by simpa using fun e => hc e.symm
      simp [Lib.hasPrefix, List.isPrefixOf, hc']
    unfold valP
    rw [if_neg e1, e2, e3]
    simp only [Bool.false_eq_true, if_false]
    unfold dig10
    rw [if_neg (by rw [h3]; simp), if_pos h1, h2, if_pos h]
theorem dd_tok (u : Nat) (l : List UInt8) (hl : stopP l = true) : tokP (Lib.decDigits u ++ l) = Lib.decDigits u ∧ restP (Lib.decDigits u ++ l) = l := by
  obtain ⟨h1, _, c, m, h3, _⟩ := dd_all u
  refine tok_run _ _ ?_ (all_run h1) hl
  rw [h3] at h1 ⊢
  simp only [List.all_cons, Bool.and_eq_true] at h1
  have : digP (bI c) = true := h1.1
  simp [headOk, this]
end Go.Proofs.YteelicelpkjmhaaGreatDoor
