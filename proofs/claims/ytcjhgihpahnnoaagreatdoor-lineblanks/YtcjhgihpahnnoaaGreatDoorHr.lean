import Derived.Test.YtcjhgihpahnnoaaGreatDoorHp
import Derived.Test.YtcjhgihpahnnoaaGreatDoorHq
namespace Go.Proofs.YtcjhgihpahnnoaaGreatDoor
open Go.RowKit
set_option linter.unusedVariables false
set_option linter.unusedSimpArgs false
/-- does a byte stand alone -/
def apP (c : Int) : Bool := c == 44 || c == 91 || c == 93 || c == 43 || c == 45 || c == 32
theorem apart_any (c : Int) (w : World) : Calls Tryz.prog 20 #[.int .u8 c] w fun e w' => e = .returned (.bool (apP c)) ∧ w = w' := by
  unfold apP
  cases h1 : (c == 44) <;> cases h2 : (c == 91) <;> cases h3 : (c == 93) <;> cases h4 : (c == 43) <;> cases h5 : (c == 45) <;> cases h6 : (c == 32)
  all_goals try (exfalso; simp only [beq_iff_eq] at h1 h2 h3 h4 h5 h6; omega)
  all_goals go_enter Tryz.func20, Tryz.ntmps20
  all_goals go_wp2
  all_goals go_ret
  all_goals exact ⟨rfl, rfl⟩
theorem ap_run (b : UInt8) (h : apP (bI b) = true) : runU b = false := by
  have : ∀ n : Fin 256, apP (bI (UInt8.ofNat n.val)) = true → runU (UInt8.ofNat n.val) = false := by decide +kernel
  have h2 := this ⟨b.toNat, b.toNat_lt⟩
  simp only [UInt8.ofNat_toNat] at h2
  exact h2 h
/-- one round of the outer loop, in plain words: the blanks that are put in at a place, and the byte there -/
theorem Pre.at {L O : List UInt8} {a : Nat} (h : Pre (L.take a) O) (c : UInt8) (hc : L[a]? = some c) (bl : List UInt8) (hb : bl.all isBl = true) (hbl : bl = [] ∨ a = 0 ∨ apP (bI c) = true ∨ (∃ d, 0 < a ∧ L[a - 1]? = some d ∧ apP (bI d) = true)) : Pre (L.take (a + 1)) (O ++ bl ++ [c]) := by
  have e : L.take (a + 1) = L.take a ++ [c] := by rw [List.take_add_one, hc]; rfl
  rw [e]
  have ha : a < L.length := (List.getElem?_eq_some_iff.1 hc).1
  refine h.snoc bl c hb ?_
  rcases hbl with h1 | h1 | h1 | ⟨d, hd0, hd, hd2⟩
  · exact .inl h1
  · subst h1
    exact .inr (.inl (fun d hd => by simp at hd))
  · exact .inr (.inr (ap_run c h1))
  · refine .inr (.inl (fun x hx => ?_))
    have : (L.take a).getLast? = L[a - 1]? := by
      rw [List.getLast?_eq_getElem?, List.length_take, Nat.min_eq_left (by omega), List.getElem?_take, if_pos (by omega)]
    rw [this, hd] at hx
    cases hx
    exact ap_run d hd2
/-- the two answers about a byte that no token has -/
theorem odd_both (o d s f i : Int) (t : List UInt8) (hm : mayP o d s f i = 0) (ht : tfitP o s f i t = true) (hi : -9223372036854775808 ≤ i ∧ i < 9223372036854775808) (c : UInt8) (hr : runU c = false) (h1 : ¬ c = 32) (h2 : ¬ c = 9) : (parseP (lineP o d s f i t ++ [c])).e = 41 ∧ (parseP (c :: lineP o d s f i t)).e = 40 := by
  refine ⟨parse_lineZ [c] (by show (!runU c) = true; rw [hr]; rfl) ?_ o d s f i t hm ht hi, odd_ahead c _ hr h1 h2⟩
  have hh : headOk [c] = false := by
    have : ∀ b : Fin 256, runU (UInt8.ofNat b.val) = false → headOk [UInt8.ofNat b.val] = false := by decide +kernel
    have h3 := this ⟨c.toNat, c.toNat_lt⟩
    simp only [UInt8.ofNat_toNat] at h3
    exact h3 hr
  rw [(tok_mark c [] hh h1 h2).1]
  simp
end Go.Proofs.YtcjhgihpahnnoaaGreatDoor
