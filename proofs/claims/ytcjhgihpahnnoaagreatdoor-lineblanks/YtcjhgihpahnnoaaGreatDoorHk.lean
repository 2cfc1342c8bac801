import Derived.Test.YtcjhgihpahnnoaaGreatDoorGt
import Derived.Test.YtcjhgihpahnnoaaGreatDoorHj
import Derived.Deep.QuietTactic
import Derived.Laws.Cover1
namespace Go.Proofs.YtcjhgihpahnnoaaGreatDoor
open Go.RowKit
set_option linter.unusedVariables false
set_option linter.unusedSimpArgs false
def wd (k : Nat) : List UInt8 := wordsS.getD k []
/-- a name of two bytes -/
theorem name2_any (c : UInt8) (w : World) : Calls Tryz.prog 21 #[.string ⟨#[97, c]⟩] w fun e w' => e = .returned (.bool (runU c)) ∧ w = w' := by
  have hrc : runP (c.toNat : Int) = runU c := rfl
  have CL : Hid (∀ wx : World, Calls Tryz.prog 51 #[.int .u8 97] wx fun e w' => e = .returned (.bool true) ∧ wx = w') := fun wx => refLetter_any 97 wx
  have CI : Hid (∀ wx : World, Calls Tryz.prog 52 #[.int .u8 97] wx fun e w' => e = .returned (.bool true) ∧ wx = w') := fun wx => refInner_any 97 wx
  have CC : Hid (∀ wx : World, Calls Tryz.prog 52 #[.int .u8 (c.toNat : Int)] wx fun e w' => e = .returned (.bool (runU c)) ∧ wx = w') := fun wx => refInner_any _ wx
  clear hrc
  have i0 : ∀ h, (⟨#[97, c]⟩ : ByteArray)[0]'h = 97 := fun _ => rfl
  have i1 : ∀ h, (⟨#[97, c]⟩ : ByteArray)[1]'h = c := fun _ => rfl
  have t97 : (97 : UInt8).toNat = 97 := rfl
  generalize runU c = b at *
  cases b
  all_goals go_enter Tryz.func21, Tryz.ntmps21
  all_goals go_wp2_with (go_at_call 51; refine (CL.out _).mono ?_; rintro e w1 ⟨rfl, hw⟩; subst hw)
  all_goals refine wp_loop_rounds 4 ?_
  all_goals rw [rounds_succ]
  all_goals go_wp2_with (go_at_call 52; refine (CI.out _).mono ?_; rintro e w1 ⟨rfl, hw⟩; subst hw)
  all_goals rw [rounds_succ]
  all_goals go_wp2_with (go_at_call 52; refine (CC.out _).mono ?_; rintro e w1 ⟨rfl, hw⟩; subst hw)
  · go_ret
    exact ⟨rfl, rfl⟩
  · rw [rounds_succ]
    go_wp2
    go_ret
    exact ⟨rfl, rfl⟩
theorem words_less : ∀ j : Fin 106, Op.bytesLess (wd (j.val + 1)) (wd j.val) = false ∧ (wd (j.val + 1) == wd j.val) = false := by decide +kernel
theorem Out.drewN {w w' : World} (h : Out w w') (n : Nat) : Out w (w'.drewN n) := ⟨h.os, h.tape, h.output, h.size, h.block⟩
theorem ext_one (l : List UInt8) (k : Nat) (c : UInt8) (h : l[k]? = some c) : (⟨l.toArray⟩ : ByteArray).extract k (k + 1) = ⟨#[c]⟩ := by
  have hk : k < l.length := (List.getElem?_eq_some_iff.1 h).1
  have hc : l[k] = c := (List.getElem?_eq_some_iff.1 h).2
  apply ByteArray.ext
  rw [ByteArray.data_extract]
  apply Array.ext'
  rw [Array.toList_extract]
  simp only [List.extract]
  rw [show k + 1 - k = 1 from by omega, List.drop_eq_getElem_cons (show k < l.toArray.toList.length from hk), List.take_succ_cons, List.take_zero]
  exact congrArg (fun x => [x]) hc
def WordsC (w : World) : Prop := ∀ wx, Out w wx → Calls Tryz.prog 16 #[] wx fun e w' => ∃ g cap, e = .returned (.slice (some ⟨g, 0, none⟩) 107 cap) ∧ 107 ≤ cap ∧ (∀ k, k < 107 → w'.cell? ⟨g, k, none⟩ = some (.string ⟨(wd k).toArray⟩)) ∧ Out wx w'
end Go.Proofs.YtcjhgihpahnnoaaGreatDoor
