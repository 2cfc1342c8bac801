import Derived.Test.YteelicelpkjmhaaGreatDoorQl
import Derived.Lib.AtoiErrMem
namespace Go.Proofs.YteelicelpkjmhaaGreatDoor
open Go.RowKit
set_option linter.unusedVariables false
set_option linter.unusedSimpArgs false
def hexU (b : UInt8) : Bool := hexP (bI b)
/-- the value of hexadecimal digits: the number, too great, one at all -/
def dig16 (l : List UInt8) : Int × Bool × Bool := if l = [] then (0, false, false) else if l.all hexU then (hexV 0 l, false, true) else (0, false, false)
theorem hexDigit_of {c : Int} {b : Bool} (h : hexP c = b) (w : World) : Calls Tryz.prog 176 #[.int .u8 c] w fun e w' => e = .returned (.bool b) ∧ w = w' := h ▸ hexDigit_any c w
theorem all_not {α : Type} (p : α → Bool) (l : List α) (k : Nat) (b : α) (hb : l[k]? = some b) (hp : p b = false) : l.all p = false := by
  rw [List.all_eq_false]
  exact ⟨b, List.mem_of_getElem? hb, by simp [hp]⟩
theorem digits16 (s : ByteArray) (h16 : s.size ≤ 16) (w : World) : Calls Tryz.prog 175 #[.string s, .int .i64 16, .func (Fn.func 176) #[] #[]] w fun e w' => e = .returned (.tuple #[.int .u64 (dig16 s.toList).1, .bool (dig16 s.toList).2.1, .bool (dig16 s.toList).2.2]) ∧ Below w.heap.size w w' := by
  by_cases h0 : s.size = 0
  · have hl : s.toList = [] := List.length_eq_zero_iff.1 (by rw [lsize, h0])
    have hN : dig16 s.toList = (0, false, false) := by rw [hl]; rfl
    rw [hN]
    go_enter Tryz.func175, Tryz.ntmps175
    go_wp2
    go_ret3
    exact ⟨rfl, Below.refl _ _⟩
  · obtain ⟨hie, hne⟩ := isEmpty_of h0
    have h0' : (0 : Int) < s.size := by omega
    have HN : Hid (dig16 s.toList = if s.toList.all hexU then (hexV 0 s.toList, false, true) else (0, false, false)) := by show _ = _; simp [dig16, hne]
    go_enter Tryz.func175, Tryz.ntmps175
    go_wp2
    have HY : Hid (s.toList.all hexU = true → dig16 s.toList = (hexV 0 s.data.toList, false, true)) := fun h => by rw [HN.out, if_pos h, ByteArray.toList_eq]
    have HX : Hid (s.toList.all hexU = false → dig16 s.toList = (0, false, false)) := fun h => by rw [HN.out, h]; rfl
    clear HN
    go_loopw [15] (fun iv wr => ∃ k : Nat, k ≤ s.size ∧ iv = .int .i64 k ∧ Hid ((s.toList.take k).all hexU = true) ∧ wr = w) (fun iv _ => s.size - (intOf iv).toNat)
    case atStart => exact ⟨0, by omega, rfl, hidOf (by simp), rfl⟩
    case round =>
      obtain ⟨k, hk2, rfl, Ha, rfl⟩ := hrel
      by_cases hk : k < s.size
      · have hlt : (k : Int) < s.size := by omega
        have h0k : (0 : Int) ≤ k := by omega
        have Hg := hidOf (lget s k hk)
        cases hr : hexP (bI s[k])
        · have Hf := hidOf (HX.out (all_not hexU _ k _ Hg.out hr))
          go_wp2_with (go_at_call 176; refine (hexDigit_of hr _).mono ?_; rintro e w3 ⟨rfl, rfl⟩)
          go_ret3
          rw [Hf.out]
          exact ⟨rfl, Below.refl _ _⟩
        · have Ha' := hidOf (all_step hexU _ k _ Ha.out Hg.out hr)
          go_wp2_with (go_at_call 176; refine (hexDigit_of hr _).mono ?_; rintro e w3 ⟨rfl, rfl⟩)
          go_roundw
          case rel => exact ⟨k + 1, by omega, by simp, Ha', trivial⟩
          case measure => simp [intOf]; omega
      · have hlt : ¬ (k : Int) < s.size := by omega
        have hall : s.toList.all hexU = true := by have := Ha.out; rwa [List.take_of_length_le (by rw [lsize]; omega)] at this
        have Hf := hidOf (HY.out hall)
        have CP := hidOf (pub16 s h0 h16 (fun b hb => by rw [← ByteArray.toList_eq] at hb; exact List.all_eq_true.1 hall b hb) wr)
        clear hall
        go_wp2_with (go_at_call 189; refine CP.out.mono ?_; rintro e w3 ⟨rfl, rfl⟩)
        go_ret3
        rw [Hf.out]
        exact ⟨rfl, Lib.bytesWorld_below _ _ _⟩
end Go.Proofs.YteelicelpkjmhaaGreatDoor
