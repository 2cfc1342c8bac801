import Derived.Test.YteelicelpkjmhaaGreatDoorQn
namespace Go.Proofs.YteelicelpkjmhaaGreatDoor
open Go.RowKit
set_option linter.unusedVariables false
set_option linter.unusedSimpArgs false
/-- the value of a number without a sign: the number, too great, one at all -/
def valP (l : List UInt8) : Int × Bool × Bool :=
  if l = [48] then (0, false, true)
  else if Lib.hasPrefix l [48, 120] then (if 16 < (Lib.trimPrefix l [48, 120]).length then (0, false, false) else dig16 (Lib.trimPrefix l [48, 120]))
  else if Lib.hasPrefix l [48] then (0, false, false) else dig10 l
theorem valueOf_any (s : ByteArray) (hs : s.size ≤ 281474976710656) (w : World) (HE : Hid (ErrR w)) : Calls Tryz.prog 156 #[.string s] w fun e w' => e = .returned (.tuple #[.int .u64 (valP s.toList).1, .bool (valP s.toList).2.1, .bool (valP s.toList).2.2]) ∧ Below w.heap.size w w' := by
  obtain ⟨d, hd⟩ : ∃ d : ByteArray, d = ⟨(Lib.trimPrefix s.data.toList [48, 120]).toArray⟩ := ⟨_, rfl⟩
  have hdl : d.toList = Lib.trimPrefix s.toList [48, 120] := by rw [hd, mk_list, ByteArray.toList_eq]
  have CC : ∀ b, Lib.hasPrefix s.toList [48, 120] = b → Hid (Calls Tryz.prog 174 #[.string s, .string ⟨#[48, 120]⟩] w fun e w' => e = .returned (.tuple #[.string d, .bool b]) ∧ w' = w) := fun b hb => by
    have h := Tryz.strings_CutPrefix s ⟨#[48, 120]⟩ w
    rw [ByteArray.toList_eq] at hb
    subst hb
    rw [hd]
    exact h
  have CH : ∀ b, Lib.hasPrefix s.toList [48] = b → Hid (Calls Tryz.prog 177 #[.string s, .string ⟨#[48]⟩] w fun e w' => e = .returned (.bool b) ∧ w' = w) := fun b hb => by
    have h := Tryz.strings_HasPrefix s ⟨#[48]⟩ w
    rw [ByteArray.toList_eq] at hb
    subst hb
    exact h
  have CD := hidOf (digits10 s hs w HE)
  have HV : Hid (valP s.toList = if s.toList = [48] then (0, false, true) else if Lib.hasPrefix s.toList [48, 120] then (if 16 < d.size then (0, false, false) else dig16 d.toList) else if Lib.hasPrefix s.toList [48] then (0, false, false) else dig10 s.toList) := by
    show _ = _
    rw [← lsize d, hdl]
    rfl
  clear hd hdl HE
  cases h1 : (s.toList == [48])
  · have h1' : ¬ s.toList = [48] := by simpa using h1
    cases h2 : Lib.hasPrefix s.toList [48, 120]
    · have C1 := CC _ h2
      cases h3 : Lib.hasPrefix s.toList [48]
      · have C2 := CH _ h3
        have Hf : Hid (dig10 s.toList = valP s.toList) := by show _ = _; rw [HV.out, if_neg h1', h2, h3]; rfl
        rw [Hf.out] at CD
        clear CC CH HV h1' h2 h3
        go_enter Tryz.func156, Tryz.ntmps156
        go_wp2_with (first | (go_at_call 174; refine C1.out.mono ?_; rintro e w1 ⟨rfl, hw1⟩; have hw1 := hw1.symm; subst hw1) | (go_at_call 177; refine C2.out.mono ?_; rintro e w2 ⟨rfl, hw2⟩; have hw2 := hw2.symm; subst hw2) | (go_at_call 175; refine CD.out.mono ?_; rintro e w3 ⟨rfl, hw3⟩; have HW := hidOf hw3; clear hw3))
        go_ret3
        exact ⟨rfl, HW.out⟩
      · have C2 := CH _ h3
        have Hf : Hid (valP s.toList = (0, false, false)) := by show _ = _; rw [HV.out, if_neg h1', h2, h3]; rfl
        clear CC CH HV h1' h2 h3
        go_enter Tryz.func156, Tryz.ntmps156
        go_wp2_with (first | (go_at_call 174; refine C1.out.mono ?_; rintro e w1 ⟨rfl, hw1⟩; have hw1 := hw1.symm; subst hw1) | (go_at_call 177; refine C2.out.mono ?_; rintro e w2 ⟨rfl, hw2⟩; have hw2 := hw2.symm; subst hw2))
        go_ret3
        rw [Hf.out]
        exact ⟨rfl, Below.refl _ _⟩
    · have C1 := CC _ h2
      by_cases h3 : 16 < d.size
      · have Hf : Hid (valP s.toList = (0, false, false)) := by show _ = _; rw [HV.out, if_neg h1', h2, if_pos h3]; rfl
        have h3' : (16 : Int) < d.size := by omega
        clear CC CH HV h1' h2
        go_enter Tryz.func156, Tryz.ntmps156
        go_wp2_with (go_at_call 174; refine C1.out.mono ?_; rintro e w1 ⟨rfl, hw1⟩; have hw1 := hw1.symm; subst hw1)
        go_ret3
        rw [Hf.out]
        exact ⟨rfl, Below.refl _ _⟩
      · have Hf : Hid (dig16 d.toList = valP s.toList) := by show _ = _; rw [HV.out, if_neg h1', h2, if_neg h3]; rfl
        have h3' : ¬ (16 : Int) < d.size := by omega
        have C6 := hidOf (digits16 d (by omega) w)
        rw [Hf.out] at C6
        clear CC CH HV h1' h2 CD
        go_enter Tryz.func156, Tryz.ntmps156
        go_wp2_with (first | (go_at_call 174; refine C1.out.mono ?_; rintro e w1 ⟨rfl, hw1⟩; have hw1 := hw1.symm; subst hw1) | (go_at_call 175; refine C6.out.mono ?_; rintro e w3 ⟨rfl, hw3⟩; have HW := hidOf hw3; clear hw3))
        go_ret3
        exact ⟨rfl, HW.out⟩
  · have h1' : s.toList = [48] := by simpa using h1
    have Hf : Hid (valP s.toList = (0, false, true)) := by show _ = _; rw [h1']; rfl
    clear CC CH HV h1' CD
    go_enter Tryz.func156, Tryz.ntmps156
    go_wp2
    go_ret3
    rw [Hf.out]
    exact ⟨rfl, Below.refl _ _⟩
end Go.Proofs.YteelicelpkjmhaaGreatDoor
