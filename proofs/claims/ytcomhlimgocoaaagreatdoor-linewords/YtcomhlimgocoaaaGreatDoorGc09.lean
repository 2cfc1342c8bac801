import Derived.Test.YtcomhlimgocoaaaGreatDoorGc06
import Derived.Test.YtcomhlimgocoaaaGreatDoorGc08
import Derived.Lib.AtoiErrMem
namespace Go.Proofs.YtcomhlimgocoaaaGreatDoor
open Go.RowKit
set_option linter.unusedVariables false
set_option linter.unusedSimpArgs false
theorem pub16 (t : ByteArray) (hne : t.size ≠ 0) (h16 : t.size ≤ 16) (hall : ∀ b ∈ t.data.toList, hexP (bI b) = true) (w : World) :
    Calls Tryz.prog 186 #[.string t, .int .i64 16, .int .i64 64] w fun e w' => e = .returned (.tuple #[.int .u64 (hexV 0 t.data.toList), .nilIface]) ∧ w' = Lib.bytesWorld w 5 t := by
  have CP := hidOf (parse16 t hne h16 hall w)
  clear hall
  go_enter Tryz.func186, Tryz.ntmps186
  go_wp2_with (go_at_call 193; refine CP.out.mono ?_; rintro e w1 ⟨rfl, rfl⟩)
  go_ret2
  exact ⟨rfl, rfl⟩
end Go.Proofs.YtcomhlimgocoaaaGreatDoor
namespace Go.Proofs.YtcomhlimgocoaaaGreatDoor
open Go.RowKit
set_option linter.unusedVariables false
set_option linter.unusedSimpArgs false
def hexU (b : UInt8) : Bool := hexP (bI b)
/-- the value of hexadecimal digits: the number, too great, one at all -/
def dig16 (l : List UInt8) : Int × Bool × Bool := if l = [] then (0, false, false) else if l.all hexU then (hexV 0 l, false, true) else (0, false, false)
theorem hexDigit_of {c : Int} {b : Bool} (h : hexP c = b) (w : World) : Calls Tryz.prog 173 #[.int .u8 c] w fun e w' => e = .returned (.bool b) ∧ w = w' := h ▸ hexDigit_any c w
theorem all_not {α : Type} (p : α → Bool) (l : List α) (k : Nat) (b : α) (hb : l[k]? = some b) (hp : p b = false) : l.all p = false := by
  rw [List.all_eq_false]
  exact ⟨b, List.mem_of_getElem? hb, by simp [hp]⟩
theorem digits16 (s : ByteArray) (h16 : s.size ≤ 16) (w : World) : Calls Tryz.prog 172 #[.string s, .int .i64 16, .func (Fn.func 173) #[] #[]] w fun e w' => e = .returned (.tuple #[.int .u64 (dig16 s.toList).1, .bool (dig16 s.toList).2.1, .bool (dig16 s.toList).2.2]) ∧ Below w.heap.size w w' := by
  by_cases h0 : s.size = 0
  · have hl : s.toList = [] := List.length_eq_zero_iff.1 (by rw [lsize, h0])
    have hN : dig16 s.toList = (0, false, false) := by rw [hl]; rfl
    rw [hN]
    go_enter Tryz.func172, Tryz.ntmps172
    go_wp2
    go_ret3
    exact ⟨rfl, Below.refl _ _⟩
  · obtain ⟨hie, hne⟩ := isEmpty_of h0
    have h0' : (0 : Int) < s.size := by omega
    have HN : Hid (dig16 s.toList = if s.toList.all hexU then (hexV 0 s.toList, false, true) else (0, false, false)) := by show _ = _; simp [dig16, hne]
    go_enter Tryz.func172, Tryz.ntmps172
    go_wp2
    have HY : Hid (s.toList.all hexU = true → dig16 s.toList = (hexV 0 s.data.toList, false, true)) := fun h => by rw [HN.out, if_pos h, ByteArray.toList_eq]
    have HX : Hid (s.toList.all hexU = false → dig16 s.toList = (0, false, false)) := fun h => by rw [HN.out, h]; rfl
    clear HN
    go_loopw [15] (fun iv wr => ∃ k : Nat, k ≤ s.size ∧ iv = .int .i64 k ∧ Hid ((s.toList.take k).all hexU = true) ∧ wr = w) (fun iv _ => s.size - (intOf iv).toNat)
    case atStart => exact ⟨0, by omega, rfl, hidOf (by simp), rfl⟩
    case round =>
      obtain ⟨k, hk2, rfl, Ha, rfl⟩ := hrel
      by_cases hk : k < s.size
      · have hlt : (k : Int) < s.size := by omega
        have h0k : (0 : Int) ≤ k := by omega
        have Hg := hidOf (lget s k hk)
        cases hr : hexP (bI s[k])
        · have Hf := hidOf (HX.out (all_not hexU _ k _ Hg.out hr))
          go_wp2_with (go_at_call 173; refine (hexDigit_of hr _).mono ?_; rintro e w3 ⟨rfl, rfl⟩)
          go_ret3
          rw [Hf.out]
          exact ⟨rfl, Below.refl _ _⟩
        · have Ha' := hidOf (all_step hexU _ k _ Ha.out Hg.out hr)
          go_wp2_with (go_at_call 173; refine (hexDigit_of hr _).mono ?_; rintro e w3 ⟨rfl, rfl⟩)
          go_roundw
          case rel => exact ⟨k + 1, by omega, by simp, Ha', trivial⟩
          case measure => simp [intOf]; omega
      · have hlt : ¬ (k : Int) < s.size := by omega
        have hall : s.toList.all hexU = true := by have := Ha.out; rwa [List.take_of_length_le (by rw [lsize]; omega)] at this
        have Hf := hidOf (HY.out hall)
        have CP := hidOf (pub16 s h0 h16 (fun b hb => by rw [← ByteArray.toList_eq] at hb; exact List.all_eq_true.1 hall b hb) wr)
        clear hall
        go_wp2_with (go_at_call 186; refine CP.out.mono ?_; rintro e w3 ⟨rfl, rfl⟩)
        go_ret3
        rw [Hf.out]
        exact ⟨rfl, Lib.bytesWorld_below _ _ _⟩
end Go.Proofs.YtcomhlimgocoaaaGreatDoor
namespace Go.Proofs.YtcomhlimgocoaaaGreatDoor
open Go.RowKit
set_option linter.unusedVariables false
set_option linter.unusedSimpArgs false
def digU (b : UInt8) : Bool := digP (bI b)
def decV : Nat → List UInt8 → Nat
  | a, [] => a
  | a, b :: l => decV (a * 10 + (b.toNat - 48)) l
theorem decV_ge : ∀ (l : List UInt8) (a : Nat), a ≤ decV a l
  | [], a => Nat.le_refl a
  | b :: l, a => Nat.le_trans (by omega) (decV_ge l (a * 10 + (b.toNat - 48)))
theorem digU_iff (b : UInt8) : digU b = true ↔ 48 ≤ b.toNat ∧ b.toNat ≤ 57 := by
  unfold digU digP bI
  simp only [Bool.and_eq_true, decide_eq_true_eq]
  omega
theorem pM_dec (M : Nat) (hM : M = 18446744073709551615) (l : List UInt8) : ∀ (a : Nat), a ≤ M → l.all digU = true → Lib.parseUintM M a l = if decV a l ≤ M then .ok (decV a l) else .range := by
  induction l with
  | nil =>
    intro a ha _
    have hd : decV a [] = a := rfl
    have hp : Lib.parseUintM M a [] = .ok a := rfl
    rw [hd, hp, if_pos ha]
  | cons b l ih =>
    intro a ha hl
    simp only [List.all_cons, Bool.and_eq_true] at hl
    have hb := (digU_iff b).1 hl.1
    have hge := decV_ge l (a * 10 + (b.toNat - 48))
    have hd : decV a (b :: l) = decV (a * 10 + (b.toNat - 48)) l := rfl
    rw [hd]
    simp only [Lib.parseUintM]
    rw [if_pos hb]
    by_cases h1 : 1844674407370955162 ≤ a
    · rw [if_pos h1, if_neg (by omega)]
    · rw [if_neg h1]
      by_cases h2 : M < a * 10 + (b.toNat - 48)
      · rw [if_pos h2, if_neg (by omega)]
      · rw [if_neg h2]
        exact ih _ (by omega) hl.2
theorem pB_dec (l : List UInt8) (hne : ¬ l = []) (hl : l.all digU = true) : Lib.parseUintB 64 l = if decV 0 l ≤ 18446744073709551615 then .ok (decV 0 l) else .range := by
  unfold Lib.parseUintB
  rw [if_neg hne]
  exact pM_dec _ (by decide) l 0 (by omega) hl
/-- the value of decimal digits: the number, too great, one at all -/
def dig10 (l : List UInt8) : Int × Bool × Bool := if l = [] then (0, false, false) else if l.all digU then (if decV 0 l ≤ 18446744073709551615 then (((decV 0 l : Nat) : Int), false, true) else (0, true, true)) else (0, false, false)
/-- strconv.ErrRange is there -/
def ErrR (w : World) : Prop := ∃ ev, w.cell? ⟨15, 0, none⟩ = some ev ∧ (ev = .nilIface ∨ ∃ te pe, ev = .iface te pe)
theorem digits10 (s : ByteArray) (hs : s.size ≤ 281474976710656) (w : World) (HE : Hid (ErrR w)) : Calls Tryz.prog 172 #[.string s, .int .i64 10, .func (Fn.func 108) #[] #[]] w fun e w' => e = .returned (.tuple #[.int .u64 (dig10 s.toList).1, .bool (dig10 s.toList).2.1, .bool (dig10 s.toList).2.2]) ∧ Below w.heap.size w w' := by
  by_cases h0 : s.size = 0
  · have hl : s.toList = [] := List.length_eq_zero_iff.1 (by rw [lsize, h0])
    have hN : dig10 s.toList = (0, false, false) := by rw [hl]; rfl
    rw [hN]
    go_enter Tryz.func172, Tryz.ntmps172
    go_wp2
    go_ret3
    exact ⟨rfl, Below.refl _ _⟩
  · obtain ⟨hie, hne⟩ := isEmpty_of h0
    have h0' : (0 : Int) < s.size := by omega
    have HN : Hid (dig10 s.toList = if s.toList.all digU then (if decV 0 s.toList ≤ 18446744073709551615 then (((decV 0 s.toList : Nat) : Int), false, true) else (0, true, true)) else (0, false, false)) := by show _ = _; simp [dig10, hne]
    have Hne := hidOf hne
    go_enter Tryz.func172, Tryz.ntmps172
    go_wp2
    go_loopw [15] (fun iv wr => ∃ k : Nat, k ≤ s.size ∧ iv = .int .i64 k ∧ Hid ((s.toList.take k).all digU = true) ∧ wr = w) (fun iv _ => s.size - (intOf iv).toNat)
    case atStart => exact ⟨0, by omega, rfl, hidOf (by simp), rfl⟩
    case round =>
      obtain ⟨k, hk2, rfl, Ha, rfl⟩ := hrel
      by_cases hk : k < s.size
      · have hlt : (k : Int) < s.size := by omega
        have h0k : (0 : Int) ≤ k := by omega
        have Hg := hidOf (lget s k hk)
        cases hr : digP (bI s[k])
        · have Hf : Hid (dig10 s.toList = (0, false, false)) := by show _ = _; rw [HN.out, all_not digU _ k _ Hg.out hr]; rfl
          go_wp2_with (go_at_call 108; refine (digit_of hr _).mono ?_; rintro e w3 ⟨rfl, rfl⟩)
          go_ret3
          rw [Hf.out]
          exact ⟨rfl, Below.refl _ _⟩
        · have Ha' := hidOf (all_step digU _ k _ Ha.out Hg.out hr)
          go_wp2_with (go_at_call 108; refine (digit_of hr _).mono ?_; rintro e w3 ⟨rfl, rfl⟩)
          go_roundw
          case rel => exact ⟨k + 1, by omega, by simp, Ha', trivial⟩
          case measure => simp [intOf]; omega
      · have hlt : ¬ (k : Int) < s.size := by omega
        have hall : s.toList.all digU = true := by have := Ha.out; rwa [List.take_of_length_le (by rw [lsize]; omega)] at this
        have hN := HN.out
        rw [hall] at hN
        have hB := pB_dec s.toList Hne.out hall
        rw [ByteArray.toList_eq] at hB
        by_cases hv : decV 0 s.toList ≤ 18446744073709551615
        · have Hf : Hid (dig10 s.toList = (((decV 0 s.toList : Nat) : Int), false, true)) := by show _ = _; rw [hN]; simp [hv]
          rw [← ByteArray.toList_eq, if_pos hv] at hB
          have CP := hidOf (Tryz.strconv_ParseUint_10_at64_ok s (by omega) _ (by rw [← ByteArray.toList_eq]; exact hB) wr)
          clear hall hB hN hv
          go_wp2_with (go_at_call 186; refine CP.out.mono ?_; rintro e w3 ⟨rfl, hw3⟩; have HW := hidOf hw3; clear hw3)
          go_ret3
          rw [Hf.out]
          refine ⟨rfl, ?_⟩
          rcases HW.out with rfl | rfl
          · exact Below.refl _ _
          · exact Lib.bytesWorld_below _ _ _
        · have Hf : Hid (dig10 s.toList = (0, true, true)) := by show _ = _; rw [hN]; simp [hv]
          rw [← ByteArray.toList_eq, if_neg hv] at hB
          obtain ⟨ev, hev, hev'⟩ := HE.out
          have CP := hidOf (Tryz.strconv_ParseUint_10_at64_range s hs (by rw [← ByteArray.toList_eq]; exact hB) ev wr hev hev')
          clear hall hB hN hv hev hev'
          go_wp2_with (go_at_call 186; refine CP.out.mono ?_; rintro e w3 ⟨N, rfl, hN1, hN2, hw3⟩; have HW := hidOf hw3; clear hw3 hN1 hN2)
          go_ret3
          rw [Hf.out]
          exact ⟨rfl, HW.out⟩
end Go.Proofs.YtcomhlimgocoaaaGreatDoor
