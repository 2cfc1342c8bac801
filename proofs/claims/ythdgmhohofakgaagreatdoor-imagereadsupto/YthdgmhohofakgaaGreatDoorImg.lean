import Derived.Test.YthdgmhohofakgaaGreatDoorImb
import Derived.Shelf.Strings.SlTrimAscii
namespace Go.Proofs.YthdgmhohofakgaaGreatDoor
open Go.RowKit
set_option linter.unusedVariables false
set_option linter.unusedSimpArgs false
def letL : List UInt8 := [97, 98, 99, 100, 101, 102, 103, 104, 105, 106, 107, 108, 109, 110, 111, 112, 113, 114, 115, 116, 117, 118, 119, 120, 121, 122, 65, 66, 67, 68, 69, 70, 71, 72, 73, 74, 75, 76, 77, 78, 79, 80, 81, 82, 83, 84, 85, 86, 87, 88, 89, 90, 95]
def inL : List UInt8 := letL ++ [48, 49, 50, 51, 52, 53, 54, 55, 56, 57, 46, 36]
theorem all_u8 (P : UInt8 → Bool) (h : ∀ n : Fin 256, P (UInt8.ofNat n.val) = true) (c : UInt8) : P c = true := by
  have := h ⟨c.toNat, c.toNat_lt⟩
  simpa using this
theorem let_head (c : UInt8) : decide (0 ≤ Lib.indexByte letL c) = (kindP (bI c) == 3) := by
  have := all_u8 (fun c => decide (0 ≤ Lib.indexByte letL c) == (kindP (bI c) == 3)) (by decide +kernel) c
  simpa using this
theorem in_run (c : UInt8) : inL.contains c = runU c := by
  have := all_u8 (fun c => inL.contains c == runU c) (by decide +kernel) c
  simpa using this
theorem trim_all (x : List UInt8) : (Lib.trimLeftS x inL).isEmpty = x.all runU := by
  induction x with
  | nil => rfl
  | cons c r ih =>
    simp only [Lib.trimLeftS, List.dropWhile_cons, in_run, List.all_cons] at ih ⊢
    cases h : runU c
    · simp
    · simpa using ih
theorem trimI_any (x : List UInt8) (w : World) : Calls Tryz.prog 101 #[.string ⟨x.toArray⟩, .string ⟨inL.toArray⟩] w fun e w' => e = .returned (.string ⟨(Lib.trimLeftS x inL).toArray⟩) ∧ Out w w' := by
  exact Go.Proofs.Any.strings_TrimLeft_laid Tryz.lays161 (by kernel_rfl) ⟨x.toArray⟩ ⟨inL.toArray⟩ w (by decide) (by
    intro j b hb
    have hm := List.mem_of_getElem? hb
    have ha : inL.all (fun b => decide (b.toNat < 128)) = true := by decide
    have := List.all_eq_true.1 ha b hm
    simpa using this)
theorem isNameI_any (x : List UInt8) (w : World) : Calls Tryz.prog 95 #[.string ⟨x.toArray⟩] w fun e w' => e = .returned (.bool (wordP x)) ∧ Out w w' := by
  have hsz : (⟨x.toArray⟩ : ByteArray).size = x.length := mk_size x
  by_cases h64 : x.length ≤ 64
  · cases x with
    | nil =>
      go_enter Tryz.func95, Tryz.ntmps95
      go_wp2
      go_ret
      exact ⟨rfl, Out.refl _⟩
    | cons c r =>
      have hli : (⟨(c :: r).toArray⟩ : ByteArray).toList = c :: r := mk_list _
      have hem : (⟨(c :: r).toArray⟩ : ByteArray).toList.isEmpty = false := by rw [hli]; rfl
      have hg0 : (⟨(c :: r).toArray⟩ : ByteArray)[0]? = some c := rfl
      have hlt : ¬ (64 : Int) < (c :: r).length := by omega
      have hI := Tryz.strings_IndexByte ⟨letL.toArray⟩ (c.toNat : Int) w
      rw [show (c.toNat : Int).toNat.toUInt8 = c by simp] at hI
      have hhd := let_head c
      have hT := trimI_any (c :: r) w
      have hta := trim_all (c :: r)
      have hw : wordP (c :: r) = ((kindP (bI c) == 3) && (c :: r).all runU) := by simp only [wordP, startP]; simp [show r.length + 1 ≤ 64 from h64]
      rw [hw, ← hhd, ← hta]
      clear hw hhd hta
      generalize Lib.indexByte letL c = z at *
      generalize Lib.trimLeftS (c :: r) inL = t at *
      go_enter Tryz.func95, Tryz.ntmps95
      go_wp2_with (first | (go_at_call 97; refine (hI).mono ?_; rintro e w1 ⟨rfl, rfl⟩) | (go_at_call 101; refine (hT).mono ?_; rintro e w1 ⟨rfl, h1⟩))
      all_goals go_ret
      all_goals first | exact ⟨by simp_all, h1⟩ | exact ⟨by simp_all <;> omega, Out.refl _⟩
  · have hlt : (64 : Int) < x.length := by omega
    have hw : wordP x = false := by simp only [wordP, decide_eq_false h64, Bool.false_and]
    have hem : (⟨x.toArray⟩ : ByteArray).toList.isEmpty = false := by rw [mk_list]; cases x with | nil => simp at h64 | cons c r => rfl
    rw [hw]
    generalize (⟨x.toArray⟩ : ByteArray) = q at *
    have hqs : (64 : Int) < q.size := by omega
    go_enter Tryz.func95, Tryz.ntmps95
    go_wp2
    all_goals (go_ret; exact ⟨rfl, Out.refl _⟩)
end Go.Proofs.YthdgmhohofakgaaGreatDoor
