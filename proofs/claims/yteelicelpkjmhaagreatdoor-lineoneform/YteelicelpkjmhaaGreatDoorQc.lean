import Derived.Test.YteelicelpkjmhaaGreatDoorQb
import Derived.Test.YteelicelpkjmhaaGreatDoorQs
import Derived.Shelf.Strings.SlTrimAscii
namespace Go.Proofs.YteelicelpkjmhaaGreatDoor
open Go.RowKit
set_option linter.unusedVariables false
set_option linter.unusedSimpArgs false
/-- blanks and tabs ahead are cut off -/
def blankP (l : List UInt8) : List UInt8 := Lib.trimLeftS l [32, 9]
theorem trimLeft_any (s : ByteArray) (w : World) : Calls Tryz.prog 67 #[.string s, .string ⟨#[32, 9]⟩] w fun e w' => e = .returned (.string ⟨(blankP s.toList).toArray⟩) ∧ Below w.heap.size w w' := by
  rw [ByteArray.toList_eq]
  exact Go.Proofs.Any.strings_TrimLeft_laid Tryz.lays161 (by kernel_rfl) s ⟨#[32, 9]⟩ w (by decide) (by intro j b hb; have hm := List.mem_of_getElem? hb; simp at hm; rcases hm with rfl | rfl <;> decide)
/-- how long the next token is -/
def tokN (l : List UInt8) : Nat := if runN l = 0 ∧ l ≠ [] then 1 else runN l
theorem runN_le (l : List UInt8) : runN l ≤ l.length := by
  unfold runN
  split
  · exact (List.takeWhile_prefix _).length_le
  · exact Nat.zero_le _
theorem tokN_le (l : List UInt8) : tokN l ≤ l.length := by
  unfold tokN
  split
  · rename_i h
    have : l.length ≠ 0 := fun e => h.2 (List.length_eq_zero_iff.1 e)
    omega
  · exact runN_le l
theorem mk_list (l : List UInt8) : (⟨l.toArray⟩ : ByteArray).toList = l := by rw [ByteArray.toList_eq]
theorem mk_size (l : List UInt8) : (⟨l.toArray⟩ : ByteArray).size = l.length := by rw [← lsize, mk_list]
theorem blank_le (l : List UInt8) : (blankP l).length ≤ l.length := (List.dropWhile_suffix _).length_le
end Go.Proofs.YteelicelpkjmhaaGreatDoor
