import Derived.Test.YtcomhlimgocoaaaGreatDoorGc00
import Derived.Test.YtcomhlimgocoaaaGreatDoorGc01
import Derived.Shelf.Strings.SlTrimAscii
import Derived.Test.YtcomhlimgocoaaaGreatDoorRows
import Derived.WalkKit
import Derived.WalkLawsBesides
import Derived.Outline
import Derived.LoopTactic
import Derived.Below
import Derived.Deep.LoopGhost
import Derived.WalkSpells
import Derived.LaidMore
namespace Go.Proofs.YtcomhlimgocoaaaGreatDoor
open Go.RowKit
set_option linter.unusedVariables false
set_option linter.unusedSimpArgs false
/-- blanks and tabs ahead are cut off -/
def blankP (l : List UInt8) : List UInt8 := Lib.trimLeftS l [32, 9]
theorem trimLeft_any (s : ByteArray) (w : World) : Calls Tryz.prog 64 #[.string s, .string ⟨#[32, 9]⟩] w fun e w' => e = .returned (.string ⟨(blankP s.toList).toArray⟩) ∧ Below w.heap.size w w' := by
  rw [ByteArray.toList_eq]
  exact Go.Proofs.Any.strings_TrimLeft_laid Tryz.lays161 (by kernel_rfl) s ⟨#[32, 9]⟩ w (by decide) (by intro j b hb; have hm := List.mem_of_getElem? hb; simp at hm; rcases hm with rfl | rfl <;> decide)
/-- how long the next token is -/
def tokN (l : List UInt8) : Nat := if runN l = 0 ∧ l ≠ [] then 1 else runN l
theorem runN_le (l : List UInt8) : runN l ≤ l.length := by
  unfold runN
  split
  · exact (List.takeWhile_prefix _).length_le
  · exact Nat.zero_le _
theorem tokN_le (l : List UInt8) : tokN l ≤ l.length := by
  unfold tokN
  split
  · rename_i h
    have : l.length ≠ 0 := fun e => h.2 (List.length_eq_zero_iff.1 e)
    omega
  · exact runN_le l
theorem mk_list (l : List UInt8) : (⟨l.toArray⟩ : ByteArray).toList = l := by rw [ByteArray.toList_eq]
theorem mk_size (l : List UInt8) : (⟨l.toArray⟩ : ByteArray).size = l.length := by rw [← lsize, mk_list]
theorem blank_le (l : List UInt8) : (blankP l).length ≤ l.length := (List.dropWhile_suffix _).length_le
end Go.Proofs.YtcomhlimgocoaaaGreatDoor
namespace Go.Proofs.YtcomhlimgocoaaaGreatDoor
open Go.RowKit
set_option linter.unusedVariables false
set_option linter.unusedSimpArgs false

theorem idx10 (f : Nat → Int) (k : Nat) (hk : (k : Int) < 10) (w : World) : (Instr.index 190 (.agg #[.int .u8 (f 0), .int .u8 (f 1), .int .u8 (f 2), .int .u8 (f 3), .int .u8 (f 4), .int .u8 (f 5), .int .u8 (f 6), .int .u8 (f 7), .int .u8 (f 8), .int .u8 (f 9)]) (.int .i64 k)).run Tryz.prog w = .ok (.int .u8 (f k)) w := by
  rcases (show k = 0 ∨ k = 1 ∨ k = 2 ∨ k = 3 ∨ k = 4 ∨ k = 5 ∨ k = 6 ∨ k = 7 ∨ k = 8 ∨ k = 9 from by omega) with rfl | rfl | rfl | rfl | rfl | rfl | rfl | rfl | rfl | rfl <;> kernel_rfl
theorem idx11 (s : Nat → Value) (k : Nat) (hk : (k : Int) < 11) (w : World) : (Instr.index 168 (.agg #[s 0, s 1, s 2, s 3, s 4, s 5, s 6, s 7, s 8, s 9, s 10]) (.int .i64 k)).run Tryz.prog w = .ok (s k) w := by
  rcases (show k = 0 ∨ k = 1 ∨ k = 2 ∨ k = 3 ∨ k = 4 ∨ k = 5 ∨ k = 6 ∨ k = 7 ∨ k = 8 ∨ k = 9 ∨ k = 10 from by omega) with rfl | rfl | rfl | rfl | rfl | rfl | rfl | rfl | rfl | rfl | rfl <;> kernel_rfl
set_option maxRecDepth 20000 in
theorem atomic_walk (n : Int) (w : World) (f : Nat → Int) (r : Bool) (hb : ∀ k, 0 ≤ f k ∧ f k < 256) (hl : ∀ k, k < 10 → w.cell? ⟨7, k, none⟩ = some (.int .u8 (f k)))
    (h1 : Hid (∀ k, k < 10 → f k = n → r = true)) (h2 : Hid ((∀ k, k < 10 → f k ≠ n) → r = false)) :
    Calls Tryz.prog 127 #[.int .i64 n] w fun e w' => e = .returned (.bool r) ∧ w = w' := by
  have hix := idx10 f
  go_enter Tryz.func127, Tryz.ntmps127
  go_wp2
  go_loop [6] (fun i => ∃ k : Nat, k ≤ 10 ∧ i = .int .i64 k ∧ Hid (∀ j, j < k → f j ≠ n)) (fun i => 10 - (intOf i).toNat)
  case atStart => exact ⟨0, by omega, rfl, fun j hj => by omega⟩
  case round =>
    obtain ⟨k, hk, rfl, hno⟩ := hrel
    obtain ⟨b0, b1⟩ := hb k
    go_wp2
    · have e : (f k == n) = true := by assumption
      have := h1.out k (by omega) (by simpa using e)
      subst this
      go_ret
      exact ⟨rfl, rfl⟩
    · have e : (f k == n) = false := by assumption
      refine ⟨⟨k + 1, by omega, by simp, fun j hj => ?_⟩, by simp [intOf]; omega⟩
      by_cases z : j = k
      · subst z; simpa using e
      · exact hno.out j (by omega)
    · obtain rfl : k = 10 := by omega
      have := h2.out hno.out
      subst this
      go_ret
      exact ⟨rfl, rfl⟩

set_option maxRecDepth 20000 in
theorem formOf_walk (op r : Int) (w : World) (s : Nat → Value) (n : Nat → Nat) (f : Nat → Nat → Int) (hb : ∀ k j, 0 ≤ f k j ∧ f k j < 256) (hl : ∀ k, k < 11 → w.cell? ⟨6, k, none⟩ = some (s k)) (hn : ∀ k, n k ≤ 100)
    (hs : ∀ k, k < 11 → (s k = .slice none 0 0 ∧ n k = 0) ∨ ∃ b o c, s k = .slice (some ⟨b, o, none⟩) (n k) c ∧ ∀ j, j < n k → w.cell? ⟨b, o + j, none⟩ = some (.int .u8 (f k j)))
    (h1 : Hid (∀ k j, k < 11 → j < n k → f k j = op → r = k)) (h2 : Hid ((∀ k j, k < 11 → j < n k → f k j ≠ op) → r = 0)) :
    Calls Tryz.prog 88 #[.int .i64 op] w fun e w' => e = .returned (.int .i64 r) ∧ w = w' := by
  have hix := idx11 s
  go_enter Tryz.func88, Tryz.ntmps88
  go_wp2
  go_loop [8] (fun i => ∃ k : Nat, k ≤ 11 ∧ i = .int .i64 k ∧ Hid (∀ k' j, k' < k → j < n k' → f k' j ≠ op)) (fun i => 11 - (intOf i).toNat)
  case atStart => exact ⟨0, by omega, rfl, fun k' j hk' => by omega⟩
  case round =>
    obtain ⟨k, hk, rfl, hno⟩ := hrel
    by_cases z : k = 11
    · subst z
      have := h2.out (fun k j hk hj => hno.out k j hk hj)
      subst this
      go_wp2
      go_ret
      exact ⟨rfl, rfl⟩
    have hkl : (k : Int) < 11 := by omega
    rcases hs k (by omega) with ⟨e, en⟩ | ⟨b, o, c, e, hc⟩
    · clear hs
      go_wp2
      refine wp_loop_rounds 1 ?_
      rw [rounds_succ]
      go_wp2
      refine ⟨⟨k + 1, by omega, by simp, fun k' j hk' hj => ?_⟩, by simp [intOf]; omega⟩
      by_cases y : k' = k
      · subst y; omega
      · exact hno.out k' j (by omega) hj
    · clear hs
      have hnk := hn k
      go_wp2
      go_loop [14] (fun i => ∃ j : Nat, j ≤ n k ∧ i = .int .i64 j ∧ Hid (∀ j', j' < j → f k j' ≠ op)) (fun i => n k - (intOf i).toNat)
      case atStart => exact ⟨0, by omega, rfl, fun j hj => by omega⟩
      case round =>
        obtain ⟨j, hj, rfl, hnj⟩ := hrel
        obtain ⟨b0, b1⟩ := hb k j
        go_wp2
        · have e : (f k j == op) = true := by assumption
          have := h1.out k j (by omega) (by omega) (by simpa using e)
          subst this
          go_ret
          exact ⟨rfl, rfl⟩
        · have e : (f k j == op) = false := by assumption
          refine ⟨⟨j + 1, by omega, by simp, fun j' hj' => ?_⟩, by simp [intOf]; omega⟩
          by_cases y : j' = j
          · subst y; simpa using e
          · exact hnj.out j' (by omega)
        · refine ⟨⟨k + 1, by omega, by simp, fun k' j' hk' hj' => ?_⟩, by simp [intOf]; omega⟩
          by_cases y : k' = k
          · subst y; exact hnj.out j' (by omega)
          · exact hno.out k' j' (by omega) hj'
end Go.Proofs.YtcomhlimgocoaaaGreatDoor
namespace Go.Proofs.YtcomhlimgocoaaaGreatDoor
open Go.RowKit
set_option linter.unusedVariables false
set_option linter.unusedSimpArgs false

/-- of what was there nothing turns -/
def Out (w w' : World) : Prop := Below w.heap.size w w'
theorem Out.refl (w : World) : Out w w := Below.refl _ _
theorem Out.alloc {w w' : World} (h : Out w w') (o : Obj) : Out w (w'.alloc o) := Below.alloc h h.size o
theorem Out.drew {w w' : World} (h : Out w w') : Out w w'.drew := Below.drew h
theorem Out.trans {a b c : World} (h : Out a b) (k : Out b c) : Out a c := Below.trans h (Below.mono k h.size)
theorem Out.cells {w w' : World} (h : Out w w') (b o : Nat) (hb : b < w.heap.size) : w'.cell? ⟨b, o, none⟩ = w.cell? ⟨b, o, none⟩ := Below.cell h hb
theorem Out.of_below {B : Nat} {w w' : World} (h : Below B w w') (e : B = w.heap.size) : Out w w' := by subst e; exact h
theorem Out.size {w w' : World} (h : Out w w') : w.heap.size ≤ w'.heap.size := Below.size h

def opsT : List (List Int) := [[], [149], [132, 135, 212, 220, 215],
  [7, 23, 39, 55, 71, 87, 103, 119, 151, 167, 183, 199, 15, 31, 47, 63, 79, 95, 111, 127, 159, 175, 191, 207, 4, 20, 36, 52, 68, 84, 100, 116, 148, 164, 180, 196, 12, 28, 44, 60, 76, 92, 108, 124, 156, 172, 188, 204],
  [113, 105, 97, 121, 145, 137, 129], [114, 106, 98, 122, 115, 107, 99, 123], [219, 195], [5, 6],
  [21, 37, 53, 69, 85, 101, 117, 165, 181, 197, 213, 29, 45, 61, 77, 93, 109, 125, 173, 189, 205, 221, 22, 38, 54, 70, 86, 102, 118, 166, 182, 198, 214, 30, 46, 62, 78, 94, 110, 126, 174, 190, 206, 222],
  [133], [24]]
def immsT : List Int := [0, 64, 80, 160, 1, 65, 81, 161, 225, 241]
def opsL (k : Nat) : List Int := opsT.getD k []
def formIn (op : Int) : List (List Int) → Int → Int
  | [], _ => 0
  | l :: r, k => if l.contains op then k else formIn op r (k + 1)
def formP (op : Int) : Int := formIn op opsT 0
def atomP (n : Int) : Bool := immsT.contains n

theorem getD_lt {α : Type} (l : List α) (d : α) (j : Nat) (h : j < l.length) : l.getD j d = l[j] := by
  rw [List.getD, List.getElem?_eq_getElem h]; rfl
theorem ops_len : ∀ k, (opsL k).length ≤ 100 := by
  intro k
  by_cases h : k < 11
  · exact (show ∀ k, k < 11 → (opsL k).length ≤ 100 by decide +kernel) k h
  · have : opsL k = [] := by simp [opsL, List.getD, List.getElem?_eq_none (show opsT.length ≤ k by simp [opsT]; omega)]
    rw [this]; simp
theorem ops_bd (k j : Nat) : 0 ≤ (opsL k).getD j 0 ∧ (opsL k).getD j 0 < 256 := by
  by_cases h : k < 11
  · by_cases g : j < (opsL k).length
    · exact (show ∀ k, k < 11 → ∀ j, j < (opsL k).length → 0 ≤ (opsL k).getD j 0 ∧ (opsL k).getD j 0 < 256 by decide +kernel) k h j g
    · simp [List.getD, List.getElem?_eq_none (show (opsL k).length ≤ j by omega)]
  · have : opsL k = [] := by simp [opsL, List.getD, List.getElem?_eq_none (show opsT.length ≤ k by simp [opsT]; omega)]
    rw [this]; simp
theorem form_at : ∀ k, k < 11 → ∀ j, j < (opsL k).length → formP ((opsL k).getD j 0) = k := by decide +kernel
theorem formIn_none (op : Int) : ∀ (l : List (List Int)) (k : Int), (∀ x ∈ l, op ∉ x) → formIn op l k = 0
  | [], _, _ => rfl
  | x :: r, k, h => by
    have : x.contains op = false := by simpa using h x (by simp)
    simp only [formIn, this]
    exact formIn_none op r (k + 1) (fun y hy => h y (by simp [hy]))
theorem form_none (op : Int) (h : ∀ k j, k < 11 → j < (opsL k).length → (opsL k).getD j 0 ≠ op) : formP op = 0 := by
  refine formIn_none op opsT 0 ?_
  intro x hx hop
  obtain ⟨k, hk, ek⟩ := List.getElem_of_mem hx
  obtain ⟨j, hj, e⟩ := List.getElem_of_mem hop
  have ek2 : opsL k = x := (getD_lt opsT [] k hk).trans ek
  refine h k j (by simpa [opsT] using hk) (by rw [ek2]; exact hj) ?_
  rw [ek2]
  exact (getD_lt x 0 j hj).trans e
theorem atom_at (n : Int) (k : Nat) (h : k < 10) (p : immsT.getD k 0 = n) : atomP n = true := by
  subst p
  exact (show ∀ k, k < 10 → atomP (immsT.getD k 0) = true by decide +kernel) k h
theorem atom_not (n : Int) (p : ∀ k, k < 10 → immsT.getD k 0 ≠ n) : atomP n = false := by
  simp only [atomP, List.contains_eq_mem, decide_eq_false_iff_not]
  intro hx
  obtain ⟨j, hj, e⟩ := List.getElem_of_mem hx
  refine p j (by simpa [immsT] using hj) ?_
  rw [getD_lt _ _ j hj]; exact e
theorem imms_bd (k : Nat) : 0 ≤ immsT.getD k 0 ∧ immsT.getD k 0 < 256 := by
  by_cases h : k < 10
  · exact (show ∀ k, k < 10 → 0 ≤ immsT.getD k 0 ∧ immsT.getD k 0 < 256 by decide +kernel) k h
  · simp [List.getD, List.getElem?_eq_none (show immsT.length ≤ k by simp [immsT]; omega)]

/-- the table of opcodes lies in its variable -/
def TabO (w : World) : Prop := ∃ s : Nat → Value, (∀ k, k < 11 → w.cell? ⟨6, k, none⟩ = some (s k)) ∧
  ∀ k, k < 11 → (s k = .slice none 0 0 ∧ (opsL k).length = 0) ∨ ∃ b o c, s k = .slice (some ⟨b, o, none⟩) (opsL k).length c ∧ ∀ j, j < (opsL k).length → w.cell? ⟨b, o + j, none⟩ = some (.int .u8 ((opsL k).getD j 0))
def TabA (w : World) : Prop := ∀ k, k < 10 → w.cell? ⟨7, k, none⟩ = some (.int .u8 (immsT.getD k 0))
theorem TabA.out {w w' : World} (h : TabA w) (o : Out w w') : TabA w' := fun k hk => cell_later o (h k hk)
theorem TabO.out {w w' : World} (h : TabO w) (o : Out w w') : TabO w' := by
  obtain ⟨s, h1, h2⟩ := h
  refine ⟨s, fun k hk => cell_later o (h1 k hk), fun k hk => ?_⟩
  rcases h2 k hk with h | ⟨b, oo, c, e, hc⟩
  · exact .inl h
  · exact .inr ⟨b, oo, c, e, fun j hj => cell_later o (hc j hj)⟩
theorem TabA.alloc {w : World} (h : TabA w) (o : Obj) : TabA (w.alloc o) := h.out ((Out.refl w).alloc o)
theorem TabO.alloc {w : World} (h : TabO w) (o : Obj) : TabO (w.alloc o) := h.out ((Out.refl w).alloc o)
theorem TabA.drew {w : World} (h : TabA w) : TabA w.drew := h.out ((Out.refl w).drew)
theorem TabO.drew {w : World} (h : TabO w) : TabO w.drew := h.out ((Out.refl w).drew)

theorem formOf_any (op : Int) (w : World) (h : TabO w) : Calls Tryz.prog 88 #[.int .i64 op] w fun e w' => e = .returned (.int .i64 (formP op)) ∧ w = w' := by
  obtain ⟨s, h1, h2⟩ := h
  exact formOf_walk op (formP op) w s (fun k => (opsL k).length) (fun k j => (opsL k).getD j 0) ops_bd h1 ops_len h2
    (fun k j hk hj e => by rw [← e]; exact form_at k hk j hj) (fun h => form_none op h)
theorem atomic_any (n : Int) (w : World) (h : TabA w) : Calls Tryz.prog 127 #[.int .i64 n] w fun e w' => e = .returned (.bool (atomP n)) ∧ w = w' :=
  atomic_walk n w (fun k => immsT.getD k 0) (atomP n) imms_bd h (fun k hk e => atom_at n k hk e) (fun h => atom_not n h)
end Go.Proofs.YtcomhlimgocoaaaGreatDoor
