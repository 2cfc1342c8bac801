import Derived.Test.YteelicelpkjmhaaGreatDoorRb
import Derived.Test.YteelicelpkjmhaaGreatDoorRa
namespace Go.Proofs.YteelicelpkjmhaaGreatDoor
open Go.RowKit
set_option linter.unusedVariables false
set_option linter.unusedSimpArgs false
/-- the number of a register's word -/
def regN (l : List UInt8) : Option Nat := (List.range 11).find? (fun k => l == regL k)
def regS (r : RS) : RS × Int := match regN r.tok with
  | some k => (r.next, (k : Int))
  | none => ({ r with wrong := true }, 0)
theorem regL_inj : ∀ j : Fin 11, ∀ k : Fin 11, regL j.val = regL k.val → j = k := by decide
theorem regN_some (l : List UInt8) (k : Nat) (h : regIs l k) : regN l = some k := by
  obtain ⟨hk, rfl⟩ := h
  exact (show ∀ k : Fin 11, regN (regL k.val) = some k.val by decide) ⟨k, hk⟩
theorem regN_none (l : List UInt8) (h : ∀ k, ¬ regIs l k) : regN l = none := by
  unfold regN
  rw [List.find?_eq_none]
  intro k hk
  have := h k
  simp only [List.mem_range] at hk
  simpa [regIs, hk] using this
theorem regS_of {r r' : RS} {n : Int} (h : registerS r r' n) : r' = (regS r).1 ∧ n = (regS r).2 := by
  rcases h with ⟨k, hk, rfl, rfl⟩ | ⟨hn, rfl, rfl⟩
  · unfold regS
    rw [regN_some _ _ hk]
    exact ⟨rfl, rfl⟩
  · unfold regS
    rw [regN_none _ hn]
    exact ⟨rfl, rfl⟩
theorem Sm.reg {r : RS} (h : Sm r) : Sm (regS r).1 := by
  unfold regS
  split
  · exact h.next
  · exact h
/-- a register must stand here, as a function -/
theorem regF (w : World) (p : Nat) (r : RS) (h : RdAt w p r.cells) (hs : Sm r) (ht : RegT w) : Calls Tryz.prog 114 #[.pointer (some ⟨p, 0, none⟩)] w fun e w' => e = .returned (.int .i64 (regS r).2) ∧ MEnd p (regS r).1 w w' :=
  (register_any w p r h hs ht).mono fun e w' ⟨n, r', he, hr, hm⟩ => by
    obtain ⟨h1, h2⟩ := regS_of hr
    rw [← h1, ← h2]
    exact ⟨he, hm⟩
/-- a signed number of Imm's width -/
def sgnS (r : RS) : RS × Bool := if (skipP [45] r).2 then ((skipP [45] r).1, true) else ((skipP [43] (skipP [45] r).1).1, false)
def immS (r : RS) : RS :=
  if r.o = 24 then { numS (sgnS r).2 9223372036854775808 18446744073709551615 (sgnS r).1 with i := numV (sgnS r).2 64 (sgnS r).1 }
  else { numS (sgnS r).2 2147483648 4294967295 (sgnS r).1 with i := numV (sgnS r).2 32 (sgnS r).1 }
/-- a place -/
def pgnS (r : RS) : RS × Bool := if (skipP [45] r).2 then ((skipP [45] r).1, true) else (markS [43] (skipP [45] r).1, false)
def placeS (r : RS) : RS × Int × Int :=
  (markS [93] (numS (pgnS (regS (markS [91] r)).1).2 32768 32767 (pgnS (regS (markS [91] r)).1).1), (regS (markS [91] r)).2, numV (pgnS (regS (markS [91] r)).1).2 16 (pgnS (regS (markS [91] r)).1).1)
theorem Sm.sgn {r : RS} (h : Sm r) : Sm (sgnS r).1 := by
  unfold sgnS
  split
  · exact h.skip _
  · exact (h.skip _).skip _
theorem Sm.pgn {r : RS} (h : Sm r) : Sm (pgnS r).1 := by
  unfold pgnS
  split
  · exact h.skip _
  · exact (h.skip _).mark _
theorem Sm.imm {r : RS} (h : Sm r) : Sm (immS r) := by
  unfold immS
  split
  · exact h.sgn.num (sgnS r).2 9223372036854775808 18446744073709551615
  · exact h.sgn.num (sgnS r).2 2147483648 4294967295
theorem Sm.place {r : RS} (h : Sm r) : Sm (placeS r).1 := ((((h.mark [91]).reg).pgn).num (pgnS (regS (markS [91] r)).1).2 32768 32767).mark [93]
end Go.Proofs.YteelicelpkjmhaaGreatDoor
