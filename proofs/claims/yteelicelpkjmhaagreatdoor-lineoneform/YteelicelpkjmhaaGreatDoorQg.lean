import Derived.Test.YteelicelpkjmhaaGreatDoorQf
namespace Go.Proofs.YteelicelpkjmhaaGreatDoor
open Go.RowKit
set_option linter.unusedVariables false
set_option linter.unusedSimpArgs false
/-- the registers' words -/
def regL (k : Nat) : List UInt8 := if k = 10 then [114, 49, 48] else [114, UInt8.ofNat (48 + k)]
def RegT (w : World) : Prop := ∀ k, k < 11 → w.cell? ⟨1, k, none⟩ = some (.string ⟨(regL k).toArray⟩)
theorem RegT.chg {w w' : World} {S : Nat → Prop} (h : RegT w) (c : Chg S w w') (hS : ¬ S 1) : RegT w' := fun k hk => c.cell (h k hk) hS
theorem idx11s (s : Nat → Value) (k : Nat) (hk : (k : Int) < 11) (w : World) : (Instr.index 110 (.agg #[s 0, s 1, s 2, s 3, s 4, s 5, s 6, s 7, s 8, s 9, s 10]) (.int .i64 k)).run Tryz.prog w = .ok (s k) w := by
  rcases (show k = 0 ∨ k = 1 ∨ k = 2 ∨ k = 3 ∨ k = 4 ∨ k = 5 ∨ k = 6 ∨ k = 7 ∨ k = 8 ∨ k = 9 ∨ k = 10 from by omega) with rfl | rfl | rfl | rfl | rfl | rfl | rfl | rfl | rfl | rfl | rfl <;> kernel_rfl
/-- a register must stand here -/
def regIs (l : List UInt8) (k : Nat) : Prop := k < 11 ∧ l = regL k
def registerS (r : RS) (r' : RS) (n : Int) : Prop := (∃ k, regIs r.tok k ∧ r' = r.next ∧ n = k) ∨ ((∀ k, ¬ regIs r.tok k) ∧ r' = { r with wrong := true } ∧ n = 0)
def RegEnd (p : Nat) (r : RS) (w : World) (e : Ending) (w' : World) : Prop := ∃ n r', e = .returned (.int .i64 n) ∧ registerS r r' n ∧ MEnd p r' w w'
set_option maxRecDepth 20000 in
set_option maxHeartbeats 800000 in
theorem register_any (w : World) (p : Nat) (r : RS) (h : RdAt w p r.cells) (hs : Sm r) (ht : RegT w) : Calls Tryz.prog 114 #[.pointer (some ⟨p, 0, none⟩)] w fun e w' => RegEnd p r w e w' := by
  have CN := hidOf (nextR w p r h hs)
  have H := hidOf h
  obtain ⟨g, hg⟩ : ∃ g : Nat → List UInt8, g = regL := ⟨_, rfl⟩
  have hl : ∀ k, k < 11 → w.cell? ⟨1, k, none⟩ = some (.string ⟨(g k).toArray⟩) := by rw [hg]; exact ht
  have HG := hidOf hg
  clear hg ht
  have c1 : w.cell? ⟨p, 1, none⟩ = some (.string ⟨r.tok.toArray⟩) := h.cell 1
  have c8 : w.cell? ⟨p, 8, none⟩ = some (.bool r.wrong) := h.cell 8
  have f8 := h.frozen 8
  clear h hs
  have hix := idx11s (fun k => .string ⟨(g k).toArray⟩)
  go_enter Tryz.func114, Tryz.ntmps114
  go_wp2
  clear hl
  go_loopw [6] (fun iv wr => ∃ k : Nat, k ≤ 11 ∧ iv = .int .i64 k ∧ Hid (∀ j, j < k → r.tok ≠ g j) ∧ wr = w) (fun iv _ => 11 - (intOf iv).toNat)
  case atStart => exact ⟨0, by omega, rfl, fun j hj => by omega, rfl⟩
  case round =>
    obtain ⟨k, hk, rfl, Hno, rfl⟩ := hrel
    by_cases hk11 : k < 11
    · have hlt : (k : Int) < 11 := by omega
      by_cases he : r.tok = g k
      · have He := hidOf he
        go_wp2_with (go_at_call 38; refine CN.out.mono ?_; rintro e w1 ⟨⟨v, rfl⟩, hend⟩; have Hend := hidOf hend; clear hend)
        go_ret
        exact ⟨k, r.next, rfl, .inl ⟨k, ⟨hk11, by rw [He.out, HG.out]⟩, rfl, rfl⟩, Hend.out⟩
      · have h1 : (r.tok == g k) = false := by simpa using he
        have Hno' : Hid (∀ j, j < k + 1 → r.tok ≠ g j) := fun j hj => by
          by_cases z : j = k
          · subst z; exact he
          · exact Hno.out j (by omega)
        go_wp2
        go_roundw
        case rel => exact ⟨k + 1, by omega, by simp, Hno', trivial⟩
        case measure => simp [intOf]; omega
    · have hlt : ¬ (k : Int) < 11 := by omega
      obtain rfl : k = 11 := by omega
      go_wp2
      go_ret
      refine ⟨0, { r with wrong := true }, rfl, .inr ⟨fun j hj => ?_, rfl, rfl⟩, H.out.set 8 _, Chg.setCell (Chg.refl (fun k => k = p) _) (p := ⟨p, 8, none⟩) (show p = p from rfl) _⟩
      exact Hno.out j hj.1 (by rw [HG.out]; exact hj.2)
end Go.Proofs.YteelicelpkjmhaaGreatDoor
