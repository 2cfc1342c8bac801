import Derived.Test.YteelicelpkjmhaaGreatDoorQg
namespace Go.Proofs.YteelicelpkjmhaaGreatDoor
open Go.RowKit
set_option linter.unusedVariables false
set_option linter.unusedSimpArgs false
/-- a reader at the text's first token -/
def newR (l : List UInt8) : RS := RS.next ⟨l, [], 0, 0, 0, 0, 0, [], false, false⟩
theorem newR_sm {l : List UInt8} (h : l.length ≤ 140737488355328) : Sm (newR l) := Sm.next (r := ⟨l, [], 0, 0, 0, 0, 0, [], false, false⟩) ⟨h, Nat.zero_le _⟩
theorem newReader_any (w : World) (l : List UInt8) (h : l.length ≤ 140737488355328) : Calls Tryz.prog 35 #[.string ⟨l.toArray⟩] w fun e w' => ∃ p, e = .returned (.pointer (some ⟨p, 0, none⟩)) ∧ w.heap.size ≤ p ∧ RdAt w' p (newR l).cells ∧ Out w w' := by
  have CN : Hid (∀ wx p, RdAt wx p (RS.cells ⟨l, [], 0, 0, 0, 0, 0, [], false, false⟩) → Calls Tryz.prog 38 #[.pointer (some ⟨p, 0, none⟩)] wx fun e w' => (∃ v, e = .returned v) ∧ MEnd p (newR l) wx w') := fun wx p hx => nextR wx p _ hx ⟨h, Nat.zero_le _⟩
  have H0 : Hid (RdAt (w.alloc (.cells #[.string ⟨l.toArray⟩, .string ⟨#[]⟩, .int .i64 0, .int .i64 0, .int .i64 0, .int .i64 0, .int .i64 0, .string ⟨#[]⟩, .bool false, .bool false] 83)) w.heap.size (RS.cells ⟨l, [], 0, 0, 0, 0, 0, [], false, false⟩)) := heap_alloc_new w _
  go_enter Tryz.func35, Tryz.ntmps35
  go_wp2_with (go_at_call 38; go_loud (refine (CN.out _ _ H0.out).mono ?_); rintro e w1 ⟨⟨v, rfl⟩, hend⟩; have He := hidOf hend; clear hend)
  go_ret
  exact ⟨w.heap.size, rfl, Nat.le_refl _, He.out.1, Chg.out He.out.2 ((Out.refl w).alloc _) (fun k hk => by omega)⟩
end Go.Proofs.YteelicelpkjmhaaGreatDoor
