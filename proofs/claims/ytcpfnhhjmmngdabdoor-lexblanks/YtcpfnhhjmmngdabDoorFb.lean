import Derived.Test.YtcpfnhhjmmngdabDoorFa
namespace Go.Proofs.YtcpfnhhjmmngdabDoor
open Go.RowKit
set_option linter.unusedVariables false
set_option linter.unusedSimpArgs false
/-- a text turned into bytes: what Tokens gives of it -/
theorem tok_str (w : World) (hE : LEnv w) (l : List UInt8) (hl : l.length ≤ 140737488355328) : TokC (Lib.bytesWorld w 5 ⟨l.toArray⟩) (some ⟨w.heap.size, 0, none⟩) (grownCap w l.length 0 5) l := by
  have ho : Out w (Lib.bytesWorld w 5 ⟨l.toArray⟩) := bw_out w _ _
  refine tokC _ (hE.out ho) _ _ l ?_ (grownCap_ge _ _ _ _) hl
  by_cases h0 : l = []
  · exact .inl h0
  · refine .inr ⟨w.heap.size, 0, ?_, rfl, fun k x hx => ?_⟩
    · rw [Lib.bytesWorld_size]; omega
    · have hk : k < l.length := (List.getElem?_eq_some_iff.1 hx).1
      rw [Nat.zero_add, Lib.bytesWorld_cell w 5 ⟨l.toArray⟩ k (by rw [mk_size]; exact hk)]
      simp [List.getD, hx]
theorem raw_rw (x : Tk) : x.raw = x.rw := rfl
end Go.Proofs.YtcpfnhhjmmngdabDoor
