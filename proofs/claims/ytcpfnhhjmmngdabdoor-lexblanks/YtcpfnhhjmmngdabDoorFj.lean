import Derived.Test.YtcpfnhhjmmngdabDoorFi
import Derived.Test.YtcpfnhhjmmngdabDoorFg
import Derived.Deep.DeepCutAuto
import Derived.Lib.AppendStr
namespace Go.Proofs.YtcpfnhhjmmngdabDoor
open Go.RowKit
set_option linter.unusedVariables false
set_option linter.unusedSimpArgs false
theorem pieceOf_len {x : Tk} (hm : mayP x = 0) (hn : 0 ≤ x.n ∧ x.n < 18446744073709551616) : (pieceOf x).length ≤ 65 := by
  unfold pieceOf
  split
  · have := dd_len 19 x.n.toNat (by omega)
    omega
  · exact may_len hm
theorem untok_one {x : Tk} (hm : mayP x = 0) (hk : isPiece x) (hn : 0 ≤ x.n ∧ x.n < 18446744073709551616) : untokP [x, ⟨5, [], 0, 0⟩, ⟨0, [], 0, 0⟩] = (pieceOf x ++ [10], 0) := by
  have hl := pieceOf_len hm hn
  have hx0 : ¬ x.k = 0 := by unfold isPiece at hk; omega
  have hx5 : ¬ x.k = 5 := by unfold isPiece at hk; omega
  have e1 : (⟨[], 0, 0⟩ : WS).tok x = ⟨pieceOf x, (pieceOf x).length, (pieceOf x).length⟩ := by
    rw [tok_piece hk]
    unfold WS.piece WS.put
    rw [if_neg (by decide)]
    simp only [Nat.zero_add, List.nil_append]
    rw [if_pos (by omega)]
  have e2 : unF true ⟨[], 0, 0⟩ [x, ⟨5, [], 0, 0⟩, ⟨0, [], 0, 0⟩] = (0, ⟨pieceOf x ++ [10], (pieceOf x).length + 1, 0⟩) := by
    unfold unF
    rw [if_pos hm, if_neg (fun h => hx0 h.1), if_neg (fun h => hx5 h.1), e1]
    unfold unF
    rw [if_pos (show mayP ⟨5, [], 0, 0⟩ = 0 from rfl), if_neg (fun h => absurd h.1 (by decide)), if_neg (fun h => by have := h.2; simp only at this; omega)]
    unfold unF
    rw [if_pos (show mayP ⟨0, [], 0, 0⟩ = 0 from rfl), if_neg (fun h => h.2 ⟨rfl, rfl⟩), if_neg (fun h => absurd h.1 (by decide))]
    unfold unF
    have e3 : (⟨pieceOf x, (pieceOf x).length, (pieceOf x).length⟩ : WS).tok ⟨5, [], 0, 0⟩ = ⟨pieceOf x ++ [10], (pieceOf x).length + 1, 0⟩ := by
      unfold WS.tok WS.put
      simp only
      rw [if_neg (by decide), if_neg (by decide), if_pos trivial, if_pos (by simp; omega)]
      rfl
    rw [e3]
    rfl
  unfold untokP
  rw [e2, if_pos rfl, if_pos (show lastK [x, ⟨5, [], 0, 0⟩, ⟨0, [], 0, 0⟩] = some 0 from rfl), if_pos (by simp only; omega)]
end Go.Proofs.YtcpfnhhjmmngdabDoor
