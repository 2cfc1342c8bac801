import Derived.Test.YtcpfnhhjmmngdabDoorFf
namespace Go.Proofs.YtcpfnhhjmmngdabDoor
open Go.RowKit
set_option linter.unusedVariables false
set_option linter.unusedSimpArgs false
theorem wantR_len : ∀ cs : List (List UInt8), (wantR cs).length ≤ (cat cs).length
  | [] => by simp [wantR]
  | c :: r => by
    have h1 := wantR_len r
    have h2 := lineP_len c
    have e : (cat (c :: r)).length = c.length + 1 + (cat r).length := by
      have : cat (c :: r) = (c ++ [10]) ++ cat r := rfl
      rw [this, List.length_append, List.length_append]; rfl
    rw [e, wantR, List.length_append]
    split
    · simp; omega
    · simp; omega
theorem strip_take {x : List UInt8} {k : Nat} {y : UInt8} (h : x[k]? = some y) : strip (x.take (k + 1)) = strip (x.take k) ++ (if y = 10 then [] else [y]) := by
  have : x.take (k + 1) = x.take k ++ [y] := by rw [List.take_add_one, h]; rfl
  rw [this]
  unfold strip
  rw [List.filter_append]
  congr 1
  by_cases hy : y = 10
  · simp [hy]
  · simp [hy]
theorem strip_len (x : List UInt8) : (strip x).length ≤ x.length := List.length_filter_le _ _
theorem OwB.out {B : Nat} {v : Value} {O : List UInt8} {w w' : World} (h : OwB B v O w) (o : Out w w') : OwB B v O w' := owns_chg (S := fun _ => False) h (fun _ _ h => h) (Chg.of_out o)
theorem OwT.out {B : Nat} {v : Value} {O : List Tk} {w w' : World} (h : OwT B v O w) (o : Out w w') : OwT B v O w' := owns_chg (S := fun _ => False) h (fun _ _ h => h) (Chg.of_out o)
theorem out_own {B n sz : Nat} {w X w1 : World} {e : TypeId} {v : Value} {xs : List Value} (hB : B = w.heap.size) (h : X.ownsRow B e sz v n xs) (o : Out w X) (hg : X.grownBy w1 v.ownBlock) : Out w w1 :=
  Chg.out (S := fun k => v.ownBlock = some k) (Chg.of_grown hg (fun k h => h)) o (fun k hk => by have := (h.lt k hk).1; omega)
theorem OwB.mk {B n : Nat} {v : Value} {O P L : List UInt8} {w : World} (h : w.ownsRow B 5 1 v n (Lib.byteCells O ++ Lib.byteCells P)) (hL : L = O ++ P) (hn : n = L.length) : OwB B v L w := by
  unfold OwB
  rw [hL, bc_app, ← hL, ← hn]
  exact h
theorem OwT.mk {B n : Nat} {v : Value} {O P L : List Tk} {w : World} (h : w.ownsRow B 38 4 v n (tkV O ++ tkV P)) (hL : L = O ++ P) (hn : n = L.length) : OwT B v L w := by
  unfold OwT
  rw [hL, tkV_app, ← hL, ← hn]
  exact h
end Go.Proofs.YtcpfnhhjmmngdabDoor
