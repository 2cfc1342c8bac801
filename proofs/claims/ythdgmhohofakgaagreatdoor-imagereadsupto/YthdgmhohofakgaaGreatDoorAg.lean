import Derived.Shelf.Bytes.IndexByte
import Derived.Test.YthdgmhohofakgaaGreatDoorAf
import Derived.Lib.MinMax
import Derived.Lib.ConvBytes
import Derived.Laws.BytesString
namespace Go.Proofs.YthdgmhohofakgaaGreatDoor
open Go.RowKit
open Go.Maps (Keyed)
set_option linter.unusedVariables false
set_option linter.unusedSimpArgs false
/-- bytes at an address below N -/
def RestAt (N : Nat) (w : World) (a : Option Addr) (l : List UInt8) : Prop := l = [] ∨ ∃ b off, b < N ∧ a = some ⟨b, off, none⟩ ∧ ∀ k x, l[k]? = some x → w.cell? ⟨b, off + k, none⟩ = some (.int .u8 (x.toNat : Int))
theorem RestAt.below {N : Nat} {w w' : World} {a : Option Addr} {l : List UInt8} (h : RestAt N w a l) (b : Below N w w') : RestAt N w' a l := by
  rcases h with h | ⟨g, o, hg, ha, hc⟩
  · exact .inl h
  · exact .inr ⟨g, o, hg, ha, fun k x hx => (Below.cell b hg).trans (hc k x hx)⟩
def bCells (O : List UInt8) : List Value := O.map (fun b => .int .u8 (b.toNat : Int))
theorem bCells_length (O : List UInt8) : (bCells O).length = O.length := by simp [bCells]
theorem fold_bytes (O : List UInt8) : ∀ r : ByteArray, (O.map (fun b => (b.toNat : Int))).foldl (fun r n => r.push (UInt8.ofNat n.toNat)) r = ⟨r.data ++ O.toArray⟩ := by
  induction O with
  | nil => intro r; simp
  | cons b l ih =>
    intro r
    rw [List.map_cons, List.foldl_cons, ih]
    simp [ByteArray.push]
theorem conv_list (w : World) (a : Addr) (cap : Nat) (O : List UInt8) (h : ∀ j u, (bCells O)[j]? = some u → w.cell? (a.add j) = some u) : (convert 22 9 (.slice (some a) O.length cap)).run Tryz.prog w = .ok (.string ⟨O.toArray⟩) w := by
  rw [run_convert_bytes_string w 22 9 5 (some a) O.length cap Tryz.underlying22 Tryz.underlying5 Tryz.underlying9]
  have h1 := run_loadCells_list (P := Tryz.prog) w a (bCells O) h
  rw [bCells_length] at h1
  rw [run_bytesToString w a O.length cap (O.map (fun b => (b.toNat : Int))) (by rw [show (O.map (fun b => (b.toNat : Int))).map (Value.int .u8) = bCells O from by simp [bCells]]; exact h1), fold_bytes]
  simp
theorem conv_rest {N : Nat} {w : World} {a : Option Addr} {l : List UInt8} (h : RestAt N w a l) (cap : Nat) : (convert 22 9 (.slice a l.length cap)).run Tryz.prog w = .ok (.string ⟨l.toArray⟩) w := by
  rcases h with rfl | ⟨b, off, hb, rfl, hc⟩
  · cases a with
    | none =>
      rw [run_convert_bytes_string w 22 9 5 none _ _ Tryz.underlying22 Tryz.underlying5 Tryz.underlying9]
      rfl
    | some a => exact conv_list w a cap [] (fun j u hj => by simp [bCells] at hj)
  · refine conv_list w ⟨b, off, none⟩ cap l (fun j u hj => ?_)
    rw [Go.WideShapes.add_plain]
    simp only [bCells, List.getElem?_map] at hj
    cases hl : l[j]? with
    | none => rw [hl] at hj; simp at hj
    | some x => rw [hl] at hj; simp at hj; rw [← hj]; exact hc j x hl
theorem idx_tw : ∀ l : List UInt8, Lib.indexByte l 0 = if (0 : UInt8) ∈ l then ((l.takeWhile (fun b => b != 0)).length : Int) else -1
  | [] => by simp [Lib.indexByte]
  | b :: r => by
    unfold Lib.indexByte
    by_cases h : b = 0
    · subst h; simp
    · have h1 : (b == 0) = false := by simpa using h
      have h2 : (b != 0) = true := by simpa using h
      rw [idx_tw r]
      simp only [h1, List.takeWhile, h2]
      by_cases hr : (0 : UInt8) ∈ r
      · simp [hr]
      · simp [hr, Ne.symm h]
theorem tw_take (p : UInt8 → Bool) : ∀ (l : List UInt8) (k : Nat) (x : UInt8), x ∈ l.take k → p x = false → (l.take k).takeWhile p = l.takeWhile p
  | [], k, x, h, _ => by simp at h
  | y :: r, 0, x, h, _ => by simp at h
  | y :: r, k + 1, x, h, hp => by
    simp only [List.take_succ_cons, List.takeWhile]
    cases hy : p y
    · rfl
    · simp only [List.take_succ_cons, List.mem_cons] at h
      rw [tw_take p r k x (h.resolve_left (fun e => by rw [e, hy] at hp; cases hp)) hp]
theorem tw_all (p : UInt8 → Bool) : ∀ (l : List UInt8), ∀ b ∈ l.takeWhile p, p b = true
  | [], b, h => by simp at h
  | y :: r, b, h => by
    simp only [List.takeWhile] at h
    cases hy : p y
    · rw [hy] at h; simp at h
    · rw [hy] at h
      rcases List.mem_cons.1 h with rfl | h
      · exact hy
      · exact tw_all p r b h
theorem nmP_le (l : List UInt8) : (nmP l).length ≤ 64 ∧ (nmP l).length ≤ l.length := by
  unfold nmP
  split
  · rename_i h
    have hm : (0 : UInt8) ∈ l.take 65 := by simpa using h
    have h1 := tw_take (fun b => b != 0) l 65 0 hm (by decide)
    obtain ⟨k, hk⟩ := List.mem_iff_getElem?.1 hm
    have hl : ((l.take 65).takeWhile (fun b => b != 0)).length < (l.take 65).length := by
      have h2 := (List.takeWhile_sublist (l := l.take 65) (fun b => b != 0)).length_le
      rcases Nat.lt_or_eq_of_le h2 with h3 | h3
      · exact h3
      · exfalso
        have h4 : (l.take 65).takeWhile (fun b => b != 0) = l.take 65 := (List.takeWhile_sublist _).eq_of_length h3
        have h5 : ∀ b ∈ l.take 65, (b != 0) = true := by
          intro b hb
          rw [← h4] at hb
          exact tw_all _ _ b hb
        have := h5 0 hm
        simp at this
    rw [h1] at hl
    rw [List.length_take] at hl
    omega
  · simp
theorem nmP_idx (l : List UInt8) : Lib.indexByte (l.take 65) 0 = (nmP l).length ∨ (Lib.indexByte (l.take 65) 0 = -1 ∧ nmP l = []) := by
  rw [idx_tw]
  unfold nmP
  by_cases h : (0 : UInt8) ∈ l.take 65
  · left
    rw [if_pos h, if_pos (by simpa using h), tw_take _ l 65 0 h (by decide)]
  · right
    rw [if_neg h, if_neg (by simpa using h)]
    exact ⟨rfl, rfl⟩
theorem nmP_take (l : List UInt8) : nmP l = l.take (nmP l).length := by
  unfold nmP
  split
  · exact List.prefix_iff_eq_take.1 (List.takeWhile_prefix _)
  · simp
def toZ (l : List UInt8) : List Int := l.map fun b => (b.toNat : Int)
theorem bytesOf_toZ (l : List UInt8) : Lib.bytesOf (toZ l) = l := by simp [Lib.bytesOf, toZ, Function.comp_def]
theorem nameAt_any (g off c : Nat) (l : List UInt8) (w : World) (hn : ¬ l = []) (hc : l.length ≤ c) (hl : l.length ≤ 1000000000000) (h : ∀ k x, l[k]? = some x → w.cell? ⟨g, off + k, none⟩ = some (.int .u8 (x.toNat : Int))) :
    Calls Tryz.prog 80 #[.slice (some ⟨g, off, none⟩) l.length c] w fun e w' => e = .returned (.slice (some ⟨g, off, none⟩) (nmP l).length c) ∧ w' = w := by
  obtain ⟨m, hm⟩ : ∃ m, m = min l.length 65 := ⟨_, rfl⟩
  have hm1 : m ≤ l.length := by omega
  have hmI : (min (l.length : Int) 65) = m := by omega
  have HI := hidOf (Tryz.bytes_IndexByte g off m c (toZ (l.take m)) 0 w (by simp [toZ]; omega) (fun i hi => by
    have hx : l[i]? = some (l[i]'(by omega)) := List.getElem?_eq_getElem _
    rw [h i _ hx, getD_of (x := ((l[i]'(by omega)).toNat : Int)) (by simp [toZ, List.getElem?_take, hi, hx])]))
  rw [bytesOf_toZ, show ((0 : Int).toNat.toUInt8) = 0 from rfl, show l.take m = l.take 65 by rw [hm, List.take_eq_take_iff]; omega] at HI
  have hle := nmP_le l
  rcases nmP_idx l with hi | ⟨hi, he⟩
  · rw [hi] at HI
    generalize (nmP l).length = k at *
    clear h hm hi hn
    go_enter Tryz.func80, Tryz.ntmps80
    go_wp2_with (go_at_call 93; refine (HI.out).mono ?_; rintro e w1 ⟨rfl, rfl⟩)
    go_ret
    exact ⟨rfl, rfl⟩
  · rw [hi] at HI
    rw [he]
    clear h hm hi hn
    go_enter Tryz.func80, Tryz.ntmps80
    go_wp2_with (go_at_call 93; refine (HI.out).mono ?_; rintro e w1 ⟨rfl, rfl⟩)
    go_ret
    exact ⟨rfl, rfl⟩
end Go.Proofs.YthdgmhohofakgaaGreatDoor
