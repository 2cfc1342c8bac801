import Derived.Test.YteelicelpkjmhaaGreatDoorQc
import Derived.Test.YteelicelpkjmhaaGreatDoorMe
import Derived.Deep.RegionHeld3
import Derived.Deep.RegionLaw
namespace Go.Proofs.YteelicelpkjmhaaGreatDoor
open Go.RowKit
set_option linter.unusedVariables false
set_option linter.unusedSimpArgs false
/-- a text of these bytes -/
def tx (l : List UInt8) : Value := .string ⟨l.toArray⟩
/-- the reader's block -/
def RdAt (w : World) (p : Nat) (cs : Array Value) : Prop := w.heap[p]? = some (.cells cs 83 (0, 0))
theorem RdAt.cell {w : World} {p : Nat} {cs : Array Value} (h : RdAt w p cs) (j : Nat) : w.cell? ⟨p, j, none⟩ = cs[j]? := by simp [World.cell?, show w.heap[p]? = _ from h]
theorem RdAt.frozen {w : World} {p : Nat} {cs : Array Value} (h : RdAt w p cs) (j : Nat) : w.frozen? ⟨p, j, none⟩ = false := by simp [World.frozen?, show w.heap[p]? = _ from h]
theorem RdAt.lt {w : World} {p : Nat} {cs : Array Value} (h : RdAt w p cs) : p < w.heap.size := (Array.getElem?_eq_some_iff.1 h).1
theorem RdAt.set {w : World} {p : Nat} {cs : Array Value} (h : RdAt w p cs) (j : Nat) (u : Value) : RdAt (w.setCell ⟨p, j, none⟩ u) p (cs.setIfInBounds j u) := by
  show (w.setCell ⟨p, j, none⟩ u).heap[p]? = _
  simp [World.setCell, Array.getElem?_modify, show w.heap[p]? = _ from h]
theorem RdAt.below {w w' : World} {p : Nat} {cs : Array Value} (h : RdAt w p cs) (b : Below w.heap.size w w') : RdAt w' p cs := (b.block p h.lt).trans h
theorem ext_take (l : List UInt8) (n : Nat) (h : n ≤ l.length) : (⟨l.toArray⟩ : ByteArray).extract 0 n = ⟨(l.take n).toArray⟩ := by
  rw [ByteArray.ext_iff, ByteArray.data_extract]
  simp
theorem ext_drop (l : List UInt8) (n : Nat) (h : n ≤ l.length) : (⟨l.toArray⟩ : ByteArray).extract n l.length = ⟨(l.drop n).toArray⟩ := by
  rw [ByteArray.ext_iff, ByteArray.data_extract]
  simp
  exact List.take_of_length_le (by rw [List.length_drop]; exact Nat.le_refl _)
def tokP (l : List UInt8) : List UInt8 := (blankP l).take (tokN (blankP l))
def restP (l : List UInt8) : List UInt8 := (blankP l).drop (tokN (blankP l))
set_option maxHeartbeats 1000000 in
theorem next_any (w : World) (p : Nat) (l : List UInt8) (tok c2 c3 c4 c5 c6 c7 c8 c9 : Value) (h : RdAt w p #[tx l, tok, c2, c3, c4, c5, c6, c7, c8, c9]) (hl : l.length ≤ 4611686018427387904) :
    Calls Tryz.prog 38 #[.pointer (some ⟨p, 0, none⟩)] w fun e w' => (∃ r, e = .returned r) ∧ RdAt w' p #[tx (restP l), tx (tokP l), c2, c3, c4, c5, c6, c7, c8, c9] ∧ Chg (fun k => k = p) w w' := by
  obtain ⟨L, HL⟩ : ∃ L, Hid (blankP l = L) := ⟨_, hidOf rfl⟩
  have hLl : L.length ≤ 4611686018427387904 := by rw [← HL.out]; exact Nat.le_trans (blank_le l) hl
  have c0 : w.cell? ⟨p, 0, none⟩ = some (.string ⟨l.toArray⟩) := h.cell 0
  have H := hidOf h
  clear h
  have CT : Hid (Calls Tryz.prog 67 #[.string ⟨l.toArray⟩, .string ⟨#[32, 9]⟩] w fun e w' => e = .returned (.string ⟨L.toArray⟩) ∧ Below w.heap.size w w') := by
    have h := trimLeft_any ⟨l.toArray⟩ w
    rw [mk_list, HL.out] at h
    exact h
  have CR : Hid (∀ wx : World, Calls Tryz.prog 68 #[.string ⟨L.toArray⟩] wx fun e w' => e = .returned (.int .i64 (runN L : Nat)) ∧ wx = w') := fun wx => by
    have h := runSize_any ⟨L.toArray⟩ wx (by rw [mk_size]; omega)
    rw [mk_list] at h
    exact h
  go_enter Tryz.func38, Tryz.ntmps38
  obtain ⟨n, Hn⟩ : ∃ n, Hid (runN L = n) := ⟨_, hidOf rfl⟩
  have hnL : n ≤ L.length := by rw [← Hn.out]; exact runN_le L
  rw [Hn.out] at CR
  go_upto_region 2 with (first | (go_at_call 67; refine CT.out.mono ?_; rintro e w1 ⟨rfl, hb1⟩; have H1 := hidOf (H.out.below hb1); have Hb1 := hidOf hb1; have d0 : w1.cell? ⟨p, 0, none⟩ = some (.string ⟨l.toArray⟩) := H1.out.cell 0; have f0 := H1.out.frozen 0; clear hb1) | (go_at_call 68; refine (CR.out _).mono ?_; rintro e w2 ⟨rfl, rfl⟩))
  have H2 : Hid (RdAt (w1.setCell ⟨p, 0, none⟩ (.string ⟨L.toArray⟩)) p #[tx L, tok, c2, c3, c4, c5, c6, c7, c8, c9]) := H1.out.set 0 _
  have Hc2 : Hid (Chg (fun k => k = p) w (w1.setCell ⟨p, 0, none⟩ (.string ⟨L.toArray⟩))) := Chg.setCell (Chg.of_out (S := fun k => k = p) Hb1.out) (p := ⟨p, 0, none⟩) (show p = p from rfl) _
  clear d0 f0 c0 H1 Hb1
  generalize w1.setCell ⟨p, 0, none⟩ (.string ⟨L.toArray⟩) = w2 at *
  have d0 : w2.cell? ⟨p, 0, none⟩ = some (.string ⟨L.toArray⟩) := H2.out.cell 0
  have e0 : w2.drew.cell? ⟨p, 0, none⟩ = some (.string ⟨L.toArray⟩) := H2.out.cell 0
  have d1 : w2.cell? ⟨p, 1, none⟩ = some tok := H2.out.cell 1
  have f0 : w2.frozen? ⟨p, 0, none⟩ = false := H2.out.frozen 0
  have f1 : w2.frozen? ⟨p, 1, none⟩ = false := H2.out.frozen 1
  have Hset : Hid (∀ N : Nat, tokN L = N → RdAt ((w2.setCell ⟨p, 1, none⟩ (.string ((⟨L.toArray⟩ : ByteArray).extract 0 N))).setCell ⟨p, 0, none⟩ (.string ((⟨L.toArray⟩ : ByteArray).extract N L.length))).drew p #[tx (restP l), tx (tokP l), c2, c3, c4, c5, c6, c7, c8, c9]) := fun N hN => by
    have hNL : N ≤ L.length := by rw [← hN]; exact tokN_le L
    rw [ext_take L N hNL, ext_drop L N hNL]
    have hh := (H2.out.set 1 (tx (L.take N))).set 0 (tx (L.drop N))
    have e1 : restP l = L.drop N := by rw [restP, HL.out, hN]
    have e2 : tokP l = L.take N := by rw [tokP, HL.out, hN]
    rw [e1, e2]
    exact hh
  have HsetC : Hid (∀ (u v : Value), Chg (fun k => k = p) w ((w2.setCell ⟨p, 1, none⟩ u).setCell ⟨p, 0, none⟩ v).drew) := fun u v => by
    have h1 := Chg.setCell (Chg.setCell Hc2.out (p := ⟨p, 1, none⟩) (show p = p from rfl) u) (p := ⟨p, 0, none⟩) (show p = p from rfl) v
    exact h1.drew
  by_cases hn0 : n = 0
  · subst hn0
    by_cases hLe : L = []
    · have hie : L.isEmpty = true := by rw [hLe]; rfl
      have hT : tokN L = 0 := by unfold tokN; rw [if_neg (fun h => h.2 hLe), Hn.out]
      have h0L : (0 : Int) ≤ L.length := by omega
      have HT := hidOf hT
      clear hT hLe
      go_upto_region 4 with fail
      go_region_law (fail)
      all_goals (go_end0; refine ⟨⟨_, rfl⟩, ?_, HsetC.out _ _⟩; rw [show ByteArray.empty = (⟨L.toArray⟩ : ByteArray).extract 0 0 from by rw [ext_take L 0 (Nat.zero_le _)]; rfl]; exact Hset.out _ HT.out)
    · have hie : L.isEmpty = false := by cases L with | nil => exact absurd rfl hLe | cons x r => rfl
      have hT : tokN L = 1 := by unfold tokN; rw [if_pos ⟨Hn.out, hLe⟩]
      have h1L : (1 : Int) ≤ L.length := by have := tokN_le L; omega
      have HT := hidOf hT
      clear hT
      go_upto_region 4 with fail
      go_region_law (fail)
      all_goals (go_end0; exact ⟨⟨_, rfl⟩, Hset.out _ HT.out, HsetC.out _ _⟩)
  · have hT : tokN L = n := by unfold tokN; rw [if_neg (fun h => hn0 (by rw [← Hn.out]; exact h.1)), Hn.out]
    have hnz : ((n : Int) == 0) = false := by simp; omega
    have hnL' : (n : Int) ≤ L.length := by omega
    have h0n : (0 : Int) ≤ n := by omega
    have HT := hidOf hT
    clear hT
    go_upto_region 4 with fail
    go_region_law (fail)
    all_goals (go_end0; exact ⟨⟨_, rfl⟩, Hset.out _ HT.out, HsetC.out _ _⟩)
end Go.Proofs.YteelicelpkjmhaaGreatDoor
