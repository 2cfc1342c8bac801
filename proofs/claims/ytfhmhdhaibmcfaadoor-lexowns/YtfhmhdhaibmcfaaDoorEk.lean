import Derived.Test.YtfhmhdhaibmcfaaDoorEg
import Derived.Test.YtfhmhdhaibmcfaaDoorEs
namespace Go.Proofs.YtfhmhdhaibmcfaaDoor
open Go.RowKit
set_option linter.unusedVariables false
set_option linter.unusedSimpArgs false
theorem idx_cut : ∀ l : List UInt8, (∃ i : Nat, Lib.indexByte l 10 = (i : Int) ∧ i < l.length ∧ (cutL l).1 = l.take i ∧ (cutL l).2 = l.drop (i + 1)) ∨ (Lib.indexByte l 10 = -1 ∧ (cutL l).1 = l ∧ (cutL l).2 = [])
  | [] => .inr ⟨rfl, rfl, rfl⟩
  | b :: l => by
    by_cases hb : b = 10
    · subst hb
      exact .inl ⟨0, rfl, by simp, rfl, rfl⟩
    · have hb' : (b == 10) = false := by simpa using hb
      have e1 : (cutL (b :: l)).1 = b :: (cutL l).1 := by simp [cutL, hb']
      have e2 : (cutL (b :: l)).2 = (cutL l).2 := by simp [cutL, hb']
      rcases idx_cut l with ⟨i, h1, h2, h3, h4⟩ | ⟨h1, h3, h4⟩
      · refine .inl ⟨i + 1, ?_, by simp; omega, by rw [e1, h3]; rfl, by rw [e2, h4]; rfl⟩
        unfold Lib.indexByte
        rw [hb', h1]
        have : ((i : Int) == -1) = false := by simp
        rw [this]
        simp
      · refine .inr ⟨?_, by rw [e1, h3], by rw [e2, h4]⟩
        unfold Lib.indexByte
        rw [hb', h1]
        rfl
theorem bytesOf_nat (l : List UInt8) : Lib.bytesOf (l.map (fun b => (b.toNat : Int))) = l := by
  unfold Lib.bytesOf
  rw [List.map_map]
  conv => rhs; rw [← List.map_id l]
  apply List.map_congr_left
  intro b _
  simp
theorem RestAt.take {N : Nat} {w : World} {a : Option Addr} {l : List UInt8} (h : RestAt N w a l) (i : Nat) : RestAt N w a (l.take i) := by
  rcases h with rfl | ⟨b, off, hb, ha, hc⟩
  · exact .inl (by simp)
  · refine .inr ⟨b, off, hb, ha, fun k x hx => ?_⟩
    rw [List.getElem?_take] at hx
    split at hx
    · exact hc k x hx
    · cases hx
theorem RestAt.drop {N : Nat} {w : World} {b off : Nat} {l : List UInt8} (hb : b < N) (hc : ∀ k x, l[k]? = some x → w.cell? ⟨b, off + k, none⟩ = some (.int .u8 (x.toNat : Int))) (i : Nat) : RestAt N w (some ⟨b, off + i, none⟩) (l.drop i) := by
  refine .inr ⟨b, off + i, hb, rfl, fun k x hx => ?_⟩
  rw [List.getElem?_drop] at hx
  rw [Nat.add_assoc]
  exact hc (i + k) x hx
theorem cutC : CutC := by
  intro N l a cap sb w hr hne hcap hl hs
  obtain ⟨b, off, hb, rfl, hc⟩ : ∃ b off, b < N ∧ a = some ⟨b, off, none⟩ ∧ ∀ k x, l[k]? = some x → w.cell? ⟨b, off + k, none⟩ = some (.int .u8 (x.toNat : Int)) := by
    rcases hr with h | h
    · exact absurd h hne
    · exact h
  have hI := Tryd.bytes_Index_one b off l.length cap sb 0 1 (l.map (fun b => (b.toNat : Int))) 10 w (by simp) (fun i hi => by
    rw [hc i l[i] (List.getElem?_eq_getElem hi)]
    simp [List.getD, List.getElem?_eq_getElem hi]) hs
  rw [bytesOf_nat] at hI
  have e10 : (10 : Int).toNat.toUInt8 = 10 := rfl
  rw [e10] at hI
  have hI' := hI.mono fun e w' h => (show _ ∧ ∃ q, w' = w.drewN q from ⟨h.1, 0, h.2⟩)
  rcases idx_cut l with ⟨i, h1, h2, h3, h4⟩ | ⟨h1, h3, h4⟩
  · rw [h1] at hI'
    refine (Tryd.bytes_Cut_of (some ⟨b, off, none⟩) (some ⟨sb, 0, none⟩) l.length cap 1 1 (i : Int) w hcap (by omega) (fun _ => by omega) (by omega) hI').mono ?_
    rintro e w' ⟨rfl, hq⟩
    have hcl1 : (cutL l).1.length = i := by rw [h3, List.length_take]; omega
    have hcl2 : (cutL l).2.length = l.length - (i + 1) := by rw [h4, List.length_drop]
    refine ⟨some ⟨b, off, none⟩, cap, if cap = i + 1 then some ⟨b, off, none⟩ else some ⟨b, off + (i + 1), none⟩, cap - (i + 1), true, ?_, ?_, ?_, by omega, hq⟩
    · rw [hcl1, hcl2]
      unfold Lib.cutV Lib.fromV
      rw [if_pos (by omega)]
      simp only [Int.toNat_natCast]
      by_cases hci : cap = i + 1
      · rw [if_pos hci, if_pos hci]
      · rw [if_neg hci, if_neg hci]
        simp only [Option.map, Go.WideShapes.add_plain]
    · rw [h3]; exact hr.take i
    · rw [h4]
      by_cases hci : cap = i + 1
      · exact .inl (List.drop_eq_nil_of_le (by omega))
      · rw [if_neg hci]
        exact RestAt.drop hb hc (i + 1)
  · rw [h1] at hI'
    refine (Tryd.bytes_Cut_of (some ⟨b, off, none⟩) (some ⟨sb, 0, none⟩) l.length cap 1 1 (-1) w hcap (by omega) (fun h => by omega) (by omega) hI').mono ?_
    rintro e w' ⟨rfl, hq⟩
    refine ⟨some ⟨b, off, none⟩, cap, none, 0, false, ?_, ?_, ?_, ?_, hq⟩
    · rw [h3, h4]; rfl
    · rw [h3]; exact hr
    · rw [h4]; exact .inl rfl
    · rw [h4]; exact Nat.zero_le _
end Go.Proofs.YtfhmhdhaibmcfaaDoor
