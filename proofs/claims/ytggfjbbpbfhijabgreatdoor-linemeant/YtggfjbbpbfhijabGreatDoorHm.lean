import Derived.Test.YtggfjbbpbfhijabGreatDoorHk
import Derived.Test.YtggfjbbpbfhijabGreatDoorHl
namespace Go.Proofs.YtggfjbbpbfhijabGreatDoor
open Go.RowKit
set_option linter.unusedVariables false
set_option linter.unusedSimpArgs false
theorem size_mn : Maps.size mnDat = 107 := by decide +kernel
theorem row_cells {w : World} {B : Nat} {v : Value} {xs : List (List UInt8)} (h : w.ownsRow B 9 1 v xs.length (xs.map encStr)) (h0 : ¬ xs = []) : ∃ g cap, v = .slice (some ⟨g, 0, none⟩) xs.length cap ∧ xs.length ≤ cap ∧ ∀ k, k < xs.length → w.cell? ⟨g, k, none⟩ = some (.string ⟨(xs.getD k []).toArray⟩) := by
  rcases h.2 with ⟨hv, hn⟩ | ⟨g, cap, cur, rfl, hb, hg, hnc, hcm, hsz, htake⟩
  · exact absurd (List.length_eq_zero_iff.1 hn) h0
  · refine ⟨g, cap, rfl, hnc, fun k hk => ?_⟩
    have e1 : (cur.toList.take (xs.length * 1))[k]? = some (encStr (xs.getD k [])) := by
      rw [htake, List.getElem?_map, List.getD_eq_getElem?_getD, List.getElem?_eq_getElem hk]
      rfl
    rw [Nat.mul_one, List.getElem?_take, if_pos hk] at e1
    have e2 : w.cell? ⟨g, k, none⟩ = cur[k]? := by simp [World.cell?, hg]
    rw [e2, ← Array.getElem?_toList]
    exact e1
set_option maxHeartbeats 1600000 in
theorem words_any (w : World) (hT : WTabs w) : Calls Tryz.prog 10 #[] w fun e w' => ∃ g cap, e = .returned (.slice (some ⟨g, 0, none⟩) 107 cap) ∧ 107 ≤ cap ∧ (∀ k, k < 107 → w'.cell? ⟨g, k, none⟩ = some (.string ⟨(wd k).toArray⟩)) ∧ Out w w' := by
  have CM := hidOf (mnemonics_any w hT)
  have hmax : Maps.size mnDat ≤ maxLen := by rw [size_mn]; unfold maxLen; decide
  have hby : Maps.size mnDat * 16 ≤ 140737488355328 := by rw [size_mn]; decide
  have HS : Hid (∀ w1 : World, w1.ownsMap Tryz.prog 9 R4 w.heap.size 110 mnDat → Calls Tryz.prog 24 #[.func (.func 43) #[] #[.pointer (some ⟨w1.heap.size, 0, none⟩)]] (w1.alloc (.cells #[.map (some w.heap.size)] 43)) fun e w' => ∃ (v : Value) (ss : List (List UInt8)), e = .returned v ∧ ss.Perm (strKeys mnDat) ∧ w'.ownsRow (w1.alloc (.cells #[.map (some w.heap.size)] 43)).heap.size 9 1 v ss.length ((ss.mergeSort (fun x y => decide (x ≤ y))).map encStr) ∧ (v = .slice none 0 0 ↔ ss = []) ∧ Below (w1.alloc (.cells #[.map (some w.heap.size)] 43)).heap.size (w1.alloc (.cells #[.map (some w.heap.size)] 43)) w') := fun w1 hown => callsIn_wide.1 (Tryz.slices_Sorted_keys_24_25 w.heap.size 110 mnDat R4 w1 hown hmax hby)
  have HK : Hid (∀ (mb : Option Nat) (W : World), Calls Tryz.prog 25 #[.map mb] W fun e w' => e = .returned (.func (.func 43) #[] #[.pointer (some ⟨W.heap.size, 0, none⟩)]) ∧ w' = W.alloc (.cells #[.map mb] 43)) := fun mb W => callsIn_wide.1 (Tryz.maps_Keys_25 mb W)
  clear hT hmax hby
  go_enter Tryz.func10, Tryz.ntmps10
  go_wp2_with (first | (go_at_call 13; refine CM.out.mono ?_; rintro e w1 ⟨rfl, hown, ho⟩; have H1 := hidOf ho; have HO := hidOf hown; clear ho hown CM) | (go_at_call 25; refine (HK.out (some w.heap.size) w1).mono ?_; rintro e wk ⟨rfl, hw⟩; have HWK := hidOf hw; clear hw) | (go_at_call 24; rw [HWK.out]; refine (HS.out w1 HO.out).mono ?_; rintro e w2 ⟨v, ss, rfl, hp, hrow, hnil, hb⟩; have HP := hidOf hp; have HR := hidOf hrow; have HB := hidOf hb; clear hp hrow hnil hb))
  obtain ⟨e1, e2⟩ := words_of HP.out
  have h3 : w2.ownsRow (w1.alloc (.cells #[.map (some w.heap.size)] 43)).heap.size 9 1 v wordsS.length (wordsS.map encStr) := by
    have := HR.out
    rw [e1, e2] at this
    exact this
  obtain ⟨g, cap, hv, hc, hcell⟩ := row_cells h3 (by decide)
  clear h3 e1 e2 HR HP
  have HC := hidOf hcell
  clear hcell
  subst hv
  go_ret
  exact ⟨g, cap, rfl, hc, HC.out, Out.trans H1.out (Out.trans ((Out.refl w1).alloc _) HB.out)⟩
end Go.Proofs.YtggfjbbpbfhijabGreatDoor
