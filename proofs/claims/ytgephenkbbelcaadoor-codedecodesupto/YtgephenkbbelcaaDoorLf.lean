import Derived.Test.YtgephenkbbelcaaDoorLc
import Derived.Test.YtgephenkbbelcaaDoorLe
import Derived.Test.YtgephenkbbelcaaDoorJf
namespace Go.Proofs.YtgephenkbbelcaaDoor
open Go.RowKit
set_option linter.unusedVariables false
set_option linter.unusedSimpArgs false

theorem arith_any (c code : Int) (src : Bool) (hc : c = 7 ∨ c = 4) (w : World) : Calls Tryd.prog 40 #[.int .i64 c, .int .i64 code, .bool src] w fun e w' => (∃ v, e = .returned v ∧ RowsAt w' v (arithR c code src)) ∧ Out w w' := by
  by_cases h1 : code = 128
  · subst h1
    cases src
    · exact arith_1 c w
    · exact arith_3 c w
  by_cases h2 : code = 208
  · subst h2
    rcases hc with rfl | rfl
    · cases src
      · exact arith_2 7 false (.inr ⟨by decide, rfl⟩) w
      · exact arith_4 7 208 true (by decide) (.inr ⟨by decide, rfl⟩) w
    · exact arith_2 4 src (.inl rfl) w
  by_cases h3 : 192 < code
  · exact arith_4 c code src h3 (.inl (by simpa using h2)) w
  by_cases h4 : code = 48
  · exact arith_7 c code src (.inl (by simpa using h4)) w
  by_cases h5 : code = 144
  · exact arith_7 c code src (.inr ⟨by simpa using h4, by simpa using h5⟩) w
  by_cases h6 : code = 32
  · subst h6; exact arith_6 c src w
  cases src
  · exact arith_5 c code false (by omega) (by simpa using h1) (by simpa using h4) (by simpa using h5) (by simpa using h6) (.inr rfl) w
  · by_cases h7 : code = 176
    · subst h7; exact arith_8 c hc w
    · exact arith_5 c code true (by omega) (by simpa using h1) (by simpa using h4) (by simpa using h5) (by simpa using h6) (.inl (by simpa using h7)) w
def rowsR (op : Int) : List RowP := if op < 0 then [] else if 255 < op then [] else if (op % 8 == 4) || (op % 8 == 7) then arithR (op % 8) (op / 16 * 16) (op / 8 % 2 == 1) else if (op % 8 == 5) || (op % 8 == 6) then jumpsR (op % 8) (op / 16 * 16) (op / 8 % 2 == 1) else movesR op
theorem rows_in (op : Int) (h0 : 0 ≤ op) (h1 : op ≤ 255) (w : World) : Calls Tryd.prog 36 #[.int .i64 op] w fun e w' => (∃ v, e = .returned v ∧ RowsAt w' v (rowsR op)) ∧ Out w w' := by
  rcases (show op % 8 = 4 ∨ op % 8 = 7 ∨ op % 8 = 5 ∨ op % 8 = 6 ∨ (op % 8 ≠ 4 ∧ op % 8 ≠ 7 ∧ op % 8 ≠ 5 ∧ op % 8 ≠ 6) from by omega) with hm | hm | hm | hm | ⟨m4, m7, m5, m6⟩
  · have hR : Hid (rowsR op = arithR 4 (op / 16 * 16) (op / 8 % 2 == 1)) := by simp [rowsR, Hid, hm, show ¬ op < 0 from by omega, show ¬ 255 < op from by omega]
    go_enter Tryd.func36, Tryd.ntmps36
    go_wp2_with (go_at_call 40; refine (arith_any 4 _ _ (.inr rfl) _).mono ?_; rintro e w1 ⟨⟨v, rfl, hv⟩, hout⟩)
    go_ret
    go_light
    rw [hR.out]
    exact ⟨⟨_, rfl, hv⟩, hout⟩
  · have hR : Hid (rowsR op = arithR 7 (op / 16 * 16) (op / 8 % 2 == 1)) := by simp [rowsR, Hid, hm, show ¬ op < 0 from by omega, show ¬ 255 < op from by omega]
    go_enter Tryd.func36, Tryd.ntmps36
    go_wp2_with (go_at_call 40; refine (arith_any 7 _ _ (.inl rfl) _).mono ?_; rintro e w1 ⟨⟨v, rfl, hv⟩, hout⟩)
    go_ret
    go_light
    rw [hR.out]
    exact ⟨⟨_, rfl, hv⟩, hout⟩
  · have hR : Hid (rowsR op = jumpsR 5 (op / 16 * 16) (op / 8 % 2 == 1)) := by simp [rowsR, Hid, hm, show ¬ op < 0 from by omega, show ¬ 255 < op from by omega]
    go_enter Tryd.func36, Tryd.ntmps36
    go_wp2_with (go_at_call 41; refine (jumps_any 5 _ _ (by omega) _).mono ?_; rintro e w1 ⟨⟨v, rfl, hv⟩, hout⟩)
    go_ret
    go_light
    rw [hR.out]
    exact ⟨⟨_, rfl, hv⟩, hout⟩
  · have hR : Hid (rowsR op = jumpsR 6 (op / 16 * 16) (op / 8 % 2 == 1)) := by simp [rowsR, Hid, hm, show ¬ op < 0 from by omega, show ¬ 255 < op from by omega]
    go_enter Tryd.func36, Tryd.ntmps36
    go_wp2_with (go_at_call 41; refine (jumps_any 6 _ _ (by omega) _).mono ?_; rintro e w1 ⟨⟨v, rfl, hv⟩, hout⟩)
    go_ret
    go_light
    rw [hR.out]
    exact ⟨⟨_, rfl, hv⟩, hout⟩
  · have hR : Hid (rowsR op = movesR op) := by simp [rowsR, Hid, m4, m5, m6, m7, show ¬ op < 0 from by omega, show ¬ 255 < op from by omega]
    have b4 : (op % 8 == 4) = false := by simpa using m4
    have b7 : (op % 8 == 7) = false := by simpa using m7
    have b5 : (op % 8 == 5) = false := by simpa using m5
    have b6 : (op % 8 == 6) = false := by simpa using m6
    go_enter Tryd.func36, Tryd.ntmps36
    go_wp2_with (go_at_call 42; refine (moves_any' _ _).mono ?_; rintro e w1 ⟨⟨v, rfl, hv⟩, hout⟩)
    go_ret
    go_light
    rw [hR.out]
    exact ⟨⟨_, rfl, hv⟩, hout⟩
theorem rows_any (op : Int) (w : World) : Calls Tryd.prog 36 #[.int .i64 op] w fun e w' => (∃ v, e = .returned v ∧ RowsAt w' v (rowsR op)) ∧ Out w w' := by
  by_cases h0 : 0 ≤ op
  · by_cases h1 : op ≤ 255
    · exact rows_in op h0 h1 w
    · rw [show rowsR op = [] from by simp [rowsR, show ¬ op < 0 from by omega, show 255 < op from by omega]]
      go_enter Tryd.func36, Tryd.ntmps36
      go_wp2
      all_goals go_ret
      all_goals exact ⟨⟨_, rfl, .inl ⟨rfl, rfl⟩⟩, Out.refl _⟩
  · rw [show rowsR op = [] from by simp [rowsR, show op < 0 from by omega]]
    go_enter Tryd.func36, Tryd.ntmps36
    go_wp2
    all_goals go_ret
    all_goals exact ⟨⟨_, rfl, .inl ⟨rfl, rfl⟩⟩, Out.refl _⟩
end Go.Proofs.YtgephenkbbelcaaDoor
