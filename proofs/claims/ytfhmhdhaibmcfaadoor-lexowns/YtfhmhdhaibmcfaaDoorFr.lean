import Derived.Test.YtfhmhdhaibmcfaaDoorFq
namespace Go.Proofs.YtfhmhdhaibmcfaaDoor
open Go.RowKit
set_option linter.unusedVariables false
set_option linter.unusedSimpArgs false
set_option maxRecDepth 20000 in
set_option maxHeartbeats 600000 in
theorem refPiece4 (s : ByteArray) (j : Nat) (hj : j < s.size) (hs : s.size ≤ 4611686018427387904) (w : World) (h7 : kindP (bI s[j]) = 4) : Calls Tryd.prog 42 #[.string s, .int .i64 j] w fun e w' => PEnd w j (pieceP (s.toList.drop j)) e w' := by
  have hk := kinds ⟨s[j].toNat, s[j].toNat_lt⟩
  simp only at hk
  have hk' : kindP (s[j].toNat : Int) = 4 := h7
  rw [hk'] at hk
  obtain ⟨hkm, hkl, hkd, hkn⟩ := hk
  obtain ⟨n, X, hn, hX, hnl, hext, hd, hext1⟩ := getX s j hj
  have CR := hidOf (refRun_any s j (by omega) hs)
  rw [← hn] at CR
  have hp := piece_cons s[j] (s.toList.drop (j + 1))
  rw [← hd, ← hn, ← hX] at hp
  have HM := hidOf hkm
  have HLt := hidOf hkl
  have HD := hidOf hd
  have hjI : (j : Int) < s.size := by omega
  have hru : runU s[j] = true := kind_run (.inr (.inl h7))
  have hne : ¬ X = [] := by
    rw [hX, hn, hd]
    unfold runN
    rw [List.takeWhile_cons, hru]
    simp
  have hXl : X.length ≤ s.size := by rw [hX, List.length_take, List.length_drop, lsize]; omega
  obtain ⟨v1, v2, hv⟩ : ∃ v1 v2, valP X = (v1, v2) := ⟨_, _, rfl⟩
  have CN : Hid (∀ w, Calls Tryd.prog 56 #[.string ⟨X.toArray⟩] w fun e w' => e = .returned (.tuple #[.int .u64 v1, .bool v2]) ∧ w = w') := fun w => by
    have h := refNumber_any ⟨X.toArray⟩ (by rw [mk_size]; omega) (by rw [mk_list X]; exact hne) w
    rw [mk_list X, hv] at h
    exact h
  have hp4 : pieceP (s.toList.drop j) = (if v2 = true then 0 else 54, some (3, [], v1), n) := by rw [hp, hv]; simp [h7]
  have h48 : (48 : Int) ≤ s[j].toNat := by
    have h := hkn
    simp at h
    omega
  have h57 : (s[j].toNat : Int) ≤ 57 := by
    have h := hkn
    simp at h
    omega
  clear hkm hkl hkn hn hX hd hp h7 hk' hext1 hne hru hv hXl
  simp only [show ((4 : Int) == 5) = false from rfl] at hkd
  cases v2
  · have HP : Hid (pieceP (s.toList.drop j) = (54, some (3, [], v1), n)) := by rw [hp4]; exact hidOf rfl
    clear hp4
    go_enter Tryd.func42, Tryd.ntmps42
    go_wp2_with (first | (go_at_call 54; refine (CR.out _).mono ?_; rintro e w3 ⟨rfl, rfl⟩) | (go_at_call 53; refine (refMark_of HM.out _).mono ?_; rintro e w3 ⟨rfl, rfl⟩) | (go_at_call 55; refine (refLetter_of HLt.out _).mono ?_; rintro e w3 ⟨rfl, rfl⟩) | (go_at_call 56; refine (CN.out _).mono ?_; rintro e w3 ⟨rfl, rfl⟩))
    refine bodyPost_ret (results_cell3 rfl _ _ w.heap.size 36 _ (0, 0) _ rfl (heap_alloc_new _ _) Tryd.underlying36 rfl sizeTk) rfl ?_
    refine ⟨0, [], 0, _, by rw [HP.out]; rfl, fun h => by rw [HP.out] at h; exact absurd h (show ¬ (54 : Int) = 0 by decide), (Out.refl w).alloc _⟩
  · have HP : Hid (pieceP (s.toList.drop j) = (0, some (3, [], v1), n)) := by rw [hp4]; exact hidOf rfl
    clear hp4
    go_enter Tryd.func42, Tryd.ntmps42
    go_wp2_with (first | (go_at_call 54; refine (CR.out _).mono ?_; rintro e w3 ⟨rfl, rfl⟩) | (go_at_call 53; refine (refMark_of HM.out _).mono ?_; rintro e w3 ⟨rfl, rfl⟩) | (go_at_call 55; refine (refLetter_of HLt.out _).mono ?_; rintro e w3 ⟨rfl, rfl⟩) | (go_at_call 56; refine (CN.out _).mono ?_; rintro e w3 ⟨rfl, rfl⟩))
    refine bodyPost_ret (results_cell3 rfl _ _ w.heap.size 36 _ (0, 0) _ rfl (heap_alloc_new _ _) Tryd.underlying36 rfl sizeTk) rfl ?_
    refine ⟨3, [], v1, _, by rw [HP.out]; rfl, fun _ => ⟨by rw [HP.out], by rw [HP.out]; rfl⟩, (Out.refl w).alloc _⟩
set_option maxRecDepth 20000 in
set_option maxHeartbeats 600000 in
theorem refPiece5 (s : ByteArray) (j : Nat) (hj : j < s.size) (hs : s.size ≤ 4611686018427387904) (w : World) (h7 : kindP (bI s[j]) = 5) : Calls Tryd.prog 42 #[.string s, .int .i64 j] w fun e w' => PEnd w j (pieceP (s.toList.drop j)) e w' := by
  have hk := kinds ⟨s[j].toNat, s[j].toNat_lt⟩
  simp only at hk
  have hk' : kindP (s[j].toNat : Int) = 5 := h7
  rw [hk'] at hk
  obtain ⟨hkm, hkl, hkd, hkn⟩ := hk
  obtain ⟨n, X, hn, hX, hnl, hext, hd, hext1⟩ := getX s j hj
  have CR := hidOf (refRun_any s j (by omega) hs)
  rw [← hn] at CR
  have hp := piece_cons s[j] (s.toList.drop (j + 1))
  rw [← hd, ← hn, ← hX] at hp
  have HM := hidOf hkm
  have HLt := hidOf hkl
  have HD := hidOf hd
  have hjI : (j : Int) < s.size := by omega
  have hp5 : pieceP (s.toList.drop j) = (if startP (s.toList.drop (j + 1)) = true then (if n ≤ 65 then 0 else 53) else 52, some (2, X, 0), n) := by rw [hp]; simp [h7]
  have hdg : (s[j].toNat : Int) < 48 ∨ (57 : Int) < s[j].toNat := by
    have h := hkn
    simp at h
    omega
  clear hkm hkl hkn hn hX hd hp h7 hk' hext1
  simp only [show ((5 : Int) == 5) = true from rfl] at hkd
  by_cases hj1 : j + 1 < s.size
  · have hj1I : (j : Int) + 1 < s.size := by omega
    have hst : startP (s.toList.drop (j + 1)) = letP (bI s[j + 1]) := by
      rw [drop_at (lget s (j + 1) hj1)]
      exact ((kinds ⟨s[j + 1].toNat, s[j + 1].toNat_lt⟩).2.1).symm
    cases hl2 : letP (bI s[j + 1])
    · have HL2 := hidOf hl2
      have HP : Hid (pieceP (s.toList.drop j) = (52, some (2, X, 0), n)) := by rw [hp5, hst, hl2]; exact hidOf rfl
      clear hp5 hst hl2
      rcases hdg with hdg | hdg
      · go_enter Tryd.func42, Tryd.ntmps42
        go_upto_region 9 with (first | (go_at_call 54; refine (CR.out _).mono ?_; rintro e w3 ⟨rfl, rfl⟩) | (go_at_call 53; refine (refMark_of HM.out _).mono ?_; rintro e w3 ⟨rfl, rfl⟩) | (go_at_call 55; refine (refLetter_of HLt.out _).mono ?_; rintro e w3 ⟨rfl, rfl⟩))
        go_wp2_with (go_at_call 55; refine (refLetter_of HL2.out _).mono ?_; rintro e w3 ⟨rfl, rfl⟩)
        refine bodyPost_ret (results_cell3 rfl _ _ w.heap.size 36 _ (0, 0) _ rfl (heap_alloc_new _ _) Tryd.underlying36 rfl sizeTk) rfl ?_
        refine ⟨0, [], 0, _, by rw [HP.out]; rfl, fun h => by rw [HP.out] at h; exact absurd h (show ¬ (52 : Int) = 0 by decide), (Out.refl w).alloc _⟩
      · go_enter Tryd.func42, Tryd.ntmps42
        go_upto_region 9 with (first | (go_at_call 54; refine (CR.out _).mono ?_; rintro e w3 ⟨rfl, rfl⟩) | (go_at_call 53; refine (refMark_of HM.out _).mono ?_; rintro e w3 ⟨rfl, rfl⟩) | (go_at_call 55; refine (refLetter_of HLt.out _).mono ?_; rintro e w3 ⟨rfl, rfl⟩))
        go_wp2_with (go_at_call 55; refine (refLetter_of HL2.out _).mono ?_; rintro e w3 ⟨rfl, rfl⟩)
        refine bodyPost_ret (results_cell3 rfl _ _ w.heap.size 36 _ (0, 0) _ rfl (heap_alloc_new _ _) Tryd.underlying36 rfl sizeTk) rfl ?_
        refine ⟨0, [], 0, _, by rw [HP.out]; rfl, fun h => by rw [HP.out] at h; exact absurd h (show ¬ (52 : Int) = 0 by decide), (Out.refl w).alloc _⟩
    · have HL2 := hidOf hl2
      by_cases h64 : n ≤ 65
      · have h64I : ¬ (65 : Int) < n := by omega
        have HP : Hid (pieceP (s.toList.drop j) = (0, some (2, X, 0), n)) := by rw [hp5, hst, hl2, if_pos rfl, if_pos h64]; exact hidOf rfl
        clear hp5 hst hl2
        go_enter Tryd.func42, Tryd.ntmps42
        go_upto_region 9 with (first | (go_at_call 54; refine (CR.out _).mono ?_; rintro e w3 ⟨rfl, rfl⟩) | (go_at_call 53; refine (refMark_of HM.out _).mono ?_; rintro e w3 ⟨rfl, rfl⟩) | (go_at_call 55; refine (refLetter_of HLt.out _).mono ?_; rintro e w3 ⟨rfl, rfl⟩))
        go_wp2_with (go_at_call 55; refine (refLetter_of HL2.out _).mono ?_; rintro e w3 ⟨rfl, rfl⟩)
        refine bodyPost_ret (results_cell3 rfl _ _ w.heap.size 36 _ (0, 0) _ rfl (heap_alloc_new _ _) Tryd.underlying36 rfl sizeTk) rfl ?_
        refine ⟨2, X, 0, _, by rw [HP.out]; rfl, fun _ => ⟨by rw [HP.out], by rw [HP.out]; rfl⟩, (Out.refl w).alloc _⟩
      · have h64I : (65 : Int) < n := by omega
        have HP : Hid (pieceP (s.toList.drop j) = (53, some (2, X, 0), n)) := by rw [hp5, hst, hl2, if_pos rfl, if_neg h64]; exact hidOf rfl
        clear hp5 hst hl2
        go_enter Tryd.func42, Tryd.ntmps42
        go_upto_region 9 with (first | (go_at_call 54; refine (CR.out _).mono ?_; rintro e w3 ⟨rfl, rfl⟩) | (go_at_call 53; refine (refMark_of HM.out _).mono ?_; rintro e w3 ⟨rfl, rfl⟩) | (go_at_call 55; refine (refLetter_of HLt.out _).mono ?_; rintro e w3 ⟨rfl, rfl⟩))
        go_wp2_with (go_at_call 55; refine (refLetter_of HL2.out _).mono ?_; rintro e w3 ⟨rfl, rfl⟩)
        refine bodyPost_ret (results_cell3 rfl _ _ w.heap.size 36 _ (0, 0) _ rfl (heap_alloc_new _ _) Tryd.underlying36 rfl sizeTk) rfl ?_
        refine ⟨0, [], 0, _, by rw [HP.out]; rfl, fun h => by rw [HP.out] at h; exact absurd h (show ¬ (53 : Int) = 0 by decide), (Out.refl w).alloc _⟩
  · have hj1I : ¬ (j : Int) + 1 < s.size := by omega
    have HP : Hid (pieceP (s.toList.drop j) = (52, some (2, X, 0), n)) := by rw [hp5, List.drop_eq_nil_of_le (by rw [lsize]; omega)]; exact hidOf rfl
    clear hp5
    rcases hdg with hdg | hdg
    · go_enter Tryd.func42, Tryd.ntmps42
      go_wp2_with (first | (go_at_call 54; refine (CR.out _).mono ?_; rintro e w3 ⟨rfl, rfl⟩) | (go_at_call 53; refine (refMark_of HM.out _).mono ?_; rintro e w3 ⟨rfl, rfl⟩) | (go_at_call 55; refine (refLetter_of HLt.out _).mono ?_; rintro e w3 ⟨rfl, rfl⟩))
      refine bodyPost_ret (results_cell3 rfl _ _ w.heap.size 36 _ (0, 0) _ rfl (heap_alloc_new _ _) Tryd.underlying36 rfl sizeTk) rfl ?_
      refine ⟨0, [], 0, _, by rw [HP.out]; rfl, fun h => by rw [HP.out] at h; exact absurd h (show ¬ (52 : Int) = 0 by decide), (Out.refl w).alloc _⟩
    · go_enter Tryd.func42, Tryd.ntmps42
      go_wp2_with (first | (go_at_call 54; refine (CR.out _).mono ?_; rintro e w3 ⟨rfl, rfl⟩) | (go_at_call 53; refine (refMark_of HM.out _).mono ?_; rintro e w3 ⟨rfl, rfl⟩) | (go_at_call 55; refine (refLetter_of HLt.out _).mono ?_; rintro e w3 ⟨rfl, rfl⟩))
      refine bodyPost_ret (results_cell3 rfl _ _ w.heap.size 36 _ (0, 0) _ rfl (heap_alloc_new _ _) Tryd.underlying36 rfl sizeTk) rfl ?_
      refine ⟨0, [], 0, _, by rw [HP.out]; rfl, fun h => by rw [HP.out] at h; exact absurd h (show ¬ (52 : Int) = 0 by decide), (Out.refl w).alloc _⟩
theorem refPiece_any (s : ByteArray) (j : Nat) (hj : j < s.size) (hs : s.size ≤ 4611686018427387904) (w : World) (h1 : ¬ kindP (bI s[j]) = 1) (h2 : ¬ kindP (bI s[j]) = 2) : Calls Tryd.prog 42 #[.string s, .int .i64 j] w fun e w' => PEnd w j (pieceP (s.toList.drop j)) e w' := by
  by_cases h3 : kindP (bI s[j]) = 3
  · exact refPiece3 s j hj hs w h3
  by_cases h4 : kindP (bI s[j]) = 4
  · exact refPiece4 s j hj hs w h4
  by_cases h5 : kindP (bI s[j]) = 5
  · exact refPiece5 s j hj hs w h5
  by_cases h7 : kindP (bI s[j]) = 7
  · exact refPiece7 s j hj hs w h7
  exact refPiece0 s j hj hs w ⟨h1, h2, h3, h5, h4, h7⟩
end Go.Proofs.YtfhmhdhaibmcfaaDoor
