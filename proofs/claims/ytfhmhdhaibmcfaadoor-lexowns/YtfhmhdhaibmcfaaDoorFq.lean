import Derived.Test.YtfhmhdhaibmcfaaDoorFp
namespace Go.Proofs.YtfhmhdhaibmcfaaDoor
open Go.RowKit
set_option linter.unusedVariables false
set_option linter.unusedSimpArgs false
def marI (c : Int) : Bool := c == 58 || c == 44 || c == 91 || c == 93 || c == 43 || c == 45
theorem kinds : ∀ n : Fin 256, marI (n.val : Int) = (kindP (n.val : Int) == 7) ∧ letP (n.val : Int) = (kindP (n.val : Int) == 3) ∧ ((n.val : Int) == 46) = (kindP (n.val : Int) == 5) ∧ (decide (48 ≤ (n.val : Int)) && decide ((n.val : Int) ≤ 57)) = (kindP (n.val : Int) == 4) := by decide +kernel
theorem refMark_of {c : Int} {b : Bool} (h : marI c = b) (w : World) : Calls Tryd.prog 53 #[.int .u8 c] w fun e w' => e = .returned (.bool b) ∧ w = w' := by rw [← h]; exact refMark_any c w
theorem refLetter_of {c : Int} {b : Bool} (h : letP c = b) (w : World) : Calls Tryd.prog 55 #[.int .u8 c] w fun e w' => e = .returned (.bool b) ∧ w = w' := by rw [← h]; exact refLetter_any c w
/-- what piece hands back, with p the plain answer -/
def PEnd (w : World) (j : Nat) (p : Int × Option (Int × List UInt8 × Int) × Nat) (e : Ending) (w' : World) : Prop :=
  ∃ (k : Int) (t : List UInt8) (n ev : Int), e = .returned (.tuple #[.agg #[.int .i64 k, .string ⟨t.toArray⟩, .int .u64 n, .int .i64 0], .int .i64 ev, .int .i64 p.1]) ∧ (p.1 = 0 → p.2.1 = some (k, t, n) ∧ ev = ((j + p.2.2 : Nat) : Int)) ∧ Out w w'
theorem results_cell3 {P : Program} {fn : Func} {p u v : Tmp} {ty : TypeId} (h : fn.results = #[.cell p ty, .tmp u, .tmp v]) (tmps : Array Value) (w : World) (g : Nat) (t : TypeId) (cs : Array Value) (fr : Nat × Nat) (d : TypeDesc)
    (hp : tmps.getD p undef = .pointer (some ⟨g, 0, none⟩)) (hg : w.heap[g]? = some (.cells cs t fr))
    (hu : P.underlying ty = some d) (hd : (match d with | .struct _ | .array _ _ => true | _ => false) = true) (hi : (P.info? ty).map (·.size) = some cs.size) :
    (results fn tmps).run P w = .ok (.tuple #[.agg cs, tmps.getD u undef, tmps.getD v undef]) w := by
  have hp' : tmps[p]?.getD undef = .pointer (some ⟨g, 0, none⟩) := by simpa using hp
  simp [results, h, hp', asAddr, run_loadVar_row w g t ty cs fr d hg hu hd hi]
theorem sizeTk : (Tryd.prog.info? 36).map (·.size) = some 4 := by kernel_rfl
theorem getX (s : ByteArray) (j : Nat) (hj : j < s.size) : ∃ n X, n = runN (s.toList.drop j) ∧ X = (s.toList.drop j).take n ∧ j + n ≤ s.size ∧ s.extract j (j + n) = ⟨X.toArray⟩ ∧ s.toList.drop j = s[j] :: s.toList.drop (j + 1) ∧ s.extract j (j + 1) = ⟨[s[j]].toArray⟩ := by
  have hse : s = ⟨s.toList.toArray⟩ := by rw [ByteArray.toList_eq]
  have hd : s.toList.drop j = s[j] :: s.toList.drop (j + 1) := drop_at (lget s j hj)
  have hnl : j + runN (s.toList.drop j) ≤ s.size := by have := runN_le (s.toList.drop j); rw [List.length_drop, lsize] at this; omega
  refine ⟨_, _, rfl, rfl, hnl, ?_, hd, ?_⟩
  · have h := ext_mid s.toList j (runN (s.toList.drop j)) (by rw [lsize]; omega)
    rw [← hse] at h
    exact h
  · have h := ext_mid s.toList j 1 (by rw [lsize]; omega)
    rw [← hse, hd] at h
    exact h
set_option maxRecDepth 20000 in
set_option maxHeartbeats 2000000 in
theorem refPiece7 (s : ByteArray) (j : Nat) (hj : j < s.size) (hs : s.size ≤ 4611686018427387904) (w : World) (h7 : kindP (bI s[j]) = 7) : Calls Tryd.prog 42 #[.string s, .int .i64 j] w fun e w' => PEnd w j (pieceP (s.toList.drop j)) e w' := by
  have hk := kinds ⟨s[j].toNat, s[j].toNat_lt⟩
  simp only at hk
  have hk' : kindP (s[j].toNat : Int) = 7 := h7
  rw [hk'] at hk
  obtain ⟨hkm, hkl, hkd, hkn⟩ := hk
  obtain ⟨n, X, hn, hX, hnl, hext, hd, hext1⟩ := getX s j hj
  have CR := hidOf (refRun_any s j (by omega) hs)
  rw [← hn] at CR
  have hp := piece_cons s[j] (s.toList.drop (j + 1))
  rw [← hd, ← hn, ← hX] at hp
  have HM := hidOf hkm
  have HLt := hidOf hkl
  have HD := hidOf hd
  have hjI : (j : Int) < s.size := by omega
  have hp7 : pieceP (s.toList.drop j) = (0, some (4, [s[j]], 0), 1) := by rw [hp]; simp [h7]
  have HP := hidOf hp7
  clear hkm hkl hkd hkn hn hX hd hp hp7 h7 hk' hext
  go_enter Tryd.func42, Tryd.ntmps42
  go_wp2_with (first | (go_at_call 54; refine (CR.out _).mono ?_; rintro e w3 ⟨rfl, rfl⟩) | (go_at_call 53; refine (refMark_of HM.out _).mono ?_; rintro e w3 ⟨rfl, rfl⟩))
  refine bodyPost_ret (results_cell3 rfl _ _ w.heap.size 36 _ (0, 0) _ rfl (heap_alloc_new _ _) Tryd.underlying36 rfl sizeTk) rfl ?_
  refine ⟨4, [s[j]], 0, _, by rw [HP.out]; rfl, fun _ => ⟨by rw [HP.out], by rw [HP.out]; rfl⟩, (Out.refl w).alloc _⟩
set_option maxRecDepth 20000 in
set_option maxHeartbeats 2000000 in
theorem refPiece3 (s : ByteArray) (j : Nat) (hj : j < s.size) (hs : s.size ≤ 4611686018427387904) (w : World) (h7 : kindP (bI s[j]) = 3) : Calls Tryd.prog 42 #[.string s, .int .i64 j] w fun e w' => PEnd w j (pieceP (s.toList.drop j)) e w' := by
  have hk := kinds ⟨s[j].toNat, s[j].toNat_lt⟩
  simp only at hk
  have hk' : kindP (s[j].toNat : Int) = 3 := h7
  rw [hk'] at hk
  obtain ⟨hkm, hkl, hkd, hkn⟩ := hk
  obtain ⟨n, X, hn, hX, hnl, hext, hd, hext1⟩ := getX s j hj
  have CR := hidOf (refRun_any s j (by omega) hs)
  rw [← hn] at CR
  have hp := piece_cons s[j] (s.toList.drop (j + 1))
  rw [← hd, ← hn, ← hX] at hp
  have HM := hidOf hkm
  have HLt := hidOf hkl
  have HD := hidOf hd
  have hjI : (j : Int) < s.size := by omega
  have hp3 : pieceP (s.toList.drop j) = (if n ≤ 64 then 0 else 53, some (1, X, 0), n) := by rw [hp]; simp [h7]
  clear hkm hkl hkd hkn hn hX hd hp h7 hk' hext1
  by_cases h64 : n ≤ 64
  · have h64I : ¬ (64 : Int) < n := by omega
    have HP : Hid (pieceP (s.toList.drop j) = (0, some (1, X, 0), n)) := by rw [hp3, if_pos h64]; exact hidOf rfl
    clear hp3
    go_enter Tryd.func42, Tryd.ntmps42
    go_wp2_with (first | (go_at_call 54; refine (CR.out _).mono ?_; rintro e w3 ⟨rfl, rfl⟩) | (go_at_call 53; refine (refMark_of HM.out _).mono ?_; rintro e w3 ⟨rfl, rfl⟩) | (go_at_call 55; refine (refLetter_of HLt.out _).mono ?_; rintro e w3 ⟨rfl, rfl⟩))
    refine bodyPost_ret (results_cell3 rfl _ _ w.heap.size 36 _ (0, 0) _ rfl (heap_alloc_new _ _) Tryd.underlying36 rfl sizeTk) rfl ?_
    refine ⟨1, X, 0, _, by rw [HP.out]; rfl, fun _ => ⟨by rw [HP.out], by rw [HP.out]; rfl⟩, (Out.refl w).alloc _⟩
  · have h64I : (64 : Int) < n := by omega
    have HP : Hid (pieceP (s.toList.drop j) = (53, some (1, X, 0), n)) := by rw [hp3, if_neg h64]; exact hidOf rfl
    clear hp3
    go_enter Tryd.func42, Tryd.ntmps42
    go_wp2_with (first | (go_at_call 54; refine (CR.out _).mono ?_; rintro e w3 ⟨rfl, rfl⟩) | (go_at_call 53; refine (refMark_of HM.out _).mono ?_; rintro e w3 ⟨rfl, rfl⟩) | (go_at_call 55; refine (refLetter_of HLt.out _).mono ?_; rintro e w3 ⟨rfl, rfl⟩))
    refine bodyPost_ret (results_cell3 rfl _ _ w.heap.size 36 _ (0, 0) _ rfl (heap_alloc_new _ _) Tryd.underlying36 rfl sizeTk) rfl ?_
    refine ⟨0, [], 0, _, by rw [HP.out]; rfl, fun h => by rw [HP.out] at h; exact absurd h (show ¬ (53 : Int) = 0 by decide), (Out.refl w).alloc _⟩
set_option maxRecDepth 20000 in
set_option maxHeartbeats 2000000 in
theorem refPiece0 (s : ByteArray) (j : Nat) (hj : j < s.size) (hs : s.size ≤ 4611686018427387904) (w : World) (h7 : ¬ kindP (bI s[j]) = 1 ∧ ¬ kindP (bI s[j]) = 2 ∧ ¬ kindP (bI s[j]) = 3 ∧ ¬ kindP (bI s[j]) = 5 ∧ ¬ kindP (bI s[j]) = 4 ∧ ¬ kindP (bI s[j]) = 7) : Calls Tryd.prog 42 #[.string s, .int .i64 j] w fun e w' => PEnd w j (pieceP (s.toList.drop j)) e w' := by
  have hk := kinds ⟨s[j].toNat, s[j].toNat_lt⟩
  simp only at hk
  obtain ⟨i1, i2, i3, i5, i4, i7⟩ := h7
  have j7 : (kindP (s[j].toNat : Int) == 7) = false := beq_eq_false_iff_ne.2 i7
  have j3 : (kindP (s[j].toNat : Int) == 3) = false := beq_eq_false_iff_ne.2 i3
  have j5 : (kindP (s[j].toNat : Int) == 5) = false := beq_eq_false_iff_ne.2 i5
  have j4 : (kindP (s[j].toNat : Int) == 4) = false := beq_eq_false_iff_ne.2 i4
  rw [j7, j3, j5, j4] at hk
  obtain ⟨hkm, hkl, hkd, hkn⟩ := hk
  obtain ⟨n, X, hn, hX, hnl, hext, hd, hext1⟩ := getX s j hj
  have CR := hidOf (refRun_any s j (by omega) hs)
  rw [← hn] at CR
  have hp := piece_cons s[j] (s.toList.drop (j + 1))
  rw [← hd, ← hn, ← hX] at hp
  have HM := hidOf hkm
  have HLt := hidOf hkl
  have HD := hidOf hd
  have hjI : (j : Int) < s.size := by omega
  obtain ⟨q, hp0⟩ : ∃ q, pieceP (s.toList.drop j) = (52, q) := by rw [hp]; simp [i1, i2, i3, i4, i5, i7]
  have HP := hidOf hp0
  have hdg : (s[j].toNat : Int) < 48 ∨ (57 : Int) < s[j].toNat := by
    have h := hkn
    simp at h
    omega
  clear hkm hkl hkn hn hX hd hp hp0 i1 i2 i3 i4 i5 i7 j7 j3 j5 j4 hext hext1
  rcases hdg with hdg | hdg
  · go_enter Tryd.func42, Tryd.ntmps42
    go_wp2_with (first | (go_at_call 54; refine (CR.out _).mono ?_; rintro e w3 ⟨rfl, rfl⟩) | (go_at_call 53; refine (refMark_of HM.out _).mono ?_; rintro e w3 ⟨rfl, rfl⟩) | (go_at_call 55; refine (refLetter_of HLt.out _).mono ?_; rintro e w3 ⟨rfl, rfl⟩))
    refine bodyPost_ret (results_cell3 rfl _ _ w.heap.size 36 _ (0, 0) _ rfl (heap_alloc_new _ _) Tryd.underlying36 rfl sizeTk) rfl ?_
    refine ⟨0, [], 0, _, by rw [HP.out]; rfl, fun h => by rw [HP.out] at h; exact absurd h (show ¬ (52 : Int) = 0 by decide), (Out.refl w).alloc _⟩
  · go_enter Tryd.func42, Tryd.ntmps42
    go_wp2_with (first | (go_at_call 54; refine (CR.out _).mono ?_; rintro e w3 ⟨rfl, rfl⟩) | (go_at_call 53; refine (refMark_of HM.out _).mono ?_; rintro e w3 ⟨rfl, rfl⟩) | (go_at_call 55; refine (refLetter_of HLt.out _).mono ?_; rintro e w3 ⟨rfl, rfl⟩))
    refine bodyPost_ret (results_cell3 rfl _ _ w.heap.size 36 _ (0, 0) _ rfl (heap_alloc_new _ _) Tryd.underlying36 rfl sizeTk) rfl ?_
    refine ⟨0, [], 0, _, by rw [HP.out]; rfl, fun h => by rw [HP.out] at h; exact absurd h (show ¬ (52 : Int) = 0 by decide), (Out.refl w).alloc _⟩
end Go.Proofs.YtfhmhdhaibmcfaaDoor
