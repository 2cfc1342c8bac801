import Derived.Test.YtfhmhdhaibmcfaaDoorFn
namespace Go.Proofs.YtfhmhdhaibmcfaaDoor
open Go.RowKit
set_option linter.unusedVariables false
set_option linter.unusedSimpArgs false
theorem valR10 : ∀ (l : List UInt8) (a : Nat), a < 18446744073709551616 → valR 10 a l = if l.all digU = true ∧ decV a l ≤ 18446744073709551615 then some (decV a l) else none
  | [], a, h => by rw [if_pos ⟨rfl, by show a ≤ _; omega⟩]; rfl
  | c :: l, a, h => by
    have e : valR 10 a (c :: l) = if digR (10 : Nat) (bI c) < 0 ∨ 18446744073709551616 ≤ a * 10 + (digR (10 : Nat) (bI c)).toNat then none else valR 10 (a * 10 + (digR (10 : Nat) (bI c)).toNat) l := rfl
    have hv : decV a (c :: l) = decV (a * 10 + (c.toNat - 48)) l := rfl
    rw [e, hv, List.all_cons]
    by_cases hd : digU c = true
    · have hd' : 48 ≤ bI c ∧ bI c ≤ 57 := by simpa [digU, digP] using hd
      have hdr : digR (10 : Nat) (bI c) = bI c - 48 := by unfold digR; rw [if_pos hd']
      have hn : (digR (10 : Nat) (bI c)).toNat = c.toNat - 48 := by rw [hdr]; unfold bI; omega
      rw [hn]
      by_cases hb : 18446744073709551616 ≤ a * 10 + (c.toNat - 48)
      · rw [if_pos (.inr hb), if_neg (fun h => by have := decV_ge l (a * 10 + (c.toNat - 48)); omega)]
      · rw [if_neg (by rw [hdr]; omega), valR10 l _ (by omega), hd, Bool.true_and]
    · have hd' : ¬ (48 ≤ bI c ∧ bI c ≤ 57) := by simpa [digU, digP] using hd
      have hdr : digR (10 : Nat) (bI c) = -1 := by unfold digR; rw [if_neg hd', if_neg (fun h => absurd h.1 (by decide)), if_neg (fun h => absurd h.1 (by decide))]
      rw [if_pos (.inl (by rw [hdr]; decide)), if_neg (fun h => by rw [Bool.and_eq_true] at h; exact hd h.1.1)]
theorem hexU_dig (c : UInt8) : (hexU c = true → digR (16 : Nat) (bI c) = hexD (bI c) ∧ 0 ≤ hexD (bI c)) ∧ (¬ hexU c = true → digR (16 : Nat) (bI c) = -1) := by
  have key : ∀ n : Fin 256, (hexP (n.val : Int) = true → digR 16 (n.val : Int) = hexD (n.val : Int) ∧ 0 ≤ hexD (n.val : Int)) ∧ (¬ hexP (n.val : Int) = true → digR 16 (n.val : Int) = -1) := by decide +kernel
  exact key ⟨c.toNat, c.toNat_lt⟩
theorem hexV_ge : ∀ (l : List UInt8) (a : Int), 0 ≤ a → l.all hexU = true → a ≤ hexV a l
  | [], a, _, _ => Int.le_refl _
  | c :: l, a, h0, h => by
    rw [List.all_cons, Bool.and_eq_true] at h
    have := ((hexU_dig c).1 h.1).2
    exact Int.le_trans (by omega) (hexV_ge l (a * 16 + hexD (bI c)) (by omega) h.2)
theorem valR16 : ∀ (l : List UInt8) (a : Nat), a < 18446744073709551616 → valR 16 a l = if l.all hexU = true ∧ hexV a l < 18446744073709551616 then some (hexV a l).toNat else none
  | [], a, h => by rw [if_pos ⟨rfl, by show (a : Int) < _; omega⟩]; rfl
  | c :: l, a, h => by
    have e : valR 16 a (c :: l) = if digR (16 : Nat) (bI c) < 0 ∨ 18446744073709551616 ≤ a * 16 + (digR (16 : Nat) (bI c)).toNat then none else valR 16 (a * 16 + (digR (16 : Nat) (bI c)).toNat) l := rfl
    have hv : hexV a (c :: l) = hexV ((a : Int) * 16 + hexD (bI c)) l := rfl
    rw [e, hv, List.all_cons]
    by_cases hd : hexU c = true
    · obtain ⟨h1, h2⟩ := (hexU_dig c).1 hd
      rw [h1]
      obtain ⟨d, hdd⟩ : ∃ d : Nat, hexD (bI c) = (d : Int) := ⟨(hexD (bI c)).toNat, by omega⟩
      rw [hdd]
      simp only [Int.toNat_natCast]
      by_cases hb : 18446744073709551616 ≤ a * 16 + d
      · rw [if_pos (.inr hb), if_neg (fun h => by
          rw [Bool.and_eq_true] at h
          have := hexV_ge l ((a : Int) * 16 + d) (by omega) h.1.2
          omega)]
      · rw [if_neg (by omega), valR16 l _ (by omega), hd, Bool.true_and]
        simp only [Int.natCast_add, Int.natCast_mul]
        rfl
    · rw [if_pos (.inl (by rw [(hexU_dig c).2 hd]; decide)), if_neg (fun h => by rw [Bool.and_eq_true] at h; exact hd h.1.1)]
def numR (l : List UInt8) : Int × Bool := if 2 ≤ l.length ∧ l[0]? = some 48 then (if ¬ l[1]? = some 120 ∨ 18 < l.length then (0, false) else valE 16 (l.drop 2)) else valE 10 l
theorem valE10 (l : List UInt8) (hne : ¬ l = []) : valE 10 l = if l.all digU = true ∧ decV 0 l ≤ 18446744073709551615 then (((decV 0 l : Nat) : Int), true) else (0, false) := by
  have hp : 0 < l.length := List.length_pos_iff.2 hne
  unfold valE
  rw [valR10 l 0 (by decide)]
  by_cases h : l.all digU = true ∧ decV 0 l ≤ 18446744073709551615
  · rw [if_pos h, if_pos h]
    simp [hp]
  · rw [if_neg h, if_neg h]
theorem numR_val (l : List UInt8) (hne : ¬ l = []) : numR l = valP l := by
  unfold numR valP
  match l, hne with
  | [c], _ =>
    rw [if_neg (by simp), if_neg (by simp), if_neg (by simp), valE10 _ (by simp)]
  | c0 :: c1 :: r, _ =>
    by_cases h0 : c0 = 48
    · subst h0
      rw [if_pos (by simp)]
      by_cases h1 : c1 = 120
      · subst h1
        rw [if_pos (show ((48 : UInt8) :: 120 :: r).take 2 = [48, 120] from rfl)]
        by_cases h18 : 18 < (48 :: 120 :: r : List UInt8).length
        · rw [if_pos (.inr h18), if_neg (by omega)]
        · rw [if_neg (by simp at h18 ⊢; omega)]
          show valE 16 r = _
          have hd : ((48 : UInt8) :: 120 :: r).drop 2 = r := rfl
          rw [hd]
          simp only [List.length_cons] at h18 ⊢
          unfold valE
          rw [valR16 r 0 (by decide)]
          by_cases hx : r.all hexU = true
          · have hr := hexV_rng r 0 (by decide) hx
            have h2 := cap16_16 r.length (by omega)
            have hlt : hexV ((0 : Nat) : Int) r < 18446744073709551616 := by
              have h3 := hr.2
              simp only [Int.zero_add, Int.one_mul] at h3
              show hexV 0 r < _
              omega
            rw [if_pos ⟨hx, hlt⟩]
            by_cases hr0 : r = []
            · subst hr0; rfl
            · have hp : 0 < r.length := List.length_pos_iff.2 hr0
              rw [if_pos ⟨by omega, by omega, hx⟩]
              simp only [decide_eq_true hp]
              congr 1
              exact Int.toNat_of_nonneg hr.1
          · rw [if_neg (fun h => hx h.1), if_neg (fun h => hx h.2.2)]
      · rw [if_pos (.inl (by simpa using h1)), if_neg (by simpa using h1), if_pos (by simp)]
    · rw [if_neg (by simp [h0]), if_neg (by simp [h0]), if_neg (by simp [h0]), valE10 _ (by simp)]
set_option maxRecDepth 20000 in
set_option maxHeartbeats 4000000 in
theorem refNumber_any (s : ByteArray) (hs : s.size ≤ 4611686018427387904) (hne : ¬ s.toList = []) (w : World) : Calls Tryd.prog 56 #[.string s] w fun e w' => e = .returned (.tuple #[.int .u64 (valP s.toList).1, .bool (valP s.toList).2]) ∧ w = w' := by
  rw [← numR_val _ hne]
  have C10 : Hid (Calls Tryd.prog 66 #[.string s, .int .u64 10] w fun e w' => e = .returned (.tuple #[.int .u64 (valE 10 s.toList).1, .bool (valE 10 s.toList).2]) ∧ w = w') := refValue_any s 10 (by decide) hs w
  obtain ⟨r1, r2, hr10⟩ : ∃ r1 r2, valE 10 s.toList = (r1, r2) := ⟨_, _, rfl⟩
  rw [hr10] at C10
  have H10 := hidOf hr10
  clear hr10
  have hl := lsize s
  by_cases h2 : 2 ≤ s.size
  · have h2I : (2 : Int) ≤ s.size := by omega
    have hb0 : 0 < s.size := by omega
    have hb1 : 1 < s.size := by omega
    have g0 := lget s 0 hb0
    have g1 := lget s 1 hb1
    have h0I : (0 : Int) < s.size := by omega
    have h1I : (1 : Int) < s.size := by omega
    by_cases e0 : s[0] = 48
    · have e0' : ((s[0].toNat : Int) == 48) = true := by rw [e0]; rfl
      have n1 : numR s.toList = (if ¬ s.toList[1]? = some 120 ∨ 18 < s.toList.length then (0, false) else valE 16 (s.toList.drop 2)) := by unfold numR; rw [if_pos ⟨by omega, by rw [g0, e0]⟩]
      have hse : s = ⟨s.toList.toArray⟩ := by rw [ByteArray.toList_eq]
      have hex : s.extract 2 s.size = ⟨(s.toList.drop 2).toArray⟩ := by
        have := ext_drop s.toList 2 (by omega)
        rw [← hse, hl] at this
        exact this
      clear hse
      obtain ⟨D, hD⟩ : ∃ D, D = s.toList.drop 2 := ⟨_, rfl⟩
      rw [← hD] at hex n1
      have hDl : D.length ≤ 4611686018427387904 := by rw [hD, List.length_drop]; omega
      have C16 : Hid (Calls Tryd.prog 66 #[.string ⟨D.toArray⟩, .int .u64 16] w fun e w' => e = .returned (.tuple #[.int .u64 (valE 16 D).1, .bool (valE 16 D).2]) ∧ w = w') := by
        have h := refValue_any ⟨D.toArray⟩ 16 (by decide) (by rw [mk_size]; exact hDl) w
        rw [mk_list D] at h
        exact h
      clear hD hDl
      obtain ⟨t1, t2, hr16⟩ : ∃ t1 t2, valE 16 D = (t1, t2) := ⟨_, _, rfl⟩
      rw [hr16] at C16
      have H16 := hidOf hr16
      clear hr16
      have HN := hidOf n1
      have HL := hidOf hl
      have HG := hidOf g1
      clear n1 g0 g1 hl e0 hne
      by_cases e1 : s[1] = 120
      · have e1a : ((s[1].toNat : Int) == 120) = true := by rw [e1]; rfl
        have e1b : ((s[1].toNat : Int) != 120) = false := by rw [e1]; rfl
        by_cases h18 : 18 < s.size
        · have h18I : (18 : Int) < s.size := by omega
          have HF : Hid (numR s.toList = (0, false)) := by rw [HN.out, if_pos (.inr (by rw [HL.out]; exact h18))]; exact hidOf rfl
          clear e1
          go_enter Tryd.func56, Tryd.ntmps56
          go_wp2
          go_ret2
          exact ⟨by rw [HF.out]; rfl, rfl⟩
        · have h18I : ¬ (18 : Int) < s.size := by omega
          have HF : Hid (numR s.toList = (t1, t2)) := by rw [← H16.out, HN.out, if_neg (by rw [HL.out, HG.out, e1]; simp; omega)]; exact hidOf rfl
          clear e1
          go_enter Tryd.func56, Tryd.ntmps56
          go_wp2_with (go_at_call 66; refine C16.out.mono ?_; rintro e w' ⟨rfl, rfl⟩)
          go_ret2
          exact ⟨by rw [HF.out]; rfl, rfl⟩
      · have e1a : ((s[1].toNat : Int) == 120) = false := by
          simp only [beq_eq_false_iff_ne]
          intro h
          exact e1 (UInt8.toNat_inj.1 (by show s[1].toNat = 120; omega))
        have e1b : ((s[1].toNat : Int) != 120) = true := by rw [bne, e1a]; rfl
        have HF : Hid (numR s.toList = (0, false)) := by rw [HN.out, if_pos (.inl (by rw [HG.out]; simpa using e1))]; exact hidOf rfl
        clear e1
        go_enter Tryd.func56, Tryd.ntmps56
        go_wp2
        go_ret2
        exact ⟨by rw [HF.out]; rfl, rfl⟩
    · have e0' : ((s[0].toNat : Int) == 48) = false := by
        simp only [beq_eq_false_iff_ne]
        intro h
        exact e0 (UInt8.toNat_inj.1 (by show s[0].toNat = 48; omega))
      have HF : Hid (numR s.toList = (r1, r2)) := by rw [← H10.out]; unfold numR; rw [if_neg (fun h => by rw [g0] at h; exact e0 (Option.some.inj h.2))]; exact hidOf rfl
      clear e0 g0 g1 hl hne
      go_enter Tryd.func56, Tryd.ntmps56
      go_wp2_with (go_at_call 66; refine C10.out.mono ?_; rintro e w' ⟨rfl, rfl⟩)
      go_ret2
      exact ⟨by rw [HF.out]; rfl, rfl⟩
  · have h2I : ¬ (2 : Int) ≤ s.size := by omega
    have HF : Hid (numR s.toList = (r1, r2)) := by rw [← H10.out]; unfold numR; rw [if_neg (fun h => by omega)]; exact hidOf rfl
    clear hl hne h2
    go_enter Tryd.func56, Tryd.ntmps56
    go_wp2_with (go_at_call 66; refine C10.out.mono ?_; rintro e w' ⟨rfl, rfl⟩)
    go_ret2
    exact ⟨by rw [HF.out]; rfl, rfl⟩
end Go.Proofs.YtfhmhdhaibmcfaaDoor
