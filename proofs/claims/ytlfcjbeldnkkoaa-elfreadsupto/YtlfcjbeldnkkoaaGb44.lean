import Derived.Test.YtlfcjbeldnkkoaaGb43
namespace Go.Proofs.Ytlfcjbeldnkkoaa
open Go.RowKit
set_option linter.unusedVariables false
set_option linter.unusedSimpArgs false
def wrRes (row : Nat) (o : Option Nat) : Int := match o with
  | some a => (row : Int) + (a : Nat)
  | none => -1
theorem wrRes_some {row a : Nat} {o : Option Nat} (h : o = some a) : wrRes row o = (row : Int) + (a : Nat) := by rw [h]; rfl
theorem wrRes_none {row : Nat} {o : Option Nat} (h : o = none) : wrRes row o = -1 := by rw [h]; rfl
set_option maxRecDepth 20000 in
set_option maxHeartbeats 8000000 in
theorem wrong9_true (w : World) (bv : Value) (row T want : Nat) (kd fl li nf al ea sz z16 z24 : Int) (hrow : row ≤ 1000000000000) (hT : T ≤ 1000000000000) (hw : want ≤ T) (hs : sz ≤ 9223372036854775807)
    (K4 : Hid (Calls Try.prog 38 #[bv, .int .i64 ((row : Int) + 4), .int .i64 4] w fun e w' => e = .returned (.int .i64 kd) ∧ w' = w))
    (K8 : Hid (Calls Try.prog 38 #[bv, .int .i64 ((row : Int) + 8), .int .i64 8] w fun e w' => e = .returned (.int .i64 fl) ∧ w' = w))
    (K40 : Hid (Calls Try.prog 38 #[bv, .int .i64 ((row : Int) + 40), .int .i64 4] w fun e w' => e = .returned (.int .i64 li) ∧ w' = w))
    (K44 : Hid (Calls Try.prog 38 #[bv, .int .i64 ((row : Int) + 44), .int .i64 4] w fun e w' => e = .returned (.int .i64 nf) ∧ w' = w))
    (K48 : Hid (Calls Try.prog 38 #[bv, .int .i64 ((row : Int) + 48), .int .i64 8] w fun e w' => e = .returned (.int .i64 al) ∧ w' = w))
    (K56 : Hid (Calls Try.prog 38 #[bv, .int .i64 ((row : Int) + 56), .int .i64 8] w fun e w' => e = .returned (.int .i64 ea) ∧ w' = w))
    (K32 : Hid (Calls Try.prog 38 #[bv, .int .i64 ((row : Int) + 32), .int .i64 8] w fun e w' => e = .returned (.int .i64 sz) ∧ w' = w))
    (K16 : Hid (Calls Try.prog 38 #[bv, .int .i64 ((row : Int) + 16), .int .i64 8] w fun e w' => e = .returned (.int .i64 z16) ∧ w' = w))
    (K24 : Hid (Calls Try.prog 38 #[bv, .int .i64 ((row : Int) + 24), .int .i64 8] w fun e w' => e = .returned (.int .i64 z24) ∧ w' = w))
    : Calls Try.prog 62 #[bv, .int .i64 (row : Int), .int .i64 (want : Int), .int .i64 (T : Int), .bool true] w fun e w' => e = .returned (.int .i64 (wrRes row (wrF9 true T want kd fl li nf al ea sz z16 z24))) ∧ w' = w := by
  have hr0 : (0 : Int) ≤ row := by omega
  have hrI : (row : Int) ≤ 1000000000000 := by omega
  have hTI : (T : Int) ≤ 1000000000000 := by omega
  have hwI : (want : Int) ≤ T := by omega
  have hw0 : (0 : Int) ≤ want := by omega
  go_enter Try.func62, Try.ntmps62
  go_upto_region 3 with (first | (go_at_call 38; with_reducible refine K4.out.mono ?_; rintro e w5 ⟨rfl, hw⟩; have hw := hw.symm; subst hw) | (go_at_call 38; with_reducible refine K8.out.mono ?_; rintro e w5 ⟨rfl, hw⟩; have hw := hw.symm; subst hw) | (go_at_call 38; with_reducible refine K40.out.mono ?_; rintro e w5 ⟨rfl, hw⟩; have hw := hw.symm; subst hw) | (go_at_call 38; with_reducible refine K44.out.mono ?_; rintro e w5 ⟨rfl, hw⟩; have hw := hw.symm; subst hw) | (go_at_call 38; with_reducible refine K48.out.mono ?_; rintro e w5 ⟨rfl, hw⟩; have hw := hw.symm; subst hw) | (go_at_call 38; with_reducible refine K56.out.mono ?_; rintro e w5 ⟨rfl, hw⟩; have hw := hw.symm; subst hw) | (go_at_call 38; with_reducible refine K32.out.mono ?_; rintro e w5 ⟨rfl, hw⟩; have hw := hw.symm; subst hw))
  clear K4 K8 K40 K44 K48 K56 K32
  by_cases hkd : kd = 3
  · subst hkd
    by_cases hfln : fl < 0
    · skip
      have HF : Hid (wrF9 true T want 3 fl li nf al ea sz z16 z24 = some 8) := hidOf (by
        unfold wrF9
        simp only [true_and, Bool.false_eq_true, false_and, or_false, not_true_eq_false, if_false, Int.toNat_natCast]
        repeat (first | rw [if_pos (by omega)] | rw [if_neg (by omega)]))
      go_wp2_with (first | (go_at_call 38; with_reducible refine K16.out.mono ?_; rintro e w5 ⟨rfl, hw⟩; have hw := hw.symm; subst hw) | (go_at_call 38; with_reducible refine K24.out.mono ?_; rintro e w5 ⟨rfl, hw⟩; have hw := hw.symm; subst hw) | (go_at_call 63; with_reducible refine KU.out.mono ?_; rintro e w5 ⟨rfl, hw⟩; have hw := hw.symm; subst hw))
      go_ret
      exact ⟨(by rw [wrRes_some HF.out]; first | done | rfl), rfl⟩
    · skip
      by_cases hfl : fl = 0
      · subst hfl
        by_cases hz16 : z16 = 0
        · subst hz16
          by_cases hz24 : z24 = (want : Int)
          · subst hz24
            by_cases hszn : sz < 0
            · skip
              have HF : Hid (wrF9 true T want 3 0 li nf al ea sz 0 (want : Int) = some 32) := hidOf (by
                unfold wrF9
                simp only [true_and, Bool.false_eq_true, false_and, or_false, not_true_eq_false, if_false, Int.toNat_natCast]
                repeat (first | rw [if_pos (by omega)] | rw [if_neg (by omega)]))
              go_wp2_with (first | (go_at_call 38; with_reducible refine K16.out.mono ?_; rintro e w5 ⟨rfl, hw⟩; have hw := hw.symm; subst hw) | (go_at_call 38; with_reducible refine K24.out.mono ?_; rintro e w5 ⟨rfl, hw⟩; have hw := hw.symm; subst hw) | (go_at_call 63; with_reducible refine KU.out.mono ?_; rintro e w5 ⟨rfl, hw⟩; have hw := hw.symm; subst hw))
              go_ret
              exact ⟨(by rw [wrRes_some HF.out]; first | done | rfl), rfl⟩
            · obtain ⟨s, rfl⟩ : ∃ s : Nat, sz = (s : Int) := ⟨sz.toNat, by omega⟩
              clear hszn
              by_cases hszr : (T : Int) - want < (s : Int)
              · skip
                have HF : Hid (wrF9 true T want 3 0 li nf al ea (s : Int) 0 (want : Int) = some 32) := hidOf (by
                  unfold wrF9
                  simp only [true_and, Bool.false_eq_true, false_and, or_false, not_true_eq_false, if_false, Int.toNat_natCast]
                  repeat (first | rw [if_pos (by omega)] | rw [if_neg (by omega)]))
                go_wp2_with (first | (go_at_call 38; with_reducible refine K16.out.mono ?_; rintro e w5 ⟨rfl, hw⟩; have hw := hw.symm; subst hw) | (go_at_call 38; with_reducible refine K24.out.mono ?_; rintro e w5 ⟨rfl, hw⟩; have hw := hw.symm; subst hw) | (go_at_call 63; with_reducible refine KU.out.mono ?_; rintro e w5 ⟨rfl, hw⟩; have hw := hw.symm; subst hw))
                go_ret
                exact ⟨(by rw [wrRes_some HF.out]; first | done | rfl), rfl⟩
              · skip
                have KU : Hid (Calls Try.prog 63 #[.int .i64 ((want : Int) + (s : Int))] w fun e w' => e = .returned (.int .i64 (up8 (want + s) : Nat)) ∧ w' = w) := hidOf (by
                  have h := up9_any (want + s) (by omega) w
                  rw [Int.natCast_add] at h
                  exact h)
                by_cases hup : up8 (want + s) = T
                · have Hup : Hid ((up8 (want + s) : Int) = T) := hidOf (by omega)
                  rw [hup] at KU
                  by_cases hli : li = 0
                  · subst hli
                    by_cases hnf : nf = 0
                    · subst hnf
                      by_cases haln : al < 0
                      · skip
                        have HF : Hid (wrF9 true T want 3 0 0 0 al ea (s : Int) 0 (want : Int) = some 48) := hidOf (by
                          unfold wrF9
                          simp only [true_and, Bool.false_eq_true, false_and, or_false, not_true_eq_false, if_false, Int.toNat_natCast]
                          repeat (first | rw [if_pos (by omega)] | rw [if_neg (by omega)]))
                        clear hup
                        go_wp2_with (first | (go_at_call 38; with_reducible refine K16.out.mono ?_; rintro e w5 ⟨rfl, hw⟩; have hw := hw.symm; subst hw) | (go_at_call 38; with_reducible refine K24.out.mono ?_; rintro e w5 ⟨rfl, hw⟩; have hw := hw.symm; subst hw) | (go_at_call 63; with_reducible refine KU.out.mono ?_; rintro e w5 ⟨rfl, hw⟩; have hw := hw.symm; subst hw))
                        go_ret
                        exact ⟨(by rw [wrRes_some HF.out]; first | done | rfl), rfl⟩
                      · skip
                        by_cases hal : al = 1
                        · subst hal
                          by_cases hean : ea < 0
                          · skip
                            have HF : Hid (wrF9 true T want 3 0 0 0 1 ea (s : Int) 0 (want : Int) = some 56) := hidOf (by
                              unfold wrF9
                              simp only [true_and, Bool.false_eq_true, false_and, or_false, not_true_eq_false, if_false, Int.toNat_natCast]
                              repeat (first | rw [if_pos (by omega)] | rw [if_neg (by omega)]))
                            clear hup
                            go_wp2_with (first | (go_at_call 38; with_reducible refine K16.out.mono ?_; rintro e w5 ⟨rfl, hw⟩; have hw := hw.symm; subst hw) | (go_at_call 38; with_reducible refine K24.out.mono ?_; rintro e w5 ⟨rfl, hw⟩; have hw := hw.symm; subst hw) | (go_at_call 63; with_reducible refine KU.out.mono ?_; rintro e w5 ⟨rfl, hw⟩; have hw := hw.symm; subst hw))
                            go_ret
                            exact ⟨(by rw [wrRes_some HF.out]; first | done | rfl), rfl⟩
                          · skip
                            by_cases hea : ea = 0
                            · subst hea
                              have HF : Hid (wrF9 true T want 3 0 0 0 1 0 (s : Int) 0 (want : Int) = none) := hidOf (by
                                unfold wrF9
                                simp only [true_and, Bool.false_eq_true, false_and, or_false, not_true_eq_false, if_false, Int.toNat_natCast]
                                repeat (first | rw [if_pos (by omega)] | rw [if_neg (by omega)]))
                              clear hup
                              go_wp2_with (first | (go_at_call 38; with_reducible refine K16.out.mono ?_; rintro e w5 ⟨rfl, hw⟩; have hw := hw.symm; subst hw) | (go_at_call 38; with_reducible refine K24.out.mono ?_; rintro e w5 ⟨rfl, hw⟩; have hw := hw.symm; subst hw) | (go_at_call 63; with_reducible refine KU.out.mono ?_; rintro e w5 ⟨rfl, hw⟩; have hw := hw.symm; subst hw))
                              go_ret
                              exact ⟨(by rw [wrRes_none HF.out]; first | done | rfl), rfl⟩
                            · have heab : (ea != 0) = true := by rw [bne_iff_ne]; exact hea
                              have HF : Hid (wrF9 true T want 3 0 0 0 1 ea (s : Int) 0 (want : Int) = some 56) := hidOf (by
                                unfold wrF9
                                simp only [true_and, Bool.false_eq_true, false_and, or_false, not_true_eq_false, if_false, Int.toNat_natCast]
                                repeat (first | rw [if_pos (by omega)] | rw [if_neg (by omega)]))
                              clear hup hea
                              go_wp2_with (first | (go_at_call 38; with_reducible refine K16.out.mono ?_; rintro e w5 ⟨rfl, hw⟩; have hw := hw.symm; subst hw) | (go_at_call 38; with_reducible refine K24.out.mono ?_; rintro e w5 ⟨rfl, hw⟩; have hw := hw.symm; subst hw) | (go_at_call 63; with_reducible refine KU.out.mono ?_; rintro e w5 ⟨rfl, hw⟩; have hw := hw.symm; subst hw))
                              go_ret
                              exact ⟨(by rw [wrRes_some HF.out]; first | done | rfl), rfl⟩
                        · have halb : (al != 1) = true := by rw [bne_iff_ne]; exact hal
                          have HF : Hid (wrF9 true T want 3 0 0 0 al ea (s : Int) 0 (want : Int) = some 48) := hidOf (by
                            unfold wrF9
                            simp only [true_and, Bool.false_eq_true, false_and, or_false, not_true_eq_false, if_false, Int.toNat_natCast]
                            repeat (first | rw [if_pos (by omega)] | rw [if_neg (by omega)]))
                          clear hup hal
                          go_wp2_with (first | (go_at_call 38; with_reducible refine K16.out.mono ?_; rintro e w5 ⟨rfl, hw⟩; have hw := hw.symm; subst hw) | (go_at_call 38; with_reducible refine K24.out.mono ?_; rintro e w5 ⟨rfl, hw⟩; have hw := hw.symm; subst hw) | (go_at_call 63; with_reducible refine KU.out.mono ?_; rintro e w5 ⟨rfl, hw⟩; have hw := hw.symm; subst hw))
                          go_ret
                          exact ⟨(by rw [wrRes_some HF.out]; first | done | rfl), rfl⟩
                    · have hnfb : (nf != 0) = true := by rw [bne_iff_ne]; exact hnf
                      have HF : Hid (wrF9 true T want 3 0 0 nf al ea (s : Int) 0 (want : Int) = some 44) := hidOf (by
                        unfold wrF9
                        simp only [true_and, Bool.false_eq_true, false_and, or_false, not_true_eq_false, if_false, Int.toNat_natCast]
                        repeat (first | rw [if_pos (by omega)] | rw [if_neg (by omega)]))
                      clear hup hnf
                      go_wp2_with (first | (go_at_call 38; with_reducible refine K16.out.mono ?_; rintro e w5 ⟨rfl, hw⟩; have hw := hw.symm; subst hw) | (go_at_call 38; with_reducible refine K24.out.mono ?_; rintro e w5 ⟨rfl, hw⟩; have hw := hw.symm; subst hw) | (go_at_call 63; with_reducible refine KU.out.mono ?_; rintro e w5 ⟨rfl, hw⟩; have hw := hw.symm; subst hw))
                      go_ret
                      exact ⟨(by rw [wrRes_some HF.out]; first | done | rfl), rfl⟩
                  · have hlib : (li != 0) = true := by rw [bne_iff_ne]; exact hli
                    have HF : Hid (wrF9 true T want 3 0 li nf al ea (s : Int) 0 (want : Int) = some 40) := hidOf (by
                      unfold wrF9
                      simp only [true_and, Bool.false_eq_true, false_and, or_false, not_true_eq_false, if_false, Int.toNat_natCast]
                      repeat (first | rw [if_pos (by omega)] | rw [if_neg (by omega)]))
                    clear hup hli
                    go_wp2_with (first | (go_at_call 38; with_reducible refine K16.out.mono ?_; rintro e w5 ⟨rfl, hw⟩; have hw := hw.symm; subst hw) | (go_at_call 38; with_reducible refine K24.out.mono ?_; rintro e w5 ⟨rfl, hw⟩; have hw := hw.symm; subst hw) | (go_at_call 63; with_reducible refine KU.out.mono ?_; rintro e w5 ⟨rfl, hw⟩; have hw := hw.symm; subst hw))
                    go_ret
                    exact ⟨(by rw [wrRes_some HF.out]; first | done | rfl), rfl⟩
                · have hupb : (((up8 (want + s) : Nat) : Int) != (T : Int)) = true := by rw [bne_iff_ne]; omega
                  have HF : Hid (wrF9 true T want 3 0 li nf al ea (s : Int) 0 (want : Int) = some 32) := hidOf (by
                    unfold wrF9
                    simp only [true_and, Bool.false_eq_true, false_and, or_false, not_true_eq_false, if_false, Int.toNat_natCast]
                    repeat (first | rw [if_pos (by omega)] | rw [if_neg (by omega)]))
                  clear hup
                  go_wp2_with (first | (go_at_call 38; with_reducible refine K16.out.mono ?_; rintro e w5 ⟨rfl, hw⟩; have hw := hw.symm; subst hw) | (go_at_call 38; with_reducible refine K24.out.mono ?_; rintro e w5 ⟨rfl, hw⟩; have hw := hw.symm; subst hw) | (go_at_call 63; with_reducible refine KU.out.mono ?_; rintro e w5 ⟨rfl, hw⟩; have hw := hw.symm; subst hw))
                  go_ret
                  exact ⟨(by rw [wrRes_some HF.out]; first | done | rfl), rfl⟩
          · have hz24b : (z24 != (want : Int)) = true := by rw [bne_iff_ne]; exact hz24
            have HF : Hid (wrF9 true T want 3 0 li nf al ea sz 0 z24 = some 24) := hidOf (by
              unfold wrF9
              simp only [true_and, Bool.false_eq_true, false_and, or_false, not_true_eq_false, if_false, Int.toNat_natCast]
              repeat (first | rw [if_pos (by omega)] | rw [if_neg (by omega)]))
            clear hz24
            go_wp2_with (first | (go_at_call 38; with_reducible refine K16.out.mono ?_; rintro e w5 ⟨rfl, hw⟩; have hw := hw.symm; subst hw) | (go_at_call 38; with_reducible refine K24.out.mono ?_; rintro e w5 ⟨rfl, hw⟩; have hw := hw.symm; subst hw) | (go_at_call 63; with_reducible refine KU.out.mono ?_; rintro e w5 ⟨rfl, hw⟩; have hw := hw.symm; subst hw))
            go_ret
            exact ⟨(by rw [wrRes_some HF.out]; first | done | rfl), rfl⟩
        · have hz16b : (z16 != 0) = true := by rw [bne_iff_ne]; exact hz16
          have HF : Hid (wrF9 true T want 3 0 li nf al ea sz z16 z24 = some 16) := hidOf (by
            unfold wrF9
            simp only [true_and, Bool.false_eq_true, false_and, or_false, not_true_eq_false, if_false, Int.toNat_natCast]
            repeat (first | rw [if_pos (by omega)] | rw [if_neg (by omega)]))
          clear hz16
          go_wp2_with (first | (go_at_call 38; with_reducible refine K16.out.mono ?_; rintro e w5 ⟨rfl, hw⟩; have hw := hw.symm; subst hw) | (go_at_call 38; with_reducible refine K24.out.mono ?_; rintro e w5 ⟨rfl, hw⟩; have hw := hw.symm; subst hw) | (go_at_call 63; with_reducible refine KU.out.mono ?_; rintro e w5 ⟨rfl, hw⟩; have hw := hw.symm; subst hw))
          go_ret
          exact ⟨(by rw [wrRes_some HF.out]; first | done | rfl), rfl⟩
      · have hflb : (fl != 0) = true := by rw [bne_iff_ne]; exact hfl
        have HF : Hid (wrF9 true T want 3 fl li nf al ea sz z16 z24 = some 8) := hidOf (by
          unfold wrF9
          simp only [true_and, Bool.false_eq_true, false_and, or_false, not_true_eq_false, if_false, Int.toNat_natCast]
          repeat (first | rw [if_pos (by omega)] | rw [if_neg (by omega)]))
        clear hfl
        go_wp2_with (first | (go_at_call 38; with_reducible refine K16.out.mono ?_; rintro e w5 ⟨rfl, hw⟩; have hw := hw.symm; subst hw) | (go_at_call 38; with_reducible refine K24.out.mono ?_; rintro e w5 ⟨rfl, hw⟩; have hw := hw.symm; subst hw) | (go_at_call 63; with_reducible refine KU.out.mono ?_; rintro e w5 ⟨rfl, hw⟩; have hw := hw.symm; subst hw))
        go_ret
        exact ⟨(by rw [wrRes_some HF.out]; first | done | rfl), rfl⟩
  · have hkdb : (kd != 3) = true := by rw [bne_iff_ne]; exact hkd
    have HF : Hid (wrF9 true T want kd fl li nf al ea sz z16 z24 = some 4) := hidOf (by
      unfold wrF9
      simp only [true_and, Bool.false_eq_true, false_and, or_false, not_true_eq_false, if_false, Int.toNat_natCast]
      repeat (first | rw [if_pos (by omega)] | rw [if_neg (by omega)]))
    clear hkd
    go_wp2_with (first | (go_at_call 38; with_reducible refine K16.out.mono ?_; rintro e w5 ⟨rfl, hw⟩; have hw := hw.symm; subst hw) | (go_at_call 38; with_reducible refine K24.out.mono ?_; rintro e w5 ⟨rfl, hw⟩; have hw := hw.symm; subst hw) | (go_at_call 63; with_reducible refine KU.out.mono ?_; rintro e w5 ⟨rfl, hw⟩; have hw := hw.symm; subst hw))
    go_ret
    exact ⟨(by rw [wrRes_some HF.out]; first | done | rfl), rfl⟩
set_option maxRecDepth 20000 in
set_option maxHeartbeats 8000000 in
theorem wrong9_false (w : World) (bv : Value) (row T want : Nat) (kd fl li nf al ea sz z16 z24 : Int) (hrow : row ≤ 1000000000000) (hT : T ≤ 1000000000000) (hw : want ≤ T) (hs : sz ≤ 9223372036854775807)
    (K4 : Hid (Calls Try.prog 38 #[bv, .int .i64 ((row : Int) + 4), .int .i64 4] w fun e w' => e = .returned (.int .i64 kd) ∧ w' = w))
    (K8 : Hid (Calls Try.prog 38 #[bv, .int .i64 ((row : Int) + 8), .int .i64 8] w fun e w' => e = .returned (.int .i64 fl) ∧ w' = w))
    (K40 : Hid (Calls Try.prog 38 #[bv, .int .i64 ((row : Int) + 40), .int .i64 4] w fun e w' => e = .returned (.int .i64 li) ∧ w' = w))
    (K44 : Hid (Calls Try.prog 38 #[bv, .int .i64 ((row : Int) + 44), .int .i64 4] w fun e w' => e = .returned (.int .i64 nf) ∧ w' = w))
    (K48 : Hid (Calls Try.prog 38 #[bv, .int .i64 ((row : Int) + 48), .int .i64 8] w fun e w' => e = .returned (.int .i64 al) ∧ w' = w))
    (K56 : Hid (Calls Try.prog 38 #[bv, .int .i64 ((row : Int) + 56), .int .i64 8] w fun e w' => e = .returned (.int .i64 ea) ∧ w' = w))
    (K32 : Hid (Calls Try.prog 38 #[bv, .int .i64 ((row : Int) + 32), .int .i64 8] w fun e w' => e = .returned (.int .i64 sz) ∧ w' = w))
    (K16 : Hid (Calls Try.prog 38 #[bv, .int .i64 ((row : Int) + 16), .int .i64 8] w fun e w' => e = .returned (.int .i64 z16) ∧ w' = w))
    (K24 : Hid (Calls Try.prog 38 #[bv, .int .i64 ((row : Int) + 24), .int .i64 8] w fun e w' => e = .returned (.int .i64 z24) ∧ w' = w))
    : Calls Try.prog 62 #[bv, .int .i64 (row : Int), .int .i64 (want : Int), .int .i64 (T : Int), .bool false] w fun e w' => e = .returned (.int .i64 (wrRes row (wrF9 false T want kd fl li nf al ea sz z16 z24))) ∧ w' = w := by
  have hr0 : (0 : Int) ≤ row := by omega
  have hrI : (row : Int) ≤ 1000000000000 := by omega
  have hTI : (T : Int) ≤ 1000000000000 := by omega
  have hwI : (want : Int) ≤ T := by omega
  have hw0 : (0 : Int) ≤ want := by omega
  go_enter Try.func62, Try.ntmps62
  go_upto_region 3 with (first | (go_at_call 38; with_reducible refine K4.out.mono ?_; rintro e w5 ⟨rfl, hw⟩; have hw := hw.symm; subst hw) | (go_at_call 38; with_reducible refine K8.out.mono ?_; rintro e w5 ⟨rfl, hw⟩; have hw := hw.symm; subst hw) | (go_at_call 38; with_reducible refine K40.out.mono ?_; rintro e w5 ⟨rfl, hw⟩; have hw := hw.symm; subst hw) | (go_at_call 38; with_reducible refine K44.out.mono ?_; rintro e w5 ⟨rfl, hw⟩; have hw := hw.symm; subst hw) | (go_at_call 38; with_reducible refine K48.out.mono ?_; rintro e w5 ⟨rfl, hw⟩; have hw := hw.symm; subst hw) | (go_at_call 38; with_reducible refine K56.out.mono ?_; rintro e w5 ⟨rfl, hw⟩; have hw := hw.symm; subst hw) | (go_at_call 38; with_reducible refine K32.out.mono ?_; rintro e w5 ⟨rfl, hw⟩; have hw := hw.symm; subst hw))
  clear K4 K8 K40 K44 K48 K56 K32
  by_cases hfln : fl < 0
  · skip
    have HF : Hid (wrF9 false T want kd fl li nf al ea sz z16 z24 = some 8) := hidOf (by
      unfold wrF9
      simp only [true_and, Bool.false_eq_true, false_and, or_false, not_true_eq_false, if_false, Int.toNat_natCast]
      repeat (first | rw [if_pos (by omega)] | rw [if_neg (by omega)]))
    go_wp2_with (first | (go_at_call 38; with_reducible refine K16.out.mono ?_; rintro e w5 ⟨rfl, hw⟩; have hw := hw.symm; subst hw) | (go_at_call 38; with_reducible refine K24.out.mono ?_; rintro e w5 ⟨rfl, hw⟩; have hw := hw.symm; subst hw) | (go_at_call 63; with_reducible refine KU.out.mono ?_; rintro e w5 ⟨rfl, hw⟩; have hw := hw.symm; subst hw))
    go_ret
    exact ⟨(by rw [wrRes_some HF.out]; first | done | rfl), rfl⟩
  · skip
    by_cases hz16 : z16 = 0
    · subst hz16
      by_cases hz24 : z24 = (want : Int)
      · subst hz24
        by_cases hszn : sz < 0
        · skip
          have HF : Hid (wrF9 false T want kd fl li nf al ea sz 0 (want : Int) = some 32) := hidOf (by
            unfold wrF9
            simp only [true_and, Bool.false_eq_true, false_and, or_false, not_true_eq_false, if_false, Int.toNat_natCast]
            repeat (first | rw [if_pos (by omega)] | rw [if_neg (by omega)]))
          go_wp2_with (first | (go_at_call 38; with_reducible refine K16.out.mono ?_; rintro e w5 ⟨rfl, hw⟩; have hw := hw.symm; subst hw) | (go_at_call 38; with_reducible refine K24.out.mono ?_; rintro e w5 ⟨rfl, hw⟩; have hw := hw.symm; subst hw) | (go_at_call 63; with_reducible refine KU.out.mono ?_; rintro e w5 ⟨rfl, hw⟩; have hw := hw.symm; subst hw))
          go_ret
          exact ⟨(by rw [wrRes_some HF.out]; first | done | rfl), rfl⟩
        · obtain ⟨s, rfl⟩ : ∃ s : Nat, sz = (s : Int) := ⟨sz.toNat, by omega⟩
          clear hszn
          by_cases hszr : (T : Int) - want < (s : Int)
          · skip
            have HF : Hid (wrF9 false T want kd fl li nf al ea (s : Int) 0 (want : Int) = some 32) := hidOf (by
              unfold wrF9
              simp only [true_and, Bool.false_eq_true, false_and, or_false, not_true_eq_false, if_false, Int.toNat_natCast]
              repeat (first | rw [if_pos (by omega)] | rw [if_neg (by omega)]))
            go_wp2_with (first | (go_at_call 38; with_reducible refine K16.out.mono ?_; rintro e w5 ⟨rfl, hw⟩; have hw := hw.symm; subst hw) | (go_at_call 38; with_reducible refine K24.out.mono ?_; rintro e w5 ⟨rfl, hw⟩; have hw := hw.symm; subst hw) | (go_at_call 63; with_reducible refine KU.out.mono ?_; rintro e w5 ⟨rfl, hw⟩; have hw := hw.symm; subst hw))
            go_ret
            exact ⟨(by rw [wrRes_some HF.out]; first | done | rfl), rfl⟩
          · skip
            by_cases haln : al < 0
            · skip
              have HF : Hid (wrF9 false T want kd fl li nf al ea (s : Int) 0 (want : Int) = some 48) := hidOf (by
                unfold wrF9
                simp only [true_and, Bool.false_eq_true, false_and, or_false, not_true_eq_false, if_false, Int.toNat_natCast]
                repeat (first | rw [if_pos (by omega)] | rw [if_neg (by omega)]))
              go_wp2_with (first | (go_at_call 38; with_reducible refine K16.out.mono ?_; rintro e w5 ⟨rfl, hw⟩; have hw := hw.symm; subst hw) | (go_at_call 38; with_reducible refine K24.out.mono ?_; rintro e w5 ⟨rfl, hw⟩; have hw := hw.symm; subst hw) | (go_at_call 63; with_reducible refine KU.out.mono ?_; rintro e w5 ⟨rfl, hw⟩; have hw := hw.symm; subst hw))
              go_ret
              exact ⟨(by rw [wrRes_some HF.out]; first | done | rfl), rfl⟩
            · skip
              by_cases hean : ea < 0
              · skip
                have HF : Hid (wrF9 false T want kd fl li nf al ea (s : Int) 0 (want : Int) = some 56) := hidOf (by
                  unfold wrF9
                  simp only [true_and, Bool.false_eq_true, false_and, or_false, not_true_eq_false, if_false, Int.toNat_natCast]
                  repeat (first | rw [if_pos (by omega)] | rw [if_neg (by omega)]))
                go_wp2_with (first | (go_at_call 38; with_reducible refine K16.out.mono ?_; rintro e w5 ⟨rfl, hw⟩; have hw := hw.symm; subst hw) | (go_at_call 38; with_reducible refine K24.out.mono ?_; rintro e w5 ⟨rfl, hw⟩; have hw := hw.symm; subst hw) | (go_at_call 63; with_reducible refine KU.out.mono ?_; rintro e w5 ⟨rfl, hw⟩; have hw := hw.symm; subst hw))
                go_ret
                exact ⟨(by rw [wrRes_some HF.out]; first | done | rfl), rfl⟩
              · skip
                have HF : Hid (wrF9 false T want kd fl li nf al ea (s : Int) 0 (want : Int) = none) := hidOf (by
                  unfold wrF9
                  simp only [true_and, Bool.false_eq_true, false_and, or_false, not_true_eq_false, if_false, Int.toNat_natCast]
                  repeat (first | rw [if_pos (by omega)] | rw [if_neg (by omega)]))
                go_wp2_with (first | (go_at_call 38; with_reducible refine K16.out.mono ?_; rintro e w5 ⟨rfl, hw⟩; have hw := hw.symm; subst hw) | (go_at_call 38; with_reducible refine K24.out.mono ?_; rintro e w5 ⟨rfl, hw⟩; have hw := hw.symm; subst hw) | (go_at_call 63; with_reducible refine KU.out.mono ?_; rintro e w5 ⟨rfl, hw⟩; have hw := hw.symm; subst hw))
                go_ret
                exact ⟨(by rw [wrRes_none HF.out]; first | done | rfl), rfl⟩
      · have hz24b : (z24 != (want : Int)) = true := by rw [bne_iff_ne]; exact hz24
        have HF : Hid (wrF9 false T want kd fl li nf al ea sz 0 z24 = some 24) := hidOf (by
          unfold wrF9
          simp only [true_and, Bool.false_eq_true, false_and, or_false, not_true_eq_false, if_false, Int.toNat_natCast]
          repeat (first | rw [if_pos (by omega)] | rw [if_neg (by omega)]))
        clear hz24
        go_wp2_with (first | (go_at_call 38; with_reducible refine K16.out.mono ?_; rintro e w5 ⟨rfl, hw⟩; have hw := hw.symm; subst hw) | (go_at_call 38; with_reducible refine K24.out.mono ?_; rintro e w5 ⟨rfl, hw⟩; have hw := hw.symm; subst hw) | (go_at_call 63; with_reducible refine KU.out.mono ?_; rintro e w5 ⟨rfl, hw⟩; have hw := hw.symm; subst hw))
        go_ret
        exact ⟨(by rw [wrRes_some HF.out]; first | done | rfl), rfl⟩
    · have hz16b : (z16 != 0) = true := by rw [bne_iff_ne]; exact hz16
      have HF : Hid (wrF9 false T want kd fl li nf al ea sz z16 z24 = some 16) := hidOf (by
        unfold wrF9
        simp only [true_and, Bool.false_eq_true, false_and, or_false, not_true_eq_false, if_false, Int.toNat_natCast]
        repeat (first | rw [if_pos (by omega)] | rw [if_neg (by omega)]))
      clear hz16
      go_wp2_with (first | (go_at_call 38; with_reducible refine K16.out.mono ?_; rintro e w5 ⟨rfl, hw⟩; have hw := hw.symm; subst hw) | (go_at_call 38; with_reducible refine K24.out.mono ?_; rintro e w5 ⟨rfl, hw⟩; have hw := hw.symm; subst hw) | (go_at_call 63; with_reducible refine KU.out.mono ?_; rintro e w5 ⟨rfl, hw⟩; have hw := hw.symm; subst hw))
      go_ret
      exact ⟨(by rw [wrRes_some HF.out]; first | done | rfl), rfl⟩
end Go.Proofs.Ytlfcjbeldnkkoaa
