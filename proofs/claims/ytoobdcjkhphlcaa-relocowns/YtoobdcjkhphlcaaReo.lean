import Derived.Test.YtoobdcjkhphlcaaRen
namespace Go.Proofs.Ytoobdcjkhphlcaa
open Go.RowKit
set_option linter.unusedVariables false
set_option linter.unusedSimpArgs false
theorem laid_at (w : World) (n wd : Nat) (hw : wd ≤ 8) (h0 : 0 < wd) (hn : n ≤ 9223372036854775807) :
    Calls Try.prog 29 #[.int .i64 (n : Int), .int .i64 (wd : Int)] w fun e w' => ∃ g c, e = .returned (.slice (some ⟨g, 0, none⟩) wd c) ∧ (∀ j u, (Lib.byteCells (leB n wd))[j]? = some u → w'.cell? ((⟨g, 0, none⟩ : Addr).add j) = some u) ∧ Out w w' := by
  refine (laid_any w n wd hw hn).mono ?_
  rintro e w' ⟨a, c, rfl, ho, hO⟩
  have hl := leB_len wd n
  unfold OwB at ho
  rw [hl] at ho
  obtain ⟨g, c', hv⟩ := own_some ho h0
  injection hv with q1 q2 q3
  subst q1 q3
  refine ⟨g, c, rfl, fun j u hu => ?_, hO⟩
  obtain ⟨g2, cap, hv2, _, hc⟩ := own_cell ho hu
  injection hv2 with q1
  obtain rfl : g = g2 := by simpa using q1
  have e : (⟨g, 0, none⟩ : Addr).add j = ⟨g, j, none⟩ := by unfold Addr.add; split <;> simp_all
  rw [e]
  exact hc
/-- the slot of the one ahead -/
def prevSl (L : List Rl) (i : Nat) : Int := if i = 0 then -1 else ((L[i - 1]?).map Rl.sl).getD 0
set_option maxRecDepth 8000 in
set_option maxHeartbeats 2000000 in
theorem refWrite_any (w : World) (a : Option Addr) (c : Nat) (L : List Rl) (h : RlAt w.heap.size w a L) (hc : L.length ≤ c) (hl : L.length ≤ 140737488355328) : Calls Try.prog 12 #[.slice a L.length c] w fun e w' => WrE w (wrP L) e w' := by
  have HL := hidOf h
  have hlI : (L.length : Int) ≤ 140737488355328 := by omega
  have hcI : (L.length : Int) ≤ c := by omega
  obtain ⟨O0, hO0⟩ : ∃ O, O = wrP L := ⟨_, rfl⟩
  rw [← hO0]
  have H0 : Hid (O0 = wrF (-1) L []) := hidOf hO0
  clear h hO0
  go_enter Try.func12, Try.ntmps12
  go_wp2
  obtain ⟨i0, hi0, hz0, hz1, hz2⟩ := info_parts infoB
  have CM := hidOf refMay_any
  go_loopw [5, 4] (fun iv bv wr => ∃ (i : Nat) (P : List UInt8) (a1 : Option Addr) (c1 : Nat), iv = .int .i64 i ∧ bv = .slice a1 P.length c1 ∧ i ≤ L.length ∧ Hid (O0 = wrF (prevSl L i) (L.drop i) P) ∧ Hid (P.length = 16 * i ∧ (i : Int) ≤ prevSl L i + 1 ∧ prevSl L i < 65536) ∧ Hid (OwB w.heap.size (.slice a1 P.length c1) P wr) ∧ Hid (Out w wr)) (fun iv _ _ => L.length - (intOf iv).toNat)
  case atStart => exact ⟨0, [], none, 0, rfl, rfl, by omega, H0.out, ⟨by simp, by simp [prevSl], by simp [prevSl]⟩, hidOf ⟨rfl, .inl ⟨rfl, rfl⟩⟩, hidOf (Out.refl _)⟩
  case round =>
    obtain ⟨i, P, a1, c1, rfl, rfl, hi, HO, HPl, HW, HOu⟩ := hrel
    by_cases hiL : i < L.length
    · have hlt : (i : Int) < L.length := by omega
      have h0 : (0 : Int) ≤ i := by omega
      obtain ⟨x, hx⟩ : ∃ x, L[i]? = some x := ⟨_, List.getElem?_eq_getElem hiL⟩
      obtain ⟨g, off, rfl, hg, h6⟩ := HL.out.get hx
      obtain ⟨x0, x1, x2⟩ := h6.later HOu.out
      have Hst := hidOf (wrF_step (ah := prevSl L i) (b := P) hx)
      have Hnx : Hid (prevSl L (i + 1) = x.sl) := hidOf (by simp [prevSl, hx])
      obtain ⟨sl, ki, sy⟩ := x
      simp only at x0 x1 x2 Hnx
      have HX : Hid (∀ wx, Out w wx → wx.cell? ⟨g, off + i * 3, none⟩ = some (.int .i64 sl) ∧ wx.cell? ⟨g, off + i * 3 + 1, none⟩ = some (.int .i64 ki) ∧ wx.cell? ⟨g, off + i * 3 + 2, none⟩ = some (.int .i64 sy)) := fun wx o => ⟨(h6.later o).c0, (h6.later o).c1, (h6.later o).c2⟩
      have CS := hidOf (fun wx => CM.out sl ki sy wx)
      have Hx := hidOf hx
      clear hx h6
      obtain ⟨ty, hty⟩ : ∃ ty, ty = mayP ⟨sl, ki, sy⟩ := ⟨_, rfl⟩
      rw [← hty] at CS Hst
      by_cases hs0 : ty = 0
      · subst hs0
        rw [if_pos rfl] at Hst
        have hdec : decide (0 < 0) = false := rfl
        rw [hdec] at CS
        clear hty
        go_wp2_with (first | (go_at_call 28; refine (CS.out _).mono ?_; rintro e w2 ⟨rfl, hO⟩; have HO2 := hidOf (HOu.out.trans hO); clear hO))
        go_ret2
        rw [HO.out, Hst.out]
        exact ⟨HO2.out, rfl⟩
      · have hpos : 0 < ty := by omega
        rw [if_neg hs0] at Hst
        obtain ⟨f1, f2, f3, f4, f5, f6⟩ := may_facts (s := ⟨sl, ki, sy⟩) (by rw [← hty]; exact hpos)
        simp only at f1 f2 f3 f4 f5 f6 Hst
        rw [← hty] at f6 f5
        rw [decide_eq_true hpos] at CS
        go_upto_region 8 with (first | (go_at_call 28; refine (CS.out _).mono ?_; rintro e w2 ⟨rfl, hO⟩; have HO2 := hidOf (HOu.out.trans hO); have HW2 := hidOf (HW.out.out hO); clear hO))
        clear x0 x1 x2 HW HOu
        by_cases hi0' : i = 0
        · have hp0 : prevSl L i = -1 := by rw [hi0']; rfl
          rw [hp0] at Hst HO HPl
          rw [if_neg (by omega)] at Hst
          have hiS : (i : Int) ≤ sl := by omega
          have hx0 : True := trivial
          have hgt : decide ((0 : Int) < i) = false := by simp; omega
          go_quiet (fail)
          obtain ⟨wq, hwq⟩ : ∃ wq, wq = w2.drewN nq := ⟨_, rfl⟩
          rw [← hwq]
          have HO2d : Hid (Out w wq) := hidOf (by rw [hwq]; exact HO2.out.drewN _)
          have HW2d : Hid (OwB w.heap.size (.slice a1 P.length c1) P wq) := hidOf (by rw [hwq]; exact HW2.out.out ((Out.refl w2).drewN _))
          clear hwq HO2 HW2
          clear hgt hi0' hp0
          obtain ⟨x0, x1, x2⟩ := HX.out _ HO2d.out
          obtain ⟨s1, rfl⟩ : ∃ s1 : Nat, sl = s1 := ⟨sl.toNat, by omega⟩
          obtain ⟨y1, rfl⟩ : ∃ y1 : Nat, sy = y1 := ⟨sy.toNat, by omega⟩
          obtain ⟨P1, hP1⟩ : ∃ P1, P1 = P ++ leB (8 * s1) 8 := ⟨_, rfl⟩
          obtain ⟨P2, hP2⟩ : ∃ P2, P2 = P1 ++ leB ty 4 := ⟨_, rfl⟩
          obtain ⟨P3, hP3⟩ : ∃ P3, P3 = P2 ++ leB y1 4 := ⟨_, rfl⟩
          have HP1 := hidOf hP1
          have HP2 := hidOf hP2
          have HP3 := hidOf hP3
          obtain ⟨p1, p2, p3⟩ := HPl.out
          have l1 : P1.length = P.length + 8 := by rw [hP1, List.length_append, leB_len]
          have l2 : P2.length = P1.length + 4 := by rw [hP2, List.length_append, leB_len]
          have l3 : P3.length = P2.length + 4 := by rw [hP3, List.length_append, leB_len]
          have hPe : P ++ enR ⟨s1, ki, y1⟩ ty = P3 := by
            rw [hP3, hP2, hP1, enR]
            have : ((8 : Int) * (s1 : Int)).toNat = 8 * s1 := by omega
            simp only [this, Int.toNat_natCast, List.append_assoc]
          rw [hPe] at Hst
          have HPn : Hid (P3.length = 16 * (i + 1) ∧ ((i + 1 : Nat) : Int) ≤ prevSl L (i + 1) + 1 ∧ prevSl L (i + 1) < 65536) := hidOf ⟨by omega, by rw [Hnx.out]; omega, by rw [Hnx.out]; omega⟩
          have C8 : Hid (∀ wx, Calls Try.prog 29 #[.int .i64 (8 * (s1 : Int)), .int .i64 8] wx fun e w' => ∃ g c, e = .returned (.slice (some ⟨g, 0, none⟩) 8 c) ∧ (∀ j u, (Lib.byteCells (leB (8 * s1) 8))[j]? = some u → w'.cell? ((⟨g, 0, none⟩ : Addr).add j) = some u) ∧ Out wx w') := fun wx => by have := laid_at wx (8 * s1) 8 (by omega) (by omega) (by omega); simpa using this
          have CT4 : Hid (∀ wx, Calls Try.prog 29 #[.int .i64 (ty : Int), .int .i64 4] wx fun e w' => ∃ g c, e = .returned (.slice (some ⟨g, 0, none⟩) 4 c) ∧ (∀ j u, (Lib.byteCells (leB ty 4))[j]? = some u → w'.cell? ((⟨g, 0, none⟩ : Addr).add j) = some u) ∧ Out wx w') := fun wx => laid_at wx ty 4 (by omega) (by omega) (by omega)
          have CY4 : Hid (∀ wx, Calls Try.prog 29 #[.int .i64 (y1 : Int), .int .i64 4] wx fun e w' => ∃ g c, e = .returned (.slice (some ⟨g, 0, none⟩) 4 c) ∧ (∀ j u, (Lib.byteCells (leB y1 4))[j]? = some u → w'.cell? ((⟨g, 0, none⟩ : Addr).add j) = some u) ∧ Out wx w') := fun wx => laid_at wx y1 4 (by omega) (by omega) (by omega)
          have HPL : Hid (P.length ≤ 1048576 ∧ P1.length ≤ 2000000 ∧ P2.length ≤ 2000000) := hidOf (by omega)
          have L1 := hidOf l1
          have L2 := hidOf l2
          have L3 := hidOf l3
          have hs1I : (s1 : Int) < 65536 := by omega
          have hkt : (ki = 1 ∧ ty = 1) ∨ (ki = 2 ∧ ty = 10) := by
            rw [f5] at hpos
            rw [f5]
            unfold tyP at hpos ⊢
            split at hpos
            · rename_i hk; exact .inl ⟨hk, by simp [hk]⟩
            · split at hpos
              · rename_i hk1 hk; exact .inr ⟨hk, by simp [hk]⟩
              · omega
          clear hiS l1 l2 l3 hP1 hP2 hP3 hPe hty hs0 hpos f1 f2 f3 f4 f5 f6 p1 p2 p3 CM CS hx0
          rcases hkt with ⟨rfl, rfl⟩ | ⟨rfl, rfl⟩
          all_goals
            go_upto_region 14 with (first | (go_at_call 29; refine (C8.out _).mono ?_; rintro e w3 ⟨g3, c3, rfl, hcell, hO⟩; have K3 := hidOf hcell; have HW3 := hidOf (HW2d.out.out hO); have HO3 := hidOf (HO2d.out.trans hO); clear hcell hO) | (at_builtin; refine wpList_append_own _ rfl (.tmp 43) (.tmp 50) 30 rfl w.heap.size 5 i0 _ 1 1 Try.underlying30 hi0 hz0 hz1 hz2 rfl (by decide) (.slice a1 P.length c1) P.length (Lib.byteCells P) rfl HW3.out ⟨g3, 0, none⟩ 8 c3 (Lib.byteCells (leB (8 * s1) 8)) rfl (by simp [Lib.byteCells, leB_len]) K3.out (bc_one _) (by have := HPL.out; unfold maxLen; omega) (by have := HPL.out; omega) HO3.out.size ?_; intro v4 w4 hown4 hgrow4 _; have HO4 := hidOf (out_row HO3.out HW3.out hgrow4); obtain ⟨a4, c4, rfl⟩ := own_form hown4; have HW4 : Hid (OwB w.heap.size (.slice a4 (P.length + 8) c4) P1 w4) := hidOf (by unfold OwB; rw [HP1.out, bc_app, List.length_append, leB_len]; exact hown4); clear hgrow4 hown4))
            clear x0 x1 x2
            rw [← L1.out] at HW4
            rw [← L1.out]
            go_upto_region 15 with (first | (go_at_call 29; refine (CT4.out _).mono ?_; rintro e w5 ⟨g5, c5, rfl, hcell, hO⟩; have K5 := hidOf hcell; have HW5 := hidOf (HW4.out.out hO); have HO5 := hidOf (HO4.out.trans hO); clear hcell hO) | (at_builtin; refine wpList_append_own _ rfl (.tmp 52) (.tmp 54) 30 rfl w.heap.size 5 i0 _ 1 1 Try.underlying30 hi0 hz0 hz1 hz2 rfl (by decide) (.slice a4 P1.length c4) P1.length (Lib.byteCells P1) rfl HW5.out ⟨g5, 0, none⟩ 4 c5 (Lib.byteCells (leB _ 4)) rfl (by simp [Lib.byteCells, leB_len]) K5.out (bc_one _) (by have := HPL.out; unfold maxLen; omega) (by have := HPL.out; omega) HO5.out.size ?_; intro v6 w6 hown4 hgrow4 _; have HO6 := hidOf (out_row HO5.out HW5.out hgrow4); obtain ⟨a6, c6, rfl⟩ := own_form hown4; have HW6 : Hid (OwB w.heap.size (.slice a6 (P1.length + 4) c6) P2 w6) := hidOf (by unfold OwB; rw [HP2.out, bc_app, List.length_append, leB_len]; exact hown4); clear hgrow4 hown4))
            rw [← L2.out] at HW6
            rw [← L2.out]
            obtain ⟨x0, x1, x2⟩ := HX.out _ HO6.out
            go_wp2_with (first | (go_at_call 29; refine (CY4.out _).mono ?_; rintro e w7 ⟨g7, c7, rfl, hcell, hO⟩; have K7 := hidOf hcell; have HW7 := hidOf (HW6.out.out hO); have HO7 := hidOf (HO6.out.trans hO); clear hcell hO) | (at_builtin; refine wpList_append_own _ rfl (.tmp 56) (.tmp 62) 30 rfl w.heap.size 5 i0 _ 1 1 Try.underlying30 hi0 hz0 hz1 hz2 rfl (by decide) (.slice a6 P2.length c6) P2.length (Lib.byteCells P2) rfl HW7.out ⟨g7, 0, none⟩ 4 c7 (Lib.byteCells (leB y1 4)) rfl (by simp [Lib.byteCells, leB_len]) K7.out (bc_one _) (by have := HPL.out; unfold maxLen; omega) (by have := HPL.out; omega) HO7.out.size ?_; intro v8 w8 hown4 hgrow4 _; have HO8 := hidOf (out_row HO7.out HW7.out hgrow4); obtain ⟨a8, c8, rfl⟩ := own_form hown4; have HW8 : Hid (OwB w.heap.size (.slice a8 (P2.length + 4) c8) P3 w8) := hidOf (by unfold OwB; rw [HP3.out, bc_app, List.length_append, leB_len]; exact hown4); clear hgrow4 hown4))
            rw [← L3.out] at HW8
            rw [← L3.out]
            exact ⟨⟨i + 1, P3, a8, c8, by simp, rfl, by omega, by show _ = _; rw [HO.out, Hst.out, Hnx.out], HPn.out, HW8.out, HO8.out⟩, by simp [intOf]; omega⟩
        · obtain ⟨j, hj⟩ : ∃ j, i = j + 1 := ⟨i - 1, by omega⟩
          obtain ⟨y, hy⟩ : ∃ y, L[j]? = some y := ⟨_, List.getElem?_eq_getElem (by omega)⟩
          have hpy : prevSl L i = y.sl := by rw [hj]; simp [prevSl, hy]
          obtain ⟨g2, off2, he2, hg2, hY6⟩ := HL.out.get hy
          obtain ⟨rfl, rfl⟩ : g = g2 ∧ off = off2 := by simpa using he2
          have HY : Hid (∀ wx, Out w wx → wx.cell? ⟨g, off + j * 3, none⟩ = some (.int .i64 y.sl)) := fun wx o => (hY6.later o).c0
          generalize y.sl = ys at *
          rw [hpy] at Hst HO HPl
          have hji : (i : Int) - 1 = j := by omega
          have hj0 : (0 : Int) ≤ j := by omega
          have hjl : (j : Int) < L.length := by omega
          have hgt : decide ((0 : Int) < i) = true := by simp; omega
          have hgN : decide (0 < i) = true := by simp; omega
          have x0 := (HX.out _ HO2.out).1
          have hx0 := HY.out _ HO2.out
          clear hY6 hy he2 hi0' hpy
          have HKS : Hid (∀ wx, Out w wx → wx.cell? ⟨g, off + i * 3, none⟩ = some (.int .i64 sl) ∧ wx.cell? ⟨g, off + j * 3, none⟩ = some (.int .i64 ys)) := fun wx o => ⟨(HX.out _ o).1, HY.out _ o⟩
          by_cases hle : sl ≤ ys
          · rw [if_pos hle] at Hst
            clear f1 f2 f3 f4 f5 f6 hty hs0 hpos hj
            go_quiet (fail)
            obtain ⟨wq, hwq⟩ : ∃ wq, wq = w2.drewN nq := ⟨_, rfl⟩
            rw [← hwq]
            have HO2d : Hid (Out w wq) := hidOf (by rw [hwq]; exact HO2.out.drewN _)
            have HW2d : Hid (OwB w.heap.size (.slice a1 P.length c1) P wq) := hidOf (by rw [hwq]; exact HW2.out.out ((Out.refl w2).drewN _))
            clear hwq HO2 HW2
            all_goals
              go_wp2
              go_ret2
              rw [HO.out, Hst.out]
              exact ⟨HO2d.out, rfl⟩
          · rw [if_neg hle] at Hst
            have hleB : decide (sl ≤ ys) = false := decide_eq_false hle
            have hiS : (i : Int) ≤ sl := by have := HPl.out; omega
            have hPlx : True := trivial
            clear hj
            go_quiet (fail)
            obtain ⟨wq, hwq⟩ : ∃ wq, wq = w2.drewN nq := ⟨_, rfl⟩
            rw [← hwq]
            have HO2d : Hid (Out w wq) := hidOf (by rw [hwq]; exact HO2.out.drewN _)
            have HW2d : Hid (OwB w.heap.size (.slice a1 P.length c1) P wq) := hidOf (by rw [hwq]; exact HW2.out.out ((Out.refl w2).drewN _))
            clear hwq HO2 HW2
            all_goals
              clear hle hleB hPlx HKS HY hji hj0 hjl hgt hgN x0
              obtain ⟨x0, x1, x2⟩ := HX.out _ HO2d.out
              obtain ⟨s1, rfl⟩ : ∃ s1 : Nat, sl = s1 := ⟨sl.toNat, by omega⟩
              obtain ⟨y1, rfl⟩ : ∃ y1 : Nat, sy = y1 := ⟨sy.toNat, by omega⟩
              obtain ⟨P1, hP1⟩ : ∃ P1, P1 = P ++ leB (8 * s1) 8 := ⟨_, rfl⟩
              obtain ⟨P2, hP2⟩ : ∃ P2, P2 = P1 ++ leB ty 4 := ⟨_, rfl⟩
              obtain ⟨P3, hP3⟩ : ∃ P3, P3 = P2 ++ leB y1 4 := ⟨_, rfl⟩
              have HP1 := hidOf hP1
              have HP2 := hidOf hP2
              have HP3 := hidOf hP3
              obtain ⟨p1, p2, p3⟩ := HPl.out
              have l1 : P1.length = P.length + 8 := by rw [hP1, List.length_append, leB_len]
              have l2 : P2.length = P1.length + 4 := by rw [hP2, List.length_append, leB_len]
              have l3 : P3.length = P2.length + 4 := by rw [hP3, List.length_append, leB_len]
              have hPe : P ++ enR ⟨s1, ki, y1⟩ ty = P3 := by
                rw [hP3, hP2, hP1, enR]
                have : ((8 : Int) * (s1 : Int)).toNat = 8 * s1 := by omega
                simp only [this, Int.toNat_natCast, List.append_assoc]
              rw [hPe] at Hst
              have HPn : Hid (P3.length = 16 * (i + 1) ∧ ((i + 1 : Nat) : Int) ≤ prevSl L (i + 1) + 1 ∧ prevSl L (i + 1) < 65536) := hidOf ⟨by omega, by rw [Hnx.out]; omega, by rw [Hnx.out]; omega⟩
              have C8 : Hid (∀ wx, Calls Try.prog 29 #[.int .i64 (8 * (s1 : Int)), .int .i64 8] wx fun e w' => ∃ g c, e = .returned (.slice (some ⟨g, 0, none⟩) 8 c) ∧ (∀ j u, (Lib.byteCells (leB (8 * s1) 8))[j]? = some u → w'.cell? ((⟨g, 0, none⟩ : Addr).add j) = some u) ∧ Out wx w') := fun wx => by have := laid_at wx (8 * s1) 8 (by omega) (by omega) (by omega); simpa using this
              have CT4 : Hid (∀ wx, Calls Try.prog 29 #[.int .i64 (ty : Int), .int .i64 4] wx fun e w' => ∃ g c, e = .returned (.slice (some ⟨g, 0, none⟩) 4 c) ∧ (∀ j u, (Lib.byteCells (leB ty 4))[j]? = some u → w'.cell? ((⟨g, 0, none⟩ : Addr).add j) = some u) ∧ Out wx w') := fun wx => laid_at wx ty 4 (by omega) (by omega) (by omega)
              have CY4 : Hid (∀ wx, Calls Try.prog 29 #[.int .i64 (y1 : Int), .int .i64 4] wx fun e w' => ∃ g c, e = .returned (.slice (some ⟨g, 0, none⟩) 4 c) ∧ (∀ j u, (Lib.byteCells (leB y1 4))[j]? = some u → w'.cell? ((⟨g, 0, none⟩ : Addr).add j) = some u) ∧ Out wx w') := fun wx => laid_at wx y1 4 (by omega) (by omega) (by omega)
              have HPL : Hid (P.length ≤ 1048576 ∧ P1.length ≤ 2000000 ∧ P2.length ≤ 2000000) := hidOf (by omega)
              have L1 := hidOf l1
              have L2 := hidOf l2
              have L3 := hidOf l3
              have hs1I : (s1 : Int) < 65536 := by omega
              have hkt : (ki = 1 ∧ ty = 1) ∨ (ki = 2 ∧ ty = 10) := by
                rw [f5] at hpos
                rw [f5]
                unfold tyP at hpos ⊢
                split at hpos
                · rename_i hk; exact .inl ⟨hk, by simp [hk]⟩
                · split at hpos
                  · rename_i hk1 hk; exact .inr ⟨hk, by simp [hk]⟩
                  · omega
              clear hiS l1 l2 l3 hP1 hP2 hP3 hPe hty hs0 hpos f1 f2 f3 f4 f5 f6 p1 p2 p3 CM CS hx0
              rcases hkt with ⟨rfl, rfl⟩ | ⟨rfl, rfl⟩
              all_goals
                go_upto_region 14 with (first | (go_at_call 29; refine (C8.out _).mono ?_; rintro e w3 ⟨g3, c3, rfl, hcell, hO⟩; have K3 := hidOf hcell; have HW3 := hidOf (HW2d.out.out hO); have HO3 := hidOf (HO2d.out.trans hO); clear hcell hO) | (at_builtin; refine wpList_append_own _ rfl (.tmp 43) (.tmp 50) 30 rfl w.heap.size 5 i0 _ 1 1 Try.underlying30 hi0 hz0 hz1 hz2 rfl (by decide) (.slice a1 P.length c1) P.length (Lib.byteCells P) rfl HW3.out ⟨g3, 0, none⟩ 8 c3 (Lib.byteCells (leB (8 * s1) 8)) rfl (by simp [Lib.byteCells, leB_len]) K3.out (bc_one _) (by have := HPL.out; unfold maxLen; omega) (by have := HPL.out; omega) HO3.out.size ?_; intro v4 w4 hown4 hgrow4 _; have HO4 := hidOf (out_row HO3.out HW3.out hgrow4); obtain ⟨a4, c4, rfl⟩ := own_form hown4; have HW4 : Hid (OwB w.heap.size (.slice a4 (P.length + 8) c4) P1 w4) := hidOf (by unfold OwB; rw [HP1.out, bc_app, List.length_append, leB_len]; exact hown4); clear hgrow4 hown4))
                clear x0 x1 x2
                rw [← L1.out] at HW4
                rw [← L1.out]
                go_upto_region 15 with (first | (go_at_call 29; refine (CT4.out _).mono ?_; rintro e w5 ⟨g5, c5, rfl, hcell, hO⟩; have K5 := hidOf hcell; have HW5 := hidOf (HW4.out.out hO); have HO5 := hidOf (HO4.out.trans hO); clear hcell hO) | (at_builtin; refine wpList_append_own _ rfl (.tmp 52) (.tmp 54) 30 rfl w.heap.size 5 i0 _ 1 1 Try.underlying30 hi0 hz0 hz1 hz2 rfl (by decide) (.slice a4 P1.length c4) P1.length (Lib.byteCells P1) rfl HW5.out ⟨g5, 0, none⟩ 4 c5 (Lib.byteCells (leB _ 4)) rfl (by simp [Lib.byteCells, leB_len]) K5.out (bc_one _) (by have := HPL.out; unfold maxLen; omega) (by have := HPL.out; omega) HO5.out.size ?_; intro v6 w6 hown4 hgrow4 _; have HO6 := hidOf (out_row HO5.out HW5.out hgrow4); obtain ⟨a6, c6, rfl⟩ := own_form hown4; have HW6 : Hid (OwB w.heap.size (.slice a6 (P1.length + 4) c6) P2 w6) := hidOf (by unfold OwB; rw [HP2.out, bc_app, List.length_append, leB_len]; exact hown4); clear hgrow4 hown4))
                rw [← L2.out] at HW6
                rw [← L2.out]
                obtain ⟨x0, x1, x2⟩ := HX.out _ HO6.out
                go_wp2_with (first | (go_at_call 29; refine (CY4.out _).mono ?_; rintro e w7 ⟨g7, c7, rfl, hcell, hO⟩; have K7 := hidOf hcell; have HW7 := hidOf (HW6.out.out hO); have HO7 := hidOf (HO6.out.trans hO); clear hcell hO) | (at_builtin; refine wpList_append_own _ rfl (.tmp 56) (.tmp 62) 30 rfl w.heap.size 5 i0 _ 1 1 Try.underlying30 hi0 hz0 hz1 hz2 rfl (by decide) (.slice a6 P2.length c6) P2.length (Lib.byteCells P2) rfl HW7.out ⟨g7, 0, none⟩ 4 c7 (Lib.byteCells (leB y1 4)) rfl (by simp [Lib.byteCells, leB_len]) K7.out (bc_one _) (by have := HPL.out; unfold maxLen; omega) (by have := HPL.out; omega) HO7.out.size ?_; intro v8 w8 hown4 hgrow4 _; have HO8 := hidOf (out_row HO7.out HW7.out hgrow4); obtain ⟨a8, c8, rfl⟩ := own_form hown4; have HW8 : Hid (OwB w.heap.size (.slice a8 (P2.length + 4) c8) P3 w8) := hidOf (by unfold OwB; rw [HP3.out, bc_app, List.length_append, leB_len]; exact hown4); clear hgrow4 hown4))
                rw [← L3.out] at HW8
                rw [← L3.out]
                exact ⟨⟨i + 1, P3, a8, c8, by simp, rfl, by omega, by show _ = _; rw [HO.out, Hst.out, Hnx.out], HPn.out, HW8.out, HO8.out⟩, by simp [intOf]; omega⟩
    · have hlt : ¬ (i : Int) < L.length := by omega
      obtain rfl : i = L.length := by omega
      have HO2 : Hid (O0 = (some P, 0)) := hidOf (by rw [HO.out, List.drop_length]; rfl)
      go_wp2
      go_ret2
      rw [HO2.out]
      exact ⟨HOu.out, a1, c1, rfl, HW.out⟩
end Go.Proofs.Ytoobdcjkhphlcaa
