import Derived.Test.YtfmcoffmgdcciaaDoorIke
namespace Go.Proofs.YtfmcoffmgdcciaaDoor
open Go.RowKit
set_option linter.unusedVariables false
set_option linter.unusedSimpArgs false
set_option maxRecDepth 20000 in
set_option maxHeartbeats 4000000 in
theorem layR_any (w : World) (b gt gf gd : Nat) (LT : List Ins) (LF : List Fn) (LD : List Td) (m : Img) (ta fa da : Option Addr) (tc fc dc : Nat) (hb : LnR w b gt gf gd LT LF LD) (l1 : LT.length = 4 * m.T.length + 140) (l2 : LF.length = 4 * m.F.length + 140) (l3 : LD.length = 4 * m.D.length + 140) (hM : ∀ wx, Chg (LnS b gt gf gd) w wx → ImS wx ta fa da m) (hT : m.T.length ≤ 1048576) (hF : m.F.length ≤ 1048576) (hD : m.D.length ≤ 1048576) :
    Calls Tryd.prog 11 #[.pointer (some ⟨b, 0, none⟩), .agg #[.slice ta m.T.length tc, .slice fa m.F.length fc, .slice da m.D.length dc, .int .i64 m.en]] w fun e w' => e = .returned (.agg #[.slice (some ⟨gt, 0, none⟩) m.T.length (4 * m.T.length + 140), .slice (some ⟨gf, 0, none⟩) m.F.length (4 * m.F.length + 140), .slice (some ⟨gd, 0, none⟩) m.D.length (4 * m.D.length + 140), .int .i64 m.en]) ∧ LnR w' b gt gf gd (m.T ++ beh beI m.T.length (3 * m.T.length + 140)) (m.F ++ beh beF m.F.length (3 * m.F.length + 140)) (m.D ++ beh beD m.D.length (3 * m.D.length + 140)) ∧ Chg (LnS b gt gf gd) w w' := by
  obtain ⟨T, F, D, en⟩ := m
  simp only at *
  obtain ⟨nt, hnt⟩ : ∃ n, Hid (n = T.length) := ⟨_, rfl⟩
  obtain ⟨nf, hnf⟩ : ∃ n, Hid (n = F.length) := ⟨_, rfl⟩
  obtain ⟨nd, hnd⟩ : ∃ n, Hid (n = D.length) := ⟨_, rfl⟩
  rw [← hnt.out, ← hnf.out, ← hnd.out]
  rw [← hnt.out] at hT
  rw [← hnf.out] at hF
  rw [← hnd.out] at hD
  obtain ⟨NT, hNT⟩ : ∃ n, Hid (n = 4 * nt + 140) := ⟨_, rfl⟩
  obtain ⟨NF, hNF⟩ : ∃ n, Hid (n = 4 * nf + 140) := ⟨_, rfl⟩
  obtain ⟨ND, hND⟩ : ∃ n, Hid (n = 4 * nd + 140) := ⟨_, rfl⟩
  rw [← hNT.out, ← hNF.out, ← hND.out]
  have kT : nt ≤ NT := by rw [hNT.out]; omega
  have kF : nf ≤ NF := by rw [hNF.out]; omega
  have kD : nd ≤ ND := by rw [hND.out]; omega
  have kT' : (nt : Int) ≤ NT := by omega
  have kF' : (nf : Int) ≤ NF := by omega
  have kD' : (nd : Int) ≤ ND := by omega
  have mT : NT ≤ 5000000 := by rw [hNT.out]; omega
  have mF : NF ≤ 5000000 := by rw [hNF.out]; omega
  have mD : ND ≤ 5000000 := by rw [hND.out]; omega
  have HM := hidOf hM
  clear hM
  obtain ⟨q, hq⟩ : ∃ q, Hid (q = w.heap.size) := ⟨_, rfl⟩
  obtain ⟨X, hX⟩ : ∃ X : Array Value, Hid (X = #[.slice ta nt tc, .slice fa nf fc, .slice da nd dc, .int .i64 en]) := ⟨_, rfl⟩
  obtain ⟨wA, hwA⟩ : ∃ wA, Hid (wA = (w.alloc (.cells #[.slice ta nt tc, .slice fa nf fc, .slice da nd dc, .int .i64 en] 26)).alloc (.cells #[.slice none 0 0, .slice none 0 0, .slice none 0 0, .int .i64 0] 26)) := ⟨_, rfl⟩
  have OA : Hid (Out w wA) := hidOf (by rw [hwA.out]; exact Out.alloc (Out.alloc (Out.refl _) _) _)
  have bxA : wA.heap[q]? = some (.cells X 26 (0, 0)) := by rw [hwA.out, hq.out, hX.out]; exact blk_al (heap_alloc_new w _) _
  have rsA : wA.heap[q + 1]? = some (.cells #[.slice none 0 0, .slice none 0 0, .slice none 0 0, .int .i64 0] 26 (0, 0)) := by
    have := heap_alloc_new (w.alloc (.cells #[.slice ta nt tc, .slice fa nf fc, .slice da nd dc, .int .i64 en] 26)) (.cells #[.slice none 0 0, .slice none 0 0, .slice none 0 0, .int .i64 0] 26)
    rw [size_alloc, ← hwA.out, ← hq.out] at this; exact this
  have szA : Hid (wA.heap.size = q + 2) := hidOf (by rw [hwA.out, size_alloc, size_alloc, hq.out])
  rw [← hnt.out, ← hNT.out] at l1
  rw [← hnf.out, ← hNF.out] at l2
  rw [← hnd.out, ← hND.out] at l3
  have p0 : ¬ (NT : Int) < 2 * (nt : Int) + 70 := by rw [hNT.out]; simp; omega
  have p1 : ¬ (NF : Int) < 2 * (nf : Int) + 70 := by rw [hNF.out]; simp; omega
  have p2 : ¬ (ND : Int) < 2 * (nd : Int) + 70 := by rw [hND.out]; simp; omega
  have qS : ∀ k, LnS b gt gf gd k → k < q := fun k hk => by
    rw [hq.out]
    rcases hk with rfl | rfl | rfl | rfl
    · exact (Array.getElem?_eq_some_iff.1 hb.box).1
    · exact hb.t.lt
    · exact hb.f.lt
    · exact hb.d.lt
  have SA : Hid (LyS w wA b gt gf gd q LT LF LD X) := hidOf ⟨hb.out OA.out, bxA, rsA, Chg.of_out OA.out, fun h => by have := qS q h; omega, fun h => by have := qS (q + 1) h; omega⟩
  have HL := hidOf hb
  clear hb
  go_enter Tryd.func11, Tryd.ntmps11
  go_upto_region 1 with fail
  rw [← hwA.out, ← hq.out]
  have HMS := HM
  have a0 : wA.cell? ⟨b, 0, none⟩ = some (.slice (some ⟨gt, 0, none⟩) NT NT) := by rw [cell_atL SA.out.ln.box, ← l1]; rfl
  have q0 : wA.cell? ⟨q, 0, none⟩ = some (.slice ta nt tc) := by rw [cell_atL SA.out.bx, hX.out]; rfl
  go_quiet (fail)
  go_upto_region 3 with fail
  obtain ⟨wB0, hwB0⟩ : ∃ wx, Hid (wx = wA.drewN nq) := ⟨_, rfl⟩
  rw [← hwB0.out]
  replace SA : Hid (LyS w wB0 b gt gf gd q LT LF LD X) := hidOf (by rw [hwB0.out]; exact SA.out.dr nq)
  clear a0 q0
  have a1 : wB0.cell? ⟨b, 1, none⟩ = some (.slice (some ⟨gf, 0, none⟩) NF NF) := by rw [cell_atL SA.out.ln.box, ← l2]; rfl
  have q1 : wB0.cell? ⟨q, 1, none⟩ = some (.slice fa nf fc) := by rw [cell_atL SA.out.bx, hX.out]; rfl
  go_quiet (fail)
  go_upto_region 5 with fail
  obtain ⟨wB1, hwB1⟩ : ∃ wx, Hid (wx = wB0.drewN nq) := ⟨_, rfl⟩
  rw [← hwB1.out]
  replace SA : Hid (LyS w wB1 b gt gf gd q LT LF LD X) := hidOf (by rw [hwB1.out]; exact SA.out.dr nq)
  clear a1 q1
  have a2 : wB1.cell? ⟨b, 2, none⟩ = some (.slice (some ⟨gd, 0, none⟩) ND ND) := by rw [cell_atL SA.out.ln.box, ← l3]; rfl
  have q2 : wB1.cell? ⟨q, 2, none⟩ = some (.slice da nd dc) := by rw [cell_atL SA.out.bx, hX.out]; rfl
  go_quiet (fail)
  go_upto_region 7 with fail
  obtain ⟨wB2, hwB2⟩ : ∃ wx, Hid (wx = wB1.drewN nq) := ⟨_, rfl⟩
  rw [← hwB2.out]
  replace SA : Hid (LyS w wB2 b gt gf gd q LT LF LD X) := hidOf (by rw [hwB2.out]; exact SA.out.dr nq)
  clear a2 q2
  go_wp2
  go_loopw [5] (fun v wr => ∃ j : Nat, j ≤ NT ∧ v = .int .i64 j ∧ Hid (LyS w wr b gt gf gd q (beh beI 0 j ++ LT.drop j) LF LD X)) (fun v _ => NT - (intOf v).toNat)
  case atStart => exact ⟨0, by omega, rfl, hidOf (by simpa [beh] using SA.out)⟩
  case round =>
    obtain ⟨j, hj, rfl, HJ⟩ := hrel
    have hlen : (beh beI 0 j ++ LT.drop j).length = NT := by rw [List.length_append, beh_len, List.length_drop, l1]; omega
    have z0 : wr.cell? ⟨b, 0, none⟩ = some (.slice (some ⟨gt, 0, none⟩) NT NT) := by rw [cell_atL HJ.out.ln.box, ← hlen]; rfl
    by_cases hjn : j < NT
    · have hlt : (j : Int) < NT := by omega
      obtain ⟨x, hx⟩ := beh_get beI LT j (by omega)
      obtain ⟨e0, e1, e2, e3, e4⟩ := HJ.out.ln.t.cells hx
      have g0 := HJ.out.ln.t.frozen (j * 5)
      have g1 := HJ.out.ln.t.frozen (j * 5 + 1)
      have g2 := HJ.out.ln.t.frozen (j * 5 + 2)
      have g3 := HJ.out.ln.t.frozen (j * 5 + 3)
      have g4 := HJ.out.ln.t.frozen (j * 5 + 4)
      clear hx
      go_wp2
      go_roundw
      case rel =>
        refine ⟨j + 1, by omega, by simp, hidOf ?_⟩
        refine HJ.out.t' (Chg.put5 (S := fun k => k = gt) (Chg.refl _ _) rfl _ _ _ _ _ _ _ _ _ _) ?_ (by rw [hlen, List.length_append, beh_len, List.length_drop, l1]; omega)
        have := HJ.out.ln.t.set (i := j) (by rw [hlen]; exact hjn) (beI j)
        rw [beh_set beI LT j (by omega)] at this
        exact this
      case measure => simp [intOf]; omega
    · have hlt : ¬ (j : Int) < NT := by omega
      have S0 : Hid (LyS w wr b gt gf gd q (beh beI 0 NT) LF LD X) := hidOf (by
        have := HJ.out
        rw [show j = NT by omega, List.drop_of_length_le (by omega), List.append_nil] at this
        exact this)
      obtain ⟨wb0, hwb0⟩ : ∃ wb, wb = wr := ⟨_, rfl⟩
      subst hwb0
      clear HJ hlen
      go_wp2
      clear z0
      go_loopw [6] (fun v wr => ∃ j : Nat, j ≤ NF ∧ v = .int .i64 j ∧ Hid (LyS w wr b gt gf gd q (beh beI 0 NT) (beh beF 0 j ++ LF.drop j) LD X)) (fun v _ => NF - (intOf v).toNat)
      case atStart => exact ⟨0, by omega, rfl, hidOf (by simpa [beh] using S0.out)⟩
      case round =>
        obtain ⟨j, hj, rfl, HJ⟩ := hrel
        have hlen : (beh beF 0 j ++ LF.drop j).length = NF := by rw [List.length_append, beh_len, List.length_drop, l2]; omega
        have z0 : wr.cell? ⟨b, 1, none⟩ = some (.slice (some ⟨gf, 0, none⟩) NF NF) := by rw [cell_atL HJ.out.ln.box, ← hlen]; rfl
        by_cases hjn : j < NF
        · have hlt : (j : Int) < NF := by omega
          obtain ⟨x, hx⟩ := beh_get beF LF j (by omega)
          obtain ⟨e0, e1, e2, e3⟩ := HJ.out.ln.f.cells hx
          have g0 := HJ.out.ln.f.frozen (j * 4)
          have g1 := HJ.out.ln.f.frozen (j * 4 + 1)
          have g2 := HJ.out.ln.f.frozen (j * 4 + 2)
          have g3 := HJ.out.ln.f.frozen (j * 4 + 3)
          clear hx
          go_wp2
          go_roundw
          case rel =>
            refine ⟨j + 1, by omega, by simp, hidOf ?_⟩
            refine HJ.out.f' (Chg.put4 (S := fun k => k = gf) (Chg.refl _ _) rfl _ _ _ _ _ _ _ _) ?_ (by rw [hlen, List.length_append, beh_len, List.length_drop, l2]; omega)
            have := HJ.out.ln.f.set (i := j) (by rw [hlen]; exact hjn) (beF j)
            rw [beh_set beF LF j (by omega)] at this
            exact this
          case measure => simp [intOf]; omega
        · have hlt : ¬ (j : Int) < NF := by omega
          have S1 : Hid (LyS w wr b gt gf gd q (beh beI 0 NT) (beh beF 0 NF) LD X) := hidOf (by
            have := HJ.out
            rw [show j = NF by omega, List.drop_of_length_le (by omega), List.append_nil] at this
            exact this)
          obtain ⟨wb1, hwb1⟩ : ∃ wb, wb = wr := ⟨_, rfl⟩
          subst hwb1
          clear HJ hlen
          go_wp2
          clear z0
          go_loopw [7] (fun v wr => ∃ j : Nat, j ≤ ND ∧ v = .int .i64 j ∧ Hid (LyS w wr b gt gf gd q (beh beI 0 NT) (beh beF 0 NF) (beh beD 0 j ++ LD.drop j) X)) (fun v _ => ND - (intOf v).toNat)
          case atStart => exact ⟨0, by omega, rfl, hidOf (by simpa [beh] using S1.out)⟩
          case round =>
            obtain ⟨j, hj, rfl, HJ⟩ := hrel
            have hlen : (beh beD 0 j ++ LD.drop j).length = ND := by rw [List.length_append, beh_len, List.length_drop, l3]; omega
            have z0 : wr.cell? ⟨b, 2, none⟩ = some (.slice (some ⟨gd, 0, none⟩) ND ND) := by rw [cell_atL HJ.out.ln.box, ← hlen]; rfl
            by_cases hjn : j < ND
            · have hlt : (j : Int) < ND := by omega
              obtain ⟨x, hx⟩ := beh_get beD LD j (by omega)
              obtain ⟨e0, e1, e2, e3, e4⟩ := HJ.out.ln.d.cells hx
              have g0 := HJ.out.ln.d.frozen (j * 5)
              have g1 := HJ.out.ln.d.frozen (j * 5 + 1)
              have g2 := HJ.out.ln.d.frozen (j * 5 + 2)
              have g3 := HJ.out.ln.d.frozen (j * 5 + 3)
              have g4 := HJ.out.ln.d.frozen (j * 5 + 4)
              clear hx
              go_wp2
              go_roundw
              case rel =>
                refine ⟨j + 1, by omega, by simp, hidOf ?_⟩
                refine HJ.out.d' (Chg.put5 (S := fun k => k = gd) (Chg.refl _ _) rfl _ _ _ _ _ _ _ _ _ _) ?_ (by rw [hlen, List.length_append, beh_len, List.length_drop, l3]; omega)
                have := HJ.out.ln.d.set (i := j) (by rw [hlen]; exact hjn) (beD j)
                rw [beh_set beD LD j (by omega)] at this
                exact this
              case measure => simp [intOf]; omega
            · have hlt : ¬ (j : Int) < ND := by omega
              have S2 : Hid (LyS w wr b gt gf gd q (beh beI 0 NT) (beh beF 0 NF) (beh beD 0 ND) X) := hidOf (by
                have := HJ.out
                rw [show j = ND by omega, List.drop_of_length_le (by omega), List.append_nil] at this
                exact this)
              clear HJ hlen
              obtain ⟨v0, cp0, hr0, cg0⟩ := run_copyI wr.drew 3 gt NT NT ta nt tc (beh beI 0 NT) T [] (S2.out.dr1.ln.t) hnt.out.symm (HMS.out _ S2.out.dr1.ch).t kT (by rw [beh_len]; exact kT)
              rw [beh_drop] at hr0
              have Z0 : Hid (LyS w v0 b gt gf gd q (T ++ beh beI nt (NT - nt)) (beh beF 0 NF) (beh beD 0 ND) X) := hidOf (S2.out.dr1.t' cg0 hr0 (by rw [List.length_append, beh_len, beh_len, ← hnt.out]; omega))
              have d00 : wr.cell? ⟨b, 0, none⟩ = some (.slice (some ⟨gt, 0, none⟩) NT NT) := by
                have hl : (beh beI 0 NT).length = NT := by rw [beh_len]
                have hh := cell_atL S2.out.ln.box 0
                rw [hl] at hh
                exact hh
              have d0q0 : wr.cell? ⟨q, 0, none⟩ = some (.slice ta nt tc) := by rw [cell_atL S2.out.bx, hX.out]; rfl
              have d01 : wr.cell? ⟨b, 1, none⟩ = some (.slice (some ⟨gf, 0, none⟩) NF NF) := by
                have hl : (beh beF 0 NF).length = NF := by rw [beh_len]
                have hh := cell_atL S2.out.ln.box 1
                rw [hl] at hh
                exact hh
              have d0q1 : wr.cell? ⟨q, 1, none⟩ = some (.slice fa nf fc) := by rw [cell_atL S2.out.bx, hX.out]; rfl
              have d02 : wr.cell? ⟨b, 2, none⟩ = some (.slice (some ⟨gd, 0, none⟩) ND ND) := by
                have hl : (beh beD 0 ND).length = ND := by rw [beh_len]
                have hh := cell_atL S2.out.ln.box 2
                rw [hl] at hh
                exact hh
              have d0q2 : wr.cell? ⟨q, 2, none⟩ = some (.slice da nd dc) := by rw [cell_atL S2.out.bx, hX.out]; rfl
              have u00 : v0.cell? ⟨b, 0, none⟩ = some (.slice (some ⟨gt, 0, none⟩) NT NT) := by
                have hl : (T ++ beh beI nt (NT - nt)).length = NT := by rw [List.length_append, beh_len, ← hnt.out]; omega
                have hh := cell_atL Z0.out.ln.box 0
                rw [hl] at hh
                exact hh
              have u0q0 : v0.cell? ⟨q, 0, none⟩ = some (.slice ta nt tc) := by rw [cell_atL Z0.out.bx, hX.out]; rfl
              have u01 : v0.cell? ⟨b, 1, none⟩ = some (.slice (some ⟨gf, 0, none⟩) NF NF) := by
                have hl : (beh beF 0 NF).length = NF := by rw [beh_len]
                have hh := cell_atL Z0.out.ln.box 1
                rw [hl] at hh
                exact hh
              have u0q1 : v0.cell? ⟨q, 1, none⟩ = some (.slice fa nf fc) := by rw [cell_atL Z0.out.bx, hX.out]; rfl
              have u02 : v0.cell? ⟨b, 2, none⟩ = some (.slice (some ⟨gd, 0, none⟩) ND ND) := by
                have hl : (beh beD 0 ND).length = ND := by rw [beh_len]
                have hh := cell_atL Z0.out.ln.box 2
                rw [hl] at hh
                exact hh
              have u0q2 : v0.cell? ⟨q, 2, none⟩ = some (.slice da nd dc) := by rw [cell_atL Z0.out.bx, hX.out]; rfl
              clear hr0 cg0
              go_upto_region 19 with fail
              clear z0
              go_region_held3 (fun wx => wx.cell? ⟨b, 0, none⟩ = some (.slice (some ⟨gt, 0, none⟩) NT NT) ∧ wx.cell? ⟨q, 0, none⟩ = some (.slice ta nt tc)) (first | go_keep | assumption | exact ⟨u00, u0q0⟩) (fail)
              clear d00 d0q0 d01 d0q1 d02 d0q2 cp0
              clear u00 u0q0 u01 u0q1 u02 u0q2
              obtain ⟨v1, cp1, hr1, cg1⟩ := run_copyF v0.drew 3 gf NF NF fa nf fc (beh beF 0 NF) F [] (Z0.out.dr1.ln.f) hnf.out.symm (HMS.out _ Z0.out.dr1.ch).f kF (by rw [beh_len]; exact kF)
              rw [beh_drop] at hr1
              have Z1 : Hid (LyS w v1 b gt gf gd q (T ++ beh beI nt (NT - nt)) (F ++ beh beF nf (NF - nf)) (beh beD 0 ND) X) := hidOf (Z0.out.dr1.f' cg1 hr1 (by rw [List.length_append, beh_len, beh_len, ← hnf.out]; omega))
              have d10 : v0.cell? ⟨b, 0, none⟩ = some (.slice (some ⟨gt, 0, none⟩) NT NT) := by
                have hl : (T ++ beh beI nt (NT - nt)).length = NT := by rw [List.length_append, beh_len, ← hnt.out]; omega
                have hh := cell_atL Z0.out.ln.box 0
                rw [hl] at hh
                exact hh
              have d1q0 : v0.cell? ⟨q, 0, none⟩ = some (.slice ta nt tc) := by rw [cell_atL Z0.out.bx, hX.out]; rfl
              have d11 : v0.cell? ⟨b, 1, none⟩ = some (.slice (some ⟨gf, 0, none⟩) NF NF) := by
                have hl : (beh beF 0 NF).length = NF := by rw [beh_len]
                have hh := cell_atL Z0.out.ln.box 1
                rw [hl] at hh
                exact hh
              have d1q1 : v0.cell? ⟨q, 1, none⟩ = some (.slice fa nf fc) := by rw [cell_atL Z0.out.bx, hX.out]; rfl
              have d12 : v0.cell? ⟨b, 2, none⟩ = some (.slice (some ⟨gd, 0, none⟩) ND ND) := by
                have hl : (beh beD 0 ND).length = ND := by rw [beh_len]
                have hh := cell_atL Z0.out.ln.box 2
                rw [hl] at hh
                exact hh
              have d1q2 : v0.cell? ⟨q, 2, none⟩ = some (.slice da nd dc) := by rw [cell_atL Z0.out.bx, hX.out]; rfl
              have u10 : v1.cell? ⟨b, 0, none⟩ = some (.slice (some ⟨gt, 0, none⟩) NT NT) := by
                have hl : (T ++ beh beI nt (NT - nt)).length = NT := by rw [List.length_append, beh_len, ← hnt.out]; omega
                have hh := cell_atL Z1.out.ln.box 0
                rw [hl] at hh
                exact hh
              have u1q0 : v1.cell? ⟨q, 0, none⟩ = some (.slice ta nt tc) := by rw [cell_atL Z1.out.bx, hX.out]; rfl
              have u11 : v1.cell? ⟨b, 1, none⟩ = some (.slice (some ⟨gf, 0, none⟩) NF NF) := by
                have hl : (F ++ beh beF nf (NF - nf)).length = NF := by rw [List.length_append, beh_len, ← hnf.out]; omega
                have hh := cell_atL Z1.out.ln.box 1
                rw [hl] at hh
                exact hh
              have u1q1 : v1.cell? ⟨q, 1, none⟩ = some (.slice fa nf fc) := by rw [cell_atL Z1.out.bx, hX.out]; rfl
              have u12 : v1.cell? ⟨b, 2, none⟩ = some (.slice (some ⟨gd, 0, none⟩) ND ND) := by
                have hl : (beh beD 0 ND).length = ND := by rw [beh_len]
                have hh := cell_atL Z1.out.ln.box 2
                rw [hl] at hh
                exact hh
              have u1q2 : v1.cell? ⟨q, 2, none⟩ = some (.slice da nd dc) := by rw [cell_atL Z1.out.bx, hX.out]; rfl
              clear hr1 cg1
              go_upto_region 20 with fail
              go_region_held3 (fun wx => wx.cell? ⟨b, 1, none⟩ = some (.slice (some ⟨gf, 0, none⟩) NF NF) ∧ wx.cell? ⟨q, 1, none⟩ = some (.slice fa nf fc)) (first | go_keep | assumption | exact ⟨u11, u1q1⟩) (fail)
              clear d10 d1q0 d11 d1q1 d12 d1q2 cp1
              clear u10 u1q0 u11 u1q1 u12 u1q2
              obtain ⟨v2, cp2, hr2, cg2⟩ := run_copyD v1.drew 3 gd ND ND da nd dc (beh beD 0 ND) D [] (Z1.out.dr1.ln.d) hnd.out.symm (HMS.out _ Z1.out.dr1.ch).d kD (by rw [beh_len]; exact kD)
              rw [beh_drop] at hr2
              have Z2 : Hid (LyS w v2 b gt gf gd q (T ++ beh beI nt (NT - nt)) (F ++ beh beF nf (NF - nf)) (D ++ beh beD nd (ND - nd)) X) := hidOf (Z1.out.dr1.d' cg2 hr2 (by rw [List.length_append, beh_len, beh_len, ← hnd.out]; omega))
              have d20 : v1.cell? ⟨b, 0, none⟩ = some (.slice (some ⟨gt, 0, none⟩) NT NT) := by
                have hl : (T ++ beh beI nt (NT - nt)).length = NT := by rw [List.length_append, beh_len, ← hnt.out]; omega
                have hh := cell_atL Z1.out.ln.box 0
                rw [hl] at hh
                exact hh
              have d2q0 : v1.cell? ⟨q, 0, none⟩ = some (.slice ta nt tc) := by rw [cell_atL Z1.out.bx, hX.out]; rfl
              have d21 : v1.cell? ⟨b, 1, none⟩ = some (.slice (some ⟨gf, 0, none⟩) NF NF) := by
                have hl : (F ++ beh beF nf (NF - nf)).length = NF := by rw [List.length_append, beh_len, ← hnf.out]; omega
                have hh := cell_atL Z1.out.ln.box 1
                rw [hl] at hh
                exact hh
              have d2q1 : v1.cell? ⟨q, 1, none⟩ = some (.slice fa nf fc) := by rw [cell_atL Z1.out.bx, hX.out]; rfl
              have d22 : v1.cell? ⟨b, 2, none⟩ = some (.slice (some ⟨gd, 0, none⟩) ND ND) := by
                have hl : (beh beD 0 ND).length = ND := by rw [beh_len]
                have hh := cell_atL Z1.out.ln.box 2
                rw [hl] at hh
                exact hh
              have d2q2 : v1.cell? ⟨q, 2, none⟩ = some (.slice da nd dc) := by rw [cell_atL Z1.out.bx, hX.out]; rfl
              have u20 : v2.cell? ⟨b, 0, none⟩ = some (.slice (some ⟨gt, 0, none⟩) NT NT) := by
                have hl : (T ++ beh beI nt (NT - nt)).length = NT := by rw [List.length_append, beh_len, ← hnt.out]; omega
                have hh := cell_atL Z2.out.ln.box 0
                rw [hl] at hh
                exact hh
              have u2q0 : v2.cell? ⟨q, 0, none⟩ = some (.slice ta nt tc) := by rw [cell_atL Z2.out.bx, hX.out]; rfl
              have u21 : v2.cell? ⟨b, 1, none⟩ = some (.slice (some ⟨gf, 0, none⟩) NF NF) := by
                have hl : (F ++ beh beF nf (NF - nf)).length = NF := by rw [List.length_append, beh_len, ← hnf.out]; omega
                have hh := cell_atL Z2.out.ln.box 1
                rw [hl] at hh
                exact hh
              have u2q1 : v2.cell? ⟨q, 1, none⟩ = some (.slice fa nf fc) := by rw [cell_atL Z2.out.bx, hX.out]; rfl
              have u22 : v2.cell? ⟨b, 2, none⟩ = some (.slice (some ⟨gd, 0, none⟩) ND ND) := by
                have hl : (D ++ beh beD nd (ND - nd)).length = ND := by rw [List.length_append, beh_len, ← hnd.out]; omega
                have hh := cell_atL Z2.out.ln.box 2
                rw [hl] at hh
                exact hh
              have u2q2 : v2.cell? ⟨q, 2, none⟩ = some (.slice da nd dc) := by rw [cell_atL Z2.out.bx, hX.out]; rfl
              clear hr2 cg2
              go_upto_region 21 with fail
              go_region_held3 (fun wx => wx.cell? ⟨b, 2, none⟩ = some (.slice (some ⟨gd, 0, none⟩) ND ND) ∧ wx.cell? ⟨q, 2, none⟩ = some (.slice da nd dc)) (first | go_keep | assumption | exact ⟨u22, u2q2⟩) (fail)
              clear d20 d2q0 d21 d2q1 d22 d2q2 cp2
              have uq3 : v2.cell? ⟨q, 3, none⟩ = some (.int .i64 en) := by rw [cell_atL Z2.out.bx, hX.out]; rfl
              have r0 : v2.cell? ⟨q + 1, 0, none⟩ = some (.slice none 0 0) := by rw [cell_atL Z2.out.rs]; rfl
              have fz0 := frozen_atL Z2.out.rs 0
              have r1 : v2.cell? ⟨q + 1, 1, none⟩ = some (.slice none 0 0) := by rw [cell_atL Z2.out.rs]; rfl
              have fz1 := frozen_atL Z2.out.rs 1
              have r2 : v2.cell? ⟨q + 1, 2, none⟩ = some (.slice none 0 0) := by rw [cell_atL Z2.out.rs]; rfl
              have fz2 := frozen_atL Z2.out.rs 2
              have r3 : v2.cell? ⟨q + 1, 3, none⟩ = some (.int .i64 0) := by rw [cell_atL Z2.out.rs]; rfl
              have fz3 := frozen_atL Z2.out.rs 3
              have nb1 : ¬ b = q + 1 := fun e => Z2.out.rn (.inl e.symm)
              have nb2 : ¬ q = q + 1 := by omega
              have nb3 : ¬ q + 1 = b := fun e => nb1 e.symm
              go_upto_region 22 with fail
              go_region_held3 (fun wx => wx.cell? ⟨b, 0, none⟩ = some (.slice (some ⟨gt, 0, none⟩) NT NT) ∧ wx.cell? ⟨q, 0, none⟩ = some (.slice ta nt tc) ∧ wx.cell? ⟨b, 1, none⟩ = some (.slice (some ⟨gf, 0, none⟩) NF NF) ∧ wx.cell? ⟨q, 1, none⟩ = some (.slice fa nf fc) ∧ wx.cell? ⟨b, 2, none⟩ = some (.slice (some ⟨gd, 0, none⟩) ND ND) ∧ wx.cell? ⟨q, 2, none⟩ = some (.slice da nd dc) ∧ wx.cell? ⟨q, 3, none⟩ = some (.int .i64 en)) (go_keep) (fail)
              go_wp2
              refine bodyPost_ret (results_cell_row rfl _ _ (q + 1) 26 _ (0, 0) _ rfl (blk_setR (blk_setR (blk_setR (blk_setR Z2.out.rs 0 _) 1 _) 2 _) 3 _) Tryd.underlying26 rfl (by kernel_rfl)) rfl ?_
              have CF : ∀ y0 y1 y2 y3, Chg (LnS b gt gf gd) w ((((v2.setCell ⟨q + 1, 0, none⟩ y0).setCell ⟨q + 1, 1, none⟩ y1).setCell ⟨q + 1, 2, none⟩ y2).setCell ⟨q + 1, 3, none⟩ y3).drew ∧ LnR ((((v2.setCell ⟨q + 1, 0, none⟩ y0).setCell ⟨q + 1, 1, none⟩ y1).setCell ⟨q + 1, 2, none⟩ y2).setCell ⟨q + 1, 3, none⟩ y3).drew b gt gf gd (T ++ beh beI nt (NT - nt)) (F ++ beh beF nf (NF - nf)) (D ++ beh beD nd (ND - nd)) := fun y0 y1 y2 y3 => by
                have c := (Chg.put4 (S := fun k => k = q + 1) (Chg.refl _ v2) rfl 0 1 2 3 y0 y1 y2 y3).drew
                exact ⟨Z2.out.ch.trans c (fun x hx hl => by rw [← hq.out] at hl; omega), Z2.out.ln.keep c (fun k hk e => Z2.out.rn (e ▸ hk))⟩
              rw [show 3 * nt + 140 = NT - nt by rw [hNT.out]; omega, show 3 * nf + 140 = NF - nf by rw [hNF.out]; omega, show 3 * nd + 140 = ND - nd by rw [hND.out]; omega]
              exact ⟨rfl, (CF _ _ _ _).2, (CF _ _ _ _).1⟩
end Go.Proofs.YtfmcoffmgdcciaaDoor
