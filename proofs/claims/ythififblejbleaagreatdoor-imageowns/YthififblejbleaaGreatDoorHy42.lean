import Derived.Test.YthififblejbleaaGreatDoorHy41
namespace Go.Proofs.YthififblejbleaaGreatDoor
open Go.RowKit
set_option linter.unusedVariables false
set_option linter.unusedSimpArgs false
theorem drewN_tw (w : World) (a b : Nat) : (w.drewN a).drewN b = w.drewN (a + b) := by
  simp only [World.drewN, Nat.add_assoc]
set_option maxRecDepth 8000 in
set_option maxHeartbeats 4000000 in
theorem refNamed_any (m : Img) (w : World) (ta fa da : Option Addr) (tc fc dc : Nat) (hF : FnA w fa m.F) (hD : TdA w da m.D) (hmF : m.F.length ≤ 4096) (hmD : m.D.length ≤ 1024) (hkF : ∀ x ∈ m.F, x.nm.length ≤ 4611686018427387904) (hkD : ∀ x ∈ m.D, x.nm.length ≤ 4611686018427387904) : Calls Tryz.prog 44 #[.agg #[.slice ta m.T.length tc, .slice fa m.F.length fc, .slice da m.D.length dc, .int .i64 m.en]] w fun e w' => e = .returned (.int .i64 (rN (namP m))) ∧ Out w w' := by
  obtain ⟨R, hR⟩ : ∃ R, Hid (R = namP m) := ⟨_, rfl⟩
  rw [← hR.out]
  unfold namP at hR
  generalize m.T.length = tn at *
  generalize m.D = D at *
  generalize m.F = F at *
  obtain ⟨n, hn⟩ : ∃ n, Hid (n = F.length) := ⟨_, rfl⟩
  obtain ⟨dn, hdn⟩ : ∃ n, Hid (n = D.length) := ⟨_, rfl⟩
  rw [← hn.out] at hmF ⊢ hR
  rw [← hdn.out] at hmD ⊢ hR
  have HF := hidOf hF
  have HD := hidOf hD
  have KF := hidOf hkF
  have KD := hidOf hkD
  clear hF hD hkF hkD
  go_enter Tryz.func44, Tryz.ntmps44
  go_wp2
  obtain ⟨O, hO⟩ : ∃ O, O = Obj.cells #[Value.slice ta tn tc, Value.slice fa n fc, Value.slice da dn dc, Value.int IntKind.i64 m.en] 26 := ⟨_, rfl⟩
  go_loopw [3] (fun i wr => ∃ k : Nat, k ≤ n ∧ i = .int .i64 k ∧ Hid (∀ j, j < k → fnB F j = false) ∧ Hid (Out (w.alloc O) wr)) (fun i _ => n - (intOf i).toNat)
  case atStart => exact ⟨0, by omega, rfl, hidOf (fun j hj => by omega), hidOf (by rw [hO]; exact Out.refl _)⟩
  case round =>
    obtain ⟨k, hk, rfl, hg, hor⟩ := hrel
    have hor2 : Hid (Out w wr) := hidOf (Out.trans (Out.alloc (Out.refl _) _) hor.out)
    have x1 : wr.cell? ⟨w.heap.size, 1, none⟩ = some (.slice fa n fc) := cell_later hor.out (by rw [hO]; exact cell_fresh w _ _ 1 _ rfl)
    have x2 : wr.cell? ⟨w.heap.size, 2, none⟩ = some (.slice da dn dc) := cell_later hor.out (by rw [hO]; exact cell_fresh w _ _ 2 _ rfl)
    by_cases hkl : k < n
    · have hlt : (k : Int) < n := by omega
      obtain ⟨x, hx⟩ : ∃ x, F[k]? = some x := ⟨_, List.getElem?_eq_getElem (by rw [← hn.out]; exact hkl)⟩
      obtain ⟨b, off, rfl, q0, q1, q2, q3⟩ := (HF.out.out hor2.out).get hx
      have hB : fnB F k = ((F.take k).any (fun y => y.nm == x.nm && y.ob == x.ob) || !fnW x) := by simp [fnB, hx]
      have hW : fnW x = (wordP x.nm && decide (0 ≤ x.ob) && decide (x.ob < 64)) := rfl
      have CW : Hid (∀ wx, Calls Tryz.prog 75 #[.string ⟨x.nm.toArray⟩] wx fun e w' => e = .returned (.bool (wordP x.nm)) ∧ wx = w') := hidOf (fun wx => refWord_l x.nm (KF.out x (List.mem_of_getElem? hx)) wx)
      obtain ⟨nm, ob, fi, ct⟩ := x
      simp only at q0 q1 q2 q3 hB hW CW
      generalize wordP nm = bw at *
      obtain ⟨w1, hw1⟩ : ∃ w1, Hid (w1 = wr.alloc (.cells #[.string ⟨nm.toArray⟩, .int .i64 ob, .int .i64 fi, .int .i64 ct] 69)) := ⟨_, rfl⟩
      have O1 : Hid (Out wr w1) := hidOf (by rw [hw1.out]; exact Out.alloc (Out.refl _) _)
      have f0 : w1.cell? ⟨wr.heap.size, 0, none⟩ = some (.string ⟨nm.toArray⟩) := by rw [hw1.out]; exact cell_fresh wr _ _ 0 _ rfl
      have f1 : w1.cell? ⟨wr.heap.size, 1, none⟩ = some (.int .i64 ob) := by rw [hw1.out]; exact cell_fresh wr _ _ 1 _ rfl
      go_upto_region 5 with fail
      rw [← hw1.out]
      have y1 := cell_later O1.out x1
      have y2 := cell_later O1.out x2
      clear q0 q1 q2 q3
      by_cases hgood : bw = true ∧ 0 ≤ ob ∧ ob < 64
      · obtain ⟨rfl, h0, h64⟩ := hgood
        have n0 : ¬ ob < 0 := by omega
        have n64 : ¬ 64 ≤ ob := by omega
        go_upto_region 8 with (go_at_call 75; refine (CW.out _).mono ?_; rintro e w2 ⟨rfl, h2⟩; subst h2)
        obtain ⟨wb, hwb⟩ : ∃ wb, wb = wr := ⟨_, rfl⟩
        subst hwb
        have H1 : Hid (FnA w1 (some ⟨b, off, none⟩) F) := hidOf ((HF.out.out hor2.out).out O1.out)
        have hlo : Hid (w1.heap.size = wb.heap.size + 1) := hidOf (by rw [hw1.out, size_alloc])
        clear hw1 CW x1 x2
        go_wp2
        go_loopw [6] (fun v wr => ∃ j : Nat, j ≤ k ∧ v = .int .i64 j ∧ Hid (∀ q y, q < j → F[q]? = some y → (y.nm == nm && y.ob == ob) = false) ∧ ∃ q, wr = w1.drewN q) (fun v _ => k - (intOf v).toNat)
        case atStart => exact ⟨0, by omega, rfl, hidOf (fun q y hq => by omega), 0, rfl⟩
        case round =>
          obtain ⟨j, hj, rfl, hno, q, rfl⟩ := hrel
          by_cases hjk : j < k
          · have hltj : (j : Int) < k := by omega
            have hltn : (j : Int) < n := by omega
            obtain ⟨y, hy⟩ : ∃ y, F[j]? = some y := ⟨_, List.getElem?_eq_getElem (by rw [← hn.out]; omega)⟩
            obtain ⟨b', off', he, q0, q1, q2, q3⟩ := H1.out.get hy
            cases he
            have p0 : (w1.drewN q).cell? ⟨b, off + j * 4, none⟩ = some (.string ⟨y.nm.toArray⟩) := q0
            have p1 : (w1.drewN q).cell? ⟨b, off + j * 4 + 1, none⟩ = some (.int .i64 y.ob) := q1
            have p2 : (w1.drewN q).cell? ⟨w.heap.size, 1, none⟩ = some (.slice (some ⟨b, off, none⟩) n fc) := y1
            have p3 : (w1.drewN q).cell? ⟨wb.heap.size, 0, none⟩ = some (.string ⟨nm.toArray⟩) := f0
            have p4 : (w1.drewN q).cell? ⟨wb.heap.size, 1, none⟩ = some (.int .i64 ob) := f1
            clear q0 q1 q2 q3
            obtain ⟨ym, yo, yf, yc⟩ := y
            simp only at p0 p1
            have HQ : Hid (∃ q, w1.drewN q = w1.drewN q) := hidOf ⟨q, rfl⟩
            obtain ⟨wq, hwq⟩ : ∃ wq, Hid (wq = w1.drewN q) := ⟨_, rfl⟩
            rw [← hwq.out] at p0 p1 p2 p3 p4 ⊢
            have hsE : ¬ ym = nm → (ym == nm) = false := fun h => by simpa using h
            have hnx : (ym == nm && yo == ob) = false → Hid (∀ q y, q < j + 1 → F[q]? = some y → (y.nm == nm && y.ob == ob) = false) := fun h => hidOf (fun q y hq hy' => by
              by_cases e : q = j
              · subst e
                rw [hy] at hy'
                cases hy'
                exact h
              · exact hno.out q y (by omega) hy')
            by_cases hs : ym = nm
            · by_cases ho : yo = ob
              · have hfin : Hid (R = some k) := hidOf (by
                  rw [hR.out, fstB_some hkl hg.out (by
                    rw [hB, Bool.or_eq_true]
                    left
                    rw [List.any_eq_true]
                    exact ⟨_, List.mem_of_getElem? (by rw [List.getElem?_take, if_pos hjk]; exact hy), by simp [hs, ho]⟩)])
                have hob : (yo == ob) = true := by simp [ho]
                clear hB hW hnx hsE hno
                rw [hs] at p0
                clear hs ho hy
                go_upto_region 11 with fail
                go_quiet (fail)
                go_wp2
                go_ret
                exact ⟨by rw [hfin.out]; rfl, by rw [hwq.out]; exact Out.drewN (Out.drewN (Out.trans hor2.out O1.out) _) _⟩
              · have hob : (yo == ob) = false := by simp [ho]
                have HN := hnx (by simp [ho])
                clear hnx hsE hno hB hW
                rw [hs] at p0
                clear hs ho hy
                go_upto_region 11 with fail
                go_quiet (fail)
                go_wp2
                go_roundw
                case rel => exact ⟨j + 1, by omega, by simp, HN, _, by rw [hwq.out]; exact drewN_tw _ _ _⟩
                case measure => simp [intOf]; omega
            · have hsf := hsE hs
              have HN := hnx (by simp [hs])
              clear hnx hsE hno hB hW hs hy
              go_upto_region 11 with fail
              go_quiet (fail)
              go_wp2
              go_roundw
              case rel => exact ⟨j + 1, by omega, by simp, HN, _, by rw [hwq.out]; exact drewN_tw _ _ _⟩
              case measure => simp [intOf]; omega
          · have hltj : ¬ (j : Int) < k := by omega
            have hfa : fnB F k = false := by
              rw [hB, hW]
              simp only [h0, h64, decide_true, Bool.and_self, Bool.not_true, Bool.or_false]
              rw [List.any_eq_false]
              intro y hy
              obtain ⟨q, hq, hqe⟩ := List.getElem_of_mem hy
              rw [List.length_take] at hq
              have := hno.out q y (by omega) (by rw [← hqe, List.getElem_take]; exact List.getElem?_eq_getElem _)
              rw [this]; simp
            have Hg2 : Hid (∀ j, j < k + 1 → fnB F j = false) := hidOf (fun j hj => by
              by_cases e : j = k
              · rw [e]; exact hfa
              · exact hg.out j (by omega))
            have Ho2 : Hid (Out (w.alloc O) (w1.drewN q)) := hidOf ((hor.out.trans O1.out).drewN q)
            clear hfa hB hW
            go_wp2
            go_roundw
            case rel => exact ⟨k + 1, by omega, by simp, Hg2, Ho2⟩
            case measure => simp [intOf]; omega
      · have hfin : Hid (R = some k) := hidOf (by
          rw [hR.out, fstB_some hkl hg.out (by
            rw [hB, hW]
            cases bw
            · simp
            · have : ¬ (0 ≤ ob ∧ ob < 64) := fun h => hgood ⟨rfl, h⟩
              simp; right; omega)])
        clear hB hW
        cases bw
        · go_wp2_with (go_at_call 75; refine (CW.out _).mono ?_; rintro e w2 ⟨rfl, h2⟩; subst h2)
          go_ret
          exact ⟨by rw [hfin.out]; rfl, Out.trans hor2.out O1.out⟩
        · by_cases n0 : ob < 0
          · go_wp2_with (go_at_call 75; refine (CW.out _).mono ?_; rintro e w2 ⟨rfl, h2⟩; subst h2)
            go_ret
            exact ⟨by rw [hfin.out]; rfl, Out.trans hor2.out O1.out⟩
          · have n64 : 64 ≤ ob := by
              by_cases h : 64 ≤ ob
              · exact h
              · exact absurd ⟨rfl, by omega, by omega⟩ hgood
            go_wp2_with (go_at_call 75; refine (CW.out _).mono ?_; rintro e w2 ⟨rfl, h2⟩; subst h2)
            go_ret
            exact ⟨by rw [hfin.out]; rfl, Out.trans hor2.out O1.out⟩
    · have hlt : ¬ (k : Int) < n := by omega
      have hR2 : Hid (R = (fstB (tdB D) dn).map (n + ·)) := hidOf (by rw [hR.out, fstB_none fun j hj => hg.out j (by omega)])
      have HOR := hidOf hor.out
      obtain ⟨wb, hwb⟩ : ∃ wb, wb = wr := ⟨_, rfl⟩
      subst hwb
      clear hR hg hor hor2 HF KF
      go_wp2
      go_loopw [7] (fun v wr => ∃ j : Nat, j ≤ dn ∧ v = .int .i64 j ∧ Hid (∀ q, q < j → tdB D q = false) ∧ Hid (Out (w.alloc O) wr)) (fun v _ => dn - (intOf v).toNat)
      case atStart => exact ⟨0, by omega, rfl, hidOf (fun q hq => by omega), HOR⟩
      case round =>
        obtain ⟨j, hj, rfl, hgj, hoj⟩ := hrel
        have hoj2 : Hid (Out w wr) := hidOf (Out.trans (Out.alloc (Out.refl _) _) hoj.out)
        have u1 : wr.cell? ⟨w.heap.size, 1, none⟩ = some (.slice fa n fc) := cell_later hoj.out (by rw [hO]; exact cell_fresh w _ _ 1 _ rfl)
        have u2 : wr.cell? ⟨w.heap.size, 2, none⟩ = some (.slice da dn dc) := cell_later hoj.out (by rw [hO]; exact cell_fresh w _ _ 2 _ rfl)
        by_cases hjd : j < dn
        · have hltj : (j : Int) < dn := by omega
          obtain ⟨x, hx⟩ : ∃ x, D[j]? = some x := ⟨_, List.getElem?_eq_getElem (by rw [← hdn.out]; omega)⟩
          obtain ⟨b, off, rfl, q0, q1, q2, q3, q4⟩ := (HD.out.out hoj2.out).get hx
          have hB : tdB D j = (!wordP x.nm || leS x.nm (ahN D j)) := by simp [tdB, hx]
          have hfin : tdB D j = true → Hid (R = some (n + j)) := fun h => hidOf (by rw [hR2.out, fstB_some hjd hgj.out h]; rfl)
          have hnx : tdB D j = false → Hid (∀ q, q < j + 1 → tdB D q = false) := fun h => hidOf (fun q hq => by
            by_cases e : q = j
            · rw [e]; exact h
            · exact hgj.out q (by omega))
          have CW : Hid (∀ wx, Calls Tryz.prog 75 #[.string ⟨x.nm.toArray⟩] wx fun e w' => e = .returned (.bool (wordP x.nm)) ∧ wx = w') := hidOf (fun wx => refWord_l x.nm (KD.out x (List.mem_of_getElem? hx)) wx)
          have hne : wordP x.nm = true → ¬ x.nm = [] := fun h e => by rw [e] at h; cases h
          obtain ⟨nm, kd, ky, vl, en⟩ := x
          simp only at q0 q1 q2 q3 q4 hB CW hne
          generalize wordP nm = bw at *
          have hnj : (n : Int) + j ≤ 5120 := by omega
          cases bw
          · have HF := hfin (by rw [hB]; rfl)
            clear hfin hnx hB hne
            go_upto_region 17 with (go_at_call 75; refine (CW.out _).mono ?_; rintro e w2 ⟨rfl, h2⟩; subst h2)
            go_quiet (fail)
            go_wp2
            go_ret
            exact ⟨by rw [HF.out]; simp [rN], Out.drewN hoj2.out _⟩
          · by_cases hj0 : j = 0
            · subst hj0
              have q0' : wr.cell? ⟨b, off, none⟩ = some (.string ⟨nm.toArray⟩) := by simpa using q0
              have HN := hnx (by
                rw [hB]
                have : leS nm [] = false := by
                  have h := hne rfl
                  cases nm with
                  | nil => exact absurd rfl h
                  | cons c r => simp [leS, Op.bytesLess]
                rw [show ahN D 0 = [] from rfl, this]; rfl)
              clear hfin hnx hB hne q0
              go_upto_region 17 with (go_at_call 75; refine (CW.out _).mono ?_; rintro e w2 ⟨rfl, h2⟩; subst h2)
              go_quiet (fail)
              go_wp2
              go_roundw
              case rel => exact ⟨1, by omega, by simp, HN, hidOf (Out.drewN hoj.out _)⟩
              case measure => simp [intOf]; omega
            · have hjp : (0 : Int) < j := by omega
              have hjpN : 0 < j := by omega
              obtain ⟨p, hp⟩ : ∃ p : Nat, j = p + 1 := ⟨j - 1, by omega⟩
              have hp1 : (j : Int) - 1 = p := by omega
              have hpd : (p : Int) < dn := by omega
              obtain ⟨y, hy⟩ : ∃ y, D[p]? = some y := ⟨_, List.getElem?_eq_getElem (by rw [← hdn.out]; omega)⟩
              obtain ⟨b', off', he, r0, r1, r2, r3, r4⟩ := (HD.out.out hoj2.out).get hy
              cases he
              have hah : ahN D j = y.nm := by rw [hp]; simp [ahN, hy]
              obtain ⟨ym, yk, yy, yv, ye⟩ := y
              simp only at r0 hah
              rw [hah] at hB
              have HL := run_leq nm ym
              generalize leS nm ym = bl at *
              have HP := hidOf hp
              clear hp hy hah hne r1 r2 r3 r4
              cases bl
              · have HN := hnx (by rw [hB]; rfl)
                clear hfin hnx hB
                go_upto_region 17 with (go_at_call 75; refine (CW.out _).mono ?_; rintro e w2 ⟨rfl, h2⟩; subst h2)
                go_quiet (fail)
                go_wp2
                go_roundw
                case rel => exact ⟨j + 1, by omega, by simp, HN, hidOf (Out.drewN hoj.out _)⟩
                case measure => simp [intOf]; omega
              · have HF := hfin (by rw [hB]; rfl)
                clear hfin hnx hB
                go_upto_region 17 with (go_at_call 75; refine (CW.out _).mono ?_; rintro e w2 ⟨rfl, h2⟩; subst h2)
                go_quiet (fail)
                go_wp2
                go_ret
                exact ⟨by rw [HF.out]; simp [rN], Out.drewN hoj2.out _⟩
        · have hltj : ¬ (j : Int) < dn := by omega
          have HF : Hid (R = none) := hidOf (by rw [hR2.out, fstB_none fun q hq => hgj.out q (by omega)]; rfl)
          go_wp2
          go_ret
          exact ⟨by rw [HF.out]; rfl, hoj2.out⟩
theorem refSize_any (x : Td) (s : ByteArray) (w : World) (h1 : -1000000 ≤ x.ky ∧ x.ky ≤ 1000000) (h2 : 1 ≤ x.vl ∧ x.vl ≤ 1000000) (h3 : 1 ≤ x.en ∧ x.en ≤ 1000000) : Calls Tryz.prog 77 #[.agg #[.string s, .int .i64 x.kd, .int .i64 x.ky, .int .i64 x.vl, .int .i64 x.en]] w fun e w' => e = .returned (.int .i64 (szT x)) ∧ Out w w' := by
  obtain ⟨nm, kd, ky, vl, en⟩ := x
  simp only at h1 h2 h3 ⊢
  obtain ⟨a1, a2⟩ := h1
  obtain ⟨b1, b2⟩ := h2
  obtain ⟨c1, c2⟩ := h3
  have hq : Int.tdiv (vl + 7) 8 = (vl + 7) / 8 := Int.tdiv_eq_ediv_of_nonneg (by omega)
  have hp : -9223372036854775808 ≤ en * (ky + (vl + 7) / 8 * 8 + 8) ∧ en * (ky + (vl + 7) / 8 * 8 + 8) ≤ 9223372036854775807 := by
    obtain ⟨z, hz⟩ : ∃ z, z = ky + (vl + 7) / 8 * 8 + 8 := ⟨_, rfl⟩
    rw [← hz]
    have z1 : -3000000 ≤ z := by omega
    have z2 : z ≤ 3000000 := by omega
    have e1 : en * z ≤ en * 3000000 := Int.mul_le_mul_of_nonneg_left z2 (by omega)
    have e2 : en * (-3000000) ≤ en * z := Int.mul_le_mul_of_nonneg_left z1 (by omega)
    omega
  obtain ⟨hp1, hp2⟩ := hp
  go_enter Tryz.func77, Tryz.ntmps77
  go_wp2
  go_ret
  exact ⟨by simp [szT], Out.alloc (Out.refl _) _⟩
set_option maxHeartbeats 4000000 in
theorem refMay_any (x : Td) (s : ByteArray) (w : World) : Calls Tryz.prog 76 #[.agg #[.string s, .int .i64 x.kd, .int .i64 x.ky, .int .i64 x.vl, .int .i64 x.en]] w fun e w' => e = .returned (.bool (mayT x)) ∧ Out w w' := by
  have hS := refSize_any x s
  have hM : mayT x = ((x.kd == 1 && x.ky == 4 || x.kd == 2 && decide (1 ≤ x.ky) && decide (x.ky ≤ 64)) && (decide (1 ≤ x.vl) && decide (x.vl ≤ 4096)) && (decide (1 ≤ x.en) && decide (x.en ≤ 65536)) && decide (szT x ≤ 16777216)) := rfl
  generalize mayT x = M at *
  generalize szT x = Z at *
  obtain ⟨nm, kd, ky, vl, en⟩ := x
  simp only at *
  by_cases k1 : kd = 1 ∨ kd = 2
  · by_cases b : (1 ≤ ky ∧ ky ≤ 64) ∧ (1 ≤ vl ∧ vl ≤ 4096) ∧ (1 ≤ en ∧ en ≤ 65536)
    · obtain ⟨⟨b1, b2⟩, ⟨b3, b4⟩, b5, b6⟩ := b
      have C : Hid (∀ wx, Calls Tryz.prog 77 #[.agg #[.string s, .int .i64 kd, .int .i64 ky, .int .i64 vl, .int .i64 en]] wx fun e w' => e = .returned (.int .i64 Z) ∧ Out wx w') := hidOf fun wx => hS wx (by omega) (by omega) (by omega)
      clear hS
      have n1 : ¬ ky < 1 := by omega
      have n2 : ¬ 64 < ky := by omega
      have n3 : ¬ vl < 1 := by omega
      have n4 : ¬ 4096 < vl := by omega
      have n5 : ¬ en < 1 := by omega
      have n6 : ¬ 65536 < en := by omega
      rcases k1 with rfl | rfl
      · by_cases k4 : ky = 4
        · subst k4
          by_cases hz : Z ≤ 16777216
          · have hf : Hid (M = true) := hidOf (by rw [hM]; simp [hz, b3, b4, b5, b6])
            clear hM
            go_enter Tryz.func76, Tryz.ntmps76
            go_wp2_with (go_at_call 77; refine (C.out _).mono ?_; rintro e w1 ⟨rfl, o1⟩)
            go_ret
            exact ⟨by rw [hf.out]; simp [hz], Out.trans (Out.alloc (Out.refl _) _) o1⟩
          · have hf : Hid (M = false) := hidOf (by rw [hM]; simp [hz])
            clear hM
            go_enter Tryz.func76, Tryz.ntmps76
            go_wp2_with (go_at_call 77; refine (C.out _).mono ?_; rintro e w1 ⟨rfl, o1⟩)
            go_ret
            exact ⟨by rw [hf.out]; simp [hz], Out.trans (Out.alloc (Out.refl _) _) o1⟩
        · have k4' : (ky == 4) = false := by simp [k4]
          have hf : Hid (M = false) := hidOf (by rw [hM]; simp [k4])
          clear hM
          go_enter Tryz.func76, Tryz.ntmps76
          go_wp2
          go_ret
          exact ⟨by rw [hf.out]; rfl, Out.alloc (Out.refl _) _⟩
      · by_cases hz : Z ≤ 16777216
        · have hf : Hid (M = true) := hidOf (by rw [hM]; simp [hz, b1, b2, b3, b4, b5, b6])
          clear hM
          go_enter Tryz.func76, Tryz.ntmps76
          go_wp2_with (go_at_call 77; refine (C.out _).mono ?_; rintro e w1 ⟨rfl, o1⟩)
          go_ret
          exact ⟨by rw [hf.out]; simp [hz], Out.trans (Out.alloc (Out.refl _) _) o1⟩
        · have hf : Hid (M = false) := hidOf (by rw [hM]; simp [hz])
          clear hM
          go_enter Tryz.func76, Tryz.ntmps76
          go_wp2_with (go_at_call 77; refine (C.out _).mono ?_; rintro e w1 ⟨rfl, o1⟩)
          go_ret
          exact ⟨by rw [hf.out]; simp [hz], Out.trans (Out.alloc (Out.refl _) _) o1⟩
    · have hf : Hid (M = false) := hidOf (by
        rw [hM, Bool.eq_false_iff]
        intro h
        simp only [Bool.and_eq_true, Bool.or_eq_true, beq_iff_eq, decide_eq_true_eq] at h
        omega)
      clear hM hS
      have k1b : (kd != 1) = true → (kd != 2) = false := fun h => by rcases k1 with rfl | rfl <;> simp_all
      by_cases n1 : ky < 1
      · rcases k1 with rfl | rfl
        all_goals (
          go_enter Tryz.func76, Tryz.ntmps76
          go_wp2
          go_ret
          exact ⟨by rw [hf.out]; rfl, Out.alloc (Out.refl _) _⟩)
      · have := n1
        by_cases n2 : 64 < ky
        · rcases k1 with rfl | rfl
          all_goals (
            go_enter Tryz.func76, Tryz.ntmps76
            go_wp2
            go_ret
            exact ⟨by rw [hf.out]; rfl, Out.alloc (Out.refl _) _⟩)
        · have := n2
          by_cases n3 : vl < 1
          · rcases k1 with rfl | rfl
            all_goals (
              go_enter Tryz.func76, Tryz.ntmps76
              go_wp2
              go_ret
              exact ⟨by rw [hf.out]; rfl, Out.alloc (Out.refl _) _⟩)
          · have := n3
            by_cases n4 : 4096 < vl
            · rcases k1 with rfl | rfl
              all_goals (
                go_enter Tryz.func76, Tryz.ntmps76
                go_wp2
                go_ret
                exact ⟨by rw [hf.out]; rfl, Out.alloc (Out.refl _) _⟩)
            · have := n4
              by_cases n5 : en < 1
              · rcases k1 with rfl | rfl
                all_goals (
                  go_enter Tryz.func76, Tryz.ntmps76
                  go_wp2
                  go_ret
                  exact ⟨by rw [hf.out]; rfl, Out.alloc (Out.refl _) _⟩)
              · have := n5
                by_cases n6 : 65536 < en
                · rcases k1 with rfl | rfl
                  all_goals (
                    go_enter Tryz.func76, Tryz.ntmps76
                    go_wp2
                    go_ret
                    exact ⟨by rw [hf.out]; rfl, Out.alloc (Out.refl _) _⟩)
                · omega
  · have g1 : (kd != 1) = true := by simp; omega
    have g2 : (kd != 2) = true := by simp; omega
    have hf : Hid (M = false) := hidOf (by
      rw [hM, Bool.eq_false_iff]
      intro h
      simp only [Bool.and_eq_true, Bool.or_eq_true, beq_iff_eq, decide_eq_true_eq] at h
      omega)
    clear hM hS
    go_enter Tryz.func76, Tryz.ntmps76
    go_wp2
    go_ret
    exact ⟨by rw [hf.out]; rfl, Out.alloc (Out.refl _) _⟩
theorem refShaped_any (m : Img) (w : World) (ta fa da : Option Addr) (tc fc dc : Nat) (hD : TdA w da m.D) (hm : m.D.length ≤ 1024) : Calls Tryz.prog 46 #[.agg #[.slice ta m.T.length tc, .slice fa m.F.length fc, .slice da m.D.length dc, .int .i64 m.en]] w fun e w' => e = .returned (.int .i64 (rN (tabP m))) ∧ Out w w' := by
  obtain ⟨R, hR⟩ : ∃ R, Hid (R = tabP m) := ⟨_, rfl⟩
  rw [← hR.out]
  unfold tabP at hR
  generalize m.F.length = fn at *
  generalize m.T.length = tn at *
  generalize m.D = D at *
  obtain ⟨n, hn⟩ : ∃ n, Hid (n = D.length) := ⟨_, rfl⟩
  rw [← hn.out] at hm ⊢ hR
  go_enter Tryz.func46, Tryz.ntmps46
  go_wp2
  obtain ⟨O, hO⟩ : ∃ O, O = Obj.cells #[Value.slice ta tn tc, Value.slice fa fn fc, Value.slice da n dc, Value.int IntKind.i64 m.en] 26 := ⟨_, rfl⟩
  go_loopw [3, 4] (fun c i wr => ∃ (k : Nat) (z : Int), k ≤ n ∧ c = .int .i64 z ∧ i = .int .i64 k ∧ 0 ≤ z ∧ z ≤ 16777216 * k ∧ Hid (z = roomP (D.take k)) ∧ Hid (∀ j, j < k → shB D j = false) ∧ Hid (Out (w.alloc O) wr)) (fun _ i _ => n - (intOf i).toNat)
  case atStart => exact ⟨0, 0, by omega, rfl, rfl, by omega, by omega, hidOf (by simp [roomP]), hidOf (fun j hj => by omega), hidOf (by rw [hO]; exact Out.refl _)⟩
  case round =>
    obtain ⟨k, z, hk, rfl, rfl, hz0, hz1, hzz, hg, hor⟩ := hrel
    have hor2 : Hid (Out w wr) := hidOf (Out.trans (Out.alloc (Out.refl _) _) hor.out)
    have y2 : wr.cell? ⟨w.heap.size, 2, none⟩ = some (.slice da n dc) := cell_later hor.out (by rw [hO]; exact cell_fresh w _ _ 2 _ rfl)
    by_cases hkl : k < n
    · have hlt : (k : Int) < n := by omega
      obtain ⟨x, hx⟩ : ∃ x, D[k]? = some x := ⟨_, List.getElem?_eq_getElem (by rw [← hn.out]; exact hkl)⟩
      obtain ⟨b, off, rfl, q0, q1, q2, q3, q4⟩ := (hD.out hor2.out).get hx
      have hB : shB D k = !mayT x := by simp [shB, hx]
      have CF : Hid (∀ wx, Calls Tryz.prog 76 #[.agg #[.string ⟨x.nm.toArray⟩, .int .i64 x.kd, .int .i64 x.ky, .int .i64 x.vl, .int .i64 x.en]] wx fun e w' => e = .returned (.bool (mayT x)) ∧ Out wx w') := fun wx => refMay_any x _ wx
      clear hD
      cases hbf : mayT x
      · rw [hbf] at CF hB
        have hfin : Hid (R = some k) := hidOf (by rw [hR.out, fstB_some hkl hg.out hB])
        clear hB
        go_wp2_with (go_at_call 76; refine (CF.out _).mono ?_; rintro e w1 ⟨rfl, o1⟩)
        go_ret
        exact ⟨by rw [hfin.out]; rfl, Out.trans hor2.out o1⟩
      · rw [hbf] at CF hB
        have Hg2 : Hid (∀ j, j < k + 1 → shB D j = false) := hidOf (fun j hj => by
          by_cases e : j = k
          · rw [e, hB]; rfl
          · exact hg.out j (by omega))
        have hM := mayT_in hbf
        have hp := szT_pos hbf
        have hs := hM.2.2.2.2.2
        have hrt := room_take hx
        have CS : Hid (∀ wx, Calls Tryz.prog 77 #[.agg #[.string ⟨x.nm.toArray⟩, .int .i64 x.kd, .int .i64 x.ky, .int .i64 x.vl, .int .i64 x.en]] wx fun e w' => e = .returned (.int .i64 (szT x)) ∧ Out wx w') := fun wx => refSize_any x _ wx (by omega) (by omega) (by omega)
        obtain ⟨zs, hzs⟩ : ∃ zs, Hid (zs = szT x) := ⟨_, rfl⟩
        rw [← hzs.out] at CS hp hs hrt
        have Hz : Hid (z + zs = roomP (D.take (k + 1))) := hidOf (by rw [hrt, ← hzz.out])
        clear hB hM hrt hbf
        go_wp2_with (first | (go_at_call 76; refine (CF.out _).mono ?_; rintro e w1 ⟨rfl, o1⟩; have x2 := cell_later o1 y2; have r0 := cell_later o1 q0; have r1 := cell_later o1 q1; have r2 := cell_later o1 q2; have r3 := cell_later o1 q3; have r4 := cell_later o1 q4) | (go_at_call 77; refine (CS.out _).mono ?_; rintro e w2 ⟨rfl, o2⟩))
        go_roundw
        case rel => exact ⟨k + 1, z + zs, by omega, rfl, by simp, by omega, by simp; omega, Hz, Hg2, hidOf (Out.trans (Out.trans hor.out o1) o2)⟩
        case measure => simp [intOf]; omega
    · have hlt : ¬ (k : Int) < n := by omega
      have hfin : Hid (R = if 67108864 < z then some n else none) := hidOf (by
        rw [hR.out, fstB_none fun j hj => hg.out j (by omega), show roomP D = z by rw [hzz.out, List.take_of_length_le (by rw [← hn.out]; omega)]])
      by_cases hz : 67108864 < z
      · go_wp2
        go_ret
        exact ⟨by rw [hfin.out, if_pos hz]; rfl, hor2.out⟩
      · go_wp2
        go_ret
        exact ⟨by rw [hfin.out, if_neg (by omega)]; rfl, hor2.out⟩
theorem refCut_any (m : Img) (w : World) (ta fa da : Option Addr) (tc fc dc : Nat) (hF : FnA w fa m.F) (hm : m.F.length ≤ 4096) (ht : m.T.length ≤ 1048576) : Calls Tryz.prog 45 #[.agg #[.slice ta m.T.length tc, .slice fa m.F.length fc, .slice da m.D.length dc, .int .i64 m.en]] w fun e w' => e = .returned (.int .i64 (rN (funP m))) ∧ Out w w' := by
  obtain ⟨R, hR⟩ : ∃ R, Hid (R = funP m) := ⟨_, rfl⟩
  rw [← hR.out]
  unfold funP at hR
  generalize m.D.length = dn at *
  generalize m.T = T at *
  generalize m.F = F at *
  obtain ⟨n, hn⟩ : ∃ n, Hid (n = F.length) := ⟨_, rfl⟩
  obtain ⟨tn, htn⟩ : ∃ n, Hid (n = T.length) := ⟨_, rfl⟩
  rw [← hn.out] at hm ⊢ hR
  rw [← htn.out] at ht ⊢ hR
  go_enter Tryz.func45, Tryz.ntmps45
  go_wp2
  obtain ⟨O, hO⟩ : ∃ O, O = Obj.cells #[Value.slice ta tn tc, Value.slice fa n fc, Value.slice da dn dc, Value.int IntKind.i64 m.en] 26 := ⟨_, rfl⟩
  go_loopw [3, 4] (fun c i wr => ∃ (k : Nat) (z : Int), k ≤ n ∧ c = .int .i64 z ∧ i = .int .i64 k ∧ 0 ≤ z ∧ z ≤ tn ∧ Hid (z = bgn (F.take k)) ∧ Hid (∀ j, j < k → fcB T F j = false) ∧ Hid (Out (w.alloc O) wr)) (fun _ i _ => n - (intOf i).toNat)
  case atStart => exact ⟨0, 0, by omega, rfl, rfl, by omega, by omega, hidOf (by simp [bgn]), hidOf (fun j hj => by omega), hidOf (by rw [hO]; exact Out.refl _)⟩
  case round =>
    obtain ⟨k, z, hk, rfl, rfl, hz0, hz1, hzz, hg, hor⟩ := hrel
    have hor2 : Hid (Out w wr) := hidOf (Out.trans (Out.alloc (Out.refl _) _) hor.out)
    have x0 : wr.cell? ⟨w.heap.size, 0, none⟩ = some (.slice ta tn tc) := cell_later hor.out (by rw [hO]; exact cell_fresh w _ _ 0 _ rfl)
    have x1 : wr.cell? ⟨w.heap.size, 1, none⟩ = some (.slice fa n fc) := cell_later hor.out (by rw [hO]; exact cell_fresh w _ _ 1 _ rfl)
    have hlo : w.heap.size < wr.heap.size := by have := hor.out.size; rw [size_alloc] at this; omega
    by_cases hkl : k < n
    · have hlt : (k : Int) < n := by omega
      obtain ⟨x, hx⟩ : ∃ x, F[k]? = some x := ⟨_, List.getElem?_eq_getElem (by rw [← hn.out]; exact hkl)⟩
      obtain ⟨b, off, rfl, q0, q1, q2, q3⟩ := (hF.out hor2.out).get hx
      have hB : fcB T F k = (x.fi != z || decide (x.ct < 1) || decide ((tn : Int) - z < x.ct)) := by simp [fcB, hx, ← hzz.out, htn.out]
      have hbt := bgn_take hx
      rw [← hzz.out] at hbt
      clear hF
      obtain ⟨nm, ob, fi, ct⟩ := x
      simp only at q0 q1 q2 q3 hB hbt
      by_cases h1 : fi = z
      · by_cases h2 : ct < 1
        · have hfin : Hid (R = some k) := hidOf (by rw [hR.out, fstB_some hkl hg.out (by rw [hB]; simp [h2])])
          have g1 : (fi != z) = false := by simp [h1]
          have g2 : decide (ct < 1) = true := by simp [h2]
          clear hB hbt
          have h1 := hidOf h1
          go_wp2
          go_ret
          exact ⟨by rw [hfin.out]; rfl, Out.alloc hor2.out _⟩
        · by_cases h3 : (tn : Int) - z < ct
          · have hfin : Hid (R = some k) := hidOf (by rw [hR.out, fstB_some hkl hg.out (by rw [hB]; simp [h3])])
            have g1 : (fi != z) = false := by simp [h1]
            clear hB hbt
            have h1 := hidOf h1
            go_wp2
            go_ret
            exact ⟨by rw [hfin.out]; rfl, Out.alloc hor2.out _⟩
          · have hf : fcB T F k = false := by rw [hB]; simp [h1, h2]; omega
            have Hg2 : Hid (∀ j, j < k + 1 → fcB T F j = false) := hidOf (fun j hj => by
              by_cases e : j = k
              · rw [e, hf]
              · exact hg.out j (by omega))
            have g1 : (fi != z) = false := by simp [h1]
            have Hz : Hid (z + ct = bgn (F.take (k + 1))) := hidOf hbt.symm
            clear hB hbt hf
            have h1 := hidOf h1
            go_wp2
            go_roundw
            case rel => exact ⟨k + 1, z + ct, by omega, rfl, by simp, by omega, by omega, Hz, Hg2, hidOf (Out.alloc hor.out _)⟩
            case measure => simp [intOf]; omega
      · have hfin : Hid (R = some k) := hidOf (by rw [hR.out, fstB_some hkl hg.out (by rw [hB]; simp [h1])])
        have g1 : (fi != z) = true := by simp [h1]
        clear hB hbt
        go_wp2
        go_ret
        exact ⟨by rw [hfin.out]; rfl, Out.alloc hor2.out _⟩
    · have hlt : ¬ (k : Int) < n := by omega
      have hfin : Hid (R = if z < (tn : Int) then some n else none) := hidOf (by
        rw [hR.out, fstB_none fun j hj => hg.out j (by omega), show bgn F = z by rw [hzz.out, List.take_of_length_le (by rw [← hn.out]; omega)]])
      by_cases hz : z < (tn : Int)
      · go_wp2
        go_ret
        exact ⟨by rw [hfin.out, if_pos hz]; rfl, hor2.out⟩
      · go_wp2
        go_ret
        exact ⟨by rw [hfin.out, if_neg (by omega)]; rfl, hor2.out⟩
end Go.Proofs.YthififblejbleaaGreatDoor
