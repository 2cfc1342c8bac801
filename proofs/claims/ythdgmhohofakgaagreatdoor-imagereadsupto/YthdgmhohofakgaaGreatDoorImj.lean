import Derived.Test.YthdgmhohofakgaaGreatDoorImi
namespace Go.Proofs.YthdgmhohofakgaaGreatDoor
open Go.RowKit
set_option linter.unusedVariables false
set_option linter.unusedSimpArgs false
theorem tableFault_any (m : Img) (w : World) (ta fa da : Option Addr) (tc fc dc : Nat) (hD : TdA w da m.D) (hm : m.D.length ≤ 1024) : Calls Tryz.prog 65 #[.agg #[.slice ta m.T.length tc, .slice fa m.F.length fc, .slice da m.D.length dc, .int .i64 m.en]] w (FltE (tabP m) w) := by
  obtain ⟨R, hR⟩ : ∃ R, Hid (R = tabP m) := ⟨_, rfl⟩
  rw [← hR.out]
  unfold tabP at hR
  generalize m.F.length = fn at *
  generalize m.T.length = tn at *
  generalize m.D = D at *
  obtain ⟨n, hn⟩ : ∃ n, Hid (n = D.length) := ⟨_, rfl⟩
  rw [← hn.out] at hm ⊢ hR
  go_enter Tryz.func65, Tryz.ntmps65
  go_wp2
  obtain ⟨O, hO⟩ : ∃ O, O = Obj.cells #[Value.slice ta tn tc, Value.slice fa fn fc, Value.slice da n dc, Value.int IntKind.i64 m.en] 34 := ⟨_, rfl⟩
  go_loopw [4, 10] (fun c i wr => ∃ (k : Nat) (z : Int), k ≤ n ∧ c = .int .i64 z ∧ i = .int .i64 k ∧ 0 ≤ z ∧ z ≤ 16777216 * k ∧ Hid (z = roomP (D.take k)) ∧ Hid (∀ j, j < k → shB D j = false) ∧ Hid (Out (w.alloc O) wr)) (fun _ i _ => n - (intOf i).toNat)
  case atStart => exact ⟨0, 0, by omega, rfl, rfl, by omega, by omega, hidOf (by simp [roomP]), hidOf (fun j hj => by omega), hidOf (by rw [hO]; exact Out.refl _)⟩
  case round =>
    obtain ⟨k, z, hk, rfl, rfl, hz0, hz1, hzz, hg, hor⟩ := hrel
    have hor2 : Hid (Out w wr) := hidOf (Out.trans (Out.alloc (Out.refl _) _) hor.out)
    by_cases hkl : k < n
    · have hlt : (k : Int) < n := by omega
      obtain ⟨x, hx⟩ : ∃ x, D[k]? = some x := ⟨_, List.getElem?_eq_getElem (by rw [← hn.out]; exact hkl)⟩
      obtain ⟨b, off, rfl, q0, q1, q2, q3, q4⟩ := (hD.out hor2.out).get hx
      have hB : shB D k = !mayT x := by simp [shB, hx]
      have CF : Hid (∀ wx, Calls Tryz.prog 86 #[.agg #[.string ⟨x.nm.toArray⟩, .int .i64 x.kd, .int .i64 x.ky, .int .i64 x.vl, .int .i64 x.en]] wx fun e w' => e = .returned (.bool (mayT x)) ∧ Out wx w') := fun wx => tableMay_any x _ wx
      clear hD
      cases hbf : mayT x
      · rw [hbf] at CF hB
        have hfin : Hid (R = some k) := hidOf (by rw [hR.out, fstB_some hkl hg.out hB])
        clear hB
        go_wp2_with (go_at_call 86; refine (CF.out _).mono ?_; rintro e w1 ⟨rfl, o1⟩)
        go_ret2
        exact ⟨k, by rw [hfin.out]; rfl, fun z hz => by rw [hfin.out] at hz; cases hz; rfl, Out.trans (Out.alloc hor2.out _) o1⟩
      · rw [hbf] at CF hB
        have Hg2 : Hid (∀ j, j < k + 1 → shB D j = false) := hidOf (fun j hj => by
          by_cases e : j = k
          · rw [e, hB]; rfl
          · exact hg.out j (by omega))
        have hM := mayT_in hbf
        have hp := szT_pos hbf
        have hs := hM.2.2.2.2.2
        have hrt := room_take hx
        have CS : Hid (∀ wx, Calls Tryz.prog 87 #[.agg #[.string ⟨x.nm.toArray⟩, .int .i64 x.kd, .int .i64 x.ky, .int .i64 x.vl, .int .i64 x.en]] wx fun e w' => e = .returned (.int .i64 (szT x)) ∧ Out wx w') := fun wx => sizeI_any x _ wx (by omega) (by omega) (by omega)
        obtain ⟨zs, hzs⟩ : ∃ zs, Hid (zs = szT x) := ⟨_, rfl⟩
        rw [← hzs.out] at CS hp hs hrt
        have Hz : Hid (z + zs = roomP (D.take (k + 1))) := hidOf (by rw [hrt, ← hzz.out])
        clear hB hM hrt hbf
        go_wp2_with (first | (go_at_call 86; refine (CF.out _).mono ?_; rintro e w1 ⟨rfl, o1⟩; have x0 := cell_later o1 (cell_fresh wr _ _ 0 _ rfl); have x1 := cell_later o1 (cell_fresh wr _ _ 1 _ rfl); have x2 := cell_later o1 (cell_fresh wr _ _ 2 _ rfl); have x3 := cell_later o1 (cell_fresh wr _ _ 3 _ rfl); have x4 := cell_later o1 (cell_fresh wr _ _ 4 _ rfl)) | (go_at_call 87; refine (CS.out _).mono ?_; rintro e w2 ⟨rfl, o2⟩))
        go_roundw
        case rel => exact ⟨k + 1, z + zs, by omega, rfl, by simp, by omega, by simp; omega, Hz, Hg2, hidOf (Out.trans (Out.trans (Out.alloc hor.out _) o1) o2)⟩
        case measure => simp [intOf]; omega
    · have hlt : ¬ (k : Int) < n := by omega
      have hfin : Hid (R = if 67108864 < z then some n else none) := hidOf (by
        rw [hR.out, fstB_none fun j hj => hg.out j (by omega), show roomP D = z by rw [hzz.out, List.take_of_length_le (by rw [← hn.out]; omega)]])
      have x2 := cell_later hor.out (by rw [hO]; exact cell_fresh w _ _ 2 _ rfl)
      simp only [List.getElem_toArray] at x2
      by_cases hz : 67108864 < z
      · go_wp2
        go_ret2
        exact ⟨n, by rw [hfin.out, if_pos hz]; simp [hz], fun q hq => by rw [hfin.out, if_pos hz] at hq; cases hq; rfl, hor2.out⟩
      · go_wp2
        go_ret2
        exact ⟨n, by rw [hfin.out, if_neg (by omega)]; simp, (fun q hq => by rw [hfin.out, if_neg (by omega)] at hq; cases hq), hor2.out⟩
theorem funcFault_any (m : Img) (w : World) (ta fa da : Option Addr) (tc fc dc : Nat) (hF : FnA w fa m.F) (hm : m.F.length ≤ 4096) (ht : m.T.length ≤ 1048576) : Calls Tryz.prog 64 #[.agg #[.slice ta m.T.length tc, .slice fa m.F.length fc, .slice da m.D.length dc, .int .i64 m.en]] w (FltE (funP m) w) := by
  obtain ⟨R, hR⟩ : ∃ R, Hid (R = funP m) := ⟨_, rfl⟩
  rw [← hR.out]
  unfold funP at hR
  generalize m.D.length = dn at *
  generalize m.T = T at *
  generalize m.F = F at *
  have HB := hidOf (bgn_le T F)
  obtain ⟨n, hn⟩ : ∃ n, Hid (n = F.length) := ⟨_, rfl⟩
  obtain ⟨tn, htn⟩ : ∃ n, Hid (n = T.length) := ⟨_, rfl⟩
  rw [← hn.out] at hm ⊢ hR
  rw [← htn.out] at ht ⊢ hR
  go_enter Tryz.func64, Tryz.ntmps64
  go_wp2
  obtain ⟨O, hO⟩ : ∃ O, O = Obj.cells #[Value.slice ta tn tc, Value.slice fa n fc, Value.slice da dn dc, Value.int IntKind.i64 m.en] 34 := ⟨_, rfl⟩
  go_loopw [4, 10] (fun c i wr => ∃ (k : Nat) (z : Int), k ≤ n ∧ c = .int .i64 z ∧ i = .int .i64 k ∧ 0 ≤ z ∧ z ≤ tn ∧ Hid (z = bgn (F.take k)) ∧ Hid (∀ j, j < k → fcB T F j = false) ∧ Hid (Out (w.alloc O) wr)) (fun _ i _ => n - (intOf i).toNat)
  case atStart => exact ⟨0, 0, by omega, rfl, rfl, by omega, by omega, hidOf (by simp [bgn]), hidOf (fun j hj => by omega), hidOf (by rw [hO]; exact Out.refl _)⟩
  case round =>
    obtain ⟨k, z, hk, rfl, rfl, hz0, hz1, hzz, hg, hor⟩ := hrel
    have hor2 : Hid (Out w wr) := hidOf (Out.trans (Out.alloc (Out.refl _) _) hor.out)
    have x0 : wr.cell? ⟨w.heap.size, 0, none⟩ = some (.slice ta tn tc) := cell_later hor.out (by rw [hO]; exact cell_fresh w _ _ 0 _ rfl)
    have x1 : wr.cell? ⟨w.heap.size, 1, none⟩ = some (.slice fa n fc) := cell_later hor.out (by rw [hO]; exact cell_fresh w _ _ 1 _ rfl)
    have hlo : w.heap.size < wr.heap.size := by have := hor.out.size; rw [size_alloc] at this; omega
    by_cases hkl : k < n
    · have hlt : (k : Int) < n := by omega
      obtain ⟨x, hx⟩ : ∃ x, F[k]? = some x := ⟨_, List.getElem?_eq_getElem (by rw [← hn.out]; exact hkl)⟩
      obtain ⟨b, off, rfl, q0, q1, q2, q3⟩ := (hF.out hor2.out).get hx
      have hB : fcB T F k = (x.fi != z || decide (x.ct < 1) || decide ((tn : Int) - z < x.ct)) := by simp [fcB, hx, ← hzz.out, htn.out]
      have hbt := bgn_take hx
      rw [← hzz.out] at hbt
      clear hF
      obtain ⟨nm, ob, fi, ct⟩ := x
      simp only at q0 q1 q2 q3 hB hbt
      by_cases h1 : fi = z
      · by_cases h2 : ct < 1
        · have hfin : Hid (R = some k) := hidOf (by rw [hR.out, fstB_some hkl hg.out (by rw [hB]; simp [h2])])
          have g1 : (fi != z) = false := by simp [h1]
          have g2 : decide (ct < 1) = true := by simp [h2]
          clear hB hbt
          have h1 := hidOf h1
          go_wp2
          go_ret2
          exact ⟨k, by rw [hfin.out]; rfl, fun z hz => by rw [hfin.out] at hz; cases hz; rfl, Out.alloc hor2.out _⟩
        · by_cases h3 : (tn : Int) - z < ct
          · have hfin : Hid (R = some k) := hidOf (by rw [hR.out, fstB_some hkl hg.out (by rw [hB]; simp [h3])])
            have g1 : (fi != z) = false := by simp [h1]
            clear hB hbt
            have h1 := hidOf h1
            go_wp2
            go_ret2
            exact ⟨k, by rw [hfin.out]; rfl, fun z hz => by rw [hfin.out] at hz; cases hz; rfl, Out.alloc hor2.out _⟩
          · have hf : fcB T F k = false := by rw [hB]; simp [h1, h2]; omega
            have Hg2 : Hid (∀ j, j < k + 1 → fcB T F j = false) := hidOf (fun j hj => by
              by_cases e : j = k
              · rw [e, hf]
              · exact hg.out j (by omega))
            have g1 : (fi != z) = false := by simp [h1]
            have Hz : Hid (z + ct = bgn (F.take (k + 1))) := hidOf hbt.symm
            clear hB hbt hf
            have h1 := hidOf h1
            go_wp2
            go_roundw
            case rel => exact ⟨k + 1, z + ct, by omega, rfl, by simp, by omega, by omega, Hz, Hg2, hidOf (Out.alloc hor.out _)⟩
            case measure => simp [intOf]; omega
      · have hfin : Hid (R = some k) := hidOf (by rw [hR.out, fstB_some hkl hg.out (by rw [hB]; simp [h1])])
        have g1 : (fi != z) = true := by simp [h1]
        clear hB hbt
        go_wp2
        go_ret2
        exact ⟨k, by rw [hfin.out]; rfl, fun z hz => by rw [hfin.out] at hz; cases hz; rfl, Out.alloc hor2.out _⟩
    · have hlt : ¬ (k : Int) < n := by omega
      have hfin : Hid (R = if z < (tn : Int) then some n else none) := hidOf (by
        rw [hR.out, fstB_none fun j hj => hg.out j (by omega), show bgn F = z by rw [hzz.out, List.take_of_length_le (by rw [← hn.out]; omega)]])
      by_cases hz : z < (tn : Int)
      · go_wp2
        go_quiet (fail)
        go_wp2
        go_ret2
        exact ⟨n, by rw [hfin.out, if_pos hz]; simp [hz], fun q hq => by rw [hfin.out, if_pos hz] at hq; cases hq; rfl, Out.drewN hor2.out _⟩
      · go_wp2
        go_quiet (fail)
        go_wp2
        go_ret2
        exact ⟨n, by rw [hfin.out, if_neg (by omega)]; simp; omega, (fun q hq => by rw [hfin.out, if_neg (by omega)] at hq; cases hq), Out.drewN hor2.out _⟩
end Go.Proofs.YthdgmhohofakgaaGreatDoor
