import Derived.Test.YthdgmhohofakgaaGreatDoorImh
namespace Go.Proofs.YthdgmhohofakgaaGreatDoor
open Go.RowKit
set_option linter.unusedVariables false
set_option linter.unusedSimpArgs false
theorem insnFits_any (x : Ins) (w : World) : Calls Tryz.prog 88 #[.agg #[.int .i64 x.o, .int .i64 x.d, .int .i64 x.s, .int .i64 x.f, .int .i64 x.i]] w fun e w' => e = .returned (.bool (fitI x)) ∧ Out w w' := by
  obtain ⟨o, d, s, f, i⟩ := x
  unfold fitI
  simp only
  obtain ⟨b1, e1⟩ : ∃ b, (decide (0 ≤ o) && decide (o ≤ 255)) = b := ⟨_, rfl⟩
  obtain ⟨b2, e2⟩ : ∃ b, (decide (0 ≤ d) && decide (d ≤ 15)) = b := ⟨_, rfl⟩
  obtain ⟨b3, e3⟩ : ∃ b, (decide (0 ≤ s) && decide (s ≤ 15)) = b := ⟨_, rfl⟩
  obtain ⟨b4, e4⟩ : ∃ b, (decide (-32768 ≤ f) && decide (f ≤ 32767)) = b := ⟨_, rfl⟩
  obtain ⟨b5, e5⟩ : ∃ b, (decide (-2147483648 ≤ i) && decide (i ≤ 2147483647)) = b := ⟨_, rfl⟩
  obtain ⟨b6, e6⟩ : ∃ b, isW o = b := ⟨_, rfl⟩
  rw [e1, e2, e3, e4, e5, e6]
  replace e1 := hidOf e1
  replace e2 := hidOf e2
  replace e3 := hidOf e3
  replace e4 := hidOf e4
  replace e5 := hidOf e5
  replace e6 := hidOf e6
  have X : ∀ (b : Bool), b = true ∨ b = false := fun b => by cases b <;> simp
  rcases X b1 with rfl | rfl
  · rcases X b2 with rfl | rfl
    · rcases X b3 with rfl | rfl
      · rcases X b4 with rfl | rfl
        · rcases X b6 with rfl | rfl
          all_goals
            go_enter Tryz.func88, Tryz.ntmps88
            go_wp2_with (first | (go_at_call 96; refine (within_any _ _ _ _).mono ?_; rintro e wz ⟨rfl, rfl⟩; (simp only [e1.out, e2.out, e3.out, e4.out, e5.out])) | (go_at_call 72; refine (wide_lit _ _ _ _ _ _).mono ?_; rw [e6.out]; rintro e wy ⟨rfl, o1⟩; have x4 := cell_later o1 (cell_fresh w _ _ 4 _ rfl)))
            go_ret
            exact ⟨by simp, Out.trans (Out.alloc (Out.refl _) _) o1⟩
        · go_enter Tryz.func88, Tryz.ntmps88
          go_wp2_with (go_at_call 96; refine (within_any _ _ _ _).mono ?_; rintro e wz ⟨rfl, rfl⟩; (simp only [e1.out, e2.out, e3.out, e4.out, e5.out]))
          go_ret
          exact ⟨by simp, Out.alloc (Out.refl _) _⟩
      · go_enter Tryz.func88, Tryz.ntmps88
        go_wp2_with (go_at_call 96; refine (within_any _ _ _ _).mono ?_; rintro e wz ⟨rfl, rfl⟩; (simp only [e1.out, e2.out, e3.out, e4.out, e5.out]))
        go_ret
        exact ⟨by simp, Out.alloc (Out.refl _) _⟩
    · go_enter Tryz.func88, Tryz.ntmps88
      go_wp2_with (go_at_call 96; refine (within_any _ _ _ _).mono ?_; rintro e wz ⟨rfl, rfl⟩; (simp only [e1.out, e2.out, e3.out, e4.out, e5.out]))
      go_ret
      exact ⟨by simp, Out.alloc (Out.refl _) _⟩
  · go_enter Tryz.func88, Tryz.ntmps88
    go_wp2_with (go_at_call 96; refine (within_any _ _ _ _).mono ?_; rintro e wz ⟨rfl, rfl⟩; (simp only [e1.out, e2.out, e3.out, e4.out, e5.out]))
    go_ret
    exact ⟨by simp, Out.alloc (Out.refl _) _⟩
/-- what a point answers -/
def FltE (r : Option Nat) (w : World) (e : Ending) (w' : World) : Prop := ∃ k : Int, e = .returned (.tuple #[.int .i64 k, .bool r.isSome]) ∧ (∀ z, r = some z → k = z) ∧ Out w w'
theorem countFault_any (m : Img) (w : World) (ta fa da : Option Addr) (tc fc dc : Nat) (hT : InsA w ta m.T) (hm : m.T.length ≤ 3518437208883) : Calls Tryz.prog 62 #[.agg #[.slice ta m.T.length tc, .slice fa m.F.length fc, .slice da m.D.length dc, .int .i64 m.en]] w (FltE (cntP m) w) := by
  have CS : Hid (∀ wx, Out w wx → Calls Tryz.prog 46 #[.slice ta m.T.length tc] wx fun e w' => e = .returned (.int .i64 (slotsP m.T : Nat)) ∧ Out wx w') := fun wx ox => slotsI_any wx ta _ tc m.T rfl (hT.out ox) hm
  unfold cntP
  generalize slotsP m.T = s at *
  generalize m.T.length = tn at *
  generalize m.F.length = fn at *
  generalize m.D.length = dn at *
  clear hT hm
  have HO : ∀ {w1 : World} {O : Obj}, Out (w.alloc O) w1 → Out w w1 := fun o => Out.trans (Out.alloc (Out.refl _) _) o
  by_cases h1 : 1048576 < s
  · rw [if_pos h1]
    have g1 : (1048576 : Int) < s := by omega
    go_enter Tryz.func62, Tryz.ntmps62
    go_wp2_with (go_at_call 46; refine (CS.out _ (Out.alloc (Out.refl _) _)).mono ?_; rintro e w1 ⟨rfl, o1⟩)
    go_ret2
    exact ⟨0, rfl, fun z hz => by cases hz; rfl, HO o1⟩
  · have g1 : ¬ (1048576 : Int) < s := by omega
    rw [if_neg h1]
    by_cases h2 : 4096 < fn
    · rw [if_pos h2]
      have g2 : (4096 : Int) < fn := by omega
      go_enter Tryz.func62, Tryz.ntmps62
      go_wp2_with (go_at_call 46; refine (CS.out _ (Out.alloc (Out.refl _) _)).mono ?_; rintro e w1 ⟨rfl, o1⟩; have x1 := cell_later o1 (cell_fresh w _ _ 1 _ rfl))
      go_ret2
      exact ⟨1, rfl, fun z hz => by cases hz; rfl, HO o1⟩
    · rw [if_neg h2]
      have g2 : ¬ (4096 : Int) < fn := by omega
      by_cases h3 : 1024 < dn
      · rw [if_pos h3]
        have g3 : (1024 : Int) < dn := by omega
        go_enter Tryz.func62, Tryz.ntmps62
        go_wp2_with (go_at_call 46; refine (CS.out _ (Out.alloc (Out.refl _) _)).mono ?_; rintro e w1 ⟨rfl, o1⟩; have x1 := cell_later o1 (cell_fresh w _ _ 1 _ rfl); have x2 := cell_later o1 (cell_fresh w _ _ 2 _ rfl))
        go_ret2
        exact ⟨2, rfl, fun z hz => by cases hz; rfl, HO o1⟩
      · rw [if_neg h3]
        have g3 : ¬ (1024 : Int) < dn := by omega
        go_enter Tryz.func62, Tryz.ntmps62
        go_wp2_with (go_at_call 46; refine (CS.out _ (Out.alloc (Out.refl _) _)).mono ?_; rintro e w1 ⟨rfl, o1⟩; have x1 := cell_later o1 (cell_fresh w _ _ 1 _ rfl); have x2 := cell_later o1 (cell_fresh w _ _ 2 _ rfl))
        go_ret2
        exact ⟨0, rfl, (fun z hz => by cases hz), HO o1⟩
theorem entryFault_any (m : Img) (w : World) (ta fa da : Option Addr) (tc fc dc : Nat) : Calls Tryz.prog 66 #[.agg #[.slice ta m.T.length tc, .slice fa m.F.length fc, .slice da m.D.length dc, .int .i64 m.en]] w (FltE (entP m) w) := by
  unfold entP
  generalize m.T.length = tn at *
  generalize m.F.length = fn at *
  generalize m.D.length = dn at *
  generalize m.en = en at *
  by_cases h1 : en < 0
  · rw [if_pos (.inl h1)]
    have g1 : decide (en < 0) = true := by simpa using h1
    go_enter Tryz.func66, Tryz.ntmps66
    go_wp2
    go_quiet (fail)
    go_wp2
    go_ret2
    exact ⟨0, rfl, fun z hz => by cases hz; rfl, Out.drewN (Out.alloc (Out.refl _) _) _⟩
  · have g1 : decide (en < 0) = false := by simpa using h1
    by_cases h2 : (fn : Int) ≤ en
    · rw [if_pos (.inr h2)]
      go_enter Tryz.func66, Tryz.ntmps66
      go_wp2
      go_quiet (fail)
      go_wp2
      go_ret2
      exact ⟨0, rfl, fun z hz => by cases hz; rfl, Out.drewN (Out.alloc (Out.refl _) _) _⟩
    · rw [if_neg (by omega)]
      have h2 : en < (fn : Int) := by omega
      go_enter Tryz.func66, Tryz.ntmps66
      go_wp2
      go_quiet (fail)
      go_wp2
      go_ret2
      exact ⟨0, by simp; omega, (fun z hz => by cases hz), Out.drewN (Out.alloc (Out.refl _) _) _⟩
theorem insnFault_any (m : Img) (w : World) (ta fa da : Option Addr) (tc fc dc : Nat) (hT : InsA w ta m.T) (hm : m.T.length ≤ 3518437208883) : Calls Tryz.prog 67 #[.agg #[.slice ta m.T.length tc, .slice fa m.F.length fc, .slice da m.D.length dc, .int .i64 m.en]] w (FltE (insP m) w) := by
  unfold insP
  generalize m.F.length = fn at *
  generalize m.D.length = dn at *
  generalize m.T = T at *
  obtain ⟨n, hn⟩ : ∃ n, Hid (n = T.length) := ⟨_, rfl⟩
  rw [← hn.out] at hm ⊢
  go_enter Tryz.func67, Tryz.ntmps67
  go_wp2
  go_loopw [9] (fun i wr => ∃ k : Nat, k ≤ n ∧ i = .int .i64 k ∧ Hid (∀ j, j < k → inB T j = false) ∧ Hid (Out w wr)) (fun i _ => n - (intOf i).toNat)
  case atStart => exact ⟨0, by omega, rfl, hidOf (fun j hj => by omega), hidOf (Out.alloc (Out.refl _) _)⟩
  case round =>
    obtain ⟨k, hk, rfl, hg, hor⟩ := hrel
    by_cases hkl : k < n
    · have hlt : (k : Int) < n := by omega
      obtain ⟨x, hx⟩ : ∃ x, T[k]? = some x := ⟨_, List.getElem?_eq_getElem (by rw [← hn.out]; exact hkl)⟩
      obtain ⟨b, off, rfl, q0, q1, q2, q3, q4⟩ := (hT.out hor.out).get hx
      have hB : inB T k = !fitI x := by simp [inB, hx]
      have CF : Hid (∀ wx, Calls Tryz.prog 88 #[.agg #[.int .i64 x.o, .int .i64 x.d, .int .i64 x.s, .int .i64 x.f, .int .i64 x.i]] wx fun e w' => e = .returned (.bool (fitI x)) ∧ Out wx w') := fun wx => insnFits_any x wx
      clear hT
      generalize fitI x = bf at *
      cases bf
      · have hfin : Hid (fstB (inB T) n = some k) := hidOf (fstB_some hkl hg.out hB)
        clear hB
        go_wp2_with (go_at_call 88; refine (CF.out _).mono ?_; rintro e w1 ⟨rfl, o1⟩)
        go_ret2
        exact ⟨k, by rw [hfin.out]; rfl, fun z hz => by rw [hfin.out] at hz; cases hz; rfl, Out.trans (Out.alloc hor.out _) o1⟩
      · have Hg2 : Hid (∀ j, j < k + 1 → inB T j = false) := hidOf (fun j hj => by
          by_cases e : j = k
          · rw [e, hB]; rfl
          · exact hg.out j (by omega))
        clear hB
        go_wp2_with (go_at_call 88; refine (CF.out _).mono ?_; rintro e w1 ⟨rfl, o1⟩)
        go_roundw
        case rel => exact ⟨k + 1, by omega, by simp, Hg2, hidOf (Out.trans (Out.alloc hor.out _) o1)⟩
        case measure => simp [intOf]; omega
    · have hlt : ¬ (k : Int) < n := by omega
      have hfin : Hid (fstB (inB T) n = none) := hidOf (fstB_none fun j hj => hg.out j (by omega))
      go_wp2
      go_ret2
      exact ⟨0, by rw [hfin.out]; rfl, (fun z hz => by rw [hfin.out] at hz; cases hz), hor.out⟩
end Go.Proofs.YthdgmhohofakgaaGreatDoor
