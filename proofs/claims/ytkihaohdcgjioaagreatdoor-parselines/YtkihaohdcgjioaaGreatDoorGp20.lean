import Derived.Test.YtkihaohdcgjioaaGreatDoorGp19
namespace Go.Proofs.YtkihaohdcgjioaaGreatDoor
open Go.RowKit
set_option linter.unusedVariables false
set_option linter.unusedSimpArgs false
set_option maxRecDepth 200000 in
set_option maxHeartbeats 1600000 in
theorem number64 (w : World) (p : Nat) (r : RS) (h : RdAt w p r.cells) (hs : Sm r) (HE : Hid (ErrR w)) (below : Bool) (high : Int) : Calls Tryz.prog 260 #[.pointer (some ⟨p, 0, none⟩), .bool below, .int .i64 64, .int .u64 high] w fun e w' => e = .returned (.int .i64 (numV below 64 r)) ∧ MEnd p (numS below 9223372036854775808 high r) w w' := by
  have CV : Hid (Calls Tryz.prog 270 #[.string ⟨r.tok.toArray⟩] w fun e w' => e = .returned (.tuple #[.int .u64 (valP r.tok).1, .bool (valP r.tok).2.1, .bool (valP r.tok).2.2]) ∧ Below w.heap.size w w') := by
    have h := valueOf_any ⟨r.tok.toArray⟩ (by rw [mk_size]; have := hs.2; omega) w HE
    rw [mk_list] at h
    exact h
  have HB := valP_rng r.tok
  have HS : Hid (numS below 9223372036854775808 high r = { numR (valP r.tok).2.2 r with outside := r.outside || ((valP r.tok).2.1 || decide ((if below then 9223372036854775808 else high) < (valP r.tok).1)) }) := hidOf rfl
  have HV : Hid (numV below 64 r = wrap64 (Wo.sgnW 64 (if below then Wo.negW (valP r.tok).1 else (valP r.tok).1))) := hidOf rfl
  generalize numS below 9223372036854775808 high r = rn at *
  generalize numV below 64 r = vn at *
  generalize valP r.tok = v at *
  obtain ⟨n, hg, ok⟩ := v
  simp only at CV HB HS HV
  have CX : Hid (∀ wx : World, RdAt wx p ({ r with wrong := r.wrong || !ok } : RS).cells → Calls Tryz.prog 178 #[.pointer (some ⟨p, 0, none⟩)] wx fun e w' => (∃ v, e = .returned v) ∧ MEnd p (numR ok r) wx w') := fun wx hx => nextR wx p _ hx hs
  have H := hidOf h
  have c1 : w.cell? ⟨p, 1, none⟩ = some (.string ⟨r.tok.toArray⟩) := h.cell 1
  have CN : Hid (∀ wx : World, Calls Tryz.prog 271 #[.int .u64 n] wx fun e w' => e = .returned (.int .u64 (Wo.negW n)) ∧ w' = wx) := fun wx => Wo.Neg_any n wx
  have CS : Hid (∀ wx : World, Calls Tryz.prog 272 #[.int .u64 n, .int .i64 64] wx fun e w' => e = .returned (.int .u64 (Wo.sgnW 64 n)) ∧ w' = wx) := fun wx => Wo.Sign_any n 64 wx HB.1 HB.2
  have CT : Hid (∀ wx : World, Calls Tryz.prog 272 #[.int .u64 (Wo.negW n), .int .i64 64] wx fun e w' => e = .returned (.int .u64 (Wo.sgnW 64 (Wo.negW n))) ∧ w' = wx) := fun wx => Wo.Sign_any _ 64 wx (negW_rng n).1 (negW_rng n).2
  have HO : Hid ((numR ok r).outside = r.outside) := hidOf rfl
  clear h hs HE HB
  generalize hw : r.wrong = rw at *
  have HC : Hid (∀ (wx : World) (b : Bool), b = (rw || !ok) → Below w.heap.size w wx → RdAt (wx.setCell ⟨p, 8, none⟩ (.bool b)) p #[tx r.rest, tx r.tok, .int .i64 r.o, .int .i64 r.d, .int .i64 r.s, .int .i64 r.f, .int .i64 r.i, tx r.tgt, .bool (rw || !ok), .bool r.outside] ∧ Chg (fun k => k = p) w (wx.setCell ⟨p, 8, none⟩ (.bool b))) := fun wx b hb hbl => hb ▸ ⟨(H.out.below hbl).set 8 _, Chg.setCell (Chg.of_out (S := fun k => k = p) hbl) (p := ⟨p, 8, none⟩) (show p = p from rfl) _⟩
  have HD : Hid (∀ wx : World, Below w.heap.size w wx → wx.cell? ⟨p, 8, none⟩ = some (.bool rw) ∧ wx.frozen? ⟨p, 8, none⟩ = false) := fun wx hbl => ⟨by rw [← hw]; exact (H.out.below hbl).cell 8, (H.out.below hbl).frozen 8⟩
  clear hw
  cases below
  · simp only [Bool.false_eq_true, if_false, if_true] at HS HV
    cases hg
    · by_cases hn : high < n
      · have HSo : Hid (rn = { numR ok r with outside := true }) := by show _ = _; rw [HS.out, decide_eq_true hn]; simp
        clear HS
        cases rw <;> (
          go_enter Tryz.func260, Tryz.ntmps260
          go_wp2_with (first | (go_at_call 270; refine CV.out.mono ?_; rintro e w1 ⟨rfl, hb1⟩; have d8 := (HD.out _ hb1).1; have f8 := (HD.out _ hb1).2; have Hb1 := hidOf hb1; clear hb1) | (go_at_call 178; refine (CX.out _ (HC.out _ _ (by simp) Hb1.out).1).mono ?_; rintro e w3 ⟨⟨v3, rfl⟩, hend⟩; have d9 : w3.cell? ⟨p, 9, none⟩ = some (.bool r.outside) := hend.1.cell 9; have f9 := hend.1.frozen 9; have He := hidOf hend; clear hend) | (go_at_call 271; refine (CN.out _).mono ?_; rintro e w4 ⟨rfl, hw4⟩; have hw4 := hw4.symm; subst hw4) | (go_at_call 272; (first | refine (CS.out _).mono ?_ | refine (CT.out _).mono ?_); rintro e w5 ⟨rfl, hw5⟩; have hw5 := hw5.symm; subst hw5))
          go_ret
          exact ⟨by rw [HV.out]; rfl, by rw [HSo.out]; exact He.out.1.set 9 _, Chg.setCell (Chg.trans (HC.out _ _ (by simp) Hb1.out).2 He.out.2 (fun k hk _ => hk)) (p := ⟨p, 9, none⟩) (show p = p from rfl) _⟩)
      · have HSo : Hid (rn = numR ok r) := by show _ = _; rw [HS.out, decide_eq_false hn]; exact numOut _ _ (by simp [HO.out])
        clear HS
        cases rw <;> (
          go_enter Tryz.func260, Tryz.ntmps260
          go_wp2_with (first | (go_at_call 270; refine CV.out.mono ?_; rintro e w1 ⟨rfl, hb1⟩; have d8 := (HD.out _ hb1).1; have f8 := (HD.out _ hb1).2; have Hb1 := hidOf hb1; clear hb1) | (go_at_call 178; refine (CX.out _ (HC.out _ _ (by simp) Hb1.out).1).mono ?_; rintro e w3 ⟨⟨v3, rfl⟩, hend⟩; have d9 : w3.cell? ⟨p, 9, none⟩ = some (.bool r.outside) := hend.1.cell 9; have f9 := hend.1.frozen 9; have He := hidOf hend; clear hend) | (go_at_call 271; refine (CN.out _).mono ?_; rintro e w4 ⟨rfl, hw4⟩; have hw4 := hw4.symm; subst hw4) | (go_at_call 272; (first | refine (CS.out _).mono ?_ | refine (CT.out _).mono ?_); rintro e w5 ⟨rfl, hw5⟩; have hw5 := hw5.symm; subst hw5))
          go_ret
          exact ⟨by rw [HV.out]; rfl, by rw [HSo.out]; exact He.out.1, Chg.trans (HC.out _ _ (by simp) Hb1.out).2 He.out.2 (fun k hk _ => hk)⟩)
    · have HSo : Hid (rn = { numR ok r with outside := true }) := by show _ = _; rw [HS.out]; simp
      clear HS
      cases rw <;> (
        go_enter Tryz.func260, Tryz.ntmps260
        go_wp2_with (first | (go_at_call 270; refine CV.out.mono ?_; rintro e w1 ⟨rfl, hb1⟩; have d8 := (HD.out _ hb1).1; have f8 := (HD.out _ hb1).2; have Hb1 := hidOf hb1; clear hb1) | (go_at_call 178; refine (CX.out _ (HC.out _ _ (by simp) Hb1.out).1).mono ?_; rintro e w3 ⟨⟨v3, rfl⟩, hend⟩; have d9 : w3.cell? ⟨p, 9, none⟩ = some (.bool r.outside) := hend.1.cell 9; have f9 := hend.1.frozen 9; have He := hidOf hend; clear hend) | (go_at_call 271; refine (CN.out _).mono ?_; rintro e w4 ⟨rfl, hw4⟩; have hw4 := hw4.symm; subst hw4) | (go_at_call 272; (first | refine (CS.out _).mono ?_ | refine (CT.out _).mono ?_); rintro e w5 ⟨rfl, hw5⟩; have hw5 := hw5.symm; subst hw5))
        go_ret
        exact ⟨by rw [HV.out]; rfl, by rw [HSo.out]; exact He.out.1.set 9 _, Chg.setCell (Chg.trans (HC.out _ _ (by simp) Hb1.out).2 He.out.2 (fun k hk _ => hk)) (p := ⟨p, 9, none⟩) (show p = p from rfl) _⟩)
  · simp only [Bool.false_eq_true, if_false, if_true] at HS HV
    cases hg
    · by_cases hn : 9223372036854775808 < n
      · have HSo : Hid (rn = { numR ok r with outside := true }) := by show _ = _; rw [HS.out, decide_eq_true hn]; simp
        clear HS
        cases rw <;> (
          go_enter Tryz.func260, Tryz.ntmps260
          go_wp2_with (first | (go_at_call 270; refine CV.out.mono ?_; rintro e w1 ⟨rfl, hb1⟩; have d8 := (HD.out _ hb1).1; have f8 := (HD.out _ hb1).2; have Hb1 := hidOf hb1; clear hb1) | (go_at_call 178; refine (CX.out _ (HC.out _ _ (by simp) Hb1.out).1).mono ?_; rintro e w3 ⟨⟨v3, rfl⟩, hend⟩; have d9 : w3.cell? ⟨p, 9, none⟩ = some (.bool r.outside) := hend.1.cell 9; have f9 := hend.1.frozen 9; have He := hidOf hend; clear hend) | (go_at_call 271; refine (CN.out _).mono ?_; rintro e w4 ⟨rfl, hw4⟩; have hw4 := hw4.symm; subst hw4) | (go_at_call 272; (first | refine (CS.out _).mono ?_ | refine (CT.out _).mono ?_); rintro e w5 ⟨rfl, hw5⟩; have hw5 := hw5.symm; subst hw5))
          go_ret
          exact ⟨by rw [HV.out]; rfl, by rw [HSo.out]; exact He.out.1.set 9 _, Chg.setCell (Chg.trans (HC.out _ _ (by simp) Hb1.out).2 He.out.2 (fun k hk _ => hk)) (p := ⟨p, 9, none⟩) (show p = p from rfl) _⟩)
      · have HSo : Hid (rn = numR ok r) := by show _ = _; rw [HS.out, decide_eq_false hn]; exact numOut _ _ (by simp [HO.out])
        clear HS
        cases rw <;> (
          go_enter Tryz.func260, Tryz.ntmps260
          go_wp2_with (first | (go_at_call 270; refine CV.out.mono ?_; rintro e w1 ⟨rfl, hb1⟩; have d8 := (HD.out _ hb1).1; have f8 := (HD.out _ hb1).2; have Hb1 := hidOf hb1; clear hb1) | (go_at_call 178; refine (CX.out _ (HC.out _ _ (by simp) Hb1.out).1).mono ?_; rintro e w3 ⟨⟨v3, rfl⟩, hend⟩; have d9 : w3.cell? ⟨p, 9, none⟩ = some (.bool r.outside) := hend.1.cell 9; have f9 := hend.1.frozen 9; have He := hidOf hend; clear hend) | (go_at_call 271; refine (CN.out _).mono ?_; rintro e w4 ⟨rfl, hw4⟩; have hw4 := hw4.symm; subst hw4) | (go_at_call 272; (first | refine (CS.out _).mono ?_ | refine (CT.out _).mono ?_); rintro e w5 ⟨rfl, hw5⟩; have hw5 := hw5.symm; subst hw5))
          go_ret
          exact ⟨by rw [HV.out]; rfl, by rw [HSo.out]; exact He.out.1, Chg.trans (HC.out _ _ (by simp) Hb1.out).2 He.out.2 (fun k hk _ => hk)⟩)
    · have HSo : Hid (rn = { numR ok r with outside := true }) := by show _ = _; rw [HS.out]; simp
      clear HS
      cases rw <;> (
        go_enter Tryz.func260, Tryz.ntmps260
        go_wp2_with (first | (go_at_call 270; refine CV.out.mono ?_; rintro e w1 ⟨rfl, hb1⟩; have d8 := (HD.out _ hb1).1; have f8 := (HD.out _ hb1).2; have Hb1 := hidOf hb1; clear hb1) | (go_at_call 178; refine (CX.out _ (HC.out _ _ (by simp) Hb1.out).1).mono ?_; rintro e w3 ⟨⟨v3, rfl⟩, hend⟩; have d9 : w3.cell? ⟨p, 9, none⟩ = some (.bool r.outside) := hend.1.cell 9; have f9 := hend.1.frozen 9; have He := hidOf hend; clear hend) | (go_at_call 271; refine (CN.out _).mono ?_; rintro e w4 ⟨rfl, hw4⟩; have hw4 := hw4.symm; subst hw4) | (go_at_call 272; (first | refine (CS.out _).mono ?_ | refine (CT.out _).mono ?_); rintro e w5 ⟨rfl, hw5⟩; have hw5 := hw5.symm; subst hw5))
        go_ret
        exact ⟨by rw [HV.out]; rfl, by rw [HSo.out]; exact He.out.1.set 9 _, Chg.setCell (Chg.trans (HC.out _ _ (by simp) Hb1.out).2 He.out.2 (fun k hk _ => hk)) (p := ⟨p, 9, none⟩) (show p = p from rfl) _⟩)
end Go.Proofs.YtkihaohdcgjioaaGreatDoor
namespace Go.Proofs.YtkihaohdcgjioaaGreatDoor
open Go.RowKit
set_option linter.unusedVariables false
set_option linter.unusedSimpArgs false
set_option maxRecDepth 200000 in
set_option maxHeartbeats 1600000 in
theorem number32 (w : World) (p : Nat) (r : RS) (h : RdAt w p r.cells) (hs : Sm r) (HE : Hid (ErrR w)) (below : Bool) (high : Int) : Calls Tryz.prog 260 #[.pointer (some ⟨p, 0, none⟩), .bool below, .int .i64 32, .int .u64 high] w fun e w' => e = .returned (.int .i64 (numV below 32 r)) ∧ MEnd p (numS below 2147483648 high r) w w' := by
  have CV : Hid (Calls Tryz.prog 270 #[.string ⟨r.tok.toArray⟩] w fun e w' => e = .returned (.tuple #[.int .u64 (valP r.tok).1, .bool (valP r.tok).2.1, .bool (valP r.tok).2.2]) ∧ Below w.heap.size w w') := by
    have h := valueOf_any ⟨r.tok.toArray⟩ (by rw [mk_size]; have := hs.2; omega) w HE
    rw [mk_list] at h
    exact h
  have HB := valP_rng r.tok
  have HS : Hid (numS below 2147483648 high r = { numR (valP r.tok).2.2 r with outside := r.outside || ((valP r.tok).2.1 || decide ((if below then 2147483648 else high) < (valP r.tok).1)) }) := hidOf rfl
  have HV : Hid (numV below 32 r = wrap64 (Wo.sgnW 32 (if below then Wo.negW (valP r.tok).1 else (valP r.tok).1))) := hidOf rfl
  generalize numS below 2147483648 high r = rn at *
  generalize numV below 32 r = vn at *
  generalize valP r.tok = v at *
  obtain ⟨n, hg, ok⟩ := v
  simp only at CV HB HS HV
  have CX : Hid (∀ wx : World, RdAt wx p ({ r with wrong := r.wrong || !ok } : RS).cells → Calls Tryz.prog 178 #[.pointer (some ⟨p, 0, none⟩)] wx fun e w' => (∃ v, e = .returned v) ∧ MEnd p (numR ok r) wx w') := fun wx hx => nextR wx p _ hx hs
  have H := hidOf h
  have c1 : w.cell? ⟨p, 1, none⟩ = some (.string ⟨r.tok.toArray⟩) := h.cell 1
  have CN : Hid (∀ wx : World, Calls Tryz.prog 271 #[.int .u64 n] wx fun e w' => e = .returned (.int .u64 (Wo.negW n)) ∧ w' = wx) := fun wx => Wo.Neg_any n wx
  have CS : Hid (∀ wx : World, Calls Tryz.prog 272 #[.int .u64 n, .int .i64 32] wx fun e w' => e = .returned (.int .u64 (Wo.sgnW 32 n)) ∧ w' = wx) := fun wx => Wo.Sign_any n 32 wx HB.1 HB.2
  have CT : Hid (∀ wx : World, Calls Tryz.prog 272 #[.int .u64 (Wo.negW n), .int .i64 32] wx fun e w' => e = .returned (.int .u64 (Wo.sgnW 32 (Wo.negW n))) ∧ w' = wx) := fun wx => Wo.Sign_any _ 32 wx (negW_rng n).1 (negW_rng n).2
  have HO : Hid ((numR ok r).outside = r.outside) := hidOf rfl
  clear h hs HE HB
  generalize hw : r.wrong = rw at *
  have HC : Hid (∀ (wx : World) (b : Bool), b = (rw || !ok) → Below w.heap.size w wx → RdAt (wx.setCell ⟨p, 8, none⟩ (.bool b)) p #[tx r.rest, tx r.tok, .int .i64 r.o, .int .i64 r.d, .int .i64 r.s, .int .i64 r.f, .int .i64 r.i, tx r.tgt, .bool (rw || !ok), .bool r.outside] ∧ Chg (fun k => k = p) w (wx.setCell ⟨p, 8, none⟩ (.bool b))) := fun wx b hb hbl => hb ▸ ⟨(H.out.below hbl).set 8 _, Chg.setCell (Chg.of_out (S := fun k => k = p) hbl) (p := ⟨p, 8, none⟩) (show p = p from rfl) _⟩
  have HD : Hid (∀ wx : World, Below w.heap.size w wx → wx.cell? ⟨p, 8, none⟩ = some (.bool rw) ∧ wx.frozen? ⟨p, 8, none⟩ = false) := fun wx hbl => ⟨by rw [← hw]; exact (H.out.below hbl).cell 8, (H.out.below hbl).frozen 8⟩
  clear hw
  cases below
  · simp only [Bool.false_eq_true, if_false, if_true] at HS HV
    cases hg
    · by_cases hn : high < n
      · have HSo : Hid (rn = { numR ok r with outside := true }) := by show _ = _; rw [HS.out, decide_eq_true hn]; simp
        clear HS
        cases rw <;> (
          go_enter Tryz.func260, Tryz.ntmps260
          go_wp2_with (first | (go_at_call 270; refine CV.out.mono ?_; rintro e w1 ⟨rfl, hb1⟩; have d8 := (HD.out _ hb1).1; have f8 := (HD.out _ hb1).2; have Hb1 := hidOf hb1; clear hb1) | (go_at_call 178; refine (CX.out _ (HC.out _ _ (by simp) Hb1.out).1).mono ?_; rintro e w3 ⟨⟨v3, rfl⟩, hend⟩; have d9 : w3.cell? ⟨p, 9, none⟩ = some (.bool r.outside) := hend.1.cell 9; have f9 := hend.1.frozen 9; have He := hidOf hend; clear hend) | (go_at_call 271; refine (CN.out _).mono ?_; rintro e w4 ⟨rfl, hw4⟩; have hw4 := hw4.symm; subst hw4) | (go_at_call 272; (first | refine (CS.out _).mono ?_ | refine (CT.out _).mono ?_); rintro e w5 ⟨rfl, hw5⟩; have hw5 := hw5.symm; subst hw5))
          go_ret
          exact ⟨by rw [HV.out]; rfl, by rw [HSo.out]; exact He.out.1.set 9 _, Chg.setCell (Chg.trans (HC.out _ _ (by simp) Hb1.out).2 He.out.2 (fun k hk _ => hk)) (p := ⟨p, 9, none⟩) (show p = p from rfl) _⟩)
      · have HSo : Hid (rn = numR ok r) := by show _ = _; rw [HS.out, decide_eq_false hn]; exact numOut _ _ (by simp [HO.out])
        clear HS
        cases rw <;> (
          go_enter Tryz.func260, Tryz.ntmps260
          go_wp2_with (first | (go_at_call 270; refine CV.out.mono ?_; rintro e w1 ⟨rfl, hb1⟩; have d8 := (HD.out _ hb1).1; have f8 := (HD.out _ hb1).2; have Hb1 := hidOf hb1; clear hb1) | (go_at_call 178; refine (CX.out _ (HC.out _ _ (by simp) Hb1.out).1).mono ?_; rintro e w3 ⟨⟨v3, rfl⟩, hend⟩; have d9 : w3.cell? ⟨p, 9, none⟩ = some (.bool r.outside) := hend.1.cell 9; have f9 := hend.1.frozen 9; have He := hidOf hend; clear hend) | (go_at_call 271; refine (CN.out _).mono ?_; rintro e w4 ⟨rfl, hw4⟩; have hw4 := hw4.symm; subst hw4) | (go_at_call 272; (first | refine (CS.out _).mono ?_ | refine (CT.out _).mono ?_); rintro e w5 ⟨rfl, hw5⟩; have hw5 := hw5.symm; subst hw5))
          go_ret
          exact ⟨by rw [HV.out]; rfl, by rw [HSo.out]; exact He.out.1, Chg.trans (HC.out _ _ (by simp) Hb1.out).2 He.out.2 (fun k hk _ => hk)⟩)
    · have HSo : Hid (rn = { numR ok r with outside := true }) := by show _ = _; rw [HS.out]; simp
      clear HS
      cases rw <;> (
        go_enter Tryz.func260, Tryz.ntmps260
        go_wp2_with (first | (go_at_call 270; refine CV.out.mono ?_; rintro e w1 ⟨rfl, hb1⟩; have d8 := (HD.out _ hb1).1; have f8 := (HD.out _ hb1).2; have Hb1 := hidOf hb1; clear hb1) | (go_at_call 178; refine (CX.out _ (HC.out _ _ (by simp) Hb1.out).1).mono ?_; rintro e w3 ⟨⟨v3, rfl⟩, hend⟩; have d9 : w3.cell? ⟨p, 9, none⟩ = some (.bool r.outside) := hend.1.cell 9; have f9 := hend.1.frozen 9; have He := hidOf hend; clear hend) | (go_at_call 271; refine (CN.out _).mono ?_; rintro e w4 ⟨rfl, hw4⟩; have hw4 := hw4.symm; subst hw4) | (go_at_call 272; (first | refine (CS.out _).mono ?_ | refine (CT.out _).mono ?_); rintro e w5 ⟨rfl, hw5⟩; have hw5 := hw5.symm; subst hw5))
        go_ret
        exact ⟨by rw [HV.out]; rfl, by rw [HSo.out]; exact He.out.1.set 9 _, Chg.setCell (Chg.trans (HC.out _ _ (by simp) Hb1.out).2 He.out.2 (fun k hk _ => hk)) (p := ⟨p, 9, none⟩) (show p = p from rfl) _⟩)
  · simp only [Bool.false_eq_true, if_false, if_true] at HS HV
    cases hg
    · by_cases hn : 2147483648 < n
      · have HSo : Hid (rn = { numR ok r with outside := true }) := by show _ = _; rw [HS.out, decide_eq_true hn]; simp
        clear HS
        cases rw <;> (
          go_enter Tryz.func260, Tryz.ntmps260
          go_wp2_with (first | (go_at_call 270; refine CV.out.mono ?_; rintro e w1 ⟨rfl, hb1⟩; have d8 := (HD.out _ hb1).1; have f8 := (HD.out _ hb1).2; have Hb1 := hidOf hb1; clear hb1) | (go_at_call 178; refine (CX.out _ (HC.out _ _ (by simp) Hb1.out).1).mono ?_; rintro e w3 ⟨⟨v3, rfl⟩, hend⟩; have d9 : w3.cell? ⟨p, 9, none⟩ = some (.bool r.outside) := hend.1.cell 9; have f9 := hend.1.frozen 9; have He := hidOf hend; clear hend) | (go_at_call 271; refine (CN.out _).mono ?_; rintro e w4 ⟨rfl, hw4⟩; have hw4 := hw4.symm; subst hw4) | (go_at_call 272; (first | refine (CS.out _).mono ?_ | refine (CT.out _).mono ?_); rintro e w5 ⟨rfl, hw5⟩; have hw5 := hw5.symm; subst hw5))
          go_ret
          exact ⟨by rw [HV.out]; rfl, by rw [HSo.out]; exact He.out.1.set 9 _, Chg.setCell (Chg.trans (HC.out _ _ (by simp) Hb1.out).2 He.out.2 (fun k hk _ => hk)) (p := ⟨p, 9, none⟩) (show p = p from rfl) _⟩)
      · have HSo : Hid (rn = numR ok r) := by show _ = _; rw [HS.out, decide_eq_false hn]; exact numOut _ _ (by simp [HO.out])
        clear HS
        cases rw <;> (
          go_enter Tryz.func260, Tryz.ntmps260
          go_wp2_with (first | (go_at_call 270; refine CV.out.mono ?_; rintro e w1 ⟨rfl, hb1⟩; have d8 := (HD.out _ hb1).1; have f8 := (HD.out _ hb1).2; have Hb1 := hidOf hb1; clear hb1) | (go_at_call 178; refine (CX.out _ (HC.out _ _ (by simp) Hb1.out).1).mono ?_; rintro e w3 ⟨⟨v3, rfl⟩, hend⟩; have d9 : w3.cell? ⟨p, 9, none⟩ = some (.bool r.outside) := hend.1.cell 9; have f9 := hend.1.frozen 9; have He := hidOf hend; clear hend) | (go_at_call 271; refine (CN.out _).mono ?_; rintro e w4 ⟨rfl, hw4⟩; have hw4 := hw4.symm; subst hw4) | (go_at_call 272; (first | refine (CS.out _).mono ?_ | refine (CT.out _).mono ?_); rintro e w5 ⟨rfl, hw5⟩; have hw5 := hw5.symm; subst hw5))
          go_ret
          exact ⟨by rw [HV.out]; rfl, by rw [HSo.out]; exact He.out.1, Chg.trans (HC.out _ _ (by simp) Hb1.out).2 He.out.2 (fun k hk _ => hk)⟩)
    · have HSo : Hid (rn = { numR ok r with outside := true }) := by show _ = _; rw [HS.out]; simp
      clear HS
      cases rw <;> (
        go_enter Tryz.func260, Tryz.ntmps260
        go_wp2_with (first | (go_at_call 270; refine CV.out.mono ?_; rintro e w1 ⟨rfl, hb1⟩; have d8 := (HD.out _ hb1).1; have f8 := (HD.out _ hb1).2; have Hb1 := hidOf hb1; clear hb1) | (go_at_call 178; refine (CX.out _ (HC.out _ _ (by simp) Hb1.out).1).mono ?_; rintro e w3 ⟨⟨v3, rfl⟩, hend⟩; have d9 : w3.cell? ⟨p, 9, none⟩ = some (.bool r.outside) := hend.1.cell 9; have f9 := hend.1.frozen 9; have He := hidOf hend; clear hend) | (go_at_call 271; refine (CN.out _).mono ?_; rintro e w4 ⟨rfl, hw4⟩; have hw4 := hw4.symm; subst hw4) | (go_at_call 272; (first | refine (CS.out _).mono ?_ | refine (CT.out _).mono ?_); rintro e w5 ⟨rfl, hw5⟩; have hw5 := hw5.symm; subst hw5))
        go_ret
        exact ⟨by rw [HV.out]; rfl, by rw [HSo.out]; exact He.out.1.set 9 _, Chg.setCell (Chg.trans (HC.out _ _ (by simp) Hb1.out).2 He.out.2 (fun k hk _ => hk)) (p := ⟨p, 9, none⟩) (show p = p from rfl) _⟩)
end Go.Proofs.YtkihaohdcgjioaaGreatDoor
