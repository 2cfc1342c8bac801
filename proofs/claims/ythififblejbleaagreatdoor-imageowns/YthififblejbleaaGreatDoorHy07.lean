import Derived.Test.YthififblejbleaaGreatDoorHy06
import Derived.Laws.EntriesVeiled
namespace Go.Proofs.YthififblejbleaaGreatDoor
open Go.RowKit
set_option linter.unusedVariables false
set_option linter.unusedSimpArgs false
theorem nameFault_any (m : Img) (w : World) (ta fa da : Option Addr) (tc fc dc : Nat) (hF : FnA w fa m.F) (hD : TdA w da m.D) (hm : m.F.length ≤ 4096) (hd : m.D.length ≤ 1024) (hok : ∀ x ∈ m.F, OkK x.nm x.ob) : Calls Tryz.prog 79 #[.agg #[.slice ta m.T.length tc, .slice fa m.F.length fc, .slice da m.D.length dc, .int .i64 m.en]] w (FltE (namP m) w) := by
  have CF : Hid (∀ wx, Out w wx → Calls Tryz.prog 98 #[.slice fa m.F.length fc] wx (FltE (fstB (fnB m.F) m.F.length) wx)) := fun wx ox => funcName_any m.F wx fa fc (hF.out ox) hm hok
  have CD : Hid (∀ wx, Out w wx → Calls Tryz.prog 99 #[.slice da m.D.length dc] wx (FltE (fstB (tdB m.D) m.D.length) wx)) := fun wx ox => tableName_any m.D wx da dc (hD.out ox) hd
  obtain ⟨R, hR⟩ : ∃ R, Hid (R = namP m) := ⟨_, rfl⟩
  rw [← hR.out]
  unfold namP at hR
  have HO : ∀ {w1 : World} {O : Obj}, Out (w.alloc O) w1 → Out w w1 := fun o => Out.trans (Out.alloc (Out.refl _) _) o
  have HKB : Hid (∀ k, fstB (tdB m.D) m.D.length = some k → k < 1024) := hidOf (fun k hk => by have := (fstB_in hk).1; omega)
  clear hF hD hok
  generalize fstB (fnB m.F) m.F.length = r1 at *
  generalize fstB (tdB m.D) m.D.length = r2 at *
  generalize m.T.length = tn at *
  generalize m.F.length = fn at *
  generalize m.D.length = dn at *
  generalize m.en = en at *
  cases r1 with
  | some k1 =>
    have hfin : Hid (R = some k1) := hidOf hR.out
    go_enter Tryz.func79, Tryz.ntmps79
    go_wp2_with (go_at_call 98; refine (CF.out _ (Out.alloc (Out.refl _) _)).mono ?_; rintro e w1 ⟨k, rfl, hk, o1⟩; have hk := hk k1 rfl; subst hk)
    go_ret2
    exact ⟨k1, by rw [hfin.out]; rfl, fun z hz => by rw [hfin.out] at hz; cases hz; rfl, HO o1⟩
  | none =>
    cases r2 with
    | some k2 =>
      have hfin : Hid (R = some (fn + k2)) := hidOf hR.out
      have HK2 : Hid (∀ z, some k2 = some z → z = k2) := hidOf (fun z h => by cases h; rfl)
      have hkb := HKB.out k2 rfl
      go_enter Tryz.func79, Tryz.ntmps79
      go_wp2_with (first | (go_at_call 98; refine (CF.out _ (Out.alloc (Out.refl _) _)).mono ?_; rintro e w1 ⟨k, rfl, -, o1⟩; have x1 := cell_later o1 (cell_fresh w _ _ 1 _ rfl); have x2 := cell_later o1 (cell_fresh w _ _ 2 _ rfl)) | (go_at_call 99; refine (CD.out _ (HO o1)).mono ?_; rintro e w2 ⟨k', rfl, hk, o2⟩; have hk := hk k2 rfl; subst hk; have y1 := cell_later o2 x1))
      go_ret2
      exact ⟨_, by rw [hfin.out]; rfl, fun z hz => by rw [hfin.out] at hz; cases hz; simp, HO (Out.trans o1 o2)⟩
    | none =>
      have hfin : Hid (R = none) := hidOf hR.out
      go_enter Tryz.func79, Tryz.ntmps79
      go_wp2_with (first | (go_at_call 98; refine (CF.out _ (Out.alloc (Out.refl _) _)).mono ?_; rintro e w1 ⟨k, rfl, -, o1⟩; have x1 := cell_later o1 (cell_fresh w _ _ 1 _ rfl); have x2 := cell_later o1 (cell_fresh w _ _ 2 _ rfl)) | (go_at_call 99; refine (CD.out _ (HO o1)).mono ?_; rintro e w2 ⟨k', rfl, -, o2⟩; have y1 := cell_later o2 x1))
      go_ret2
      exact ⟨_, by rw [hfin.out]; rfl, (fun z hz => by rw [hfin.out] at hz; cases hz), HO (Out.trans o1 o2)⟩
def ptO : Obj := .cells #[.func (Fn.func 78) #[] #[], .int .i64 171, .func (Fn.func 79) #[] #[], .int .i64 172, .func (Fn.func 80) #[] #[], .int .i64 173, .func (Fn.func 81) #[] #[], .int .i64 174, .func (Fn.func 82) #[] #[], .int .i64 175, .func (Fn.func 83) #[] #[], .int .i64 176] 115
theorem points_any (w : World) : Calls Tryz.prog 50 #[] w fun e w' => e = .returned (.slice (some ⟨w.heap.size, 0, none⟩) 6 6) ∧ w' = w.alloc ptO := by
  go_enter Tryz.func50, Tryz.ntmps50
  go_wp2
  go_ret
  exact ⟨rfl, rfl⟩
structure PreC (m : Img) (k : Nat) : Prop where
  a0 : 0 < k → cntP m = none
  a1 : 1 < k → namP m = none
  a2 : 2 < k → funP m = none
  a3 : 3 < k → tabP m = none
  a4 : 4 < k → entP m = none
  a5 : 5 < k → insP m = none
theorem cnt_in {m : Img} (h : cntP m = none) : m.T.length ≤ 1048576 ∧ m.F.length ≤ 4096 ∧ m.D.length ≤ 1024 := by
  unfold cntP at h
  repeat (split at h; · cases h)
  have : m.T.length ≤ slotsP m.T := by unfold slotsP; omega
  omega
theorem PreC.c {m : Img} {k : Nat} (h : PreC m k) (hk : 0 < k) : m.T.length ≤ 1048576 ∧ m.F.length ≤ 4096 ∧ m.D.length ≤ 1024 := cnt_in (h.a0 hk)
structure ImA (w : World) (ta fa da : Option Addr) (m : Img) : Prop where
  t : InsA w ta m.T
  f : FnA w fa m.F
  d : TdA w da m.D
  n : m.T.length ≤ 3518437208883
  k : ∀ x ∈ m.F, OkK x.nm x.ob
theorem ImA.out {w w' : World} {ta fa da : Option Addr} {m : Img} (h : ImA w ta fa da m) (o : Out w w') : ImA w' ta fa da m := ⟨h.t.out o, h.f.out o, h.d.out o, h.n, h.k⟩
set_option maxHeartbeats 4000000 in
theorem check_any (m : Img) (w : World) (ta fa da : Option Addr) (tc fc dc : Nat) (h : ImA w ta fa da m) : Calls Tryz.prog 23 #[.agg #[.slice ta m.T.length tc, .slice fa m.F.length fc, .slice da m.D.length dc, .int .i64 m.en]] w fun e w' => e = .returned (.tuple #[.int .i64 ((ckP m).1 : Nat), .int .i64 (ckP m).2]) ∧ Out w w' := by
  obtain ⟨R, hR⟩ : ∃ R, Hid (R = ckP m) := ⟨_, rfl⟩
  rw [← hR.out]
  have C0 : Hid (∀ wx, Out w wx → Calls Tryz.prog 78 #[.agg #[.slice ta m.T.length tc, .slice fa m.F.length fc, .slice da m.D.length dc, .int .i64 m.en]] wx (FltE (cntP m) wx)) := fun wx ox => countFault_any m wx ta fa da tc fc dc (h.t.out ox) h.n
  have C1 : Hid (m.T.length ≤ 1048576 ∧ m.F.length ≤ 4096 ∧ m.D.length ≤ 1024 → ∀ wx, Out w wx → Calls Tryz.prog 79 #[.agg #[.slice ta m.T.length tc, .slice fa m.F.length fc, .slice da m.D.length dc, .int .i64 m.en]] wx (FltE (namP m) wx)) := fun hc wx ox => nameFault_any m wx ta fa da tc fc dc (h.f.out ox) (h.d.out ox) hc.2.1 hc.2.2 h.k
  have C2 : Hid (m.T.length ≤ 1048576 ∧ m.F.length ≤ 4096 ∧ m.D.length ≤ 1024 → ∀ wx, Out w wx → Calls Tryz.prog 80 #[.agg #[.slice ta m.T.length tc, .slice fa m.F.length fc, .slice da m.D.length dc, .int .i64 m.en]] wx (FltE (funP m) wx)) := fun hc wx ox => funcFault_any m wx ta fa da tc fc dc (h.f.out ox) hc.2.1 hc.1
  have C3 : Hid (m.T.length ≤ 1048576 ∧ m.F.length ≤ 4096 ∧ m.D.length ≤ 1024 → ∀ wx, Out w wx → Calls Tryz.prog 81 #[.agg #[.slice ta m.T.length tc, .slice fa m.F.length fc, .slice da m.D.length dc, .int .i64 m.en]] wx (FltE (tabP m) wx)) := fun hc wx ox => tableFault_any m wx ta fa da tc fc dc (h.d.out ox) hc.2.2
  have C4 : Hid (∀ wx, Out w wx → Calls Tryz.prog 82 #[.agg #[.slice ta m.T.length tc, .slice fa m.F.length fc, .slice da m.D.length dc, .int .i64 m.en]] wx (FltE (entP m) wx)) := fun wx ox => entryFault_any m wx ta fa da tc fc dc
  have C5 : Hid (∀ wx, Out w wx → Calls Tryz.prog 83 #[.agg #[.slice ta m.T.length tc, .slice fa m.F.length fc, .slice da m.D.length dc, .int .i64 m.en]] wx (FltE (insP m) wx)) := fun wx ox => insnFault_any m wx ta fa da tc fc dc (h.t.out ox) h.n
  clear h
  obtain ⟨O, hO⟩ : ∃ O, Hid (O = Obj.cells #[Value.slice ta m.T.length tc, Value.slice fa m.F.length fc, Value.slice da m.D.length dc, Value.int IntKind.i64 m.en] 26) := ⟨_, rfl⟩
  go_enter Tryz.func23, Tryz.ntmps23
  go_wp2_with (go_at_call 50; refine (points_any _).mono ?_; rintro e w1 ⟨rfl, rfl⟩)
  go_loopw [10] (fun i wr => ∃ k : Nat, k ≤ 6 ∧ i = .int .i64 k ∧ Hid (PreC m k) ∧ Hid (Out ((w.alloc O).alloc ptO) wr)) (fun i _ => 6 - (intOf i).toNat)
  case atStart => exact ⟨0, by omega, rfl, hidOf ⟨fun h => absurd h (by omega), fun h => absurd h (by omega), fun h => absurd h (by omega), fun h => absurd h (by omega), fun h => absurd h (by omega), fun h => absurd h (by omega)⟩, hidOf (by rw [hO.out]; exact Out.refl _)⟩
  case round =>
    obtain ⟨k, hk, rfl, hpre, hor⟩ := hrel
    have ow : Out w wr := Out.trans (Out.alloc (Out.alloc (Out.refl _) _) _) hor.out
    have x0 : wr.cell? ⟨w.heap.size, 0, none⟩ = some (.slice ta m.T.length tc) := cell_later (Out.trans (Out.alloc (Out.refl _) _) hor.out) (by rw [hO.out]; exact cell_fresh w _ _ 0 _ rfl)
    have x1 : wr.cell? ⟨w.heap.size, 1, none⟩ = some (.slice fa m.F.length fc) := cell_later (Out.trans (Out.alloc (Out.refl _) _) hor.out) (by rw [hO.out]; exact cell_fresh w _ _ 1 _ rfl)
    have x2 : wr.cell? ⟨w.heap.size, 2, none⟩ = some (.slice da m.D.length dc) := cell_later (Out.trans (Out.alloc (Out.refl _) _) hor.out) (by rw [hO.out]; exact cell_fresh w _ _ 2 _ rfl)
    have x3 : wr.cell? ⟨w.heap.size, 3, none⟩ = some (.int .i64 m.en) := cell_later (Out.trans (Out.alloc (Out.refl _) _) hor.out) (by rw [hO.out]; exact cell_fresh w _ _ 3 _ rfl)
    have hlo : w.heap.size + 1 < wr.heap.size := by have := hor.out.size; rw [size_alloc, size_alloc] at this; omega
    have hlo0 : w.heap.size < wr.heap.size := by omega
    have P : Hid (∀ j, wr.cell? ⟨w.heap.size + 1, j, none⟩ = ((w.alloc O).alloc ptO).cell? ⟨w.heap.size + 1, j, none⟩) := hidOf (fun j => hor.out.cells _ _ (by rw [size_alloc, size_alloc]; omega))
    replace P : Hid (∀ j, wr.cell? ⟨w.heap.size + 1, j, none⟩ = (#[.func (Fn.func 78) #[] #[], .int .i64 171, .func (Fn.func 79) #[] #[], .int .i64 172, .func (Fn.func 80) #[] #[], .int .i64 173, .func (Fn.func 81) #[] #[], .int .i64 174, .func (Fn.func 82) #[] #[], .int .i64 175, .func (Fn.func 83) #[] #[], .int .i64 176] : Array Value)[j]?) := hidOf (fun j => by rw [P.out j]; exact cell_fresh _ _ _ j _ (by rw [size_alloc]))
    by_cases hk6 : k < 6
    · obtain rfl | rfl | rfl | rfl | rfl | rfl : k = 0 ∨ k = 1 ∨ k = 2 ∨ k = 3 ∨ k = 4 ∨ k = 5 := by omega
      · -- count
        have q0 : wr.cell? ⟨w.heap.size + 1, 0, none⟩ = some (.func (Fn.func 78) #[] #[]) := P.out 0
        have q1 : wr.cell? ⟨w.heap.size + 1, 1, none⟩ = some (.int .i64 171) := P.out 1
        have CC : Hid (∀ wx, Out w wx → Calls Tryz.prog 78 #[.agg #[.slice ta m.T.length tc, .slice fa m.F.length fc, .slice da m.D.length dc, .int .i64 m.en]] wx (FltE (cntP m) wx)) := hidOf (C0.out )
        generalize hr : cntP m = r at *
        have Hr := hidOf hr
        clear hr
        cases r with
        | some z =>
          have hfin : Hid (R = (z, 171)) := hidOf (by rw [hR.out]; simp only [ckP, ptE, Hr.out])
          go_upto_region 6 with (go_at_call 78; refine (CC.out _ (Out.alloc ow _)).mono ?_; rintro e w1 ⟨z1, rfl, hz, o1⟩; have hz := hz z rfl; subst hz; have y1 : w1.cell? ⟨wr.heap.size, 1, none⟩ = some (.int .i64 171) := cell_later o1 (cell_fresh wr _ _ 1 _ rfl))
          go_quiet (fail)
          go_wp2
          go_ret2
          exact ⟨by rw [hfin.out]; rfl, Out.drewN (Out.trans (Out.alloc ow _) o1) _⟩
        | none =>
          go_wp2_with (go_at_call 78; refine (CC.out _ (Out.alloc ow _)).mono ?_; rintro e w1 ⟨z1, rfl, -, o1⟩)
          go_roundw
          case rel => exact ⟨1, by omega, rfl, hidOf ⟨fun _ => Hr.out, fun h => absurd h (by omega), fun h => absurd h (by omega), fun h => absurd h (by omega), fun h => absurd h (by omega), fun h => absurd h (by omega)⟩, hidOf (Out.trans (Out.alloc hor.out _) o1)⟩
          case measure => simp [intOf]
      · -- name
        have q0 : wr.cell? ⟨w.heap.size + 1, 2, none⟩ = some (.func (Fn.func 79) #[] #[]) := P.out 2
        have q1 : wr.cell? ⟨w.heap.size + 1, 3, none⟩ = some (.int .i64 172) := P.out 3
        have CC : Hid (∀ wx, Out w wx → Calls Tryz.prog 79 #[.agg #[.slice ta m.T.length tc, .slice fa m.F.length fc, .slice da m.D.length dc, .int .i64 m.en]] wx (FltE (namP m) wx)) := hidOf (C1.out (hpre.out.c (by omega)))
        generalize hr : namP m = r at *
        have Hr := hidOf hr
        clear hr
        cases r with
        | some z =>
          have hfin : Hid (R = (z, 172)) := hidOf (by rw [hR.out]; simp only [ckP, ptE, Hr.out, hpre.out.a0 (by omega)])
          go_upto_region 6 with (go_at_call 79; refine (CC.out _ (Out.alloc ow _)).mono ?_; rintro e w1 ⟨z1, rfl, hz, o1⟩; have hz := hz z rfl; subst hz; have y1 : w1.cell? ⟨wr.heap.size, 1, none⟩ = some (.int .i64 172) := cell_later o1 (cell_fresh wr _ _ 1 _ rfl))
          go_quiet (fail)
          go_wp2
          go_ret2
          exact ⟨by rw [hfin.out]; rfl, Out.drewN (Out.trans (Out.alloc ow _) o1) _⟩
        | none =>
          go_wp2_with (go_at_call 79; refine (CC.out _ (Out.alloc ow _)).mono ?_; rintro e w1 ⟨z1, rfl, -, o1⟩)
          go_roundw
          case rel => exact ⟨2, by omega, rfl, hidOf ⟨fun _ => hpre.out.a0 (by omega), fun _ => Hr.out, fun h => absurd h (by omega), fun h => absurd h (by omega), fun h => absurd h (by omega), fun h => absurd h (by omega)⟩, hidOf (Out.trans (Out.alloc hor.out _) o1)⟩
          case measure => simp [intOf]
      · -- func
        have q0 : wr.cell? ⟨w.heap.size + 1, 4, none⟩ = some (.func (Fn.func 80) #[] #[]) := P.out 4
        have q1 : wr.cell? ⟨w.heap.size + 1, 5, none⟩ = some (.int .i64 173) := P.out 5
        have CC : Hid (∀ wx, Out w wx → Calls Tryz.prog 80 #[.agg #[.slice ta m.T.length tc, .slice fa m.F.length fc, .slice da m.D.length dc, .int .i64 m.en]] wx (FltE (funP m) wx)) := hidOf (C2.out (hpre.out.c (by omega)))
        generalize hr : funP m = r at *
        have Hr := hidOf hr
        clear hr
        cases r with
        | some z =>
          have hfin : Hid (R = (z, 173)) := hidOf (by rw [hR.out]; simp only [ckP, ptE, Hr.out, hpre.out.a0 (by omega), hpre.out.a1 (by omega)])
          go_upto_region 6 with (go_at_call 80; refine (CC.out _ (Out.alloc ow _)).mono ?_; rintro e w1 ⟨z1, rfl, hz, o1⟩; have hz := hz z rfl; subst hz; have y1 : w1.cell? ⟨wr.heap.size, 1, none⟩ = some (.int .i64 173) := cell_later o1 (cell_fresh wr _ _ 1 _ rfl))
          go_quiet (fail)
          go_wp2
          go_ret2
          exact ⟨by rw [hfin.out]; rfl, Out.drewN (Out.trans (Out.alloc ow _) o1) _⟩
        | none =>
          go_wp2_with (go_at_call 80; refine (CC.out _ (Out.alloc ow _)).mono ?_; rintro e w1 ⟨z1, rfl, -, o1⟩)
          go_roundw
          case rel => exact ⟨3, by omega, rfl, hidOf ⟨fun _ => hpre.out.a0 (by omega), fun _ => hpre.out.a1 (by omega), fun _ => Hr.out, fun h => absurd h (by omega), fun h => absurd h (by omega), fun h => absurd h (by omega)⟩, hidOf (Out.trans (Out.alloc hor.out _) o1)⟩
          case measure => simp [intOf]
      · -- table
        have q0 : wr.cell? ⟨w.heap.size + 1, 6, none⟩ = some (.func (Fn.func 81) #[] #[]) := P.out 6
        have q1 : wr.cell? ⟨w.heap.size + 1, 7, none⟩ = some (.int .i64 174) := P.out 7
        have CC : Hid (∀ wx, Out w wx → Calls Tryz.prog 81 #[.agg #[.slice ta m.T.length tc, .slice fa m.F.length fc, .slice da m.D.length dc, .int .i64 m.en]] wx (FltE (tabP m) wx)) := hidOf (C3.out (hpre.out.c (by omega)))
        generalize hr : tabP m = r at *
        have Hr := hidOf hr
        clear hr
        cases r with
        | some z =>
          have hfin : Hid (R = (z, 174)) := hidOf (by rw [hR.out]; simp only [ckP, ptE, Hr.out, hpre.out.a0 (by omega), hpre.out.a1 (by omega), hpre.out.a2 (by omega)])
          go_upto_region 6 with (go_at_call 81; refine (CC.out _ (Out.alloc ow _)).mono ?_; rintro e w1 ⟨z1, rfl, hz, o1⟩; have hz := hz z rfl; subst hz; have y1 : w1.cell? ⟨wr.heap.size, 1, none⟩ = some (.int .i64 174) := cell_later o1 (cell_fresh wr _ _ 1 _ rfl))
          go_quiet (fail)
          go_wp2
          go_ret2
          exact ⟨by rw [hfin.out]; rfl, Out.drewN (Out.trans (Out.alloc ow _) o1) _⟩
        | none =>
          go_wp2_with (go_at_call 81; refine (CC.out _ (Out.alloc ow _)).mono ?_; rintro e w1 ⟨z1, rfl, -, o1⟩)
          go_roundw
          case rel => exact ⟨4, by omega, rfl, hidOf ⟨fun _ => hpre.out.a0 (by omega), fun _ => hpre.out.a1 (by omega), fun _ => hpre.out.a2 (by omega), fun _ => Hr.out, fun h => absurd h (by omega), fun h => absurd h (by omega)⟩, hidOf (Out.trans (Out.alloc hor.out _) o1)⟩
          case measure => simp [intOf]
      · -- entry
        have q0 : wr.cell? ⟨w.heap.size + 1, 8, none⟩ = some (.func (Fn.func 82) #[] #[]) := P.out 8
        have q1 : wr.cell? ⟨w.heap.size + 1, 9, none⟩ = some (.int .i64 175) := P.out 9
        have CC : Hid (∀ wx, Out w wx → Calls Tryz.prog 82 #[.agg #[.slice ta m.T.length tc, .slice fa m.F.length fc, .slice da m.D.length dc, .int .i64 m.en]] wx (FltE (entP m) wx)) := hidOf (C4.out )
        generalize hr : entP m = r at *
        have Hr := hidOf hr
        clear hr
        cases r with
        | some z =>
          have hfin : Hid (R = (z, 175)) := hidOf (by rw [hR.out]; simp only [ckP, ptE, Hr.out, hpre.out.a0 (by omega), hpre.out.a1 (by omega), hpre.out.a2 (by omega), hpre.out.a3 (by omega)])
          go_upto_region 6 with (go_at_call 82; refine (CC.out _ (Out.alloc ow _)).mono ?_; rintro e w1 ⟨z1, rfl, hz, o1⟩; have hz := hz z rfl; subst hz; have y1 : w1.cell? ⟨wr.heap.size, 1, none⟩ = some (.int .i64 175) := cell_later o1 (cell_fresh wr _ _ 1 _ rfl))
          go_quiet (fail)
          go_wp2
          go_ret2
          exact ⟨by rw [hfin.out]; rfl, Out.drewN (Out.trans (Out.alloc ow _) o1) _⟩
        | none =>
          go_wp2_with (go_at_call 82; refine (CC.out _ (Out.alloc ow _)).mono ?_; rintro e w1 ⟨z1, rfl, -, o1⟩)
          go_roundw
          case rel => exact ⟨5, by omega, rfl, hidOf ⟨fun _ => hpre.out.a0 (by omega), fun _ => hpre.out.a1 (by omega), fun _ => hpre.out.a2 (by omega), fun _ => hpre.out.a3 (by omega), fun _ => Hr.out, fun h => absurd h (by omega)⟩, hidOf (Out.trans (Out.alloc hor.out _) o1)⟩
          case measure => simp [intOf]
      · -- insn
        have q0 : wr.cell? ⟨w.heap.size + 1, 10, none⟩ = some (.func (Fn.func 83) #[] #[]) := P.out 10
        have q1 : wr.cell? ⟨w.heap.size + 1, 11, none⟩ = some (.int .i64 176) := P.out 11
        have CC : Hid (∀ wx, Out w wx → Calls Tryz.prog 83 #[.agg #[.slice ta m.T.length tc, .slice fa m.F.length fc, .slice da m.D.length dc, .int .i64 m.en]] wx (FltE (insP m) wx)) := hidOf (C5.out )
        generalize hr : insP m = r at *
        have Hr := hidOf hr
        clear hr
        cases r with
        | some z =>
          have hfin : Hid (R = (z, 176)) := hidOf (by rw [hR.out]; simp only [ckP, ptE, Hr.out, hpre.out.a0 (by omega), hpre.out.a1 (by omega), hpre.out.a2 (by omega), hpre.out.a3 (by omega), hpre.out.a4 (by omega)])
          go_upto_region 6 with (go_at_call 83; refine (CC.out _ (Out.alloc ow _)).mono ?_; rintro e w1 ⟨z1, rfl, hz, o1⟩; have hz := hz z rfl; subst hz; have y1 : w1.cell? ⟨wr.heap.size, 1, none⟩ = some (.int .i64 176) := cell_later o1 (cell_fresh wr _ _ 1 _ rfl))
          go_quiet (fail)
          go_wp2
          go_ret2
          exact ⟨by rw [hfin.out]; rfl, Out.drewN (Out.trans (Out.alloc ow _) o1) _⟩
        | none =>
          go_wp2_with (go_at_call 83; refine (CC.out _ (Out.alloc ow _)).mono ?_; rintro e w1 ⟨z1, rfl, -, o1⟩)
          go_roundw
          case rel => exact ⟨6, by omega, rfl, hidOf ⟨fun _ => hpre.out.a0 (by omega), fun _ => hpre.out.a1 (by omega), fun _ => hpre.out.a2 (by omega), fun _ => hpre.out.a3 (by omega), fun _ => hpre.out.a4 (by omega), fun _ => Hr.out⟩, hidOf (Out.trans (Out.alloc hor.out _) o1)⟩
          case measure => simp [intOf]
    · obtain rfl : k = 6 := by omega
      have hfin : Hid (R = (0, 0)) := hidOf (by rw [hR.out]; simp only [ckP, ptE, hpre.out.a0 (by omega), hpre.out.a1 (by omega), hpre.out.a2 (by omega), hpre.out.a3 (by omega), hpre.out.a4 (by omega), hpre.out.a5 (by omega)])
      go_wp2
      go_ret2
      exact ⟨by rw [hfin.out]; rfl, ow⟩
end Go.Proofs.YthififblejbleaaGreatDoor
