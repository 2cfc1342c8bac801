import Derived.Test.YthififblejbleaaGreatDoorHy05
import Derived.DeepKeys4
namespace Go.Proofs.YthififblejbleaaGreatDoor
open Go.RowKit
set_option linter.unusedVariables false
set_option linter.unusedSimpArgs false
theorem tableFault_any (m : Img) (w : World) (ta fa da : Option Addr) (tc fc dc : Nat) (hD : TdA w da m.D) (hm : m.D.length ≤ 1024) : Calls Tryz.prog 81 #[.agg #[.slice ta m.T.length tc, .slice fa m.F.length fc, .slice da m.D.length dc, .int .i64 m.en]] w (FltE (tabP m) w) := by
  obtain ⟨R, hR⟩ : ∃ R, Hid (R = tabP m) := ⟨_, rfl⟩
  rw [← hR.out]
  unfold tabP at hR
  generalize m.F.length = fn at *
  generalize m.T.length = tn at *
  generalize m.D = D at *
  obtain ⟨n, hn⟩ : ∃ n, Hid (n = D.length) := ⟨_, rfl⟩
  rw [← hn.out] at hm ⊢ hR
  go_enter Tryz.func81, Tryz.ntmps81
  go_wp2
  obtain ⟨O, hO⟩ : ∃ O, O = Obj.cells #[Value.slice ta tn tc, Value.slice fa fn fc, Value.slice da n dc, Value.int IntKind.i64 m.en] 26 := ⟨_, rfl⟩
  go_loopw [4, 10] (fun c i wr => ∃ (k : Nat) (z : Int), k ≤ n ∧ c = .int .i64 z ∧ i = .int .i64 k ∧ 0 ≤ z ∧ z ≤ 16777216 * k ∧ Hid (z = roomP (D.take k)) ∧ Hid (∀ j, j < k → shB D j = false) ∧ Hid (Out (w.alloc O) wr)) (fun _ i _ => n - (intOf i).toNat)
  case atStart => exact ⟨0, 0, by omega, rfl, rfl, by omega, by omega, hidOf (by simp [roomP]), hidOf (fun j hj => by omega), hidOf (by rw [hO]; exact Out.refl _)⟩
  case round =>
    obtain ⟨k, z, hk, rfl, rfl, hz0, hz1, hzz, hg, hor⟩ := hrel
    have hor2 : Hid (Out w wr) := hidOf (Out.trans (Out.alloc (Out.refl _) _) hor.out)
    by_cases hkl : k < n
    · have hlt : (k : Int) < n := by omega
      obtain ⟨x, hx⟩ : ∃ x, D[k]? = some x := ⟨_, List.getElem?_eq_getElem (by rw [← hn.out]; exact hkl)⟩
      obtain ⟨b, off, rfl, q0, q1, q2, q3, q4⟩ := (hD.out hor2.out).get hx
      have hB : shB D k = !mayT x := by simp [shB, hx]
      have CF : Hid (∀ wx, Calls Tryz.prog 100 #[.agg #[.string ⟨x.nm.toArray⟩, .int .i64 x.kd, .int .i64 x.ky, .int .i64 x.vl, .int .i64 x.en]] wx fun e w' => e = .returned (.bool (mayT x)) ∧ Out wx w') := fun wx => tableMay_any x _ wx
      clear hD
      cases hbf : mayT x
      · rw [hbf] at CF hB
        have hfin : Hid (R = some k) := hidOf (by rw [hR.out, fstB_some hkl hg.out hB])
        clear hB
        go_wp2_with (go_at_call 100; refine (CF.out _).mono ?_; rintro e w1 ⟨rfl, o1⟩)
        go_ret2
        exact ⟨k, by rw [hfin.out]; rfl, fun z hz => by rw [hfin.out] at hz; cases hz; rfl, Out.trans (Out.alloc hor2.out _) o1⟩
      · rw [hbf] at CF hB
        have Hg2 : Hid (∀ j, j < k + 1 → shB D j = false) := hidOf (fun j hj => by
          by_cases e : j = k
          · rw [e, hB]; rfl
          · exact hg.out j (by omega))
        have hM := mayT_in hbf
        have hp := szT_pos hbf
        have hs := hM.2.2.2.2.2
        have hrt := room_take hx
        have CS : Hid (∀ wx, Calls Tryz.prog 101 #[.agg #[.string ⟨x.nm.toArray⟩, .int .i64 x.kd, .int .i64 x.ky, .int .i64 x.vl, .int .i64 x.en]] wx fun e w' => e = .returned (.int .i64 (szT x)) ∧ Out wx w') := fun wx => sizeI_any x _ wx (by omega) (by omega) (by omega)
        obtain ⟨zs, hzs⟩ : ∃ zs, Hid (zs = szT x) := ⟨_, rfl⟩
        rw [← hzs.out] at CS hp hs hrt
        have Hz : Hid (z + zs = roomP (D.take (k + 1))) := hidOf (by rw [hrt, ← hzz.out])
        clear hB hM hrt hbf
        go_wp2_with (first | (go_at_call 100; refine (CF.out _).mono ?_; rintro e w1 ⟨rfl, o1⟩; have x0 := cell_later o1 (cell_fresh wr _ _ 0 _ rfl); have x1 := cell_later o1 (cell_fresh wr _ _ 1 _ rfl); have x2 := cell_later o1 (cell_fresh wr _ _ 2 _ rfl); have x3 := cell_later o1 (cell_fresh wr _ _ 3 _ rfl); have x4 := cell_later o1 (cell_fresh wr _ _ 4 _ rfl)) | (go_at_call 101; refine (CS.out _).mono ?_; rintro e w2 ⟨rfl, o2⟩))
        go_roundw
        case rel => exact ⟨k + 1, z + zs, by omega, rfl, by simp, by omega, by simp; omega, Hz, Hg2, hidOf (Out.trans (Out.trans (Out.alloc hor.out _) o1) o2)⟩
        case measure => simp [intOf]; omega
    · have hlt : ¬ (k : Int) < n := by omega
      have hfin : Hid (R = if 67108864 < z then some n else none) := hidOf (by
        rw [hR.out, fstB_none fun j hj => hg.out j (by omega), show roomP D = z by rw [hzz.out, List.take_of_length_le (by rw [← hn.out]; omega)]])
      have x2 := cell_later hor.out (by rw [hO]; exact cell_fresh w _ _ 2 _ rfl)
      simp only [List.getElem_toArray] at x2
      by_cases hz : 67108864 < z
      · go_wp2
        go_ret2
        exact ⟨n, by rw [hfin.out, if_pos hz]; simp [hz], fun q hq => by rw [hfin.out, if_pos hz] at hq; cases hq; rfl, hor2.out⟩
      · go_wp2
        go_ret2
        exact ⟨n, by rw [hfin.out, if_neg (by omega)]; simp, (fun q hq => by rw [hfin.out, if_neg (by omega)] at hq; cases hq), hor2.out⟩
theorem funcFault_any (m : Img) (w : World) (ta fa da : Option Addr) (tc fc dc : Nat) (hF : FnA w fa m.F) (hm : m.F.length ≤ 4096) (ht : m.T.length ≤ 1048576) : Calls Tryz.prog 80 #[.agg #[.slice ta m.T.length tc, .slice fa m.F.length fc, .slice da m.D.length dc, .int .i64 m.en]] w (FltE (funP m) w) := by
  obtain ⟨R, hR⟩ : ∃ R, Hid (R = funP m) := ⟨_, rfl⟩
  rw [← hR.out]
  unfold funP at hR
  generalize m.D.length = dn at *
  generalize m.T = T at *
  generalize m.F = F at *
  have HB := hidOf (bgn_le T F)
  obtain ⟨n, hn⟩ : ∃ n, Hid (n = F.length) := ⟨_, rfl⟩
  obtain ⟨tn, htn⟩ : ∃ n, Hid (n = T.length) := ⟨_, rfl⟩
  rw [← hn.out] at hm ⊢ hR
  rw [← htn.out] at ht ⊢ hR
  go_enter Tryz.func80, Tryz.ntmps80
  go_wp2
  obtain ⟨O, hO⟩ : ∃ O, O = Obj.cells #[Value.slice ta tn tc, Value.slice fa n fc, Value.slice da dn dc, Value.int IntKind.i64 m.en] 26 := ⟨_, rfl⟩
  go_loopw [4, 10] (fun c i wr => ∃ (k : Nat) (z : Int), k ≤ n ∧ c = .int .i64 z ∧ i = .int .i64 k ∧ 0 ≤ z ∧ z ≤ tn ∧ Hid (z = bgn (F.take k)) ∧ Hid (∀ j, j < k → fcB T F j = false) ∧ Hid (Out (w.alloc O) wr)) (fun _ i _ => n - (intOf i).toNat)
  case atStart => exact ⟨0, 0, by omega, rfl, rfl, by omega, by omega, hidOf (by simp [bgn]), hidOf (fun j hj => by omega), hidOf (by rw [hO]; exact Out.refl _)⟩
  case round =>
    obtain ⟨k, z, hk, rfl, rfl, hz0, hz1, hzz, hg, hor⟩ := hrel
    have hor2 : Hid (Out w wr) := hidOf (Out.trans (Out.alloc (Out.refl _) _) hor.out)
    have x0 : wr.cell? ⟨w.heap.size, 0, none⟩ = some (.slice ta tn tc) := cell_later hor.out (by rw [hO]; exact cell_fresh w _ _ 0 _ rfl)
    have x1 : wr.cell? ⟨w.heap.size, 1, none⟩ = some (.slice fa n fc) := cell_later hor.out (by rw [hO]; exact cell_fresh w _ _ 1 _ rfl)
    have hlo : w.heap.size < wr.heap.size := by have := hor.out.size; rw [size_alloc] at this; omega
    by_cases hkl : k < n
    · have hlt : (k : Int) < n := by omega
      obtain ⟨x, hx⟩ : ∃ x, F[k]? = some x := ⟨_, List.getElem?_eq_getElem (by rw [← hn.out]; exact hkl)⟩
      obtain ⟨b, off, rfl, q0, q1, q2, q3⟩ := (hF.out hor2.out).get hx
      have hB : fcB T F k = (x.fi != z || decide (x.ct < 1) || decide ((tn : Int) - z < x.ct)) := by simp [fcB, hx, ← hzz.out, htn.out]
      have hbt := bgn_take hx
      rw [← hzz.out] at hbt
      clear hF
      obtain ⟨nm, ob, fi, ct⟩ := x
      simp only at q0 q1 q2 q3 hB hbt
      by_cases h1 : fi = z
      · by_cases h2 : ct < 1
        · have hfin : Hid (R = some k) := hidOf (by rw [hR.out, fstB_some hkl hg.out (by rw [hB]; simp [h2])])
          have g1 : (fi != z) = false := by simp [h1]
          have g2 : decide (ct < 1) = true := by simp [h2]
          clear hB hbt
          have h1 := hidOf h1
          go_wp2
          go_ret2
          exact ⟨k, by rw [hfin.out]; rfl, fun z hz => by rw [hfin.out] at hz; cases hz; rfl, Out.alloc hor2.out _⟩
        · by_cases h3 : (tn : Int) - z < ct
          · have hfin : Hid (R = some k) := hidOf (by rw [hR.out, fstB_some hkl hg.out (by rw [hB]; simp [h3])])
            have g1 : (fi != z) = false := by simp [h1]
            clear hB hbt
            have h1 := hidOf h1
            go_wp2
            go_ret2
            exact ⟨k, by rw [hfin.out]; rfl, fun z hz => by rw [hfin.out] at hz; cases hz; rfl, Out.alloc hor2.out _⟩
          · have hf : fcB T F k = false := by rw [hB]; simp [h1, h2]; omega
            have Hg2 : Hid (∀ j, j < k + 1 → fcB T F j = false) := hidOf (fun j hj => by
              by_cases e : j = k
              · rw [e, hf]
              · exact hg.out j (by omega))
            have g1 : (fi != z) = false := by simp [h1]
            have Hz : Hid (z + ct = bgn (F.take (k + 1))) := hidOf hbt.symm
            clear hB hbt hf
            have h1 := hidOf h1
            go_wp2
            go_roundw
            case rel => exact ⟨k + 1, z + ct, by omega, rfl, by simp, by omega, by omega, Hz, Hg2, hidOf (Out.alloc hor.out _)⟩
            case measure => simp [intOf]; omega
      · have hfin : Hid (R = some k) := hidOf (by rw [hR.out, fstB_some hkl hg.out (by rw [hB]; simp [h1])])
        have g1 : (fi != z) = true := by simp [h1]
        clear hB hbt
        go_wp2
        go_ret2
        exact ⟨k, by rw [hfin.out]; rfl, fun z hz => by rw [hfin.out] at hz; cases hz; rfl, Out.alloc hor2.out _⟩
    · have hlt : ¬ (k : Int) < n := by omega
      have hfin : Hid (R = if z < (tn : Int) then some n else none) := hidOf (by
        rw [hR.out, fstB_none fun j hj => hg.out j (by omega), show bgn F = z by rw [hzz.out, List.take_of_length_le (by rw [← hn.out]; omega)]])
      by_cases hz : z < (tn : Int)
      · go_wp2
        go_quiet (fail)
        go_wp2
        go_ret2
        exact ⟨n, by rw [hfin.out, if_pos hz]; simp [hz], fun q hq => by rw [hfin.out, if_pos hz] at hq; cases hq; rfl, Out.drewN hor2.out _⟩
      · go_wp2
        go_quiet (fail)
        go_wp2
        go_ret2
        exact ⟨n, by rw [hfin.out, if_neg (by omega)]; simp; omega, (fun q hq => by rw [hfin.out, if_neg (by omega)] at hq; cases hq), Out.drewN hor2.out _⟩
end Go.Proofs.YthififblejbleaaGreatDoor
namespace Go.Proofs.YthififblejbleaaGreatDoor
open Go.RowKit
open Go.Maps (Keyed)
set_option linter.unusedVariables false
set_option linter.unusedSimpArgs false
theorem run_leq (a b : List UInt8) (w : World) : (binOp .leq 9 (.string ⟨a.toArray⟩) (.string ⟨b.toArray⟩)).run Tryz.prog w = .ok (.bool (leS a b)) w := by
  have e1 : (⟨a.toArray⟩ : ByteArray).toList = a := mk_list a
  have e2 : (⟨b.toArray⟩ : ByteArray).toList = b := mk_list b
  have : binOp .leq 9 (.string ⟨a.toArray⟩) (.string ⟨b.toArray⟩) = Op.stringOp .leq ⟨a.toArray⟩ ⟨b.toArray⟩ := rfl
  rw [this]
  simp only [Op.stringOp, e1, e2]
  rfl
theorem ahN_succ {D : List Td} {k : Nat} {x : Td} (h : D[k]? = some x) : ahN D (k + 1) = x.nm := by simp [ahN, h]
theorem tableName_any (D : List Td) (w : World) (da : Option Addr) (dc : Nat) (hD : TdA w da D) (hm : D.length ≤ 1024) : Calls Tryz.prog 99 #[.slice da D.length dc] w (FltE (fstB (tdB D) D.length) w) := by
  obtain ⟨R, hR⟩ : ∃ R, Hid (R = fstB (tdB D) D.length) := ⟨_, rfl⟩
  rw [← hR.out]
  obtain ⟨n, hn⟩ : ∃ n, Hid (n = D.length) := ⟨_, rfl⟩
  rw [← hn.out] at hm ⊢ hR
  go_enter Tryz.func99, Tryz.ntmps99
  go_wp2
  go_loopw [4, 9] (fun c i wr => ∃ (k : Nat) (z : List UInt8), k ≤ n ∧ c = .string ⟨z.toArray⟩ ∧ i = .int .i64 k ∧ Hid (z = ahN D k) ∧ Hid (∀ j, j < k → tdB D j = false) ∧ Hid (Out w wr)) (fun _ i _ => n - (intOf i).toNat)
  case atStart => exact ⟨0, [], by omega, rfl, rfl, hidOf rfl, hidOf (fun j hj => by omega), hidOf (Out.refl _)⟩
  case round =>
    obtain ⟨k, z, hk, rfl, rfl, hzz, hg, hor⟩ := hrel
    by_cases hkl : k < n
    · have hlt : (k : Int) < n := by omega
      obtain ⟨x, hx⟩ : ∃ x, D[k]? = some x := ⟨_, List.getElem?_eq_getElem (by rw [← hn.out]; exact hkl)⟩
      obtain ⟨b, off, rfl, q0, q1, q2, q3, q4⟩ := (hD.out hor.out).get hx
      have hB : tdB D k = (!wordP x.nm || leS x.nm z) := by simp [tdB, hx, hzz.out]
      have hA := ahN_succ hx
      clear hD
      obtain ⟨nm, kd, ky, vl, en⟩ := x
      simp only at q0 q1 q2 q3 q4 hB hA
      have CN : Hid (∀ wx, Calls Tryz.prog 112 #[.string ⟨nm.toArray⟩] wx fun e w' => e = .returned (.bool (wordP nm)) ∧ Out wx w') := fun wx => isNameI_any nm wx
      generalize wordP nm = bw at *
      cases bw
      · have hfin : Hid (R = some k) := hidOf (by rw [hR.out, fstB_some hkl hg.out (by rw [hB]; rfl)])
        clear hB hA
        go_wp2_with (go_at_call 112; refine (CN.out _).mono ?_; rintro e w1 ⟨rfl, o1⟩)
        go_ret2
        exact ⟨k, by rw [hfin.out]; rfl, fun z hz => by rw [hfin.out] at hz; cases hz; rfl, Out.trans (Out.alloc hor.out _) o1⟩
      · have HL := run_leq nm z
        generalize leS nm z = bl at *
        cases bl
        · have Hg2 : Hid (∀ j, j < k + 1 → tdB D j = false) := hidOf (fun j hj => by
            by_cases e : j = k
            · rw [e, hB]; rfl
            · exact hg.out j (by omega))
          have HA := hidOf hA.symm
          clear hB hA
          go_wp2_with (go_at_call 112; refine (CN.out _).mono ?_; rintro e w1 ⟨rfl, o1⟩; have x0 := cell_later o1 (cell_fresh wr _ _ 0 _ rfl))
          go_roundw
          case rel => exact ⟨k + 1, nm, by omega, rfl, by simp, HA, Hg2, hidOf (Out.trans (Out.alloc hor.out _) o1)⟩
          case measure => simp [intOf]; omega
        · have hfin : Hid (R = some k) := hidOf (by rw [hR.out, fstB_some hkl hg.out (by rw [hB]; rfl)])
          clear hB hA
          go_wp2_with (go_at_call 112; refine (CN.out _).mono ?_; rintro e w1 ⟨rfl, o1⟩; have x0 := cell_later o1 (cell_fresh wr _ _ 0 _ rfl))
          go_ret2
          exact ⟨k, by rw [hfin.out]; rfl, fun z hz => by rw [hfin.out] at hz; cases hz; rfl, Out.trans (Out.alloc hor.out _) o1⟩
    · have hlt : ¬ (k : Int) < n := by omega
      have hfin : Hid (R = none) := hidOf (by rw [hR.out, fstB_none fun j hj => hg.out j (by omega)])
      go_wp2
      go_ret2
      exact ⟨0, by rw [hfin.out]; rfl, (fun q hq => by rw [hfin.out] at hq; cases hq), hor.out⟩
theorem laid17 : laidOutB Tryz.prog = true := by kernel_rfl
theorem owLaw : Keyed Tryz.prog 169 := Keyed.of_law (deep_law_laid laid17 (m := 5) (by omega) (Nat.lt_of_lt_of_le (Nat.lt_succ_self _) (Nat.le_of_ble_eq_true (by kernel_rfl))) (by kernel_rfl) (by kernel_rfl))
def kyB (nm : List UInt8) (ob : Int) : List UInt8 := keyBytes [.string nm, .int .i64 ob]
theorem keyOf_ow (nm : List UInt8) (ob : Int) (h : nm.length ≤ 140737488355328) (h0 : -9223372036854775808 ≤ ob) (h1 : ob ≤ 9223372036854775807) : keyOf Tryz.prog 169 (.agg #[.string ⟨nm.toArray⟩, .int .i64 ob]) = some (.string (kyB nm ob)) := by
  have hs : (⟨nm.toArray⟩ : ByteArray).size ≤ maxLen := by rw [mk_size]; unfold maxLen; omega
  have hw : (Lit.int .i64 ob).wf = true := by simp [Lit.wf, IntKind.min, IntKind.max, IntKind.bits, IntKind.signed]; omega
  have hk : Tryz.prog.keyType 169 = true := by kernel_rfl
  have hc : Tryz.prog.cellsOf 169 = 2 := by kernel_rfl
  have hc1 : Tryz.prog.cellsOf 9 = 1 := by kernel_rfl
  have hc2 : Tryz.prog.cellsOf 3 = 1 := by kernel_rfl
  obtain ⟨n, hn⟩ : ∃ n, Tryz.prog.types.size + 1 = n + 2 := ⟨Tryz.prog.types.size - 1, by have : 1 ≤ Tryz.prog.types.size := Nat.le_of_ble_eq_true (by kernel_rfl); omega⟩
  have hU := Tryz.underlying169
  have hS := Tryz.underlying9
  have hI := Tryz.underlying3
  have hq : (⟨nm.toArray⟩ : ByteArray).data.toList = nm := rfl
  unfold kyB
  generalize (⟨nm.toArray⟩ : ByteArray) = q at *
  have hf : Value.formed Tryz.prog 169 (.agg #[.string q, .int .i64 ob]) = true := by
    simp only [Value.formed, hU, hc]; rfl
  have hl : Tryz.prog.keyLits (Tryz.prog.types.size + 1) 169 [.string q, .int .i64 ob] = some [.string q.data.toList, .int .i64 ob] := by
    rw [hn]
    simp [Program.keyLits, hU, hS, hI, hc, hc1, hc2, hs, hw]
  simp only [keyOf, hU, hk, hf]
  show (if (true && true) = true then Option.map (fun ls => Lit.string (keyBytes ls)) (Tryz.prog.keyLits (Tryz.prog.types.size + 1) 169 [.string q, .int .i64 ob]) else none) = _
  rw [hl, hq]; rfl
def OkK (nm : List UInt8) (ob : Int) : Prop := nm.length ≤ 140737488355328 ∧ -9223372036854775808 ≤ ob ∧ ob ≤ 9223372036854775807
theorem ky_inj {nm nm' : List UInt8} {ob ob' : Int} (h : OkK nm ob) (h' : OkK nm' ob') (e : kyB nm ob = kyB nm' ob') : nm = nm' ∧ ob = ob' := by
  have a := keyOf_ow nm ob h.1 h.2.1 h.2.2
  have b := keyOf_ow nm' ob' h'.1 h'.2.1 h'.2.2
  rw [e] at a
  have := owLaw.inj a b
  simp at this
  exact this
def hasK (L : List Fn) (nm : List UInt8) (ob : Int) : Bool := L.any (fun y => y.nm == nm && y.ob == ob)
def MapK (D : DataW Unit) (L : List Fn) : Prop := Maps.IsMap D ∧ ∀ nm ob, OkK nm ob → Maps.has D (.string (kyB nm ob)) = hasK L nm ob
theorem MapK.nil : MapK (.map []) [] := ⟨⟨_, rfl⟩, fun nm ob _ => by simp [Maps.has_eq, hasK]⟩
theorem MapK.snoc {D : DataW Unit} {L : List Fn} (h : MapK D L) (x : Fn) (hx : OkK x.nm x.ob) (d : DataW Unit) : MapK (D.put (.string (kyB x.nm x.ob)) d) (L ++ [x]) := by
  refine ⟨h.1.put _ _, fun nm ob hk => ?_⟩
  by_cases e : kyB nm ob = kyB x.nm x.ob
  · obtain ⟨rfl, rfl⟩ := ky_inj hk hx e
    rw [Maps.has_put_same h.1 (isKey _)]; simp [hasK]
  · have hne : (Lit.string (kyB nm ob)) ≠ .string (kyB x.nm x.ob) := fun h => e (Lit.string.inj h)
    rw [Maps.has_put_other hne, h.2 nm ob hk]
    have : ¬ (x.nm = nm ∧ x.ob = ob) := fun ⟨a, b⟩ => e (by rw [a, b])
    simp only [hasK, List.any_append, List.any_cons, List.any_nil, Bool.or_false]
    cases hc : (x.nm == nm && x.ob == ob)
    · simp
    · simp at hc; exact absurd hc this
theorem ownsMap_same {w w' : World} {t : TypeId} {b n : Nat} {D : DataW Unit} (h : w.ownsMap Tryz.prog t PE b n D) (e : w'.heap[b]? = w.heap[b]?) : w'.ownsMap Tryz.prog t PE b n D := by
  obtain ⟨es, clock, hb, r⟩ := h
  exact ⟨es, clock, by rw [e]; exact hb, r⟩
theorem mkO (w : World) : (Instr.makeMap 167 none).run Tryz.prog w = .ok (.map (some w.heap.size)) (w.alloc (.map #[] 0)) := by kernel_rfl
theorem lookK {w : World} {b n : Nat} {D : DataW Unit} {L : List Fn} (h : w.ownsMap Tryz.prog 169 PE b n D) (hm : MapK D L) (nm : List UInt8) (ob : Int) (hk : OkK nm ob) : ∃ c : Int, (Instr.lookup 167 (.map (some b)) (.agg #[.string ⟨nm.toArray⟩, .int .i64 ob]) true).run Tryz.prog w = .ok (.tuple #[.int .i64 c, .bool (hasK L nm ob)]) w := by
  have hw0 : (Lit.int .i64 0).wf = true := by decide
  obtain ⟨v, ps, hr, hv⟩ := h.look_ok owLaw Tryz.underlying167 (zeroI w) (zd := .lit (.int .i64 0)) (zp := []) (plainElem_int Tryz.underlying3 hw0) (keyOf_ow nm ob hk.1 hk.2.1 hk.2.2)
  obtain ⟨c, rfl, hc, hwc⟩ := plainElem_int_inv Tryz.underlying3 hv
  exact ⟨c, by rw [hr, hm.2 nm ob hk]⟩
theorem fnB_eq {F : List Fn} {k : Nat} {x : Fn} (h : F[k]? = some x) : fnB F k = (hasK (F.take k) x.nm x.ob || !fnW x) := by simp only [fnB, h, hasK]
theorem funcName_any (F : List Fn) (w : World) (fa : Option Addr) (fc : Nat) (hF : FnA w fa F) (hm : F.length ≤ 4096) (hok : ∀ x ∈ F, OkK x.nm x.ob) : Calls Tryz.prog 98 #[.slice fa F.length fc] w (FltE (fstB (fnB F) F.length) w) := by
  obtain ⟨R, hR⟩ : ∃ R, Hid (R = fstB (fnB F) F.length) := ⟨_, rfl⟩
  rw [← hR.out]
  obtain ⟨n, hn⟩ : ∃ n, Hid (n = F.length) := ⟨_, rfl⟩
  rw [← hn.out] at hm ⊢ hR
  have HOK := hidOf hok
  clear hok
  have HM0 := hidOf (World.ownsMap_made w Tryz.prog 169 PE)
  have HMK := hidOf mkO
  obtain ⟨mb, hmb⟩ : ∃ mb, Hid (mb = w.heap.size) := ⟨_, rfl⟩
  have hmk : (Instr.makeMap 167 none).run Tryz.prog w = .ok (.map (some mb)) (w.alloc (.map #[] 0)) := by rw [hmb.out]; exact mkO w
  rw [← hmb.out] at HM0
  go_enter Tryz.func98, Tryz.ntmps98
  go_wp2
  go_loopw [13] (fun i wr => ∃ (k : Nat) (D : DataW Unit), k ≤ n ∧ i = .int .i64 k ∧ Hid (wr.ownsMap Tryz.prog 169 PE mb k D) ∧ Hid (MapK D (F.take k)) ∧ Hid (∀ j, j < k → fnB F j = false) ∧ Hid (Out w wr)) (fun i _ => n - (intOf i).toNat)
  case atStart => exact ⟨0, _, by omega, rfl, HM0, hidOf MapK.nil, hidOf (fun j hj => by omega), hidOf (Out.alloc (Out.refl _) _)⟩
  case round =>
    obtain ⟨k, D, hk, rfl, hom, hmk2, hg, hor⟩ := hrel
    by_cases hkl : k < n
    · have hlt : (k : Int) < n := by omega
      obtain ⟨x, hx⟩ : ∃ x, F[k]? = some x := ⟨_, List.getElem?_eq_getElem (by rw [← hn.out]; exact hkl)⟩
      obtain ⟨b, off, rfl, q0, q1, q2, q3⟩ := (hF.out hor.out).get hx
      have hB := fnB_eq hx
      have hokx := HOK.out x (List.mem_of_getElem? hx)
      have hts := take_snoc hx
      obtain ⟨nm, ob, fi, ct⟩ := x
      simp only [fnW] at q0 q1 q2 q3 hB hokx
      have HT := hidOf hts
      have HK := hidOf hokx
      clear hF hts hokx
      have CN : Hid (∀ wx, Calls Tryz.prog 112 #[.string ⟨nm.toArray⟩] wx fun e w' => e = .returned (.bool (wordP nm)) ∧ Out wx w') := fun wx => isNameI_any nm wx
      have hmlt : mb < wr.heap.size := hom.out.lt
      have hblk : ∀ O1 O2, ((wr.alloc O1).alloc O2).heap[mb]? = wr.heap[mb]? := fun O1 O2 => by
        rw [Below.heap_alloc _ _ _ (by rw [size_alloc]; omega), Below.heap_alloc _ _ _ hmlt]
      have HLK : ∀ O1 O2, ∃ c : Int, (Instr.lookup 167 (.map (some mb)) (.agg #[.string ⟨nm.toArray⟩, .int .i64 ob]) true).run Tryz.prog ((wr.alloc O1).alloc O2) = .ok (.tuple #[.int .i64 c, .bool (hasK (F.take k) nm ob)]) ((wr.alloc O1).alloc O2) := fun O1 O2 => lookK (ownsMap_same hom.out (hblk O1 O2)) hmk2.out nm ob HK.out
      obtain ⟨O1, hO1⟩ : ∃ O, O = Obj.cells #[.string ⟨nm.toArray⟩, .int .i64 ob, .int .i64 fi, .int .i64 ct] 69 := ⟨_, rfl⟩
      obtain ⟨O2, hO2⟩ : ∃ O, O = Obj.cells #[.string ⟨nm.toArray⟩, .int .i64 ob] 169 := ⟨_, rfl⟩
      obtain ⟨c, hlk⟩ := HLK O1 O2
      rw [hO1, hO2] at hlk
      clear HLK hblk hO1 hO2 O1 O2
      generalize hhk : hasK (F.take k) nm ob = hb at *
      generalize hwp : wordP nm = bw at *
      cases hb
      · cases bw
        · have hfin : Hid (R = some k) := hidOf (by rw [hR.out, fstB_some hkl hg.out (by rw [hB]; rfl)])
          clear hB
          go_wp2_with (go_at_call 112; refine (CN.out _).mono ?_; rintro e w1 ⟨rfl, o1⟩)
          go_ret2
          exact ⟨k, by rw [hfin.out]; rfl, fun z hz => by rw [hfin.out] at hz; cases hz; rfl, Out.trans (Out.alloc (Out.alloc hor.out _) _) o1⟩
        · by_cases h0 : ob < 0
          · have hfin : Hid (R = some k) := hidOf (by rw [hR.out, fstB_some hkl hg.out (by rw [hB]; simp; omega)])
            clear hB
            go_wp2_with (go_at_call 112; refine (CN.out _).mono ?_; rintro e w1 ⟨rfl, o1⟩; have y1 : w1.cell? ⟨wr.heap.size, 1, none⟩ = some (.int .i64 ob) := cell_later (Out.trans (Out.alloc (Out.refl _) _) o1) (cell_fresh wr _ _ 1 _ rfl))
            go_ret2
            exact ⟨k, by rw [hfin.out]; rfl, fun z hz => by rw [hfin.out] at hz; cases hz; rfl, Out.trans (Out.alloc (Out.alloc hor.out _) _) o1⟩
          · by_cases h64 : 64 ≤ ob
            · have hfin : Hid (R = some k) := hidOf (by rw [hR.out, fstB_some hkl hg.out (by rw [hB]; simp; omega)])
              clear hB
              go_wp2_with (go_at_call 112; refine (CN.out _).mono ?_; rintro e w1 ⟨rfl, o1⟩; have y1 : w1.cell? ⟨wr.heap.size, 1, none⟩ = some (.int .i64 ob) := cell_later (Out.trans (Out.alloc (Out.refl _) _) o1) (cell_fresh wr _ _ 1 _ rfl))
              go_ret2
              exact ⟨k, by rw [hfin.out]; rfl, fun z hz => by rw [hfin.out] at hz; cases hz; rfl, Out.trans (Out.alloc (Out.alloc hor.out _) _) o1⟩
            · have hf : fnB F k = false := by rw [hB]; simp; omega
              have Hg2 : Hid (∀ j, j < k + 1 → fnB F j = false) := hidOf (fun j hj => by
                by_cases e : j = k
                · rw [e, hf]
                · exact hg.out j (by omega))
              have hwk : (Lit.int .i64 (k : Int)).wf = true := by simp [Lit.wf, IntKind.min, IntKind.max, IntKind.bits, IntKind.signed]; omega
              have Hpe : Hid (PE (.int .i64 (k : Int)) = some (.lit (.int .i64 (k : Int)), [])) := hidOf (plainElem_int Tryz.underlying3 hwk)
              clear hB hf hwk
              have h0 : 0 ≤ ob := by omega
              have h64 : ob < 64 := by omega
              set_option maxRecDepth 4000 in
              go_upto_region 9 with (go_at_call 112; refine (CN.out _).mono ?_; rintro e w1 ⟨rfl, o1⟩; have y1 : w1.cell? ⟨wr.heap.size, 1, none⟩ = some (.int .i64 ob) := cell_later (Out.trans (Out.alloc (Out.refl _) _) o1) (cell_fresh wr _ _ 1 _ rfl); have z0 : w1.cell? ⟨wr.heap.size + 1, 0, none⟩ = some (.string ⟨nm.toArray⟩) := cell_later o1 (cell_fresh _ _ _ 0 _ (by rw [size_alloc])); have z1 : w1.cell? ⟨wr.heap.size + 1, 1, none⟩ = some (.int .i64 ob) := cell_later o1 (cell_fresh _ _ _ 1 _ (by rw [size_alloc])))
              have hom1 : w1.ownsMap Tryz.prog 169 PE mb k D := ownsMap_same hom.out (by
                rw [o1.block mb (by rw [size_alloc, size_alloc]; omega), Below.heap_alloc _ _ _ (by rw [size_alloc]; omega), Below.heap_alloc _ _ _ hmlt])
              obtain ⟨w2, hrun, ho2, hg2⟩ := hom1.update owLaw Tryz.underlying167 (by unfold maxLen; omega) (keyOf_ow nm ob HK.out.1 HK.out.2.1 HK.out.2.2) Hpe.out
              have HM2 := hidOf (hmk2.out.snoc ⟨nm, ob, fi, ct⟩ HK.out (.lit (.int .i64 (k : Int))))
              have HO2 : Hid (Out w w2) := hidOf (Chg.out (S := fun z => z = mb) (Chg.of_grown hg2 (fun z hz => (Option.some.inj hz).symm)) (Out.trans (Out.alloc (Out.alloc hor.out _) _) o1) (fun z hz => by rw [hz, hmb.out]; exact Nat.le_refl _))
              have Ho2 := hidOf ho2
              clear ho2 hg2 hom1
              go_wp2
              go_roundw
              case rel => exact ⟨k + 1, _, by omega, by simp, Ho2, hidOf (by rw [HT.out]; exact HM2.out), Hg2, HO2⟩
              case measure => simp [intOf]; omega
      · have hfin : Hid (R = some k) := hidOf (by rw [hR.out, fstB_some hkl hg.out (by rw [hB]; rfl)])
        clear hB
        go_wp2
        go_ret2
        exact ⟨k, by rw [hfin.out]; rfl, fun z hz => by rw [hfin.out] at hz; cases hz; rfl, Out.alloc (Out.alloc hor.out _) _⟩
    · have hlt : ¬ (k : Int) < n := by omega
      have hfin : Hid (R = none) := hidOf (by rw [hR.out, fstB_none fun j hj => hg.out j (by omega)])
      go_wp2
      go_ret2
      exact ⟨0, by rw [hfin.out]; rfl, (fun q hq => by rw [hfin.out] at hq; cases hq), hor.out⟩
end Go.Proofs.YthififblejbleaaGreatDoor
