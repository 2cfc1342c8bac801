import Derived.Test.YthififblejbleaaGreatDoorHy34
namespace Go.Proofs.YthififblejbleaaGreatDoor
open Go.RowKit
set_option linter.unusedVariables false
set_option linter.unusedSimpArgs false
def BoA (w : World) (g : Nat) (l : List Bool) : Prop := ∀ k x, l[k]? = some x → w.cell? ⟨g, k, none⟩ = some (.bool x)
set_option maxRecDepth 8000 in
set_option maxHeartbeats 2000000 in
theorem begun_any (w : World) (p bg bc fr tto sN : Nat) (v0 tv : Value) (s f d k se : Int) (st : List Bool) (hl : st.length = sN) (hb : BoA w bg st) (h1 : fr ≤ tto) (h2 : tto ≤ sN) (h3 : sN ≤ 1000000000000) (h : RgA w p v0 s f d k tv (.slice (some ⟨bg, 0, none⟩) sN bc) se) : Calls Tryz.prog 63 #[.pointer (some ⟨p, 0, none⟩), .int .i64 fr, .int .i64 tto] w fun e w' => e = .returned (.int .i64 (((st.drop fr).take (tto - fr)).count true : Nat)) ∧ w = w' := by
  obtain ⟨c0, c1, c2, c3, c4, c5, c6, c7⟩ := h.at
  have HL := hidOf hl
  have HB := hidOf hb
  clear hl hb h c0 c1 c2 c3 c4 c5 c7
  go_enter Tryz.func63, Tryz.ntmps63
  go_wp2
  go_loopw [7, 8] (fun v i wr => ∃ (j x : Nat), fr ≤ j ∧ j ≤ tto ∧ v = .int .i64 x ∧ i = .int .i64 j ∧ x ≤ j ∧ Hid (x = ((st.drop fr).take (j - fr)).count true) ∧ Hid (w = wr)) (fun _ i _ => tto - (intOf i).toNat)
  case atStart => exact ⟨fr, 0, by omega, by omega, rfl, rfl, by omega, hidOf (by simp), hidOf rfl⟩
  case round =>
    obtain ⟨j, x, hj0, hj, rfl, rfl, hxj, hx, hw⟩ := hrel
    have hw := hw.out
    subst hw
    by_cases hjn : j < tto
    · have hlt : (j : Int) < tto := by omega
      have hls : (j : Int) < sN := by omega
      have hj1 : (0 : Int) ≤ j := by omega
      obtain ⟨b, hb⟩ : ∃ b, st[j]? = some b := ⟨_, List.getElem?_eq_getElem (by rw [HL.out]; omega)⟩
      have q0 : w.cell? ⟨bg, j, none⟩ = some (.bool b) := HB.out j b hb
      have HT : Hid ((st.drop fr).take (j + 1 - fr) = (st.drop fr).take (j - fr) ++ [b]) := hidOf (by
        rw [show j + 1 - fr = (j - fr) + 1 by omega]
        exact take_snoc (by rw [List.getElem?_drop, show fr + (j - fr) = j by omega]; exact hb))
      clear hb
      cases b
      · have HX : Hid (x = ((st.drop fr).take (j + 1 - fr)).count true) := hidOf (by rw [HT.out, List.count_append, ← hx.out]; simp)
        go_wp2
        go_roundw
        case rel => exact ⟨j + 1, x, by omega, by omega, rfl, by simp, by omega, HX, by first | exact hidOf rfl | exact hidOf trivial⟩
        case measure => simp [intOf] <;> omega
      · have HX : Hid (x + 1 = ((st.drop fr).take (j + 1 - fr)).count true) := hidOf (by rw [HT.out, List.count_append, ← hx.out]; simp)
        go_wp2
        go_roundw
        case rel => exact ⟨j + 1, x + 1, by omega, by omega, by simp, by simp, by omega, HX, by first | exact hidOf rfl | exact hidOf trivial⟩
        case measure => simp [intOf] <;> omega
    · have hlt : ¬ (j : Int) < tto := by omega
      have hx2 : Hid (x = ((st.drop fr).take (tto - fr)).count true) := hidOf (by rw [hx.out, show j = tto by omega])
      go_wp2
      go_ret
      exact ⟨by rw [← hx2.out]; rfl, rfl⟩
def NamE (N : List (List UInt8)) (nx pl p : Nat) (v0 tv sv : Value) (s f d k : Int) (w : World) (e : Ending) (w' : World) : Prop :=
  Chg (fun k => k = p) w w' ∧ ((nmT N nx pl = none ∧ e = .returned (.tuple #[.string ⟨#[]⟩, .bool false])) ∨ ∃ x ny, nmT N nx pl = some (x, ny) ∧ e = .returned (.tuple #[.string ⟨x.toArray⟩, .bool true]) ∧ RgA w' p v0 s f d k tv sv (ny : Nat))
theorem nmT_no {N : List (List UInt8)} {nx pl : Nat} (h : pl < 1 ∨ nx < pl) : nmT N nx pl = none := by unfold nmT; rw [if_pos h]
theorem nmT_out {N : List (List UInt8)} {nx pl : Nat} (h : (byP N).length ≤ pl ∨ ∃ z, (byP N)[pl - 1]? = some z ∧ z ≠ 0) : nmT N nx pl = none := by
  unfold nmT
  split
  · rfl
  · rename_i h1
    cases ha : atF 1 N (pl : Int) with
    | none => rfl
    | some x =>
      obtain ⟨h2, h3, h4, _⟩ := at_bytes ha
      rcases h with h | ⟨z, hz, hn⟩
      · omega
      · rw [h4] at hz; exact absurd (Option.some.inj hz).symm hn
theorem nmT_yes {N : List (List UInt8)} {nx pl : Nat} (hn : ∀ y ∈ N, nameOk y = true) (h1 : 1 ≤ pl) (h2 : pl ≤ nx) (h3 : pl < (byP N).length) (h4 : (byP N)[pl - 1]? = some 0) : ∃ x D, nmT N nx pl = some (x, if pl = nx then nx + x.length + 1 else nx) ∧ (byP N).drop pl = x ++ 0 :: D ∧ (∀ z ∈ x, z ≠ 0) ∧ pl + x.length + 1 ≤ (byP N).length := by
  obtain ⟨x, hx⟩ := at_place hn h1 h3 h4
  obtain ⟨_, h5, _, D, hD⟩ := at_bytes hx
  have hxN : x ∈ N := by
    obtain ⟨k, hk, _⟩ := atF_idx N 1 (pl : Int) x hx
    exact List.mem_of_getElem? hk
  refine ⟨x, D, ?_, hD, zero_in (hn x hxN), h5⟩
  unfold nmT
  rw [if_neg (by omega), hx]
set_option maxRecDepth 8000 in
set_option maxHeartbeats 4000000 in
theorem nameZ_any (w : World) (p sg so sn sc pl : Nat) (v0 tv sv : Value) (s f d k : Int) (N : List (List UInt8))  (hok : ∀ y ∈ N, nameOk y = true) (hl : (byP N).length = sn) (hsc : sn ≤ sc) (hb : BtA w sg so (byP N)) (hgp : ¬ sg = p) (hn : sn ≤ 1000000000000) (hpl : pl ≤ 4294967296) (h : RgA w p v0 s f d k tv sv 0) : Calls Tryz.prog 62 #[.pointer (some ⟨p, 0, none⟩), .slice (some ⟨sg, so, none⟩) sn sc, .int .i64 pl] w (NamE N 1 pl p v0 tv sv s f d k w) := by
  obtain ⟨nx, hnx1⟩ : ∃ n : Nat, Hid (n = 1) := ⟨_, rfl⟩
  have hnx : nx ≤ 1000000000000 := by rw [hnx1.out]; decide
  have hxi : ((0 : Int) == 0) = true := by decide
  obtain ⟨wA, hwA⟩ : ∃ x, Hid (x = w.setCell ⟨p, 7, none⟩ (.int .i64 1)) := ⟨_, rfl⟩
  have RA : Hid (RgA wA p v0 s f d k tv sv (nx : Nat)) := hidOf (by rw [hwA.out, hnx1.out]; exact h.s7 1)
  have KA : Hid (Chg (fun k => k = p) w wA) := hidOf (by rw [hwA.out]; exact Chg.setCell (S := fun k => k = p) (Chg.refl _ _) (p := ⟨p, 7, none⟩) rfl _)
  have h7 := (h.at).2.2.2.2.2.2.2
  have fz := h.fr 7
  rw [← hnx1.out]
  have BA : Hid (BtA wA sg so (byP N)) := hidOf (bt_chg hb KA.out hgp)
  have HL := hidOf hl
  have HOK := hidOf hok
  have hpw := h.lt
  clear h hb hl hok
  go_enter Tryz.func62, Tryz.ntmps62
  go_upto_region 3 with fail
  rw [← hwA.out]
  clear h7 fz hxi
  obtain ⟨c0, c1, c2, c3, c4, c5, c6, c7⟩ := RA.out.at
  clear c0 c1 c2 c3 c4 c5 c6
  by_cases hp1 : pl < 1
  · have b1 : (pl : Int) < 1 := by omega
    go_wp2
    go_ret2
    exact ⟨KA.out, .inl ⟨nmT_no (.inl hp1), rfl⟩⟩
  · have b1 : ¬ (pl : Int) < 1 := by omega
    by_cases hp2 : nx < pl
    · have b2 : (nx : Int) < pl := by omega
      go_wp2
      go_ret2
      exact ⟨KA.out, .inl ⟨nmT_no (.inr hp2), rfl⟩⟩
    · have b2 : ¬ (nx : Int) < pl := by omega
      by_cases hp3 : sn ≤ pl
      · have b3 : (sn : Int) ≤ pl := by omega
        go_wp2
        go_ret2
        exact ⟨KA.out, .inl ⟨nmT_out (.inl (by rw [HL.out]; exact hp3)), rfl⟩⟩
      · have b3 : ¬ (sn : Int) ≤ pl := by omega
        obtain ⟨z, hz⟩ : ∃ z, (byP N)[pl - 1]? = some z := ⟨_, List.getElem?_eq_getElem (by rw [HL.out]; omega)⟩
        obtain ⟨pk, hpk⟩ : ∃ q : Nat, pl = q + 1 := ⟨pl - 1, by omega⟩
        have e1 : (pl : Int) - 1 = pk := by omega
        have e0 : pl - 1 = pk := by omega
        have q0 : wA.cell? ⟨sg, so + pk, none⟩ = some (.int .u8 (z.toNat : Int)) := BA.out pk z (by rw [← e0]; exact hz)
        have b4 : (pk : Int) < sn := by omega
        have b5 : (0 : Int) ≤ pk := by omega
        clear hpk
        by_cases hz0 : z = 0
        · subst hz0
          have q0 : wA.cell? ⟨sg, so + pk, none⟩ = some (.int .u8 0) := q0
          obtain ⟨x, D, hN, hD, hxz, hxl⟩ := nmT_yes (nx := nx) HOK.out (by omega) (by omega) (by rw [HL.out]; omega) hz
          rw [HL.out] at hxl
          have HNm := hidOf hN
          have BX : Hid (∀ i z, (x ++ [0])[i]? = some z → wA.cell? ⟨sg, so + (pl + i), none⟩ = some (.int .u8 (z.toNat : Int))) := hidOf fun i z hi => by
            refine BA.out (pl + i) z ?_
            have : ((byP N).drop pl)[i]? = some z := by
              rw [hD, show x ++ 0 :: D = (x ++ [0]) ++ D by simp, List.getElem?_append_left (List.getElem?_eq_some_iff.1 hi).1]
              exact hi
            rwa [List.getElem?_drop] at this
          have HXD : Hid (∀ i z, x[i]? = some z → (byP N)[pl + i]? = some z) := hidOf fun i z hi => by
            have : ((byP N).drop pl)[i]? = some z := by
              rw [hD, List.getElem?_append_left (List.getElem?_eq_some_iff.1 hi).1]
              exact hi
            rwa [List.getElem?_drop] at this
          have HXZ := hidOf hxz
          obtain ⟨xn, hxn⟩ : ∃ n, Hid (x.length = n) := ⟨_, rfl⟩
          rw [hxn.out] at hxl
          clear hz hN hD hxz
          go_upto_region 5 with fail
          clear c7 q0
          go_wp2
          go_loopw [8] (fun i wr => ∃ (j : Nat), j ≤ xn ∧ i = .int .i64 ((pl + j : Nat) : Int) ∧ Hid (wA = wr)) (fun i _ => pl + xn - (intOf i).toNat)
          case atStart => exact ⟨0, by omega, rfl, hidOf rfl⟩
          case round =>
            obtain ⟨j, hj, rfl, hw⟩ := hrel
            have hw := hw.out
            subst hw
            obtain ⟨e, he⟩ : ∃ e : Nat, Hid (pl + j = e) := ⟨_, rfl⟩
            rw [he.out]
            have he1 : (e : Int) < sn := by have := he.out; omega
            have he2 : (0 : Int) ≤ e := by omega
            by_cases hjx : j < xn
            · obtain ⟨y, hy⟩ : ∃ y, x[j]? = some y := ⟨_, List.getElem?_eq_getElem (by rw [hxn.out]; exact hjx)⟩
              have q1 : wA.cell? ⟨sg, so + e, none⟩ = some (.int .u8 (y.toNat : Int)) := by
                have := BX.out j y (by rw [List.getElem?_append_left (by rw [hxn.out]; exact hjx)]; exact hy)
                rw [he.out] at this; exact this
              have hy0 : y ≠ 0 := HXZ.out y (List.mem_of_getElem? hy)
              have hyn : ((y.toNat : Int) != 0) = true := by
                have : y.toNat ≠ 0 := fun h => hy0 (UInt8.toNat_inj.1 (by rw [h]; rfl))
                simp; omega
              obtain ⟨yn, hyn2⟩ : ∃ q : Nat, y.toNat = q := ⟨_, rfl⟩
              rw [hyn2] at q1 hyn
              clear hy hyn2
              go_wp2
              go_roundw
              case rel => exact ⟨j + 1, by omega, by have := he.out; simp; omega, by first | exact hidOf rfl | exact hidOf trivial⟩
              case measure => have := he.out; simp [intOf] <;> omega
            · have q1 : wA.cell? ⟨sg, so + e, none⟩ = some (.int .u8 0) := by
                have := BX.out j 0 (by rw [List.getElem?_append_right (by rw [hxn.out]; omega), hxn.out, show j - xn = 0 by omega]; rfl)
                rw [he.out] at this; exact this
              have hje : j = xn := by omega
              have CV : Hid (∀ wx : World, sg < wx.heap.size → BtA wx sg so (byP N) → (convert 27 9 (.slice (some ⟨sg, so + pl, none⟩) xn (sc - pl))).run Tryz.prog wx = .ok (.string ⟨x.toArray⟩) wx) := hidOf fun wx hsg hbx => by
                have := conv_rest (N := wx.heap.size) (w := wx) (a := some ⟨sg, so + pl, none⟩) (l := x) (.inr ⟨sg, so + pl, hsg, rfl, fun i z hz => by
                  rw [show so + pl + i = so + (pl + i) by omega]
                  exact hbx (pl + i) z (HXD.out i z hz)⟩) (sc - pl)
                rw [hxn.out] at this; exact this
              have hsg : sg < wA.heap.size := World.block_lt_of_cell? wA _ q1
              have he3 : Hid (e = pl + xn) := hidOf (by rw [← he.out, hje])
              have d1 : (pl : Int) ≤ e := by have := he3.out; omega
              have d2 : (e : Int) ≤ sc := by omega
              have d3 : e - pl = xn := by have := he3.out; omega
              have d4 : ¬ sc = pl := by omega
              have d5 : ¬ (sc : Int) = pl := by omega
              have d6 : (0 : Int) ≤ pl := by omega
              clear hje hj hjx he
              obtain ⟨c0, c1, c2, c3, c4, c5, c6, c7⟩ := RA.out.at
              have fz := RA.out.fr 7
              clear c0 c1 c2 c3 c4 c5 c6
              go_upto_region 8 with fail
              by_cases hpn : pl = nx
              · have bq : ((pl : Int) == (nx : Int)) = true := by simp; omega
                have HPN := hidOf hpn
                clear hpn
                go_upto_region 10 with fail
                obtain ⟨wB, hwB⟩ : ∃ x, Hid (x = wA.setCell ⟨p, 7, none⟩ (.int .i64 ((e : Int) + 1))) := ⟨_, rfl⟩
                rw [← hwB.out]
                have cg := Chg.setCell (S := fun k => k = p) (Chg.refl _ wA) (p := ⟨p, 7, none⟩) rfl (.int .i64 ((e : Int) + 1))
                rw [← hwB.out] at cg
                have RB : Hid (RgA wB p v0 s f d k tv sv ((e + 1 : Nat) : Int)) := hidOf (by rw [hwB.out]; exact RA.out.s7 _)
                have cv := CV.out wB (by have := cg.size; omega) (bt_chg BA.out cg hgp)
                have KB := hidOf (Chg.trans KA.out cg (fun _ h _ => h))
                clear cg c7 fz q1 bq
                go_wp2
                go_ret2
                refine ⟨KB.out, .inr ⟨x, e + 1, ?_, rfl, RB.out⟩⟩
                rw [HNm.out, if_pos HPN.out, hxn.out, he3.out, HPN.out]
              · have bq : ((pl : Int) == (nx : Int)) = false := by simp; omega
                have cv := CV.out wA hsg BA.out
                go_wp2
                go_ret2
                refine ⟨KA.out, .inr ⟨x, nx, ?_, rfl, RA.out⟩⟩
                rw [HNm.out, if_neg hpn]
        · have hzn : ((z.toNat : Int) != 0) = true := by
            have : z.toNat ≠ 0 := fun h => hz0 (UInt8.toNat_inj.1 (by rw [h]; rfl))
            simp; omega
          have HZ := hidOf hz
          obtain ⟨zn, hzn2⟩ : ∃ q : Nat, z.toNat = q := ⟨_, rfl⟩
          rw [hzn2] at q0 hzn
          clear hz hzn2
          go_wp2
          go_ret2
          exact ⟨KA.out, .inl ⟨nmT_out (.inr ⟨z, HZ.out, hz0⟩), rfl⟩⟩
set_option maxRecDepth 8000 in
set_option maxHeartbeats 4000000 in
theorem nameS_any (w : World) (p sg so sn sc pl : Nat) (v0 tv sv : Value) (s f d k : Int) (N : List (List UInt8)) (nx : Nat) (hx0 : ¬ nx = 0) (hnx : nx ≤ 1000000000000) (hok : ∀ y ∈ N, nameOk y = true) (hl : (byP N).length = sn) (hsc : sn ≤ sc) (hb : BtA w sg so (byP N)) (hgp : ¬ sg = p) (hn : sn ≤ 1000000000000) (hpl : pl ≤ 4294967296) (h : RgA w p v0 s f d k tv sv (nx : Nat)) : Calls Tryz.prog 62 #[.pointer (some ⟨p, 0, none⟩), .slice (some ⟨sg, so, none⟩) sn sc, .int .i64 pl] w (NamE N nx pl p v0 tv sv s f d k w) := by
  have hxi : ((nx : Int) == 0) = false := by simp; omega
  obtain ⟨wA, hwA⟩ : ∃ x, Hid (x = w) := ⟨_, rfl⟩
  have RA : Hid (RgA wA p v0 s f d k tv sv (nx : Nat)) := hidOf (by rw [hwA.out]; exact h)
  have KA : Hid (Chg (fun k => k = p) w wA) := hidOf (by rw [hwA.out]; exact Chg.refl _ _)
  have h7 := (h.at).2.2.2.2.2.2.2
  have BA : Hid (BtA wA sg so (byP N)) := hidOf (bt_chg hb KA.out hgp)
  have HL := hidOf hl
  have HOK := hidOf hok
  have hpw := h.lt
  clear h hb hl hok
  go_enter Tryz.func62, Tryz.ntmps62
  go_upto_region 3 with fail
  have hwA := hwA.out
  subst hwA
  clear h7 hxi
  obtain ⟨c0, c1, c2, c3, c4, c5, c6, c7⟩ := RA.out.at
  clear c0 c1 c2 c3 c4 c5 c6
  by_cases hp1 : pl < 1
  · have b1 : (pl : Int) < 1 := by omega
    go_wp2
    go_ret2
    exact ⟨KA.out, .inl ⟨nmT_no (.inl hp1), rfl⟩⟩
  · have b1 : ¬ (pl : Int) < 1 := by omega
    by_cases hp2 : nx < pl
    · have b2 : (nx : Int) < pl := by omega
      go_wp2
      go_ret2
      exact ⟨KA.out, .inl ⟨nmT_no (.inr hp2), rfl⟩⟩
    · have b2 : ¬ (nx : Int) < pl := by omega
      by_cases hp3 : sn ≤ pl
      · have b3 : (sn : Int) ≤ pl := by omega
        go_wp2
        go_ret2
        exact ⟨KA.out, .inl ⟨nmT_out (.inl (by rw [HL.out]; exact hp3)), rfl⟩⟩
      · have b3 : ¬ (sn : Int) ≤ pl := by omega
        obtain ⟨z, hz⟩ : ∃ z, (byP N)[pl - 1]? = some z := ⟨_, List.getElem?_eq_getElem (by rw [HL.out]; omega)⟩
        obtain ⟨pk, hpk⟩ : ∃ q : Nat, pl = q + 1 := ⟨pl - 1, by omega⟩
        have e1 : (pl : Int) - 1 = pk := by omega
        have e0 : pl - 1 = pk := by omega
        have q0 : wA.cell? ⟨sg, so + pk, none⟩ = some (.int .u8 (z.toNat : Int)) := BA.out pk z (by rw [← e0]; exact hz)
        have b4 : (pk : Int) < sn := by omega
        have b5 : (0 : Int) ≤ pk := by omega
        clear hpk
        by_cases hz0 : z = 0
        · subst hz0
          have q0 : wA.cell? ⟨sg, so + pk, none⟩ = some (.int .u8 0) := q0
          obtain ⟨x, D, hN, hD, hxz, hxl⟩ := nmT_yes (nx := nx) HOK.out (by omega) (by omega) (by rw [HL.out]; omega) hz
          rw [HL.out] at hxl
          have HNm := hidOf hN
          have BX : Hid (∀ i z, (x ++ [0])[i]? = some z → wA.cell? ⟨sg, so + (pl + i), none⟩ = some (.int .u8 (z.toNat : Int))) := hidOf fun i z hi => by
            refine BA.out (pl + i) z ?_
            have : ((byP N).drop pl)[i]? = some z := by
              rw [hD, show x ++ 0 :: D = (x ++ [0]) ++ D by simp, List.getElem?_append_left (List.getElem?_eq_some_iff.1 hi).1]
              exact hi
            rwa [List.getElem?_drop] at this
          have HXD : Hid (∀ i z, x[i]? = some z → (byP N)[pl + i]? = some z) := hidOf fun i z hi => by
            have : ((byP N).drop pl)[i]? = some z := by
              rw [hD, List.getElem?_append_left (List.getElem?_eq_some_iff.1 hi).1]
              exact hi
            rwa [List.getElem?_drop] at this
          have HXZ := hidOf hxz
          obtain ⟨xn, hxn⟩ : ∃ n, Hid (x.length = n) := ⟨_, rfl⟩
          rw [hxn.out] at hxl
          clear hz hN hD hxz
          go_upto_region 5 with fail
          clear c7 q0
          go_wp2
          go_loopw [8] (fun i wr => ∃ (j : Nat), j ≤ xn ∧ i = .int .i64 ((pl + j : Nat) : Int) ∧ Hid (wA = wr)) (fun i _ => pl + xn - (intOf i).toNat)
          case atStart => exact ⟨0, by omega, rfl, hidOf rfl⟩
          case round =>
            obtain ⟨j, hj, rfl, hw⟩ := hrel
            have hw := hw.out
            subst hw
            obtain ⟨e, he⟩ : ∃ e : Nat, Hid (pl + j = e) := ⟨_, rfl⟩
            rw [he.out]
            have he1 : (e : Int) < sn := by have := he.out; omega
            have he2 : (0 : Int) ≤ e := by omega
            by_cases hjx : j < xn
            · obtain ⟨y, hy⟩ : ∃ y, x[j]? = some y := ⟨_, List.getElem?_eq_getElem (by rw [hxn.out]; exact hjx)⟩
              have q1 : wA.cell? ⟨sg, so + e, none⟩ = some (.int .u8 (y.toNat : Int)) := by
                have := BX.out j y (by rw [List.getElem?_append_left (by rw [hxn.out]; exact hjx)]; exact hy)
                rw [he.out] at this; exact this
              have hy0 : y ≠ 0 := HXZ.out y (List.mem_of_getElem? hy)
              have hyn : ((y.toNat : Int) != 0) = true := by
                have : y.toNat ≠ 0 := fun h => hy0 (UInt8.toNat_inj.1 (by rw [h]; rfl))
                simp; omega
              obtain ⟨yn, hyn2⟩ : ∃ q : Nat, y.toNat = q := ⟨_, rfl⟩
              rw [hyn2] at q1 hyn
              clear hy hyn2
              go_wp2
              go_roundw
              case rel => exact ⟨j + 1, by omega, by have := he.out; simp; omega, by first | exact hidOf rfl | exact hidOf trivial⟩
              case measure => have := he.out; simp [intOf] <;> omega
            · have q1 : wA.cell? ⟨sg, so + e, none⟩ = some (.int .u8 0) := by
                have := BX.out j 0 (by rw [List.getElem?_append_right (by rw [hxn.out]; omega), hxn.out, show j - xn = 0 by omega]; rfl)
                rw [he.out] at this; exact this
              have hje : j = xn := by omega
              have CV : Hid (∀ wx : World, sg < wx.heap.size → BtA wx sg so (byP N) → (convert 27 9 (.slice (some ⟨sg, so + pl, none⟩) xn (sc - pl))).run Tryz.prog wx = .ok (.string ⟨x.toArray⟩) wx) := hidOf fun wx hsg hbx => by
                have := conv_rest (N := wx.heap.size) (w := wx) (a := some ⟨sg, so + pl, none⟩) (l := x) (.inr ⟨sg, so + pl, hsg, rfl, fun i z hz => by
                  rw [show so + pl + i = so + (pl + i) by omega]
                  exact hbx (pl + i) z (HXD.out i z hz)⟩) (sc - pl)
                rw [hxn.out] at this; exact this
              have hsg : sg < wA.heap.size := World.block_lt_of_cell? wA _ q1
              have he3 : Hid (e = pl + xn) := hidOf (by rw [← he.out, hje])
              have d1 : (pl : Int) ≤ e := by have := he3.out; omega
              have d2 : (e : Int) ≤ sc := by omega
              have d3 : e - pl = xn := by have := he3.out; omega
              have d4 : ¬ sc = pl := by omega
              have d5 : ¬ (sc : Int) = pl := by omega
              have d6 : (0 : Int) ≤ pl := by omega
              clear hje hj hjx he
              obtain ⟨c0, c1, c2, c3, c4, c5, c6, c7⟩ := RA.out.at
              have fz := RA.out.fr 7
              clear c0 c1 c2 c3 c4 c5 c6
              go_upto_region 8 with fail
              by_cases hpn : pl = nx
              · have bq : ((pl : Int) == (nx : Int)) = true := by simp; omega
                have HPN := hidOf hpn
                clear hpn
                go_upto_region 10 with fail
                obtain ⟨wB, hwB⟩ : ∃ x, Hid (x = wA.setCell ⟨p, 7, none⟩ (.int .i64 ((e : Int) + 1))) := ⟨_, rfl⟩
                rw [← hwB.out]
                have cg := Chg.setCell (S := fun k => k = p) (Chg.refl _ wA) (p := ⟨p, 7, none⟩) rfl (.int .i64 ((e : Int) + 1))
                rw [← hwB.out] at cg
                have RB : Hid (RgA wB p v0 s f d k tv sv ((e + 1 : Nat) : Int)) := hidOf (by rw [hwB.out]; exact RA.out.s7 _)
                have cv := CV.out wB (by have := cg.size; omega) (bt_chg BA.out cg hgp)
                have KB := hidOf (Chg.trans KA.out cg (fun _ h _ => h))
                clear cg c7 fz q1 bq
                go_wp2
                go_ret2
                refine ⟨KB.out, .inr ⟨x, e + 1, ?_, rfl, RB.out⟩⟩
                rw [HNm.out, if_pos HPN.out, hxn.out, he3.out, HPN.out]
              · have bq : ((pl : Int) == (nx : Int)) = false := by simp; omega
                have cv := CV.out wA hsg BA.out
                go_wp2
                go_ret2
                refine ⟨KA.out, .inr ⟨x, nx, ?_, rfl, RA.out⟩⟩
                rw [HNm.out, if_neg hpn]
        · have hzn : ((z.toNat : Int) != 0) = true := by
            have : z.toNat ≠ 0 := fun h => hz0 (UInt8.toNat_inj.1 (by rw [h]; rfl))
            simp; omega
          have HZ := hidOf hz
          obtain ⟨zn, hzn2⟩ : ∃ q : Nat, z.toNat = q := ⟨_, rfl⟩
          rw [hzn2] at q0 hzn
          clear hz hzn2
          go_wp2
          go_ret2
          exact ⟨KA.out, .inl ⟨nmT_out (.inr ⟨z, HZ.out, hz0⟩), rfl⟩⟩
end Go.Proofs.YthififblejbleaaGreatDoor
