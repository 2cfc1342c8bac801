import Derived.Test.YtbdmbicnlfcclaaSyp
namespace Go.Proofs.Ytbdmbicnlfcclaa
open Go.RowKit
set_option linter.unusedVariables false
set_option linter.unusedSimpArgs false
deriving instance DecidableEq for Sy
set_option maxRecDepth 8000 in
set_option maxHeartbeats 2000000 in
theorem sameSymbols_any (w : World) (a a' : Option Addr) (c c' : Nat) (L M : List Sy) (h : SyAt w.heap.size w a L) (h' : SyAt w.heap.size w a' M) (hl : L.length ≤ 10000000000000) : Calls Try.prog 18 #[.slice a L.length c, .slice a' M.length c'] w fun e w' => e = .returned (.bool (decide (L = M))) ∧ Out w w' := by
  have H := hidOf h
  have H' := hidOf h'
  by_cases hlen : L.length = M.length
  · have hb : (L.length : Int) == M.length := by simp [hlen]
    have hlI : (L.length : Int) ≤ 10000000000000 := by omega
    obtain ⟨R, hR⟩ : ∃ R, R = decide (L = M) := ⟨_, rfl⟩
    rw [← hR]
    have HR := hidOf hR
    have Hlen := hidOf hlen
    rw [← hlen]
    clear h h' hR hlen hb
    go_enter Try.func18, Try.ntmps18
    go_wp2
    go_loopw [5] (fun iv wr => ∃ i : Nat, iv = .int .i64 i ∧ i ≤ L.length ∧ Hid (L.take i = M.take i) ∧ Hid (Out w wr)) (fun iv _ => L.length - (intOf iv).toNat)
    case atStart => exact ⟨0, rfl, by omega, hidOf (by simp), hidOf (Out.refl _)⟩
    case round =>
      obtain ⟨i, rfl, hi, HE, HO⟩ := hrel
      by_cases hiL : i < L.length
      · have hlt : (i : Int) < L.length := by omega
        have h0 : (0 : Int) ≤ i := by omega
        have hiM : i < M.length := by have := Hlen.out; omega
        obtain ⟨x, hx⟩ : ∃ x, L[i]? = some x := ⟨_, List.getElem?_eq_getElem hiL⟩
        obtain ⟨y, hy⟩ : ∃ y, M[i]? = some y := ⟨_, List.getElem?_eq_getElem hiM⟩
        obtain ⟨g, off, rfl, hg, h6⟩ := H.out.get hx
        obtain ⟨g2, off2, rfl, hg2, h62⟩ := H'.out.get hy
        have HKS : Hid (∀ wx, Out w wx → wx.cell? ⟨g, off + i * 6, none⟩ = some (.int .i64 x.na) ∧ wx.cell? ⟨g, off + i * 6 + 1, none⟩ = some (.int .i64 x.bi) ∧ wx.cell? ⟨g, off + i * 6 + 2, none⟩ = some (.int .i64 x.ki) ∧ wx.cell? ⟨g, off + i * 6 + 3, none⟩ = some (.int .i64 x.se) ∧ wx.cell? ⟨g, off + i * 6 + 4, none⟩ = some (.int .i64 x.va) ∧ wx.cell? ⟨g, off + i * 6 + 5, none⟩ = some (.int .i64 x.si) ∧ wx.cell? ⟨g2, off2 + i * 6, none⟩ = some (.int .i64 y.na) ∧ wx.cell? ⟨g2, off2 + i * 6 + 1, none⟩ = some (.int .i64 y.bi) ∧ wx.cell? ⟨g2, off2 + i * 6 + 2, none⟩ = some (.int .i64 y.ki) ∧ wx.cell? ⟨g2, off2 + i * 6 + 3, none⟩ = some (.int .i64 y.se) ∧ wx.cell? ⟨g2, off2 + i * 6 + 4, none⟩ = some (.int .i64 y.va) ∧ wx.cell? ⟨g2, off2 + i * 6 + 5, none⟩ = some (.int .i64 y.si)) := fun wx o => by
          obtain ⟨x0, x1, x2, x3, x4, x5⟩ := h6.later o
          obtain ⟨y0, y1, y2, y3, y4, y5⟩ := h62.later o
          exact ⟨x0, x1, x2, x3, x4, x5, y0, y1, y2, y3, y4, y5⟩
        obtain ⟨na, bi, ki, se, va, si⟩ := x
        obtain ⟨na2, bi2, ki2, se2, va2, si2⟩ := y
        simp only at HKS
        have HOd := hidOf HO.out.drew
        have Hx := hidOf hx
        have Hy := hidOf hy
        clear hx hy h6 h62
        have hcs : (na = na2 ∧ bi = bi2 ∧ ki = ki2 ∧ se = se2 ∧ va = va2 ∧ si = si2) ∨ (¬ na = na2) ∨ (na = na2 ∧ ¬ bi = bi2) ∨ (na = na2 ∧ bi = bi2 ∧ ¬ ki = ki2) ∨ (na = na2 ∧ bi = bi2 ∧ ki = ki2 ∧ ¬ se = se2) ∨ (na = na2 ∧ bi = bi2 ∧ ki = ki2 ∧ se = se2 ∧ ¬ va = va2) ∨ (na = na2 ∧ bi = bi2 ∧ ki = ki2 ∧ se = se2 ∧ va = va2 ∧ ¬ si = si2) := by omega
        rcases hcs with ⟨rfl, rfl, rfl, rfl, rfl, rfl⟩ | hd | ⟨rfl, hd⟩ | ⟨rfl, rfl, hd⟩ | ⟨rfl, rfl, rfl, hd⟩ | ⟨rfl, rfl, rfl, rfl, hd⟩ | ⟨rfl, rfl, rfl, rfl, rfl, hd⟩
        · obtain ⟨x0, x1, x2, x3, x4, x5, y0, y1, y2, y3, y4, y5⟩ := HKS.out wr HO.out
          have HN : Hid (L.take (i + 1) = M.take (i + 1)) := hidOf (by rw [List.take_add_one, List.take_add_one, HE.out, Hx.out, Hy.out])
          go_upto_region 6 with fail
          go_region_held3 (fun wx => wx.cell? ⟨g, off + i * 6, none⟩ = some (.int .i64 na) ∧ wx.cell? ⟨g, off + i * 6 + 1, none⟩ = some (.int .i64 bi) ∧ wx.cell? ⟨g, off + i * 6 + 2, none⟩ = some (.int .i64 ki) ∧ wx.cell? ⟨g, off + i * 6 + 3, none⟩ = some (.int .i64 se) ∧ wx.cell? ⟨g, off + i * 6 + 4, none⟩ = some (.int .i64 va) ∧ wx.cell? ⟨g, off + i * 6 + 5, none⟩ = some (.int .i64 si) ∧ wx.cell? ⟨g2, off2 + i * 6, none⟩ = some (.int .i64 na) ∧ wx.cell? ⟨g2, off2 + i * 6 + 1, none⟩ = some (.int .i64 bi) ∧ wx.cell? ⟨g2, off2 + i * 6 + 2, none⟩ = some (.int .i64 ki) ∧ wx.cell? ⟨g2, off2 + i * 6 + 3, none⟩ = some (.int .i64 se) ∧ wx.cell? ⟨g2, off2 + i * 6 + 4, none⟩ = some (.int .i64 va) ∧ wx.cell? ⟨g2, off2 + i * 6 + 5, none⟩ = some (.int .i64 si)) (first | with_reducible exact HKS.out _ (Hid.out (by assumption)) | fail) (fail)
          all_goals
            go_wp2
            exact ⟨⟨i + 1, by simp, by omega, HN, HOd⟩, by simp [intOf]; omega⟩
        · obtain ⟨x0, x1, x2, x3, x4, x5, y0, y1, y2, y3, y4, y5⟩ := HKS.out wr HO.out
          have HF : Hid (R = false) := hidOf (by
            rw [HR.out]
            refine decide_eq_false (fun e => hd ?_)
            have h1 := Hx.out
            rw [e, Hy.out] at h1
            have h2 := Option.some.inj h1
            first | exact (congrArg Sy.na h2).symm | exact congrArg Sy.na h2)
          go_upto_region 6 with fail
          go_region_held3 (fun wx => wx.cell? ⟨g, off + i * 6, none⟩ = some (.int .i64 na) ∧ wx.cell? ⟨g, off + i * 6 + 1, none⟩ = some (.int .i64 bi) ∧ wx.cell? ⟨g, off + i * 6 + 2, none⟩ = some (.int .i64 ki) ∧ wx.cell? ⟨g, off + i * 6 + 3, none⟩ = some (.int .i64 se) ∧ wx.cell? ⟨g, off + i * 6 + 4, none⟩ = some (.int .i64 va) ∧ wx.cell? ⟨g, off + i * 6 + 5, none⟩ = some (.int .i64 si) ∧ wx.cell? ⟨g2, off2 + i * 6, none⟩ = some (.int .i64 na2) ∧ wx.cell? ⟨g2, off2 + i * 6 + 1, none⟩ = some (.int .i64 bi2) ∧ wx.cell? ⟨g2, off2 + i * 6 + 2, none⟩ = some (.int .i64 ki2) ∧ wx.cell? ⟨g2, off2 + i * 6 + 3, none⟩ = some (.int .i64 se2) ∧ wx.cell? ⟨g2, off2 + i * 6 + 4, none⟩ = some (.int .i64 va2) ∧ wx.cell? ⟨g2, off2 + i * 6 + 5, none⟩ = some (.int .i64 si2)) (first | with_reducible exact HKS.out _ (Hid.out (by assumption)) | fail) (fail)
          all_goals
            go_wp2
            go_ret
            rw [HF.out]
            exact ⟨rfl, HOd.out⟩
        · obtain ⟨x0, x1, x2, x3, x4, x5, y0, y1, y2, y3, y4, y5⟩ := HKS.out wr HO.out
          have HF : Hid (R = false) := hidOf (by
            rw [HR.out]
            refine decide_eq_false (fun e => hd ?_)
            have h1 := Hx.out
            rw [e, Hy.out] at h1
            have h2 := Option.some.inj h1
            first | exact (congrArg Sy.bi h2).symm | exact congrArg Sy.bi h2)
          go_upto_region 6 with fail
          go_region_held3 (fun wx => wx.cell? ⟨g, off + i * 6, none⟩ = some (.int .i64 na) ∧ wx.cell? ⟨g, off + i * 6 + 1, none⟩ = some (.int .i64 bi) ∧ wx.cell? ⟨g, off + i * 6 + 2, none⟩ = some (.int .i64 ki) ∧ wx.cell? ⟨g, off + i * 6 + 3, none⟩ = some (.int .i64 se) ∧ wx.cell? ⟨g, off + i * 6 + 4, none⟩ = some (.int .i64 va) ∧ wx.cell? ⟨g, off + i * 6 + 5, none⟩ = some (.int .i64 si) ∧ wx.cell? ⟨g2, off2 + i * 6, none⟩ = some (.int .i64 na) ∧ wx.cell? ⟨g2, off2 + i * 6 + 1, none⟩ = some (.int .i64 bi2) ∧ wx.cell? ⟨g2, off2 + i * 6 + 2, none⟩ = some (.int .i64 ki2) ∧ wx.cell? ⟨g2, off2 + i * 6 + 3, none⟩ = some (.int .i64 se2) ∧ wx.cell? ⟨g2, off2 + i * 6 + 4, none⟩ = some (.int .i64 va2) ∧ wx.cell? ⟨g2, off2 + i * 6 + 5, none⟩ = some (.int .i64 si2)) (first | with_reducible exact HKS.out _ (Hid.out (by assumption)) | fail) (fail)
          all_goals
            go_wp2
            go_ret
            rw [HF.out]
            exact ⟨rfl, HOd.out⟩
        · obtain ⟨x0, x1, x2, x3, x4, x5, y0, y1, y2, y3, y4, y5⟩ := HKS.out wr HO.out
          have HF : Hid (R = false) := hidOf (by
            rw [HR.out]
            refine decide_eq_false (fun e => hd ?_)
            have h1 := Hx.out
            rw [e, Hy.out] at h1
            have h2 := Option.some.inj h1
            first | exact (congrArg Sy.ki h2).symm | exact congrArg Sy.ki h2)
          go_upto_region 6 with fail
          go_region_held3 (fun wx => wx.cell? ⟨g, off + i * 6, none⟩ = some (.int .i64 na) ∧ wx.cell? ⟨g, off + i * 6 + 1, none⟩ = some (.int .i64 bi) ∧ wx.cell? ⟨g, off + i * 6 + 2, none⟩ = some (.int .i64 ki) ∧ wx.cell? ⟨g, off + i * 6 + 3, none⟩ = some (.int .i64 se) ∧ wx.cell? ⟨g, off + i * 6 + 4, none⟩ = some (.int .i64 va) ∧ wx.cell? ⟨g, off + i * 6 + 5, none⟩ = some (.int .i64 si) ∧ wx.cell? ⟨g2, off2 + i * 6, none⟩ = some (.int .i64 na) ∧ wx.cell? ⟨g2, off2 + i * 6 + 1, none⟩ = some (.int .i64 bi) ∧ wx.cell? ⟨g2, off2 + i * 6 + 2, none⟩ = some (.int .i64 ki2) ∧ wx.cell? ⟨g2, off2 + i * 6 + 3, none⟩ = some (.int .i64 se2) ∧ wx.cell? ⟨g2, off2 + i * 6 + 4, none⟩ = some (.int .i64 va2) ∧ wx.cell? ⟨g2, off2 + i * 6 + 5, none⟩ = some (.int .i64 si2)) (first | with_reducible exact HKS.out _ (Hid.out (by assumption)) | fail) (fail)
          all_goals
            go_wp2
            go_ret
            rw [HF.out]
            exact ⟨rfl, HOd.out⟩
        · obtain ⟨x0, x1, x2, x3, x4, x5, y0, y1, y2, y3, y4, y5⟩ := HKS.out wr HO.out
          have HF : Hid (R = false) := hidOf (by
            rw [HR.out]
            refine decide_eq_false (fun e => hd ?_)
            have h1 := Hx.out
            rw [e, Hy.out] at h1
            have h2 := Option.some.inj h1
            first | exact (congrArg Sy.se h2).symm | exact congrArg Sy.se h2)
          go_upto_region 6 with fail
          go_region_held3 (fun wx => wx.cell? ⟨g, off + i * 6, none⟩ = some (.int .i64 na) ∧ wx.cell? ⟨g, off + i * 6 + 1, none⟩ = some (.int .i64 bi) ∧ wx.cell? ⟨g, off + i * 6 + 2, none⟩ = some (.int .i64 ki) ∧ wx.cell? ⟨g, off + i * 6 + 3, none⟩ = some (.int .i64 se) ∧ wx.cell? ⟨g, off + i * 6 + 4, none⟩ = some (.int .i64 va) ∧ wx.cell? ⟨g, off + i * 6 + 5, none⟩ = some (.int .i64 si) ∧ wx.cell? ⟨g2, off2 + i * 6, none⟩ = some (.int .i64 na) ∧ wx.cell? ⟨g2, off2 + i * 6 + 1, none⟩ = some (.int .i64 bi) ∧ wx.cell? ⟨g2, off2 + i * 6 + 2, none⟩ = some (.int .i64 ki) ∧ wx.cell? ⟨g2, off2 + i * 6 + 3, none⟩ = some (.int .i64 se2) ∧ wx.cell? ⟨g2, off2 + i * 6 + 4, none⟩ = some (.int .i64 va2) ∧ wx.cell? ⟨g2, off2 + i * 6 + 5, none⟩ = some (.int .i64 si2)) (first | with_reducible exact HKS.out _ (Hid.out (by assumption)) | fail) (fail)
          all_goals
            go_wp2
            go_ret
            rw [HF.out]
            exact ⟨rfl, HOd.out⟩
        · obtain ⟨x0, x1, x2, x3, x4, x5, y0, y1, y2, y3, y4, y5⟩ := HKS.out wr HO.out
          have HF : Hid (R = false) := hidOf (by
            rw [HR.out]
            refine decide_eq_false (fun e => hd ?_)
            have h1 := Hx.out
            rw [e, Hy.out] at h1
            have h2 := Option.some.inj h1
            first | exact (congrArg Sy.va h2).symm | exact congrArg Sy.va h2)
          go_upto_region 6 with fail
          go_region_held3 (fun wx => wx.cell? ⟨g, off + i * 6, none⟩ = some (.int .i64 na) ∧ wx.cell? ⟨g, off + i * 6 + 1, none⟩ = some (.int .i64 bi) ∧ wx.cell? ⟨g, off + i * 6 + 2, none⟩ = some (.int .i64 ki) ∧ wx.cell? ⟨g, off + i * 6 + 3, none⟩ = some (.int .i64 se) ∧ wx.cell? ⟨g, off + i * 6 + 4, none⟩ = some (.int .i64 va) ∧ wx.cell? ⟨g, off + i * 6 + 5, none⟩ = some (.int .i64 si) ∧ wx.cell? ⟨g2, off2 + i * 6, none⟩ = some (.int .i64 na) ∧ wx.cell? ⟨g2, off2 + i * 6 + 1, none⟩ = some (.int .i64 bi) ∧ wx.cell? ⟨g2, off2 + i * 6 + 2, none⟩ = some (.int .i64 ki) ∧ wx.cell? ⟨g2, off2 + i * 6 + 3, none⟩ = some (.int .i64 se) ∧ wx.cell? ⟨g2, off2 + i * 6 + 4, none⟩ = some (.int .i64 va2) ∧ wx.cell? ⟨g2, off2 + i * 6 + 5, none⟩ = some (.int .i64 si2)) (first | with_reducible exact HKS.out _ (Hid.out (by assumption)) | fail) (fail)
          all_goals
            go_wp2
            go_ret
            rw [HF.out]
            exact ⟨rfl, HOd.out⟩
        · obtain ⟨x0, x1, x2, x3, x4, x5, y0, y1, y2, y3, y4, y5⟩ := HKS.out wr HO.out
          have HF : Hid (R = false) := hidOf (by
            rw [HR.out]
            refine decide_eq_false (fun e => hd ?_)
            have h1 := Hx.out
            rw [e, Hy.out] at h1
            have h2 := Option.some.inj h1
            first | exact (congrArg Sy.si h2).symm | exact congrArg Sy.si h2)
          go_upto_region 6 with fail
          go_region_held3 (fun wx => wx.cell? ⟨g, off + i * 6, none⟩ = some (.int .i64 na) ∧ wx.cell? ⟨g, off + i * 6 + 1, none⟩ = some (.int .i64 bi) ∧ wx.cell? ⟨g, off + i * 6 + 2, none⟩ = some (.int .i64 ki) ∧ wx.cell? ⟨g, off + i * 6 + 3, none⟩ = some (.int .i64 se) ∧ wx.cell? ⟨g, off + i * 6 + 4, none⟩ = some (.int .i64 va) ∧ wx.cell? ⟨g, off + i * 6 + 5, none⟩ = some (.int .i64 si) ∧ wx.cell? ⟨g2, off2 + i * 6, none⟩ = some (.int .i64 na) ∧ wx.cell? ⟨g2, off2 + i * 6 + 1, none⟩ = some (.int .i64 bi) ∧ wx.cell? ⟨g2, off2 + i * 6 + 2, none⟩ = some (.int .i64 ki) ∧ wx.cell? ⟨g2, off2 + i * 6 + 3, none⟩ = some (.int .i64 se) ∧ wx.cell? ⟨g2, off2 + i * 6 + 4, none⟩ = some (.int .i64 va) ∧ wx.cell? ⟨g2, off2 + i * 6 + 5, none⟩ = some (.int .i64 si2)) (first | with_reducible exact HKS.out _ (Hid.out (by assumption)) | fail) (fail)
          all_goals
            go_wp2
            go_ret
            rw [HF.out]
            exact ⟨rfl, HOd.out⟩
      · have hlt : ¬ (i : Int) < L.length := by omega
        obtain rfl : i = L.length := by omega
        have HT : Hid (R = true) := hidOf (by
          rw [HR.out]
          have h1 := HE.out
          rw [List.take_length, Hlen.out, List.take_length] at h1
          exact decide_eq_true h1)
        go_wp2
        go_ret
        rw [HT.out]
        exact ⟨rfl, HO.out⟩
  · have hne : ((L.length : Int) != M.length) = true := by simp; omega
    have hd : decide (L = M) = false := decide_eq_false (fun e => hlen (by rw [e]))
    rw [hd]
    clear h h' hlen hd
    go_enter Try.func18, Try.ntmps18
    go_wp2
    go_ret
    exact ⟨rfl, Out.refl _⟩
end Go.Proofs.Ytbdmbicnlfcclaa
