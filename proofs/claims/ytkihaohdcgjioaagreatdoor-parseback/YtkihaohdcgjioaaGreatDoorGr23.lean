import Derived.Test.YtkihaohdcgjioaaGreatDoorGr21
namespace Go.Proofs.YtkihaohdcgjioaaGreatDoor.Lx
open Go.RowKit
set_option linter.unusedVariables false
set_option linter.unusedSimpArgs false
def NumsOk (ts : List Tk) : Prop := ∀ x ∈ ts, 0 ≤ x.n ∧ x.n < 18446744073709551616 ∧ x.t.length ≤ 140737488355328
set_option maxHeartbeats 4000000 in
theorem untoken_any (w : World) (hpw : Pow w) (a : Option Addr) (cap : Nat) (ts : List Tk) (h : TksAt w a ts) (hl : ts.length ≤ 3518437208883) (hn : NumsOk ts) :
    Calls Tryz.prog 87 #[.slice a ts.length cap] w fun e w' => e = .returned (.tuple #[.string ⟨(untokP ts).1.toArray⟩, .int .i64 (untokP ts).2]) ∧ Out w w' := by
  have HT := hidOf h
  have HP := hidOf hpw
  have HN := hidOf hn
  have H0 : Hid (WrAt w.heap.size w.heap.size (w.alloc (.cells #[.pointer none, .slice none 0 0, .int .i64 0, .int .i64 0] 177)) ⟨[], 0, 0⟩) := ⟨_, _, Nat.le_refl _, heap_alloc_new w _, .inl rfl, World.ownsRow_nil _ _ _ _, (fun k hk => by cases hk), fun _ => rfl⟩
  have O0 : Hid (Out w (w.alloc (.cells #[.pointer none, .slice none 0 0, .int .i64 0, .int .i64 0] 177))) := (Out.refl w).alloc _
  obtain ⟨p, hp⟩ : ∃ p, p = w.heap.size := ⟨_, rfl⟩
  have HF : Hid (∀ (e : Ending) (w' : World) (E : Int), (∃ s, unF true ⟨[], 0, 0⟩ ts = (E, s)) → ¬ E = 0 → e = .returned (.tuple #[.string ⟨#[]⟩, .int .i64 E]) → Out w w' → e = .returned (.tuple #[.string ⟨(untokP ts).1.toArray⟩, .int .i64 (untokP ts).2]) ∧ Out w w') := fun e w' E ⟨s, hs⟩ hE he ho => by
    have : untokP ts = ([], E) := by unfold untokP; rw [hs, if_neg hE]
    rw [this]; exact ⟨he, ho⟩
  clear h hpw hn
  go_enter Tryz.func87, Tryz.ntmps87
  go_wp2
  generalize w.alloc (.cells #[.pointer none, .slice none 0 0, .int .i64 0, .int .i64 0] 177) = w1 at *
  rw [← hp] at H0 ⊢
  have HPP := hidOf hp
  clear hp
  go_loopw [10] (fun kv wr => ∃ (k : Nat) (s : WS), kv = .int .i64 k ∧ k ≤ ts.length ∧ s.size ≤ 100 * k ∧ Hid (unF true ⟨[], 0, 0⟩ ts = unF (okAt ts k) s (ts.drop k)) ∧ Hid s.Ok ∧ Hid (WrAt p p wr s) ∧ Hid (Out w wr)) (fun kv _ => ts.length - (intOf kv).toNat)
  case atStart => exact ⟨0, ⟨[], 0, 0⟩, rfl, by omega, by simp, hidOf rfl, hidOf ⟨by simp, by simp, by simp⟩, H0, O0⟩
  case round =>
    obtain ⟨k, s, rfl, hk, hsz, HU, HOk, HW, HO⟩ := hrel
    by_cases hlt : k < ts.length
    · have hltI : (k : Int) < ts.length := by omega
      obtain ⟨x, hx⟩ : ∃ x, ts[k]? = some x := ⟨_, List.getElem?_eq_getElem hlt⟩
      obtain ⟨b, off, rfl, hc⟩ : ∃ b off, a = some ⟨b, off, none⟩ ∧ ∀ k x, ts[k]? = some x → w.cell? ⟨b, off + k * 4, none⟩ = some (.int .i64 x.k) ∧ w.cell? ⟨b, off + k * 4 + 1, none⟩ = some (.string ⟨x.t.toArray⟩) ∧ w.cell? ⟨b, off + k * 4 + 2, none⟩ = some (.int .u64 x.n) ∧ w.cell? ⟨b, off + k * 4 + 3, none⟩ = some (.int .i64 x.l) := by
        rcases HT.out with h | h
        · rw [h] at hlt; simp at hlt
        · exact h
      obtain ⟨q0, q1, q2, q3⟩ := hc k x hx
      have q0 := cell_later HO.out q0
      have q1 := cell_later HO.out q1
      have q2 := cell_later HO.out q2
      have q3 := cell_later HO.out q3
      have hxn := HN.out x (List.mem_of_getElem? hx)
      have HS : Hid (unF true ⟨[], 0, 0⟩ ts = unF (okAt ts k) s (x :: ts.drop (k + 1))) := by rw [← drop_at hx]; exact HU
      have HX := hidOf hx
      have CM : Hid (∀ wx, Calls Tryz.prog 130 #[.agg #[.int .i64 x.k, .string ⟨x.t.toArray⟩, .int .u64 x.n, .int .i64 x.l]] wx fun e w' => e = .returned (.int .i64 (mayP x)) ∧ Out wx w') := fun wx => may_any x wx (by omega)
      have CE : Hid (∀ wx, Out w wx → Calls Tryz.prog 131 #[.slice (some ⟨b, off, none⟩) ts.length cap, .int .i64 (k : Int)] wx fun e w' => e = .returned (.bool (endsP ts k)) ∧ wx = w') := fun wx ho => endsAt_any wx _ cap ts (HT.out.out ho) (by omega) k hlt
      clear hc hx HU
      obtain ⟨kk, t, n, ln⟩ := x
      simp only at q0 q1 q2 q3 hxn CM
      go_upto_region 5 with fail
      have Hb : Hid (Out wr (wr.alloc (.cells #[.int .i64 kk, .string ⟨t.toArray⟩, .int .u64 n, .int .i64 ln] 117))) := (Out.refl wr).alloc _
      have b0 : (wr.alloc (.cells #[.int .i64 kk, .string ⟨t.toArray⟩, .int .u64 n, .int .i64 ln] 117)).cell? ⟨wr.heap.size, 0, none⟩ = some (.int .i64 kk) := cell_fresh _ _ _ _ _ rfl
      have b1 : (wr.alloc (.cells #[.int .i64 kk, .string ⟨t.toArray⟩, .int .u64 n, .int .i64 ln] 117)).cell? ⟨wr.heap.size, 1, none⟩ = some (.string ⟨t.toArray⟩) := cell_fresh _ _ _ _ _ rfl
      have b2 : (wr.alloc (.cells #[.int .i64 kk, .string ⟨t.toArray⟩, .int .u64 n, .int .i64 ln] 117)).cell? ⟨wr.heap.size, 2, none⟩ = some (.int .u64 n) := cell_fresh _ _ _ _ _ rfl
      have b3 : (wr.alloc (.cells #[.int .i64 kk, .string ⟨t.toArray⟩, .int .u64 n, .int .i64 ln] 117)).cell? ⟨wr.heap.size, 3, none⟩ = some (.int .i64 ln) := cell_fresh _ _ _ _ _ rfl
      have HW1 := hidOf (HW.out.out Hb.out)
      have HO1 := hidOf (Out.trans HO.out Hb.out)
      clear q0 q1 q2 q3 Hb HW
      generalize wr.alloc (.cells #[.int .i64 kk, .string ⟨t.toArray⟩, .int .u64 n, .int .i64 ln] 117) = wb at *
      generalize wr.heap.size = g at *
      clear HO
      have hE0 := may_len (x := ⟨kk, t, n, ln⟩)
      simp only at hE0
      obtain ⟨E, hE⟩ : ∃ E, mayP ⟨kk, t, n, ln⟩ = E := ⟨_, rfl⟩
      rw [hE] at CM hE0
      have HE := hidOf hE
      clear hE
      by_cases he : E = 0
      · subst he
        have ht65 := hE0 rfl
        have hd20 : (Lib.decDigits n.toNat).length ≤ 20 := dd_len 19 _ (by omega)
        have hOk := HOk.out.tok ⟨kk, t, n, ln⟩ ht65 hd20
        have CT : Hid (∀ wx, Out w wx → WrAt p p wx s → Calls Tryz.prog 132 #[.pointer (some ⟨p, 0, none⟩), .agg #[.int .i64 kk, .string ⟨t.toArray⟩, .int .u64 n, .int .i64 ln]] wx fun e w' => WEnd p p wx (s.tok ⟨kk, t, n, ln⟩) e w') := fun wx ho hw => wtoken_any p p wx s ⟨kk, t, n, ln⟩ (HP.out.out ho) hw HOk.out.l24 HOk.out.ls (by omega) HOk.out.li (by simp only; omega) ⟨hxn.1, hxn.2.1⟩ (by simp only; omega)
        by_cases k0 : kk = 0
        · subst k0
          have hr : ts.drop (k + 1) = [] ↔ k + 1 = ts.length := by rw [List.drop_eq_nil_iff]; omega
          cases hb : endsP ts k
          · have HR : Hid (∃ s', unF true ⟨[], 0, 0⟩ ts = (52, s')) := ⟨s, by
              rw [HS.out]; unfold unF
              rw [if_pos HE.out, if_pos ⟨rfl, fun h => by
                have h1 := hr.1 h.1
                simp [endsP, h1, h.2] at hb⟩]⟩
            rw [hb] at CE
            go_upto_region 8 with (go_at_call 130; refine (CM.out wb).mono ?_; rintro e w2 ⟨rfl, ho⟩; have HM := hidOf ho; clear ho)
            have d0 := cell_later HM.out b0
            have d1 := cell_later HM.out b1
            have d2 := cell_later HM.out b2
            have d3 := cell_later HM.out b3
            have HW2 := hidOf (HW1.out.out HM.out)
            have HO2 := hidOf (Out.trans HO1.out HM.out)
            clear b0 b1 b2 b3 HM
            go_wp2_with (go_at_call 131; refine (CE.out w2 HO2.out).mono ?_; rintro e w3 ⟨rfl, hw3⟩; subst hw3)
            go_ret2
            exact HF.out _ _ 52 HR.out (by decide) rfl HO2.out
          · have HS' : Hid (unF true ⟨[], 0, 0⟩ ts = unF (okAt ts (k + 1)) (s.tok ⟨0, t, n, ln⟩) (ts.drop (k + 1))) := by
              simp only [endsP, Bool.and_eq_true, decide_eq_true_eq] at hb
              rw [HS.out, okAt_succ HX.out]
              exact hidOf (by
                conv => lhs; unfold unF
                rw [if_pos HE.out, if_neg (fun h => h.2 ⟨hr.2 hb.1, hb.2⟩), if_neg (fun h => by have := h.1; cases this)])
            rw [hb] at CE
            go_upto_region 8 with (go_at_call 130; refine (CM.out wb).mono ?_; rintro e w2 ⟨rfl, ho⟩; have HM := hidOf ho; clear ho)
            have d0 := cell_later HM.out b0
            have d1 := cell_later HM.out b1
            have d2 := cell_later HM.out b2
            have d3 := cell_later HM.out b3
            have HW2 := hidOf (HW1.out.out HM.out)
            have HO2 := hidOf (Out.trans HO1.out HM.out)
            clear b0 b1 b2 b3 HM
            go_wp2_with (first | (go_at_call 131; refine (CE.out w2 HO2.out).mono ?_; rintro e w3 ⟨rfl, hw3⟩; subst hw3) | (go_at_call 132; refine (CT.out w2 HO2.out HW2.out).mono ?_; rintro e w3 ⟨⟨v, rfl⟩, hq, hb⟩; have H3 := hidOf hq; have B3 : Hid (Out w w3) := Below.step HO2.out (HPP.out ▸ hb); clear hq hb))
            go_roundw
            case rel => exact ⟨k + 1, s.tok ⟨0, t, n, ln⟩, by simp, by omega, by have := hOk.2; omega, HS', hidOf hOk.1, H3, B3⟩
            case measure => simp [intOf]; omega
        · have k0' : (kk == 0) = false := by simpa using k0
          by_cases k5 : kk = 5
          · subst k5
            by_cases hln : 1024 < s.line
            · have hln' : (1024 : Int) < s.line := by omega
              have HR : Hid (∃ s', unF true ⟨[], 0, 0⟩ ts = (51, s')) := ⟨s, by
                rw [HS.out]; unfold unF
                rw [if_pos HE.out, if_neg (fun h => by have := h.1; cases this), if_pos ⟨rfl, hln⟩]⟩
              go_upto_region 8 with (go_at_call 130; refine (CM.out wb).mono ?_; rintro e w2 ⟨rfl, ho⟩; have HM := hidOf ho; clear ho)
              have d0 := cell_later HM.out b0
              have d1 := cell_later HM.out b1
              have d2 := cell_later HM.out b2
              have d3 := cell_later HM.out b3
              have HW2 := hidOf (HW1.out.out HM.out)
              have HO2 := hidOf (Out.trans HO1.out HM.out)
              clear b0 b1 b2 b3 HM
              obtain ⟨e3, f3⟩ := HW2.out.c3
              go_wp2
              go_ret2
              exact HF.out _ _ 51 HR.out (by decide) rfl HO2.out
            · have hln' : ¬ (1024 : Int) < s.line := by omega
              have HS' : Hid (unF true ⟨[], 0, 0⟩ ts = unF (okAt ts (k + 1)) (s.tok ⟨5, t, n, ln⟩) (ts.drop (k + 1))) := by
                rw [HS.out, okAt_succ HX.out]
                exact hidOf (by
                  conv => lhs; unfold unF
                  rw [if_pos HE.out, if_neg (fun h => by have := h.1; cases this), if_neg (fun h => hln h.2)])
              go_upto_region 8 with (go_at_call 130; refine (CM.out wb).mono ?_; rintro e w2 ⟨rfl, ho⟩; have HM := hidOf ho; clear ho)
              have d0 := cell_later HM.out b0
              have d1 := cell_later HM.out b1
              have d2 := cell_later HM.out b2
              have d3 := cell_later HM.out b3
              have HW2 := hidOf (HW1.out.out HM.out)
              have HO2 := hidOf (Out.trans HO1.out HM.out)
              clear b0 b1 b2 b3 HM
              obtain ⟨e3, f3⟩ := HW2.out.c3
              go_wp2_with (go_at_call 132; refine (CT.out w2 HO2.out HW2.out).mono ?_; rintro e w3 ⟨⟨v, rfl⟩, hq, hb⟩; have H3 := hidOf hq; have B3 : Hid (Out w w3) := Below.step HO2.out (HPP.out ▸ hb); clear hq hb)
              go_roundw
              case rel => exact ⟨k + 1, s.tok ⟨5, t, n, ln⟩, by simp, by omega, by have := hOk.2; omega, HS', hidOf hOk.1, H3, B3⟩
              case measure => simp [intOf]; omega
          · have k5' : (kk == 5) = false := by simpa using k5
            have HS' : Hid (unF true ⟨[], 0, 0⟩ ts = unF (okAt ts (k + 1)) (s.tok ⟨kk, t, n, ln⟩) (ts.drop (k + 1))) := by
              rw [HS.out, okAt_succ HX.out]
              exact hidOf (by
                conv => lhs; unfold unF
                rw [if_pos HE.out, if_neg (fun h => k0 h.1), if_neg (fun h => k5 h.1)])
            go_upto_region 8 with (go_at_call 130; refine (CM.out wb).mono ?_; rintro e w2 ⟨rfl, ho⟩; have HM := hidOf ho; clear ho)
            have d0 := cell_later HM.out b0
            have d1 := cell_later HM.out b1
            have d2 := cell_later HM.out b2
            have d3 := cell_later HM.out b3
            have HW2 := hidOf (HW1.out.out HM.out)
            have HO2 := hidOf (Out.trans HO1.out HM.out)
            clear b0 b1 b2 b3 HM
            go_wp2_with (go_at_call 132; refine (CT.out w2 HO2.out HW2.out).mono ?_; rintro e w3 ⟨⟨v, rfl⟩, hq, hb⟩; have H3 := hidOf hq; have B3 : Hid (Out w w3) := Below.step HO2.out (HPP.out ▸ hb); clear hq hb)
            go_roundw
            case rel => exact ⟨k + 1, s.tok ⟨kk, t, n, ln⟩, by simp, by omega, by have := hOk.2; omega, HS', hidOf hOk.1, H3, B3⟩
            case measure => simp [intOf]; omega
      · have he' : (E == 0) = false := by simpa using he
        have HR : Hid (∃ s', unF true ⟨[], 0, 0⟩ ts = (E, s')) := ⟨s, by rw [HS.out]; unfold unF; rw [HE.out, if_neg he]⟩
        go_wp2_with (go_at_call 130; refine (CM.out wb).mono ?_; rintro e w2 ⟨rfl, ho⟩; have HM := hidOf ho; clear ho)
        go_ret2
        exact HF.out _ _ E HR.out he rfl (Out.trans HO1.out HM.out)
    · have hltI : ¬ (k : Int) < ts.length := by omega
      have hkl : k = ts.length := by omega
      have HR : Hid (unF true ⟨[], 0, 0⟩ ts = (0, s)) := by rw [HU.out, hkl, List.drop_length]; exact hidOf rfl
      clear HU
      obtain ⟨ad, bv, hW⟩ := HW.out
      have c2 : wr.cell? ⟨p, 2, none⟩ = some (.int .i64 s.size) := hW.cell 2
      clear hW
      by_cases hte : ts = []
      · have h0 : ((ts.length : Int) == 0) = true := by simp [hte]
        have hP : Hid (untokP ts = ([], 52)) := by
          unfold untokP
          rw [HR.out, if_pos rfl, if_neg (by rw [hte]; simp [lastK])]
          exact hidOf rfl
        have HP0 : Hid (untokP [] = ([], 52)) := by rw [← hte]; exact hP
        go_wp2
        go_ret2
        exact ⟨by rw [HP0.out]; rfl, HO.out⟩
      · have hpos : 0 < ts.length := List.length_pos_iff.2 hte
        obtain ⟨x, hx⟩ : ∃ x, ts[ts.length - 1]? = some x := ⟨_, List.getElem?_eq_getElem (by omega)⟩
        obtain ⟨b, off, rfl, hc⟩ : ∃ b off, a = some ⟨b, off, none⟩ ∧ ∀ k x, ts[k]? = some x → w.cell? ⟨b, off + k * 4, none⟩ = some (.int .i64 x.k) ∧ w.cell? ⟨b, off + k * 4 + 1, none⟩ = some (.string ⟨x.t.toArray⟩) ∧ w.cell? ⟨b, off + k * 4 + 2, none⟩ = some (.int .u64 x.n) ∧ w.cell? ⟨b, off + k * 4 + 3, none⟩ = some (.int .i64 x.l) := by
          rcases HT.out with h | h
          · exact absurd h hte
          · exact h
        have q0 := cell_later HO.out (hc _ x hx).1
        have HL : Hid (lastK ts = some x.k) := lastK_at (by omega) hx
        have h0 : ((ts.length : Int) == 0) = false := by simp only [beq_eq_false_iff_ne]; omega
        have i0 : (1 : Int) ≤ ts.length := by omega
        have i1 : (ts.length : Int) - 1 < ts.length := by omega
        have i2 : (ts.length : Int) ≤ 3518437208883 := by omega
        clear hc hx hkl hk hlt
        generalize x.k = xk at *
        by_cases hxk : xk = 0
        · subst hxk
          by_cases hsm : s.size ≤ 16777216
          · have hsm' : ¬ (16777216 : Int) < s.size := by omega
            have hP : Hid (untokP ts = (s.l, 0)) := by
              unfold untokP
              rw [HR.out, if_pos rfl, if_pos HL.out, if_pos hsm]
              exact hidOf rfl
            have CS := hidOf (string_any p p wr s HW.out HOk.out.l24)
            go_wp2_with (go_at_call 32; refine CS.out.mono ?_; rintro e w2 ⟨rfl, hb⟩; have B2 : Hid (Out w w2) := Below.step HO.out (HPP.out ▸ hb); clear hb)
            go_ret2
            exact ⟨by rw [hP.out]; rfl, B2.out⟩
          · have hsm' : (16777216 : Int) < s.size := by omega
            have hP : Hid (untokP ts = ([], 50)) := by
              unfold untokP
              rw [HR.out, if_pos rfl, if_pos HL.out, if_neg hsm]
              exact hidOf rfl
            go_wp2
            go_ret2
            exact ⟨by rw [hP.out]; rfl, HO.out⟩
        · have hxk' : (xk == 0) = false := by simpa using hxk
          have hP : Hid (untokP ts = ([], 52)) := by
            unfold untokP
            rw [HR.out, if_pos rfl, if_neg (by rw [HL.out]; exact fun h => hxk (Option.some.inj h))]
            exact hidOf rfl
          go_wp2
          go_ret2
          exact ⟨by rw [hP.out]; rfl, HO.out⟩
end Go.Proofs.YtkihaohdcgjioaaGreatDoor.Lx
