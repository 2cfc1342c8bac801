import Derived.Test.YtoobdcjkhphlcaaRga
namespace Go.Proofs.Ytoobdcjkhphlcaa
open Go.RowKit
set_option linter.unusedVariables false
set_option linter.unusedSimpArgs false
/-- the reference's number of eight bytes -/
def tk8 (n : Nat) : Int := if 9223372036854775808 ≤ n then 9223372036854775807 else n
theorem taken_8 (b off c : Nat) (l : List UInt8) (w : World) (h : BAt w b off l) (hn : 8 = l.length) :
    Calls Try.prog 32 #[.slice (some ⟨b, off, none⟩) 8 c] w fun e w' => e = .returned (.int .i64 (tk8 (nmB l))) ∧ w' = w := by
  obtain ⟨x, hx⟩ : ∃ x, l[7]? = some x := ⟨_, List.getElem?_eq_getElem (by omega)⟩
  have hl : l = l.take 7 ++ [x] := by
    have := take_snoc hx
    rw [← this, List.take_of_length_le (by omega)]
  have e1 : nmB l = nmB (l.take 7) + 256 ^ 7 * x.toNat := by
    conv => lhs; rw [hl]
    rw [nmB_snoc]
    congr 3
    rw [List.length_take]; omega
  have e2 := nmB_lt (l.take 7)
  have e3 : (l.take 7).length = 7 := by rw [List.length_take]; omega
  rw [e3] at e2
  by_cases h7 : x.toNat < 128
  · have : nmB l < 9223372036854775808 := by omega
    have ht : tk8 (nmB l) = nmB l := if_neg (by omega)
    rw [ht]
    exact taken_small8 0 b off c l w h hn (by omega) x hx h7
  · have ht : tk8 (nmB l) = 9223372036854775807 := if_pos (by omega)
    rw [ht]
    exact taken_big8 b off c l w h x hx (by omega)
set_option maxRecDepth 8000 in
set_option maxHeartbeats 3000000 in
theorem refRead_any (w : World) (a : Option Addr) (c : Nat) (b : List UInt8) (h : RestAt w.heap.size w a b) (hc : b.length ≤ c) (hb : b.length ≤ 140737488355328) : Calls Try.prog 14 #[.slice a b.length c] w fun e w' => RdE w (rdP b) e w' := by
  have HB := hidOf h
  have hcI : (b.length : Int) ≤ c := by omega
  have hbI : (b.length : Int) ≤ 140737488355328 := by omega
  obtain ⟨O0, hO0⟩ : ∃ O, O = rdF b b.length 0 (-1) [] := ⟨_, rfl⟩
  rw [rdP, ← hO0]
  have H0 := hidOf hO0
  obtain ⟨i0, hi0, hz0, hz1, hz2⟩ := info_parts infoRl
  clear h hO0
  go_enter Try.func14, Try.ntmps14
  go_wp2
  go_loopw [7, 5, 6] (fun pv sv av wr => ∃ (m fu : Nat) (S : List Rl) (a1 : Option Addr) (c1 : Nat) (q lv : Int), pv = .int .i64 m ∧ sv = .slice a1 S.length c1 ∧ av = .int .i64 lv ∧ Hid (m = 16 * S.length ∧ m ≤ b.length + 16 ∧ b.length ≤ fu + m ∧ (S.length : Int) ≤ q + 1 ∧ q < 65536) ∧ Hid (lv = 8 * q ∨ (lv = -1 ∧ q = -1)) ∧ Hid (O0 = rdF b fu m q S) ∧ Hid (RSt w wr (.slice a1 S.length c1) S)) (fun pv _ _ _ => b.length + 16 - (intOf pv).toNat)
  case atStart => exact ⟨0, b.length, [], none, 0, -1, -1, rfl, rfl, rfl, ⟨by simp, by omega, by omega, by simp, by decide⟩, hidOf (.inr ⟨rfl, rfl⟩), H0.out, hidOf ⟨⟨rfl, .inl ⟨rfl, rfl⟩⟩, Out.refl _⟩⟩
  case round =>
    obtain ⟨m, fu, S, a1, c1, q, lv, rfl, rfl, rfl, HM, HLv, HO, HR⟩ := hrel
    obtain ⟨hm1, hm2, hm3, hm4, hm5⟩ := HM.out
    have h0 : (0 : Int) ≤ m := by omega
    by_cases hmb : m < b.length
    · have hlt : (m : Int) < b.length := by omega
      have hw16 : IntKind.i64.wrap ((m : Int) + 16) = ((m + 16 : Nat) : Int) := by rw [IntKind.wrap_i64]; omega
      obtain ⟨f1, rfl⟩ : ∃ f1, fu = f1 + 1 := ⟨fu - 1, by omega⟩
      obtain ⟨g, off, hg, rfl, hB⟩ := HB.out.resolve_left (fun e => by rw [e] at hmb; simp at hmb)
      by_cases hcut : b.length < m + 16
      · have hlt2 : (b.length : Int) < ((m + 16 : Nat) : Int) := by omega
        have HO2 : Hid (O0 = (none, (m : Int), 110)) := hidOf (by rw [HO.out, rdF, rdG_cut (by omega) hcut])
        clear hm1 hm2 hm3 hm4 hm5 hB
        go_wp2
        go_ret3
        rw [HO2.out]
        exact ⟨HR.out.out, rfl⟩
      · have hlt2 : ¬ (b.length : Int) < ((m + 16 : Nat) : Int) := by omega
        have hw8 : IntKind.i64.wrap ((m : Int) + 8) = ((m + 8 : Nat) : Int) := by rw [IntKind.wrap_i64]; omega
        have hw12 : IntKind.i64.wrap ((m : Int) + 12) = ((m + 12 : Nat) : Int) := by rw [IntKind.wrap_i64]; omega
        have hs1 : (m : Int) ≤ ((m + 8 : Nat) : Int) := by omega
        have hs2 : ((m + 8 : Nat) : Int) ≤ ((m + 12 : Nat) : Int) := by omega
        have hs3 : ((m + 12 : Nat) : Int) ≤ ((m + 16 : Nat) : Int) := by omega
        have ht1 : ((m + 8 : Nat) : Int) ≤ c := by omega
        have ht2 : ((m + 12 : Nat) : Int) ≤ c := by omega
        have ht3 : ((m + 16 : Nat) : Int) ≤ c := by omega
        have hu1 : m + 8 - m = 8 := by omega
        have hu2 : m + 12 - (m + 8) = 4 := by omega
        have hu3 : m + 16 - (m + 12) = 4 := by omega
        have hne : ¬ c = m := by omega
        have hne8 : ¬ c = m + 8 := by omega
        have hne12 : ¬ c = m + 12 := by omega
        obtain ⟨l, hl⟩ : ∃ l, l = (b.drop m).take 16 := ⟨_, rfl⟩
        have hll : l.length = 16 := by rw [hl, List.length_take, List.length_drop]; omega
        obtain ⟨T, hT⟩ : ∃ T, T = teP q l := ⟨_, rfl⟩
        have hst : stB b m q = T := by rw [hT, hl, stB]
        have hBl : ∀ wx, Out w wx → BAt wx g (off + m) l := fun wx o => by rw [hl]; exact (BAt.out hB hg o).cut m 16
        have N0 : Hid (∀ c', Calls Try.prog 32 #[.slice (some ⟨g, off + m, none⟩) 8 c'] wr fun e w' => e = .returned (.int .i64 (tk8 (nuB l 0 8))) ∧ w' = wr) := fun c' => by
          have h := (hBl wr HR.out.out).cut 0 8
          rw [Nat.add_zero] at h
          exact taken_8 g (off + m) c' _ wr h (by rw [List.length_take, List.length_drop]; omega)
        have N8 : Hid (∀ c', Calls Try.prog 32 #[.slice (some ⟨g, off + (m + 8), none⟩) 4 c'] wr fun e w' => e = .returned (.int .i64 (nuB l 8 4 : Nat)) ∧ w' = wr) := fun c' => by
          have h := (hBl wr HR.out.out).cut 8 4
          rw [Nat.add_assoc] at h
          exact taken_4 0 g (off + (m + 8)) c' _ wr h (by rw [List.length_take, List.length_drop]; omega)
        have N12 : Hid (∀ c', Calls Try.prog 32 #[.slice (some ⟨g, off + (m + 12), none⟩) 4 c'] wr fun e w' => e = .returned (.int .i64 (nuB l 12 4 : Nat)) ∧ w' = wr) := fun c' => by
          have h := (hBl wr HR.out.out).cut 12 4
          rw [Nat.add_assoc] at h
          exact taken_4 0 g (off + (m + 12)) c' _ wr h (by rw [List.length_take, List.length_drop]; omega)
        have b12 := nu_lt l 12 4
        unfold teP at hT
        generalize nuB l 0 8 = o at *
        generalize nuB l 8 4 = t at *
        generalize nuB l 12 4 = y at *
        obtain ⟨z, hz⟩ : ∃ z, tk8 o = z := ⟨_, rfl⟩
        rw [hz] at N0
        have hzc : (z = (o : Int) ∧ o < 9223372036854775808) ∨ (z = 9223372036854775807 ∧ 9223372036854775808 ≤ o) := by
          unfold tk8 at hz
          split at hz
          · exact .inr ⟨hz.symm, by assumption⟩
          · exact .inl ⟨hz.symm, by omega⟩
        have zp : 0 ≤ z := by omega
        have hqp := HLv.out
        clear hB hBl hll hl hz
        by_cases c1 : z % 8 = 0
        · have d1 : (z % 8 != 0) = false := by simp; omega
          obtain ⟨rfl, ho63⟩ : z = (o : Int) ∧ o < 9223372036854775808 := by omega
          rw [if_neg (by omega)] at hT
          by_cases c2 : 524288 ≤ o
          · rw [if_pos c2] at hT
            have HO2 : Hid (O0 = (none, (m : Int), 110)) := hidOf (by rw [HO.out, rdF, rdG_bad hcut (hst.trans hT)]; simp)
            obtain ⟨z, hz⟩ : ∃ z : Int, (o : Int) = z := ⟨_, rfl⟩
            rw [hz] at N0 d1 zp
            have c2I : decide ((524288 : Int) ≤ z) = true := by simp; omega
            clear hzc hqp c1 ho63 c2 hT hst hm1 hm2 hm3 hm4 hm5 hz b12
            go_upto_region 11 with (go_at_call 32; (first | with_reducible refine (N0.out _).mono ?_ | with_reducible refine (N8.out _).mono ?_ | with_reducible refine (N12.out _).mono ?_); rintro e w1 ⟨rfl, hw⟩; have hw := hw.symm; subst hw)
            go_wp2
            go_ret3
            rw [HO2.out]
            exact ⟨HR.out.out, rfl⟩
          · rw [if_neg c2] at hT
            obtain ⟨s, hs⟩ : ∃ s, o / 8 = s := ⟨_, rfl⟩
            rw [hs] at hT
            have hos : o = 8 * s := by omega
            have hs6 : s < 65536 := by omega
            have c2I : decide ((524288 : Int) ≤ o) = false := by simp; omega
            by_cases c3 : (s : Int) ≤ q
            · rw [if_pos c3] at hT
              have HO2 : Hid (O0 = (none, (m : Int), 111)) := hidOf (by rw [HO.out, rdF, rdG_bad hcut (hst.trans hT)]; simp)
              have c3B : decide ((o : Int) ≤ lv) = true := by simp; omega
              obtain ⟨z, hz⟩ : ∃ z : Int, (o : Int) = z := ⟨_, rfl⟩
              rw [hz] at N0 d1 zp c2I c3B
              clear hzc hqp c1 ho63 c2 hT hst hm1 hm2 hm3 hm4 hm5 hz b12 hos hs hs6 c3
              go_upto_region 11 with (go_at_call 32; (first | with_reducible refine (N0.out _).mono ?_ | with_reducible refine (N8.out _).mono ?_ | with_reducible refine (N12.out _).mono ?_); rintro e w1 ⟨rfl, hw⟩; have hw := hw.symm; subst hw)
              go_wp2
              go_ret3
              rw [HO2.out]
              exact ⟨HR.out.out, rfl⟩
            · rw [if_neg c3] at hT
              have c3B : decide ((o : Int) ≤ lv) = false := by simp; omega
              obtain ⟨z, hz⟩ : ∃ z : Int, (o : Int) = z := ⟨_, rfl⟩
              rw [hz] at N0 d1 zp c2I c3B
              have Q1 : Hid (z.tdiv 8 = (s : Int)) := hidOf (by rw [Int.tdiv_eq_ediv_of_nonneg zp]; omega)
              have Q2 : Hid (wrap64 (s : Int) = (s : Int)) := hidOf (by first | (unfold wrap64; omega) | (unfold wrap64; rw [IntKind.wrap_i64]; omega) | (simp [wrap64]; omega))
              have Hzs : Hid (z = 8 * (s : Int)) := hidOf (by omega)
              have HS6 : Hid ((s : Int) < 65536 ∧ q < (s : Int)) := hidOf (by omega)
              by_cases c4 : kdP t = 0
              · rw [if_pos c4] at hT
                have HO2 : Hid (O0 = (none, (m : Int) + 8, 110)) := hidOf (by rw [HO.out, rdF, rdG_bad hcut (hst.trans hT)]; rfl)
                have e8 : IntKind.i64.wrap ((m : Int) + 8) = (m : Int) + 8 := by rw [IntKind.wrap_i64]; omega
                have ht1' : ((t : Int) != 1) = true := by simp; intro h; unfold kdP at c4; rw [if_pos (by omega)] at c4; omega
                have ht2' : ((t : Int) != 10) = true := by simp; intro h; unfold kdP at c4; rw [if_neg (by omega), if_pos (by omega)] at c4; omega
                clear hzc hqp c1 ho63 c2 hT hst hm1 hm2 hm3 hm4 hm5 hz b12 hos hs hs6 c3 c4
                go_upto_region 11 with (go_at_call 32; (first | with_reducible refine (N0.out _).mono ?_ | with_reducible refine (N8.out _).mono ?_ | with_reducible refine (N12.out _).mono ?_); rintro e w1 ⟨rfl, hw⟩; have hw := hw.symm; subst hw)
                go_upto_region 16 with fail
                clear hw8
                go_wp2
                go_ret3
                rw [HO2.out]
                exact ⟨HR.out.out, rfl⟩
              · rw [if_neg c4] at hT
                by_cases c5 : y = 0
                · rw [if_pos c5] at hT
                  have HO2 : Hid (O0 = (none, (m : Int) + 12, 110)) := hidOf (by rw [HO.out, rdF, rdG_bad hcut (hst.trans hT)]; rfl)
                  have e12 : IntKind.i64.wrap ((m : Int) + 12) = (m : Int) + 12 := by rw [IntKind.wrap_i64]; omega
                  subst c5
                  have hkt : t = 1 ∨ t = 10 := by
                    unfold kdP at c4
                    split at c4
                    · exact .inl (by assumption)
                    · split at c4
                      · exact .inr (by assumption)
                      · exact absurd rfl c4
                  clear hzc hqp c1 ho63 c2 hT hst hm1 hm2 hm3 hm4 hm5 hz b12 hos hs hs6 c3 c4
                  rcases hkt with rfl | rfl
                  all_goals
                    go_upto_region 11 with (go_at_call 32; (first | with_reducible refine (N0.out _).mono ?_ | with_reducible refine (N8.out _).mono ?_ | with_reducible refine (N12.out _).mono ?_); rintro e w1 ⟨rfl, hw⟩; have hw := hw.symm; subst hw)
                    go_upto_region 18 with fail
                    clear hw12
                    go_wp2
                    go_ret3
                    rw [HO2.out]
                    exact ⟨HR.out.out, rfl⟩
                · rw [if_neg c5] at hT
                  have c5I : ((y : Int) == 0) = false := by simp; omega
                  have hkt : t = 1 ∨ t = 10 := by
                    unfold kdP at c4
                    split at c4
                    · exact .inl (by assumption)
                    · split at c4
                      · exact .inr (by assumption)
                      · exact absurd rfl c4
                  rcases hkt with rfl | rfl
                  · have HO2 : Hid (O0 = rdF b f1 (m + 16) s (S ++ [⟨s, 1, y⟩])) := hidOf (by rw [HO.out, rdF, rdG_step hcut (hst.trans hT)]; rfl)
                    clear hzc hqp c1 ho63 c2 hT hst hm1 hm2 hm3 hm4 hm5 hz b12 hos hs hs6 c3 c4 c5
                    go_upto_region 11 with (go_at_call 32; (first | with_reducible refine (N0.out _).mono ?_ | with_reducible refine (N8.out _).mono ?_ | with_reducible refine (N12.out _).mono ?_); rintro e w1 ⟨rfl, hw⟩; have hw := hw.symm; subst hw)
                    have HMn : Hid (m + 16 = 16 * (S ++ [(⟨s, 1, y⟩ : Rl)]).length ∧ m + 16 ≤ b.length + 16 ∧ b.length ≤ f1 + (m + 16) ∧ ((S ++ [(⟨s, 1, y⟩ : Rl)]).length : Int) ≤ (s : Int) + 1 ∧ (s : Int) < 65536) := hidOf (by simp only [List.length_append, List.length_singleton]; have := HM.out; have := HS6.out; omega)
                    go_upto_region 20 with fail
                    have q1 := Q1.out; have q2 := Q2.out
                    clear d1
                    go_upto_region 23 with fail
                    have HR2 := hidOf (HR.out.on ((Out.refl wr).alloc (.cells #[.int .i64 (s : Int), .int .i64 1, .int .i64 (y : Int)] 27)))
                    have k0 : (wr.alloc (.cells #[.int .i64 (s : Int), .int .i64 1, .int .i64 (y : Int)] 27)).cell? ⟨wr.heap.size, 0, none⟩ = some (.int .i64 (s : Int)) := by rw [cell_fresh _ _ _ _ _ rfl]; rfl
                    have k1 : (wr.alloc (.cells #[.int .i64 (s : Int), .int .i64 1, .int .i64 (y : Int)] 27)).cell? ⟨wr.heap.size, 1, none⟩ = some (.int .i64 1) := by rw [cell_fresh _ _ _ _ _ rfl]; rfl
                    have k2 : (wr.alloc (.cells #[.int .i64 (s : Int), .int .i64 1, .int .i64 (y : Int)] 27)).cell? ⟨wr.heap.size, 2, none⟩ = some (.int .i64 (y : Int)) := by rw [cell_fresh _ _ _ _ _ rfl]; rfl
                    generalize wr.alloc (.cells #[.int .i64 (s : Int), .int .i64 1, .int .i64 (y : Int)] 27) = w2 at *
                    generalize wr.heap.size = Bk at *
                    have hSl : S.length ≤ 65536 := by have := HM.out; omega
                    have hsz : w.heap.size ≤ w2.heap.size := HR2.out.out.size
                    have HR3 : Hid (∀ cs, RSt w (w2.alloc (.cells cs 27)) (.slice a1 S.length c1) S) := fun cs => HR2.out.on ((Out.refl w2).alloc _)
                    go_wp2_with (at_builtin; refine wpList_append_own _ rfl (.tmp 80) (.tmp 82) 22 rfl w.heap.size 27 i0 _ 3 24 Try.underlying22 hi0 hz0 hz1 hz2 rfl (by decide) (.slice a1 S.length c1) S.length (rlV S) rfl (World.ownsRow.alloc HR2.out.own _) ⟨w2.heap.size, 0, none⟩ 1 1 [.int .i64 (s : Int), .int .i64 1, .int .i64 (y : Int)] rfl rfl (news_new w2 _ _ _ rfl) (fun u hu => by simp only [List.mem_cons, List.not_mem_nil, or_false] at hu; rcases hu with rfl | rfl | rfl <;> rfl) (by unfold maxLen; omega) (by omega) (by rw [size_alloc]; omega) ?_; intro v4 w4 hown4 hgrow4 _; have HR4 := hidOf ((HR3.out _).push (s := ⟨s, 1, y⟩) hown4 hgrow4); clear hgrow4; obtain ⟨a4, c4, rfl⟩ := own_form hown4; clear hown4)
                    refine ⟨⟨m + 16, f1, S ++ [(⟨s, 1, y⟩ : Rl)], a4, c4, s, z, by simp, by simp, rfl, HMn, hidOf (.inl Hzs.out), HO2, hidOf (by simpa using HR4.out)⟩, by have := HM.out; simp [intOf]; omega⟩
                  · have HO2 : Hid (O0 = rdF b f1 (m + 16) s (S ++ [⟨s, 2, y⟩])) := hidOf (by rw [HO.out, rdF, rdG_step hcut (hst.trans hT)]; rfl)
                    clear hzc hqp c1 ho63 c2 hT hst hm1 hm2 hm3 hm4 hm5 hz b12 hos hs hs6 c3 c4 c5
                    go_upto_region 11 with (go_at_call 32; (first | with_reducible refine (N0.out _).mono ?_ | with_reducible refine (N8.out _).mono ?_ | with_reducible refine (N12.out _).mono ?_); rintro e w1 ⟨rfl, hw⟩; have hw := hw.symm; subst hw)
                    have HMn : Hid (m + 16 = 16 * (S ++ [(⟨s, 2, y⟩ : Rl)]).length ∧ m + 16 ≤ b.length + 16 ∧ b.length ≤ f1 + (m + 16) ∧ ((S ++ [(⟨s, 2, y⟩ : Rl)]).length : Int) ≤ (s : Int) + 1 ∧ (s : Int) < 65536) := hidOf (by simp only [List.length_append, List.length_singleton]; have := HM.out; have := HS6.out; omega)
                    go_upto_region 20 with fail
                    have q1 := Q1.out; have q2 := Q2.out
                    clear d1
                    go_upto_region 23 with fail
                    have HR2 := hidOf (HR.out.on ((Out.refl wr).alloc (.cells #[.int .i64 (s : Int), .int .i64 2, .int .i64 (y : Int)] 27)))
                    have k0 : (wr.alloc (.cells #[.int .i64 (s : Int), .int .i64 2, .int .i64 (y : Int)] 27)).cell? ⟨wr.heap.size, 0, none⟩ = some (.int .i64 (s : Int)) := by rw [cell_fresh _ _ _ _ _ rfl]; rfl
                    have k1 : (wr.alloc (.cells #[.int .i64 (s : Int), .int .i64 2, .int .i64 (y : Int)] 27)).cell? ⟨wr.heap.size, 1, none⟩ = some (.int .i64 2) := by rw [cell_fresh _ _ _ _ _ rfl]; rfl
                    have k2 : (wr.alloc (.cells #[.int .i64 (s : Int), .int .i64 2, .int .i64 (y : Int)] 27)).cell? ⟨wr.heap.size, 2, none⟩ = some (.int .i64 (y : Int)) := by rw [cell_fresh _ _ _ _ _ rfl]; rfl
                    generalize wr.alloc (.cells #[.int .i64 (s : Int), .int .i64 2, .int .i64 (y : Int)] 27) = w2 at *
                    generalize wr.heap.size = Bk at *
                    have hSl : S.length ≤ 65536 := by have := HM.out; omega
                    have hsz : w.heap.size ≤ w2.heap.size := HR2.out.out.size
                    have HR3 : Hid (∀ cs, RSt w (w2.alloc (.cells cs 27)) (.slice a1 S.length c1) S) := fun cs => HR2.out.on ((Out.refl w2).alloc _)
                    go_wp2_with (at_builtin; refine wpList_append_own _ rfl (.tmp 80) (.tmp 82) 22 rfl w.heap.size 27 i0 _ 3 24 Try.underlying22 hi0 hz0 hz1 hz2 rfl (by decide) (.slice a1 S.length c1) S.length (rlV S) rfl (World.ownsRow.alloc HR2.out.own _) ⟨w2.heap.size, 0, none⟩ 1 1 [.int .i64 (s : Int), .int .i64 2, .int .i64 (y : Int)] rfl rfl (news_new w2 _ _ _ rfl) (fun u hu => by simp only [List.mem_cons, List.not_mem_nil, or_false] at hu; rcases hu with rfl | rfl | rfl <;> rfl) (by unfold maxLen; omega) (by omega) (by rw [size_alloc]; omega) ?_; intro v4 w4 hown4 hgrow4 _; have HR4 := hidOf ((HR3.out _).push (s := ⟨s, 2, y⟩) hown4 hgrow4); clear hgrow4; obtain ⟨a4, c4, rfl⟩ := own_form hown4; clear hown4)
                    refine ⟨⟨m + 16, f1, S ++ [(⟨s, 2, y⟩ : Rl)], a4, c4, s, z, by simp, by simp, rfl, HMn, hidOf (.inl Hzs.out), HO2, hidOf (by simpa using HR4.out)⟩, by have := HM.out; simp [intOf]; omega⟩
        · have d1 : (z % 8 != 0) = true := by simp; omega
          have hT2 : T = (none, 0, 110) := by
            rw [hT]
            by_cases e1 : o % 8 = 0
            · rw [if_neg (by omega), if_pos (by omega)]
            · rw [if_pos e1]
          have HO2 : Hid (O0 = (none, (m : Int), 110)) := hidOf (by rw [HO.out, rdF, rdG_bad hcut (hst.trans hT2)]; simp)
          clear hzc hqp c1 hT hT2 hst hm1 hm2 hm3 hm4 hm5 b12
          go_upto_region 11 with (go_at_call 32; (first | with_reducible refine (N0.out _).mono ?_ | with_reducible refine (N8.out _).mono ?_ | with_reducible refine (N12.out _).mono ?_); rintro e w1 ⟨rfl, hw⟩; have hw := hw.symm; subst hw)
          go_wp2
          go_ret3
          rw [HO2.out]
          exact ⟨HR.out.out, rfl⟩
    · have hlt : ¬ (m : Int) < b.length := by omega
      have HO2 : Hid (O0 = (some S, 0, 0)) := hidOf (by rw [HO.out, rdF, rdG_end (by omega)])
      clear hm1 hm2 hm3 hm4 hm5
      go_wp2
      go_ret3
      rw [HO2.out]
      exact ⟨HR.out.out, a1, c1, rfl, HR.out.own⟩
end Go.Proofs.Ytoobdcjkhphlcaa
