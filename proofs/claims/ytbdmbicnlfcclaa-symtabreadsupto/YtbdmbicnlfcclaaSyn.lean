import Derived.Test.YtbdmbicnlfcclaaSym
namespace Go.Proofs.Ytbdmbicnlfcclaa
open Go.RowKit
set_option linter.unusedVariables false
set_option linter.unusedSimpArgs false
set_option maxRecDepth 8000 in
set_option maxHeartbeats 400000 in
theorem read_long (w : World) (g off c : Nat) (b : List UInt8) (hg : g < w.heap.size) (h : BAt w g off b) (hn : 24 ≤ b.length) (hc : b.length ≤ c) (hb : b.length ≤ 70368744177672) (hf : fzB (b.take 24) 0 = none) : Calls Try.prog 17 #[.slice (some ⟨g, off, none⟩) b.length c] w fun e w' => RdE w (rdF b b.length 24 ⟨0, 0, 0⟩ []) e w' := by
  have C := hidOf (first_long w g off c b h hn hc)
  rw [hf] at C
  simp only [Option.getD_none, Option.isSome_none] at C
  obtain ⟨n, hnn⟩ : ∃ n : Nat, n = b.length / 24 := ⟨_, rfl⟩
  obtain ⟨cur, hmk, hown⟩ := run_make_s0 n (by omega) w
  have hdiv : (b.length : Int) / 24 = n := by omega
  rw [← hdiv] at hmk
  have HW0 : Hid (RSt w ((w.alloc (.cells cur 57)).alloc (.cells #[.int .i64 0, .int .i64 0, .int .i64 0] 66)) (w.heap.size + 1) (.slice (some ⟨w.heap.size, 0, none⟩) 0 n) [] ⟨0, 0, 0⟩) := hidOf ⟨own_at hown ((Out.refl _).alloc _), ((Out.refl _).alloc _).alloc _, heap_new2 w _ _, by omega⟩
  clear hown hdiv hnn
  have HB := hidOf h
  have Hg := hidOf hg
  have hcI : (b.length : Int) ≤ c := by omega
  have hbI : (b.length : Int) ≤ 70368744177672 := by omega
  have hnI : (24 : Int) ≤ b.length := by omega
  obtain ⟨O0, hO0⟩ : ∃ O, O = rdF b b.length 24 ⟨0, 0, 0⟩ [] := ⟨_, rfl⟩
  rw [← hO0]
  have H0 := hidOf hO0
  obtain ⟨i0, hi0, hz0, hz1, hz2⟩ := info_parts infoSm
  clear h hO0 hf hg
  go_enter Try.func17, Try.ntmps17
  go_wp2_with (go_at_call 34; refine (C.out).mono ?_; rintro e w1 ⟨rfl, hw⟩; have hw := hw.symm; subst hw)
  clear hmk
  generalize (w.alloc (.cells cur 57)).alloc (.cells #[.int .i64 0, .int .i64 0, .int .i64 0] 66) = W1 at *
  generalize hp : w.heap.size + 1 = p at *
  clear hp C
  go_loopw [9, 7] (fun pv sv wr => ∃ (m fu : Nat) (S : List Sy) (a1 : Option Addr) (c1 : Nat) (q : Rn), pv = .int .i64 m ∧ sv = .slice a1 S.length c1 ∧ Hid (m = 24 + 24 * S.length ∧ m ≤ b.length + 24 ∧ b.length ≤ fu + m) ∧ Hid (O0 = rdF b fu m q S) ∧ Hid (0 ≤ q.c ∧ q.c ≤ S.length) ∧ Hid (RSt w wr p (.slice a1 S.length c1) S q)) (fun pv _ _ => b.length + 24 - (intOf pv).toNat)
  case atStart => exact ⟨24, b.length, [], _, _, ⟨0, 0, 0⟩, rfl, rfl, ⟨by simp, by omega, by omega⟩, H0.out, ⟨by decide, by simp⟩, HW0.out⟩
  case round =>
    obtain ⟨m, fu, S, a1, c1, q, rfl, rfl, HM, HO, HQ, HR⟩ := hrel
    obtain ⟨hm1, hm2, hm3⟩ := HM.out
    have h0 : (0 : Int) ≤ m := by omega
    by_cases hmb : m < b.length
    · have hlt : (m : Int) < b.length := by omega
      have hw1 : IntKind.i64.wrap ((b.length : Int) - m) = (b.length : Int) - m := by rw [IntKind.wrap_i64]; omega
      obtain ⟨f1, rfl⟩ : ∃ f1, fu = f1 + 1 := ⟨fu - 1, by omega⟩
      by_cases hcut : b.length < m + 24
      · have hlt2 : (b.length : Int) - m < 24 := by omega
        have HO2 : Hid (O0 = (none, (b.length : Int), 100)) := hidOf (by rw [HO.out, rdF, rdG_cut (by omega) hcut])
        go_wp2
        go_ret3
        rw [HO2.out]
        exact ⟨HR.out.out, rfl⟩
      · have hlt2 : ¬ (b.length : Int) - m < 24 := by omega
        have hw2 : IntKind.i64.wrap ((m : Int) + 24) = ((m + 24 : Nat) : Int) := by rw [IntKind.wrap_i64]; omega
        have hs1 : (m : Int) ≤ ((m + 24 : Nat) : Int) := by omega
        have hs2 : ((m + 24 : Nat) : Int) ≤ c := by omega
        have hs3 : m + 24 - m = 24 := by omega
        have hne : ¬ c = m := by omega
        obtain ⟨T, hT⟩ : ∃ T, T = teP q ((b.drop m).take 24) := ⟨_, rfl⟩
        have hst : stB b m q = T := by rw [hT, stB]
        have HT := hidOf hT
        have hll : ((b.drop m).take 24).length = 24 := by rw [List.length_take, List.length_drop]; omega
        have CT : Hid (∀ wx, RSt w wx p (.slice a1 S.length c1) S q → Calls Try.prog 35 #[.pointer (some ⟨p, 0, none⟩), .slice (some ⟨g, off + m, none⟩) 24 (c - m)] wx fun e w' => TeEnd wx p T e w') := fun wx r => by
          rw [hT]
          exact takeEntry_any wx p q g (off + m) (c - m) _ r.rb (Nat.lt_of_lt_of_le Hg.out r.out.size) ((HB.out.out Hg.out r.out).cut m 24) hll (by omega) ⟨HQ.out.1, by have := HQ.out.2; omega⟩
        clear hT
        obtain ⟨o, A, E⟩ := T
        cases o with
        | none =>
          obtain ⟨hA, hE⟩ := te_none HT.out.symm
          have HO2 : Hid (O0 = (none, (m : Int) + A, E)) := hidOf (by rw [HO.out, rdF, rdG_bad hcut hst])
          have CT2 : Hid (∀ wx, RSt w wx p (.slice a1 S.length c1) S q → Calls Try.prog 35 #[.pointer (some ⟨p, 0, none⟩), .slice (some ⟨g, off + m, none⟩) 24 (c - m)] wx fun e w' => ∃ na bi ki se va si, e = .returned (.tuple #[.agg #[.int .i64 na, .int .i64 bi, .int .i64 ki, .int .i64 se, .int .i64 va, .int .i64 si], .int .i64 (A : Nat), .int .i64 E]) ∧ Out w w') := fun wx r => (CT.out wx r).mono fun e w' ⟨hC, s, q', hR, he, _⟩ => ⟨s.na, s.bi, s.ki, s.se, s.va, s.si, he, (r.take hC hR).out⟩
          have hEn : (E != 0) = true := by rcases hE with rfl | rfl <;> rfl
          have hAI : (A : Int) ≤ 16 := by omega
          have hA0 : (0 : Int) ≤ A := by omega
          have hw3 : IntKind.i64.wrap ((m : Int) + A) = (m : Int) + A := by rw [IntKind.wrap_i64]; omega
          clear CT HT hst hll hE hm1 hm2 hm3
          go_wp2_with (first | (go_at_call 35; go_loud (with_reducible refine (CT2.out _ HR.out).mono ?_); rintro e w1 ⟨na, bi, ki, se, va, si, rfl, hO⟩; have HO1 := hidOf hO; clear hO))
          go_ret3
          rw [HO2.out]
          exact ⟨HO1.out.alloc _, rfl⟩
        | some sq =>
          obtain ⟨⟨na, bi, ki, se, va, si⟩, q2⟩ := sq
          obtain ⟨rfl, rfl, kk, hkk⟩ := te_some HT.out.symm
          obtain ⟨hqc1, hqc2⟩ := tkS_c hkk
          have HQn : Hid (0 ≤ q2.c ∧ q2.c ≤ ((S ++ [(⟨na, bi, ki, se, va, si⟩ : Sy)]).length : Nat)) := hidOf ⟨hqc2 HQ.out.1, by have h1 := HQ.out.1; have h2 := HQ.out.2; simp only [List.length_append, List.length_singleton]; omega⟩
          have HO2 : Hid (O0 = rdF b f1 (m + 24) q2 (S ++ [⟨na, bi, ki, se, va, si⟩])) := hidOf (by rw [HO.out, rdF, rdG_step hcut hst])
          have CT2 : Hid (∀ wx, RSt w wx p (.slice a1 S.length c1) S q → Calls Try.prog 35 #[.pointer (some ⟨p, 0, none⟩), .slice (some ⟨g, off + m, none⟩) 24 (c - m)] wx fun e w' => e = .returned (.tuple #[.agg #[.int .i64 na, .int .i64 bi, .int .i64 ki, .int .i64 se, .int .i64 va, .int .i64 si], .int .i64 0, .int .i64 0]) ∧ RSt w w' p (.slice a1 S.length c1) S q2) := fun wx r => (CT.out wx r).mono fun e w' ⟨hC, s, q', hR, he, hs⟩ => by
            obtain ⟨rfl, rfl⟩ := hs _ _ rfl
            exact ⟨he, r.take hC hR⟩
          clear CT HT hst hll hkk hqc1 hqc2 hm1 hm2 hm3
          go_upto_region 14 with (first | (go_at_call 35; go_loud (with_reducible refine (CT2.out _ HR.out).mono ?_); rintro e w1 ⟨rfl, hr⟩; have HR1 := hidOf hr; clear hr))
          obtain ⟨qb, hqb⟩ : ∃ qb, qb = w1.heap.size := ⟨_, rfl⟩
          have HX : Hid ((w1.alloc (.cells #[.int .i64 na, .int .i64 bi, .int .i64 ki, .int .i64 se, .int .i64 va, .int .i64 si] 57)).heap[qb]? = some (.cells #[.int .i64 na, .int .i64 bi, .int .i64 ki, .int .i64 se, .int .i64 va, .int .i64 si] 57 (0, 0))) := hidOf (by rw [hqb]; exact heap_alloc_new w1 _)
          have HR2 := hidOf (HR1.out.on ((Out.refl w1).alloc (.cells #[.int .i64 na, .int .i64 bi, .int .i64 ki, .int .i64 se, .int .i64 va, .int .i64 si] 57)))
          rw [← hqb]
          clear hqb HR1
          generalize w1.alloc (.cells #[.int .i64 na, .int .i64 bi, .int .i64 ki, .int .i64 se, .int .i64 va, .int .i64 si] 57) = w2 at *
          have k0 := box_cell HX.out 0
          have k1 := box_cell HX.out 1
          have k2 := box_cell HX.out 2
          have k3 := box_cell HX.out 3
          have k4 := box_cell HX.out 4
          have k5 := box_cell HX.out 5
          simp only [List.getElem?_toArray, List.getElem?_cons_zero, List.getElem?_cons_succ] at k0 k1 k2 k3 k4 k5
          have hSl : S.length ≤ 2932031007401 := by have := HM.out; omega
          have hsz : w.heap.size ≤ w2.heap.size := HR2.out.out.size
          have HR3 : Hid (∀ cs, RSt w (w2.alloc (.cells cs 57)) p (.slice a1 S.length c1) S q2) := fun cs => HR2.out.on ((Out.refl w2).alloc _)
          go_wp2_with (at_builtin; refine wpList_append_own _ rfl (.tmp 53) (.tmp 55) 25 rfl w.heap.size 57 i0 _ 6 48 Try.underlying25 hi0 hz0 hz1 hz2 rfl (by decide) (.slice a1 S.length c1) S.length (syV S) rfl (World.ownsRow.alloc HR2.out.own _) ⟨w2.heap.size, 0, none⟩ 1 1 [.int .i64 na, .int .i64 bi, .int .i64 ki, .int .i64 se, .int .i64 va, .int .i64 si] rfl rfl (news_new w2 _ _ _ rfl) (fun u hu => by simp only [List.mem_cons, List.not_mem_nil, or_false] at hu; rcases hu with rfl | rfl | rfl | rfl | rfl | rfl <;> rfl) (by unfold maxLen; omega) (by omega) (by rw [size_alloc]; omega) ?_; intro v4 w4 hown4 hgrow4 _; have HR4 := hidOf ((HR3.out _).push (s := ⟨na, bi, ki, se, va, si⟩) hown4 hgrow4); clear hgrow4; obtain ⟨a4, c4, rfl⟩ := own_form hown4; clear hown4)
          refine ⟨⟨m + 24, f1, S ++ [(⟨na, bi, ki, se, va, si⟩ : Sy)], a4, c4, q2, by simp, by simp, ?_, hidOf HO2.out, hidOf HQn.out, hidOf (by simpa using HR4.out)⟩, by have := HM.out; simp [intOf]; omega⟩
          have := HM.out
          show _ ∧ _ ∧ _
          simp only [List.length_append, List.length_singleton]
          omega
    · have hlt : ¬ (m : Int) < b.length := by omega
      have HO2 : Hid (O0 = (some S, 0, 0)) := hidOf (by rw [HO.out, rdF, rdG_end (by omega)])
      go_wp2
      go_ret3
      rw [HO2.out]
      exact ⟨HR.out.out, a1, c1, rfl, HR.out.own⟩
theorem read_any (w : World) (g off c : Nat) (b : List UInt8) (hg : g < w.heap.size) (h : BAt w g off b) (hc : b.length ≤ c) (hb : b.length ≤ 70368744177672) : Calls Try.prog 17 #[.slice (some ⟨g, off, none⟩) b.length c] w fun e w' => RdE w (rdS b) e w' := by
  by_cases h24 : b.length < 24
  · refine (read_short w _ _ c h24).mono ?_
    rintro e w' ⟨rfl, rfl⟩
    have e : rdS b = (none, (b.length : Int), 100) := by rw [rdS, show fzP b = some b.length from if_pos h24]
    rw [e]
    exact ⟨Out.refl _, rfl⟩
  · have hz : fzP b = fzB (b.take 24) 0 := if_neg h24
    cases hf : fzB (b.take 24) 0 with
    | some a =>
      refine (read_first w g off c b h (by omega) hc a hf).mono ?_
      rintro e w' ⟨rfl, rfl⟩
      have e : rdS b = (none, (a : Int), 100) := by rw [rdS, hz, hf]
      rw [e]
      exact ⟨Out.refl _, rfl⟩
    | none =>
      have e : rdS b = rdF b b.length 24 ⟨0, 0, 0⟩ [] := by rw [rdS, hz, hf]
      rw [e]
      exact read_long w g off c b hg h (by omega) hc hb hf
end Go.Proofs.Ytbdmbicnlfcclaa
