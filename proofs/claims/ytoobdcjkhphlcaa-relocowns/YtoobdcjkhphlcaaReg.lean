import Derived.Test.YtoobdcjkhphlcaaRef
namespace Go.Proofs.Ytoobdcjkhphlcaa
open Go.RowKit
set_option linter.unusedVariables false
set_option linter.unusedSimpArgs false
def OwR (B : Nat) (v : Value) (L : List Rl) (w : World) : Prop := w.ownsRow B 27 3 v L.length (rlV L)
theorem infoRl : (Try.prog.info? 27).map (fun i => (i.zero, i.size, i.bytes)) = some (some (.agg #[.int .i64 0, .int .i64 0, .int .i64 0]), 3, 24) := by kernel_rfl
theorem run_make_r0 (n : Nat) (hn : n ≤ 1000000000000) (w : World) : ∃ cur : Array Value, (Instr.makeSlice 22 (.int .i64 0) (.int .i64 (n : Int))).run Try.prog w = .ok (.slice (some ⟨w.heap.size, 0, none⟩) 0 n) (w.alloc (.cells cur 27)) ∧ OwR w.heap.size (.slice (some ⟨w.heap.size, 0, none⟩) 0 n) [] (w.alloc (.cells cur 27)) := by
  obtain ⟨i0, hi, hz0, hz1, hz2⟩ := info_parts infoRl
  have h := run_make (P := Try.prog) w 22 27 i0 _ Try.underlying22 hi hz0 .i64 .i64 0 (n : Int) (by omega) (by omega) (by rw [hz2]; omega) (by omega)
  rw [hz1] at h
  refine ⟨_, h, rfl, .inr ⟨w.heap.size, n, _, rfl, Nat.le_refl _, heap_alloc_new w _, by simp, by unfold maxLen; omega, by simp [madeCells], ?_⟩⟩
  simp [rlV]
/-- what Read makes of the entries from a place on -/
def rdG (step : Nat → Int → Option Rl × Nat × Int) (L : Nat) : Nat → Nat → Int → List Rl → Option (List Rl) × Int × Int
  | 0, _, _, S => (some S, 0, 0)
  | n + 1, place, ah, S => if L ≤ place then (some S, 0, 0) else if L < place + 16 then (none, place, 110) else
    match step place ah with
    | (none, a, e) => (none, (place : Int) + a, e)
    | (some s, _, _) => rdG step L n (place + 16) s.sl (S ++ [s])
theorem rdG_end {st : Nat → Int → Option Rl × Nat × Int} {L n place : Nat} {q : Int} {S : List Rl} (h : L ≤ place) : rdG st L n place q S = (some S, 0, 0) := by
  cases n with
  | zero => rfl
  | succ n => rw [rdG, if_pos h]
theorem rdG_cut {st : Nat → Int → Option Rl × Nat × Int} {L n place : Nat} {q : Int} {S : List Rl} (h : ¬ L ≤ place) (h2 : L < place + 16) : rdG st L (n + 1) place q S = (none, (place : Int), 110) := by
  rw [rdG, if_neg h, if_pos h2]
theorem rdG_bad {st : Nat → Int → Option Rl × Nat × Int} {L n place : Nat} {q : Int} {S : List Rl} (h2 : ¬ L < place + 16) {a : Nat} {e : Int} (h : st place q = (none, a, e)) : rdG st L (n + 1) place q S = (none, (place : Int) + a, e) := by
  rw [rdG, if_neg (by omega), if_neg h2, h]
theorem rdG_step {st : Nat → Int → Option Rl × Nat × Int} {L n place : Nat} {q : Int} {S : List Rl} (h2 : ¬ L < place + 16) {s : Rl} {a : Nat} {e : Int} (h : st place q = (some s, a, e)) : rdG st L (n + 1) place q S = rdG st L n (place + 16) s.sl (S ++ [s]) := by
  rw [rdG, if_neg (by omega), if_neg h2, h]
def stB (b : List UInt8) (place : Nat) (q : Int) : Option Rl × Nat × Int := teP q ((b.drop place).take 16)
def rdF (b : List UInt8) : Nat → Nat → Int → List Rl → Option (List Rl) × Int × Int := rdG (stB b) b.length
def rdP (b : List UInt8) : Option (List Rl) × Int × Int := rdF b b.length 0 (-1) []
/-- amid Read -/
structure RSt (w wr : World) (v : Value) (S : List Rl) : Prop where
  own : OwR w.heap.size v S wr
  out : Out w wr
def RdE (w : World) (o : Option (List Rl) × Int × Int) (e : Ending) (w' : World) : Prop := Out w w' ∧ match o with
  | (none, at_, er) => e = .returned (.tuple #[.slice none 0 0, .int .i64 at_, .int .i64 er])
  | (some S, _, _) => ∃ a c, e = .returned (.tuple #[.slice a S.length c, .int .i64 0, .int .i64 0]) ∧ OwR w.heap.size (.slice a S.length c) S w'
theorem te_none {q : Int} {l : List UInt8} {a : Nat} {e : Int} (h : teP q l = (none, a, e)) : a ≤ 12 ∧ (e = 110 ∨ e = 111) := by
  unfold teP at h
  repeat' split at h
  all_goals first | (cases h; exact ⟨by omega, by simp⟩) | cases h
theorem te_some {q : Int} {l : List UInt8} {s : Rl} {a : Nat} {e : Int} (h : teP q l = (some s, a, e)) : a = 0 ∧ e = 0 ∧ q < s.sl ∧ 0 ≤ s.sl ∧ s.sl < 65536 := by
  unfold teP at h
  repeat' split at h
  all_goals first | (cases h; done) | skip
  cases h
  exact ⟨rfl, rfl, by simp only; omega, by simp only; omega, by simp only; omega⟩
theorem RSt.on {w wr w' : World} {v : Value} {S : List Rl} (h : RSt w wr v S) (o : Out wr w') : RSt w w' v S := ⟨own_at h.own o, h.out.trans o⟩
theorem RSt.push {w wr w' : World} {v v' : Value} {S : List Rl} {s : Rl} (h : RSt w wr v S) (ho : w'.ownsRow w.heap.size 27 3 v' (S.length + 1) (rlV S ++ s.cs)) (hg : wr.grownBy w' v.ownBlock) : RSt w w' v' (S ++ [s]) := by
  have hc : Chg (fun k => v.ownBlock = some k) wr w' := Chg.of_grown hg (fun k hk => hk)
  refine ⟨?_, Chg.out hc h.out (fun k hk => (World.ownsRow.lt h.own k hk).1)⟩
  · unfold OwR
    rw [rlV_app, List.length_append]
    simpa [rlV] using ho
set_option maxRecDepth 8000 in
set_option maxHeartbeats 400000 in
theorem read_any (w : World) (a : Option Addr) (c : Nat) (b : List UInt8) (h : RestAt w.heap.size w a b) (hc : b.length ≤ c) (hb : b.length ≤ 140737488355328) : Calls Try.prog 16 #[.slice a b.length c] w fun e w' => RdE w (rdP b) e w' := by
  obtain ⟨d, hd⟩ : ∃ d : Nat, d = b.length / 16 := ⟨_, rfl⟩
  have hdiv : (b.length : Int) / 16 = d := by omega
  obtain ⟨n, hn⟩ : ∃ n, n = min d 65536 := ⟨_, rfl⟩
  have hnI : (min (d : Int) 65536) = n := by omega
  obtain ⟨cur, hmk, hown⟩ := run_make_r0 n (by omega) w
  have HW0 : Hid (RSt w (w.alloc (.cells cur 27)) (.slice (some ⟨w.heap.size, 0, none⟩) 0 n) []) := hidOf ⟨hown, (Out.refl _).alloc _⟩
  clear hown hn hd
  have HB := hidOf h
  have hcI : (b.length : Int) ≤ c := by omega
  have hbI : (b.length : Int) ≤ 140737488355328 := by omega
  obtain ⟨O0, hO0⟩ : ∃ O, O = rdF b b.length 0 (-1) [] := ⟨_, rfl⟩
  rw [rdP, ← hO0]
  have H0 := hidOf hO0
  obtain ⟨i0, hi0, hz0, hz1, hz2⟩ := info_parts infoRl
  clear h hO0
  go_enter Try.func16, Try.ntmps16
  go_wp2
  clear hmk hdiv hnI
  generalize w.alloc (.cells cur 27) = W1 at *
  go_loopw [7, 5, 6] (fun pv sv av wr => ∃ (m fu : Nat) (S : List Rl) (a1 : Option Addr) (c1 : Nat) (q : Int), pv = .int .i64 m ∧ sv = .slice a1 S.length c1 ∧ av = .int .i64 q ∧ Hid (m = 16 * S.length ∧ m ≤ b.length + 16 ∧ b.length ≤ fu + m ∧ (S.length : Int) ≤ q + 1 ∧ q < 65536) ∧ Hid (O0 = rdF b fu m q S) ∧ Hid (RSt w wr (.slice a1 S.length c1) S)) (fun pv _ _ _ => b.length + 16 - (intOf pv).toNat)
  case atStart => exact ⟨0, b.length, [], _, _, -1, rfl, rfl, rfl, ⟨by simp, by omega, by omega, by simp, by decide⟩, H0.out, HW0.out⟩
  case round =>
    obtain ⟨m, fu, S, a1, c1, q, rfl, rfl, rfl, HM, HO, HR⟩ := hrel
    obtain ⟨hm1, hm2, hm3, hm4, hm5⟩ := HM.out
    have h0 : (0 : Int) ≤ m := by omega
    by_cases hmb : m < b.length
    · have hlt : (m : Int) < b.length := by omega
      have hw1 : IntKind.i64.wrap ((b.length : Int) - m) = (b.length : Int) - m := by rw [IntKind.wrap_i64]; omega
      obtain ⟨f1, rfl⟩ : ∃ f1, fu = f1 + 1 := ⟨fu - 1, by omega⟩
      obtain ⟨g, off, hg, rfl, hB⟩ := HB.out.resolve_left (fun e => by rw [e] at hmb; simp at hmb)
      by_cases hcut : b.length < m + 16
      · have hlt2 : (b.length : Int) - m < 16 := by omega
        have HO2 : Hid (O0 = (none, (m : Int), 110)) := hidOf (by rw [HO.out, rdF, rdG_cut (by omega) hcut])
        clear hm1 hm2 hm3 hm4 hm5 hB
        go_wp2
        go_ret3
        rw [HO2.out]
        exact ⟨HR.out.out, rfl⟩
      · have hlt2 : ¬ (b.length : Int) - m < 16 := by omega
        have hw2 : IntKind.i64.wrap ((m : Int) + 16) = ((m + 16 : Nat) : Int) := by rw [IntKind.wrap_i64]; omega
        have hs1 : (m : Int) ≤ ((m + 16 : Nat) : Int) := by omega
        have hs2 : ((m + 16 : Nat) : Int) ≤ c := by omega
        have hs3 : m + 16 - m = 16 := by omega
        have hne : ¬ c = m := by omega
        obtain ⟨T, hT⟩ : ∃ T, T = teP q ((b.drop m).take 16) := ⟨_, rfl⟩
        have hst : stB b m q = T := by rw [hT, stB]
        have HT := hidOf hT
        have hll : ((b.drop m).take 16).length = 16 := by rw [List.length_take, List.length_drop]; omega
        have CT : Hid (∀ wx, Out w wx → Calls Try.prog 33 #[.slice (some ⟨g, off + m, none⟩) 16 (c - m), .int .i64 q] wx fun e w' => TeEnd wx T e w') := fun wx o => by
          rw [hT]
          exact takeEntry_any wx q g (off + m) (c - m) _ (Nat.lt_of_lt_of_le hg o.size) ((BAt.out hB hg o).cut m 16) hll (by omega)
        clear hT hB
        obtain ⟨o, A, E⟩ := T
        cases o with
        | none =>
          obtain ⟨hA, hE⟩ := te_none HT.out.symm
          have HO2 : Hid (O0 = (none, (m : Int) + A, E)) := hidOf (by rw [HO.out, rdF, rdG_bad hcut hst])
          have CT2 : Hid (∀ wx, RSt w wx (.slice a1 S.length c1) S → Calls Try.prog 33 #[.slice (some ⟨g, off + m, none⟩) 16 (c - m), .int .i64 q] wx fun e w' => ∃ sl ki sy, e = .returned (.tuple #[.agg #[.int .i64 sl, .int .i64 ki, .int .i64 sy], .int .i64 (A : Nat), .int .i64 E]) ∧ Out w w') := fun wx r => (CT.out wx r.out).mono fun e w' ⟨ho, s, he, _⟩ => ⟨s.sl, s.ki, s.sy, he, r.out.trans ho⟩
          have hEn : (E != 0) = true := by rcases hE with rfl | rfl <;> rfl
          have hAI : (A : Int) ≤ 12 := by omega
          have hA0 : (0 : Int) ≤ A := by omega
          have hw3 : IntKind.i64.wrap ((m : Int) + A) = (m : Int) + A := by rw [IntKind.wrap_i64]; omega
          clear CT HT hst hll hE hm1 hm2 hm3 hm4 hm5
          go_wp2_with (first | (go_at_call 33; go_loud (with_reducible refine (CT2.out _ HR.out).mono ?_); rintro e w1 ⟨sl, ki, sy, rfl, hO⟩; have HO1 := hidOf hO; clear hO))
          go_ret3
          rw [HO2.out]
          exact ⟨HO1.out.alloc _, rfl⟩
        | some sq =>
          obtain ⟨sl, ki, sy⟩ := sq
          obtain ⟨rfl, rfl, t1, t2, t3⟩ := te_some HT.out.symm
          simp only at t1 t2 t3
          have HMn : Hid (m + 16 = 16 * (S ++ [(⟨sl, ki, sy⟩ : Rl)]).length ∧ m + 16 ≤ b.length + 16 ∧ b.length ≤ f1 + (m + 16) ∧ ((S ++ [(⟨sl, ki, sy⟩ : Rl)]).length : Int) ≤ sl + 1 ∧ sl < 65536) := hidOf (by simp only [List.length_append, List.length_singleton]; omega)
          have HO2 : Hid (O0 = rdF b f1 (m + 16) sl (S ++ [⟨sl, ki, sy⟩])) := hidOf (by rw [HO.out, rdF, rdG_step hcut hst])
          have CT2 : Hid (∀ wx, RSt w wx (.slice a1 S.length c1) S → Calls Try.prog 33 #[.slice (some ⟨g, off + m, none⟩) 16 (c - m), .int .i64 q] wx fun e w' => e = .returned (.tuple #[.agg #[.int .i64 sl, .int .i64 ki, .int .i64 sy], .int .i64 0, .int .i64 0]) ∧ RSt w w' (.slice a1 S.length c1) S) := fun wx r => (CT.out wx r.out).mono fun e w' ⟨ho, s, he, hs⟩ => by
            obtain rfl := hs _ rfl
            exact ⟨he, r.on ho⟩
          have hSl : S.length ≤ 65536 := by omega
          clear CT HT hst hll hm1 hm2 hm3 hm4 hm5 t1 t2 t3
          go_upto_region 11 with (first | (go_at_call 33; go_loud (with_reducible refine (CT2.out _ HR.out).mono ?_); rintro e w1 ⟨rfl, hr⟩; have HR1 := hidOf hr; clear hr))
          obtain ⟨qb, hqb⟩ : ∃ qb, qb = w1.heap.size := ⟨_, rfl⟩
          have HX : Hid ((w1.alloc (.cells #[.int .i64 sl, .int .i64 ki, .int .i64 sy] 27)).heap[qb]? = some (.cells #[.int .i64 sl, .int .i64 ki, .int .i64 sy] 27 (0, 0))) := hidOf (by rw [hqb]; exact heap_alloc_new w1 _)
          have HR2 := hidOf (HR1.out.on ((Out.refl w1).alloc (.cells #[.int .i64 sl, .int .i64 ki, .int .i64 sy] 27)))
          rw [← hqb]
          clear hqb HR1
          generalize w1.alloc (.cells #[.int .i64 sl, .int .i64 ki, .int .i64 sy] 27) = w2 at *
          have k0 := box_cell HX.out 0
          have k1 := box_cell HX.out 1
          have k2 := box_cell HX.out 2
          simp only [List.getElem?_toArray, List.getElem?_cons_zero, List.getElem?_cons_succ] at k0 k1 k2
          have hsz : w.heap.size ≤ w2.heap.size := HR2.out.out.size
          have HR3 : Hid (∀ cs, RSt w (w2.alloc (.cells cs 27)) (.slice a1 S.length c1) S) := fun cs => HR2.out.on ((Out.refl w2).alloc _)
          go_wp2_with (at_builtin; refine wpList_append_own _ rfl (.tmp 47) (.tmp 49) 22 rfl w.heap.size 27 i0 _ 3 24 Try.underlying22 hi0 hz0 hz1 hz2 rfl (by decide) (.slice a1 S.length c1) S.length (rlV S) rfl (World.ownsRow.alloc HR2.out.own _) ⟨w2.heap.size, 0, none⟩ 1 1 [.int .i64 sl, .int .i64 ki, .int .i64 sy] rfl rfl (news_new w2 _ _ _ rfl) (fun u hu => by simp only [List.mem_cons, List.not_mem_nil, or_false] at hu; rcases hu with rfl | rfl | rfl <;> rfl) (by unfold maxLen; omega) (by omega) (by rw [size_alloc]; omega) ?_; intro v4 w4 hown4 hgrow4 _; have HR4 := hidOf ((HR3.out _).push (s := ⟨sl, ki, sy⟩) hown4 hgrow4); clear hgrow4; obtain ⟨a4, c4, rfl⟩ := own_form hown4; clear hown4)
          refine ⟨⟨m + 16, f1, S ++ [(⟨sl, ki, sy⟩ : Rl)], a4, c4, sl, by simp, by simp, rfl, HMn, HO2, hidOf (by simpa using HR4.out)⟩, by have := HM.out; simp [intOf]; omega⟩
    · have hlt : ¬ (m : Int) < b.length := by omega
      have HO2 : Hid (O0 = (some S, 0, 0)) := hidOf (by rw [HO.out, rdF, rdG_end (by omega)])
      clear hm1 hm2 hm3 hm4 hm5
      go_wp2
      go_ret3
      rw [HO2.out]
      exact ⟨HR.out.out, a1, c1, rfl, HR.out.own⟩
end Go.Proofs.Ytoobdcjkhphlcaa
