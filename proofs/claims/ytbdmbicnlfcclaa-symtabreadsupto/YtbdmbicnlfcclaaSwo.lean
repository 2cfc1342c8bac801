import Derived.Test.YtbdmbicnlfcclaaSwn
import Derived.Test.YtbdmbicnlfcclaaSyu
namespace Go.Proofs.Ytbdmbicnlfcclaa
open Go.RowKit
set_option linter.unusedVariables false
set_option linter.unusedSimpArgs false
/-- an entry by the reference's words and by the program's -/
theorem te_ref (q : Rn) {l : List UInt8} {x4 x5 : UInt8} (hl : l.length = 24) (h4 : l[4]? = some x4) (h5 : l[5]? = some x5) :
    (∃ a : Nat, enW l x4 x5 = a ∧ a ≤ 16 ∧ teP q l = (none, a, 100)) ∨ (enW l x4 x5 = -1 ∧ syT l x4 = syB l ∧ 1 ≤ soP (syB l) ∧ teP q l = match tkS q (soP (syB l)) (syB l).va with
      | none => (none, 0, 101)
      | some q' => (some (syB l, q'), 0, 0)) := by
  have e4 : nuB l 4 1 = x4.toNat := nu_at h4
  unfold enW teP
  rw [e4]
  by_cases hf : fifP (x4.toNat : Int) = 0
  · left
    rw [if_pos hf, if_pos hf]
    exact ⟨4, rfl, by omega, rfl⟩
  · rw [if_neg hf, if_neg hf]
    by_cases hz : x5 = 0
    · have hz2 : ¬ l[5]? ≠ some 0 := by rw [h5, hz]; simp
      rw [if_neg (by simp [hz]), if_neg hz2, syT_ff]
      cases hff : ffP (fifP (x4.toNat : Int)) (syB l) with
      | some a =>
        left
        exact ⟨a, rfl, ff_le hff, rfl⟩
      | none =>
        right
        have hE := syT_eq h4 hff
        have hna : 0 ≤ nuB l 0 4 ∧ nuB l 0 4 ≤ 4294967295 := by
          rw [nu_small l 0 4 (by omega)]
          have h := nmB_lt ((l.drop 0).take 4)
          have h2 : 256 ^ ((l.drop 0).take 4).length ≤ 256 ^ 4 := Nat.pow_le_pow_right (by omega) (by rw [List.length_take]; omega)
          omega
        have hso : soP (syB l) = fifP (x4.toNat : Int) := by
          have h := so_of (se := nuB l 6 2) (va := nuB l 8 8) (si := nuB l 16 8) (x4 := x4) hna.1 hna.2
          have hs : syB l = ⟨nuB l 0 4, (x4.toNat : Int) / 16, (x4.toNat : Int) % 16, nuB l 6 2, nuB l 8 8, nuB l 16 8⟩ := by unfold syB; rw [e4]
          rw [hs, h]
          rw [hs] at hff
          rw [if_pos hff]
        refine ⟨rfl, hE, by rw [hso]; omega, ?_⟩
        rw [hso]
        rfl
    · left
      have hz2 : l[5]? ≠ some 0 := by rw [h5]; simp [hz]
      rw [if_pos hz, if_pos hz2]
      exact ⟨5, rfl, by omega, rfl⟩
theorem prv_app (S : List Sy) (x : Sy) : prv (S ++ [x]) S.length = prv S S.length := by
  cases h : S.length with
  | zero => rfl
  | succ j => show (S ++ [x])[j]? = S[j]?; rw [List.getElem?_append_left (by omega)]
theorem prv_last (S : List Sy) (x : Sy) : prv (S ++ [x]) (S.length + 1) = some x := by
  show (S ++ [x])[S.length]? = some x
  simp
theorem refRead_short (w : World) (a : Option Addr) (n c : Nat) (hn : n < 24) : Calls Try.prog 25 #[.slice a n c] w fun e w' => e = .returned (.tuple #[.slice none 0 0, .int .i64 n, .int .i64 100]) ∧ w' = w := by
  have hnI : (n : Int) < 24 := by omega
  by_cases h0 : n = 0
  · subst h0
    go_enter Try.func25, Try.ntmps25
    go_wp2
    refine wp_loop_rounds 1 ?_
    rw [rounds_succ]
    go_wp2
    go_ret3
    exact ⟨rfl, rfl⟩
  · have hp : (0 : Int) < n := by omega
    go_enter Try.func25, Try.ntmps25
    go_wp2
    refine wp_loop_rounds 1 ?_
    rw [rounds_succ]
    go_wp2
    go_ret3
    exact ⟨rfl, rfl⟩
/-- amid the reference's Read -/
structure RRt (w wr : World) (v : Value) (S : List Sy) : Prop where
  own : OwS w.heap.size v S wr
  out : Out w wr
theorem RRt.on {w wr w' : World} {v : Value} {S : List Sy} (h : RRt w wr v S) (o : Out wr w') : RRt w w' v S := ⟨own_at h.own o, h.out.trans o⟩
theorem RRt.push {w wr w' : World} {v v' : Value} {S : List Sy} {s : Sy} (h : RRt w wr v S) (ho : w'.ownsRow w.heap.size 57 6 v' (S.length + 1) (syV S ++ s.cs)) (hg : wr.grownBy w' v.ownBlock) : RRt w w' v' (S ++ [s]) := by
  have hc : Chg (fun k => v.ownBlock = some k) wr w' := Chg.of_grown hg (fun k hk => hk)
  refine ⟨?_, Chg.out hc h.out (fun k hk => (World.ownsRow.lt h.own k hk).1)⟩
  unfold OwS
  rw [syV_app, List.length_append]
  simpa [syV] using ho
set_option maxRecDepth 8000 in
set_option maxHeartbeats 1000000 in
theorem refRead_long (w : World) (g off c : Nat) (b : List UInt8) (hg : g < w.heap.size) (h : BAt w g off b) (hn : 24 ≤ b.length) (hc : b.length ≤ c) (hb : b.length ≤ 70368744177672) : Calls Try.prog 25 #[.slice (some ⟨g, off, none⟩) b.length c] w fun e w' => RdE w (rdS b) e w' := by
  obtain ⟨l0, hl0⟩ : ∃ l, l = b.take 24 := ⟨_, rfl⟩
  have hll0 : l0.length = 24 := by rw [hl0, List.length_take]; omega
  have HG : Hid (∀ k, k < 24 → ∃ x, l0[k]? = some x ∧ w.cell? ⟨g, off + k, none⟩ = some (.int .u8 (x.toNat : Int))) := fun k hk => by
    refine ⟨l0[k], List.getElem?_eq_getElem (by omega), ?_⟩
    refine h k _ ?_
    have : l0[k]? = b[k]? := by rw [hl0, List.getElem?_take_of_lt hk]
    rw [← this, List.getElem?_eq_getElem (by omega)]
  have HZ : Hid (rdS b = match fzB l0 0 with
    | some a => (none, (a : Int), 100)
    | none => rdF b b.length 24 ⟨0, 0, 0⟩ []) := hidOf (by rw [rdS, show fzP b = fzB (b.take 24) 0 from if_neg (by omega), hl0]; cases fzB (b.take 24) 0 <;> rfl)
  have HB := hidOf h
  have Hg := hidOf hg
  have hcI : (b.length : Int) ≤ c := by omega
  have hbI : (b.length : Int) ≤ 70368744177672 := by omega
  have hnI : (24 : Int) ≤ b.length := by omega
  have hn0 : (0 : Int) < b.length := by omega
  obtain ⟨O0, hO0⟩ : ∃ O, O = rdS b := ⟨_, rfl⟩
  rw [← hO0]
  rw [← hO0] at HZ
  obtain ⟨i0, hi0, hz0, hz1, hz2⟩ := info_parts infoSm
  clear h hO0 hg hl0
  go_enter Try.func25, Try.ntmps25
  go_wp2
  go_loopw [7, 5, 6] (fun pv sv tv wr => ∃ (m fu t : Nat) (S : List Sy) (a1 : Option Addr) (c1 : Nat) (q : Rn), pv = .int .i64 m ∧ sv = .slice a1 S.length c1 ∧ tv = .int .i64 t ∧ Hid ((m = 0 ∧ S = [] ∧ t = 0 ∧ q = ⟨0, 0, 0⟩) ∨ (m = 24 + 24 * S.length ∧ m ≤ b.length + 24 ∧ b.length ≤ fu + m ∧ O0 = rdF b fu m q S)) ∧ t ≤ S.length ∧ Hid (Sim (prv S S.length) q t) ∧ Hid (RRt w wr (.slice a1 S.length c1) S)) (fun pv _ _ _ => b.length + 24 - (intOf pv).toNat)
  case atStart => exact ⟨0, 0, 0, [], none, 0, ⟨0, 0, 0⟩, rfl, rfl, rfl, hidOf (.inl ⟨rfl, rfl, rfl, rfl⟩), by simp, hidOf ⟨rfl, rfl⟩, hidOf ⟨World.ownsRow_nil _ _ _ _, Out.refl _⟩⟩
  case round =>
    obtain ⟨m, fu, t, S, a1, c1, q, rfl, rfl, rfl, HM, htS, HSm, HR⟩ := hrel
    have hM := HM.out
    clear HM
    rcases hM with ⟨rfl, rfl, rfl, rfl⟩ | ⟨hm1, hm2, hm3, hm4⟩
    · have hnn : ¬ (b.length : Int) < 24 := by omega
      have HGr : Hid (∀ k, k < 24 → ∃ x, l0[k]? = some x ∧ wr.cell? ⟨g, off + k, none⟩ = some (.int .u8 (x.toNat : Int))) := fun k hk => by
        obtain ⟨x, h1, h2⟩ := HG.out k hk
        exact ⟨x, h1, cell_later HR.out.out h2⟩
      simp only [List.length_nil] at HR htS HSm ⊢
      obtain ⟨w0, rfl⟩ : ∃ w0, w0 = wr := ⟨_, rfl⟩
      obtain ⟨bn, hbn⟩ : ∃ bn, bn = b.length := ⟨_, rfl⟩
      have Hbn := hidOf hbn
      rw [← hbn] at hnn hcI hbI hnI hn0 ⊢
      clear hbn hn hc hb
      have hq1 : decide ((0 : Int) < bn) = true := decide_eq_true hn0
      have hq2 : 0 < bn := by omega
      have hq3 : (bn == 0) = false := by simp; omega
      have hq4 : ¬ bn = 0 := by omega
      go_wp2
      go_loopw [8] (fun iv wq => ∃ k : Nat, iv = .int .i64 k ∧ k ≤ 24 ∧ Hid (fzB l0 0 = fzB (l0.drop k) k) ∧ wq = w0) (fun iv _ => 24 - (intOf iv).toNat)
      case atStart => exact ⟨0, rfl, by omega, hidOf rfl, rfl⟩
      case round =>
        obtain ⟨k, rfl, hk, Hk, rfl⟩ := hrel
        by_cases hkN : k < 24
        · have hlt : (k : Int) < 24 := by omega
          have h0 : (0 : Int) ≤ k := by omega
          have hkb : (k : Int) < bn := by omega
          obtain ⟨x, hx, d⟩ := HGr.out k hkN
          have hst := hidOf (fz_step hx)
          by_cases hx0 : x = 0
          · have hz : ((x.toNat : Int) != 0) = false := by rw [hx0]; rfl
            have Hn : Hid (fzB l0 0 = fzB (l0.drop (k + 1)) (k + 1)) := hidOf (by rw [Hk.out, hst.out, if_pos hx0])
            clear hx hst hx0
            go_wp2
            refine ⟨⟨k + 1, by simp, by omega, Hn, trivial⟩, ?_⟩
            simp [intOf]; omega
          · have hz : ((x.toNat : Int) != 0) = true := by
              have : x.toNat ≠ 0 := fun e => hx0 (UInt8.toNat_inj.1 e)
              simp; omega
            have Hn : Hid (O0 = (none, (k : Int), 100)) := hidOf (by rw [HZ.out, Hk.out, hst.out, if_neg hx0])
            clear hx hst hx0
            go_wp2
            go_ret3
            rw [Hn.out]
            exact ⟨HR.out.out, rfl⟩
        · have hlt : ¬ (k : Int) < 24 := by omega
          obtain rfl : k = 24 := by omega
          have Hn : Hid (O0 = rdF b b.length 24 ⟨0, 0, 0⟩ []) := hidOf (by
            have e : fzB l0 0 = none := by rw [Hk.out, ← hll0, List.drop_length]; rfl
            rw [HZ.out, e])
          go_wp2
          have hbb := Hbn.out
          exact ⟨⟨24, b.length, 0, [], a1, c1, ⟨0, 0, 0⟩, by simp, by simp, by simp, hidOf (.inr ⟨by simp, by omega, by omega, Hn.out⟩), by simp, HSm, HR⟩, by first | (simp [intOf]; done) | (simp [intOf]; omega)⟩
    · have h0 : (0 : Int) ≤ m := by omega
      have hmz : ((m : Int) == 0) = false := by simp; omega
      have HO := hidOf hm4
      have HM := hidOf (And.intro hm1 (And.intro hm2 hm3))
      clear hm4 HG HZ
      by_cases hmb : m < b.length
      · have hlt : (m : Int) < b.length := by omega
        have hw1 : IntKind.i64.wrap ((b.length : Int) - m) = (b.length : Int) - m := by rw [IntKind.wrap_i64]; omega
        obtain ⟨f1, rfl⟩ : ∃ f1, fu = f1 + 1 := ⟨fu - 1, by omega⟩
        by_cases hcut : b.length < m + 24
        · have hlt2 : (b.length : Int) - m < 24 := by omega
          have HO2 : Hid (O0 = (none, (b.length : Int), 100)) := hidOf (by rw [HO.out, rdF, rdG_cut (by omega) hcut])
          clear hm1 hm2 hm3
          go_wp2
          go_ret3
          rw [HO2.out]
          exact ⟨HR.out.out, rfl⟩
        · have hlt2 : ¬ (b.length : Int) - m < 24 := by omega
          have hw2 : IntKind.i64.wrap ((m : Int) + 24) = ((m + 24 : Nat) : Int) := by rw [IntKind.wrap_i64]; omega
          have hs1 : (m : Int) ≤ ((m + 24 : Nat) : Int) := by omega
          have hs2 : ((m + 24 : Nat) : Int) ≤ c := by omega
          have hs3 : m + 24 - m = 24 := by omega
          have hne : ¬ c = m := by omega
          obtain ⟨l, hl⟩ : ∃ l, l = (b.drop m).take 24 := ⟨_, rfl⟩
          have hll : l.length = 24 := by rw [hl, List.length_take, List.length_drop]; omega
          obtain ⟨x4, h4⟩ : ∃ x, l[4]? = some x := ⟨_, List.getElem?_eq_getElem (by omega)⟩
          obtain ⟨x5, h5⟩ : ∃ x, l[5]? = some x := ⟨_, List.getElem?_eq_getElem (by omega)⟩
          have CT : Hid (∀ wx, Out w wx → Calls Try.prog 41 #[.slice (some ⟨g, off + m, none⟩) 24 (c - m)] wx fun e w' => e = .returned (.tuple #[.agg (syT l x4).ar, .int .i64 (enW l x4 x5)]) ∧ Out wx w') := fun wx o =>
            entry_any wx g (off + m) (c - m) l (Nat.lt_of_lt_of_le Hg.out o.size) (by rw [hl]; exact (HB.out.out Hg.out o).cut m 24) hll (by omega) x4 x5 h4 h5
          have hst : stB b m q = teP q l := by rw [hl, stB]
          rcases te_ref q hll h4 h5 with ⟨A, hA, hA16, hT⟩ | ⟨hA, hT4, hso, hT⟩
          · rw [hA] at CT
            have HO2 : Hid (O0 = (none, (m : Int) + A, 100)) := hidOf (by rw [HO.out, rdF, rdG_bad hcut (hst.trans hT)])
            obtain ⟨⟨na, bi, ki, se, va, si⟩, hs⟩ : ∃ s, s = syT l x4 := ⟨_, rfl⟩
            rw [← hs] at CT
            simp only [Sy.ar] at CT
            have hAI : (A : Int) ≤ 16 := by omega
            have hA0 : (0 : Int) ≤ A := by omega
            have hw3 : IntKind.i64.wrap ((m : Int) + A) = (m : Int) + A := by rw [IntKind.wrap_i64]; omega
            have HRo := hidOf HR.out.out
            clear hA hs hT hst h4 h5 hl hll hm1 hm2 hm3 HB HSm
            go_wp2_with (first | (go_at_call 41; go_loud (with_reducible refine (CT.out _ HRo.out).mono ?_); rintro e w1 ⟨rfl, hO⟩; have HO1 := hidOf (Out.trans HRo.out hO); clear hO))
            go_ret3
            rw [HO2.out]
            exact ⟨HO1.out.alloc _, rfl⟩
          · rw [hA, hT4] at CT
            have hsim := HSm.out.step hso
            obtain ⟨s, hs⟩ : ∃ s, s = syB l := ⟨_, rfl⟩
            rw [← hs] at CT hso hT hsim
            have HSs := hidOf hsim
            have HT := hidOf (hst.trans hT)
            obtain ⟨sx, hsx⟩ : ∃ sx, sx = soP s := ⟨_, rfl⟩
            have HSx := hidOf hsx
            have hsx4 : sx ≤ 4 := by rw [hsx]; exact so_le s
            have hsxI : (0 : Int) ≤ sx := by omega
            obtain ⟨na, bi, ki, se, va, si⟩ := s
            simp only [Sy.ar] at CT
            have CX : Hid (∀ wx, Calls Try.prog 37 #[.agg #[.int .i64 na, .int .i64 bi, .int .i64 ki, .int .i64 se, .int .i64 va, .int .i64 si]] wx fun e w' => e = .returned (.int .i64 (sx : Nat)) ∧ Out wx w') := fun wx => by rw [hsx]; exact refSort_any na bi ki se va si wx
            have HRo := hidOf HR.out.out
            have hSl : S.length ≤ 2932031007401 := by omega
            clear hA hs hT hst h4 h5 hl hll hm1 hm2 hm3 HB hT4 hsim hsx hso
            go_upto_region 17 with (first | (go_at_call 41; go_loud (with_reducible refine (CT.out _ HRo.out).mono ?_); rintro e w1 ⟨rfl, hO⟩; have HR1 := hidOf (HR.out.on hO); clear hO))
            obtain ⟨qb, hqb⟩ : ∃ qb, qb = w1.heap.size := ⟨_, rfl⟩
            have HX : Hid ((w1.alloc (.cells #[.int .i64 na, .int .i64 bi, .int .i64 ki, .int .i64 se, .int .i64 va, .int .i64 si] 57)).heap[qb]? = some (.cells #[.int .i64 na, .int .i64 bi, .int .i64 ki, .int .i64 se, .int .i64 va, .int .i64 si] 57 (0, 0))) := hidOf (by rw [hqb]; exact heap_alloc_new w1 _)
            have HR2 := hidOf (HR1.out.on ((Out.refl w1).alloc (.cells #[.int .i64 na, .int .i64 bi, .int .i64 ki, .int .i64 se, .int .i64 va, .int .i64 si] 57)))
            have HNe : Hid (¬ (Value.slice a1 S.length c1).ownBlock = some qb) := fun e => by
              have := (World.ownsRow.lt HR1.out.own qb e).2
              omega
            rw [← hqb]
            clear hqb HR1
            generalize w1.alloc (.cells #[.int .i64 na, .int .i64 bi, .int .i64 ki, .int .i64 se, .int .i64 va, .int .i64 si] 57) = w2 at *
            have k0 := box_cell HX.out 0
            have k1 := box_cell HX.out 1
            have k2 := box_cell HX.out 2
            have k3 := box_cell HX.out 3
            have k4 := box_cell HX.out 4
            have k5 := box_cell HX.out 5
            simp only [List.getElem?_toArray, List.getElem?_cons_zero, List.getElem?_cons_succ] at k0 k1 k2 k3 k4 k5
            have hsz : w.heap.size ≤ w2.heap.size := HR2.out.out.size
            have HR3 : Hid (∀ cs, RRt w (w2.alloc (.cells cs 57)) (.slice a1 S.length c1) S) := fun cs => HR2.out.on ((Out.refl w2).alloc _)
            have HXA : Hid (∀ cs w4, (w2.alloc (.cells cs 57)).grownBy w4 (Value.slice a1 S.length c1).ownBlock → ¬ (Value.slice a1 S.length c1).ownBlock = some qb → w4.heap[qb]? = some (.cells #[.int .i64 na, .int .i64 bi, .int .i64 ki, .int .i64 se, .int .i64 va, .int .i64 si] 57 (0, 0))) := fun cs w4 hgr hne => by
              have hq : qb < w2.heap.size := (Array.getElem?_eq_some_iff.1 HX.out).1
              rw [hgr.block qb (by rw [size_alloc]; omega) (fun e => hne e.symm), Below.heap_alloc w2 _ qb hq]
              exact HX.out
            go_upto_region 18 with (at_builtin; refine wpList_append_own _ rfl (.tmp 54) (.tmp 56) 25 rfl w.heap.size 57 i0 _ 6 48 Try.underlying25 hi0 hz0 hz1 hz2 rfl (by decide) (.slice a1 S.length c1) S.length (syV S) rfl (World.ownsRow.alloc HR2.out.own _) ⟨w2.heap.size, 0, none⟩ 1 1 [.int .i64 na, .int .i64 bi, .int .i64 ki, .int .i64 se, .int .i64 va, .int .i64 si] rfl rfl (news_new w2 _ _ _ rfl) (fun u hu => by simp only [List.mem_cons, List.not_mem_nil, or_false] at hu; rcases hu with rfl | rfl | rfl | rfl | rfl | rfl <;> rfl) (by unfold maxLen; omega) (by omega) (by rw [size_alloc]; omega) ?_; intro v4 w4 hown4 hgrow4 _; have HB4 := hidOf (HXA.out _ w4 hgrow4 HNe.out); have HR4 := hidOf ((HR3.out _).push (s := ⟨na, bi, ki, se, va, si⟩) hown4 hgrow4); clear hgrow4; obtain ⟨a4, c4, rfl⟩ := own_form hown4; clear hown4)
            clear k0 k1 k2 k3 k4 k5 HR2 HR3 HXA HX HNe hsz
            have hle : (S ++ [(⟨na, bi, ki, se, va, si⟩ : Sy)]).length = S.length + 1 := by simp
            obtain ⟨F, hF⟩ : ∃ F, F = folP (prv S S.length) ⟨na, bi, ki, se, va, si⟩ t := ⟨_, rfl⟩
            have HF := hidOf hF
            have CF : Hid (∀ wx, Out w4 wx → Calls Try.prog 38 #[.slice a4 (S.length + 1) c4, .int .i64 S.length, .int .i64 t] wx fun e w' => e = .returned (.bool F) ∧ Out wx w') := fun wx o => by
              have h4 : OwS w.heap.size (.slice a4 (S.length + 1) c4) (S ++ [⟨na, bi, ki, se, va, si⟩]) wx := own_at HR4.out.own o
              obtain ⟨a', c', e, hcap, hat⟩ := OwS.at h4
              rw [hle] at e hcap
              simp only [Value.slice.injEq] at e
              obtain ⟨rfl, _, rfl⟩ := e
              have h5 := follows_any wx a4 c4 (S ++ [⟨na, bi, ki, se, va, si⟩]) hat (by rw [hle]; exact hcap) S.length ⟨na, bi, ki, se, va, si⟩ (by simp) t (by omega) (by rw [hle]; omega)
              rw [hle, prv_app, ← hF] at h5
              exact h5
            have hk1 : ((S.length + 1 : Nat) : Int) - 1 = S.length := by omega
            have hk2 : IntKind.i64.wrap (((S.length + 1 : Nat) : Int) - 1) = S.length := by rw [IntKind.wrap_i64]; omega
            have HO4 := hidOf HR4.out.out
            clear hF
            cases F with
            | false =>
              have HO2 : Hid (O0 = (none, (m : Int), 101)) := hidOf (by
                have e1 := HSs.out.1 HF.out.symm
                have hT := HT.out
                rw [e1] at hT
                rw [HO.out, rdF, rdG_bad hcut hT]
                simp)
              go_wp2_with (first | (go_at_call 38; refine (CF.out _ (Out.refl _)).mono ?_; rintro e w5 ⟨rfl, ho⟩; have O5 := hidOf (Out.trans HO4.out ho); clear ho))
              go_ret3
              rw [HO2.out]
              exact ⟨O5.out, rfl⟩
            | true =>
              obtain ⟨q2, e1, e2⟩ := HSs.out.2 HF.out.symm
              have HO2 : Hid (O0 = rdF b f1 (m + 24) q2 (S ++ [⟨na, bi, ki, se, va, si⟩])) := hidOf (by
                have hT := HT.out
                rw [e1] at hT
                rw [HO.out, rdF, rdG_step hcut hT])
              rw [← HSx.out] at e2
              have HS2 := hidOf e2
              clear e1 e2 HSs HT
              go_upto_region 20 with (first | (go_at_call 38; refine (CF.out _ (Out.refl _)).mono ?_; rintro e w5 ⟨rfl, ho⟩; have P5 := hidOf ho; clear ho))
              have HB5 : Hid (w5.heap[qb]? = some (.cells #[.int .i64 na, .int .i64 bi, .int .i64 ki, .int .i64 se, .int .i64 va, .int .i64 si] 57 (0, 0))) := hidOf ((P5.out.block qb (Array.getElem?_eq_some_iff.1 HB4.out).1).trans HB4.out)
              have k0 := box_cell HB5.out 0
              have k1 := box_cell HB5.out 1
              have k2 := box_cell HB5.out 2
              have k3 := box_cell HB5.out 3
              have k4 := box_cell HB5.out 4
              have k5 := box_cell HB5.out 5
              simp only [List.getElem?_toArray, List.getElem?_cons_zero, List.getElem?_cons_succ] at k0 k1 k2 k3 k4 k5
              have HR5 := hidOf (HR4.out.on P5.out)
              have hcase : (((sx : Int) == 2) = true ∧ sx = 2) ∨ (((sx : Int) == 2) = false ∧ ¬ sx = 2) := by
                by_cases h2 : sx = 2
                · left; exact ⟨by simp; omega, h2⟩
                · right; exact ⟨by simp; omega, h2⟩
              rcases hcase with ⟨hb2, h2⟩ | ⟨hb2, h2⟩
              · have HS3 : Hid (Sim (prv (S ++ [(⟨na, bi, ki, se, va, si⟩ : Sy)]) (S ++ [(⟨na, bi, ki, se, va, si⟩ : Sy)]).length) q2 (t + 1)) := hidOf (by have h := HS2.out; rw [if_pos h2] at h; rw [hle, prv_last]; exact h)
                clear h2
                go_wp2_with (go_at_call 37; refine (CX.out _).mono ?_; rintro e w6 ⟨rfl, ho⟩; have P6 := hidOf ho; clear ho)
                refine ⟨⟨m + 24, f1, t + 1, S ++ [(⟨na, bi, ki, se, va, si⟩ : Sy)], a4, c4, q2, by simp, by simp, by simp, ?_, by simp; omega, HS3, hidOf (by have := HR5.out.on P6.out; simpa using this)⟩, by have := HM.out; simp [intOf]; omega⟩
                have := HM.out
                refine hidOf (.inr ⟨?_, ?_, ?_, HO2.out⟩) <;> (try rw [hle]) <;> omega
              · have HS3 : Hid (Sim (prv (S ++ [(⟨na, bi, ki, se, va, si⟩ : Sy)]) (S ++ [(⟨na, bi, ki, se, va, si⟩ : Sy)]).length) q2 t) := hidOf (by have h := HS2.out; rw [if_neg h2] at h; rw [hle, prv_last]; exact h)
                clear h2
                go_wp2_with (go_at_call 37; refine (CX.out _).mono ?_; rintro e w6 ⟨rfl, ho⟩; have P6 := hidOf ho; clear ho)
                refine ⟨⟨m + 24, f1, t, S ++ [(⟨na, bi, ki, se, va, si⟩ : Sy)], a4, c4, q2, by simp, by simp, by simp, ?_, by simp; omega, HS3, hidOf (by have := HR5.out.on P6.out; simpa using this)⟩, by have := HM.out; simp [intOf]; omega⟩
                have := HM.out
                refine hidOf (.inr ⟨?_, ?_, ?_, HO2.out⟩) <;> (try rw [hle]) <;> omega
      · have hlt : ¬ (m : Int) < b.length := by omega
        have HO2 : Hid (O0 = (some S, 0, 0)) := hidOf (by rw [HO.out, rdF, rdG_end (by omega)])
        clear hm1 hm2 hm3
        go_wp2
        go_ret3
        rw [HO2.out]
        exact ⟨HR.out.out, a1, c1, rfl, HR.out.own⟩
theorem refRead_any (w : World) (a : Option Addr) (c : Nat) (b : List UInt8) (h : RestAt w.heap.size w a b) (hc : b.length ≤ c) (hb : b.length ≤ 70368744177672) : Calls Try.prog 25 #[.slice a b.length c] w fun e w' => RdE w (rdS b) e w' := by
  by_cases h24 : b.length < 24
  · refine (refRead_short w a _ c h24).mono ?_
    rintro e w' ⟨rfl, rfl⟩
    have e : rdS b = (none, (b.length : Int), 100) := by rw [rdS, show fzP b = some b.length from if_pos h24]
    rw [e]
    exact ⟨Out.refl _, rfl⟩
  · obtain ⟨g, off, rfl, hg, hB⟩ := RestAt.at h (by omega)
    exact refRead_long w g off c b hg hB (by omega) hc hb
end Go.Proofs.Ytbdmbicnlfcclaa
