import Derived.Test.YtekjfbmebekmeaaGreatGa23
namespace Go.Proofs.YtekjfbmebekmeaaGreat
open Go.RowKit
set_option linter.unusedVariables false
set_option linter.unusedSimpArgs false
set_option maxHeartbeats 4000000 in
set_option maxRecDepth 100000 in
theorem refFind_any (w : World) (B0 : Nat) (a : Option Addr) (c n : Nat) (R : List Rg) (at_ k : Nat) (h : RLs B0 w a c n R) (hRn : R.length = n) (hb : ∀ z ∈ R, z.d.length ≤ 140737488355328 ∧ z.f < 18446744073709551616) (hn : n ≤ 4398046511104) (ha : at_ < 18446744073709551616) (hk : k < 9223372036854775808) :
    Calls Tryz.prog 58 #[.agg #[.slice a n c], .int .u64 at_, .int .i64 k] w fun e w' => e = .returned (.int .i64 (fndI (R.map fdR) at_ k)) ∧ Out w w' := by
  obtain ⟨P, hP⟩ : ∃ P, Hid (P = R.map fdR) := ⟨_, rfl⟩
  rw [← hP.out]
  have HI := hidOf h
  have HB0 := hidOf hb
  have HRN := hidOf hRn
  clear h hb hRn
  have hwk : IntKind.u64.wrap (k : Int) = (k : Int) := by rw [IntKind.wrap_u64]; omega
  obtain ⟨p, hp⟩ : ∃ p, Hid (p = w.heap.size) := ⟨_, rfl⟩
  obtain ⟨w0, H0, bp, o0⟩ : ∃ w0, Hid (w0 = w.alloc (.cells #[.slice a n c] 47)) ∧ w0.heap[p]? = some (.cells #[.slice a n c] 47 (0, 0)) ∧ Out w w0 := ⟨_, rfl, by rw [hp.out]; exact heap_alloc_new w _, (Out.refl w).alloc _⟩
  have O0 := hidOf o0
  have BP := hidOf bp
  clear o0 bp
  go_enter Tryz.func58, Tryz.ntmps58
  go_upto_region 1 with fail
  rw [← hp.out]
  rw [← H0.out]
  go_wp2
  go_loopw [7] (fun iv wr => ∃ i : Nat, iv = .int .i64 (i : Nat) ∧ i ≤ n ∧ Hid (∀ (j : Nat) q, j < i → P[j]? = some q → fitQ at_ k q = false) ∧ Hid (Out w0 wr)) (fun iv _ => n - (intOf iv).toNat)
  case atStart => exact ⟨0, rfl, Nat.zero_le _, hidOf (fun j q h => absurd h (Nat.not_lt_zero _)), hidOf (Out.refl _)⟩
  case round =>
    obtain ⟨i, rfl, hi, NO, OR⟩ := hrel
    have cp : wr.cell? ⟨p, 0, none⟩ = some (.slice a n c) := (cell_B (blk_out BP.out OR.out) 0).trans rfl
    by_cases hin : i < n
    · have hlt : (i : Int) < n := by omega
      obtain ⟨z, hz⟩ : ∃ z, R[i]? = some z := ⟨_, List.getElem?_eq_getElem (by rw [HRN.out]; exact hin)⟩
      have hPz : P[i]? = some (fdR z) := by rw [hP.out, List.getElem?_map, hz]; rfl
      have hown := (HI.out.out (O0.out.trans OR.out)).own
      obtain ⟨g, cc2, ee, _, _⟩ := hown.form (by omega)
      simp only [Value.slice.injEq] at ee
      obtain ⟨rfl, _, rfl⟩ := ee
      have r0 := (own_cellK hown (rowG_get hz).1).1
      have r1 := (own_cellK hown (rowG_get hz).2).1
      have hzb := HB0.out z (List.mem_of_getElem? hz)
      rw [daV] at r1
      have HPZ := hidOf hPz
      obtain ⟨zf, hzf⟩ : ∃ zf, Hid (zf = z.f) := ⟨_, rfl⟩
      obtain ⟨zl, hzl⟩ : ∃ zl, Hid (zl = z.d.length) := ⟨_, rfl⟩
      obtain ⟨za, hza⟩ : ∃ za : Option Addr, Hid (za = z.a.map fun b => ⟨b, 0, none⟩) := ⟨_, rfl⟩
      rw [← hzf.out] at r0 hzb
      rw [← hzl.out] at hzb
      rw [← hzl.out, ← hza.out] at r1
      have FIT : Hid (fitQ at_ k (fdR z) = true ↔ zf ≤ at_ ∧ at_ - zf < zl ∧ k ≤ zl - (at_ - zf)) := hidOf (by rw [fitQ_iff, hzf.out, hzl.out]; rfl)
      have hwl : IntKind.u64.wrap (zl : Int) = (zl : Int) := by rw [IntKind.wrap_u64]; omega
      obtain ⟨wB, HB, u0, u1, oB, sB⟩ := box_two wr (.int .u64 zf) (.slice za zl z.c) 36
      have OB := hidOf (OR.out.trans oB)
      clear hown hz hPz oB
      go_upto_region 5 with fail
      rw [← HB.out]
      by_cases h1 : zf ≤ at_
      · have h1I : (at_ : Int) ≥ zf := by omega
        have h1J : (zf : Int) ≤ at_ := by omega
        obtain ⟨D, hD⟩ : ∃ D, D = at_ - zf := ⟨_, rfl⟩
        have hws : IntKind.u64.wrap ((at_ : Int) - zf) = (D : Int) := by rw [IntKind.wrap_u64]; omega
        rw [← hD] at FIT
        have HD := hidOf hD
        clear hD
        by_cases h2 : D < zl
        · have h2I : (D : Int) < zl := by omega
          obtain ⟨M, hM⟩ : ∃ M, M = zl - D := ⟨_, rfl⟩
          have hws2 : IntKind.u64.wrap ((zl : Int) - D) = (M : Int) := by rw [IntKind.wrap_u64]; omega
          rw [← hM] at FIT
          clear hM
          by_cases h3 : k ≤ M
          · have h3I : (k : Int) ≤ M := by omega
            have FY : Hid (fndI P at_ k = (i : Int)) := hidOf (by
              have := fnd_at HPZ.out (FIT.out.2 ⟨h1, h2, h3⟩) NO.out
              simp only [fndI, this])
            clear h1 h2 h3
            go_wp2
            go_ret
            exact ⟨by rw [FY.out]; rfl, O0.out.trans OB.out⟩
          · have h3I : ¬ (k : Int) ≤ M := by omega
            have FN : Hid (fitQ at_ k (fdR z) = false) := hidOf (by rw [Bool.eq_false_iff]; intro hc; exact h3 (FIT.out.1 hc).2.2)
            clear h1 h2 h3
            go_wp2
            go_roundw
            case rel => exact ⟨i + 1, by simp, by omega, hidOf (fun j q hj hq => by
              by_cases hji : j < i
              · exact NO.out j q hji hq
              · obtain rfl : j = i := by omega
                rw [HPZ.out] at hq; cases hq; exact FN.out), OB⟩
            case measure => simp [intOf]; omega
        · have h2I : ¬ (D : Int) < zl := by omega
          have FN : Hid (fitQ at_ k (fdR z) = false) := hidOf (by rw [Bool.eq_false_iff]; intro hc; exact h2 (FIT.out.1 hc).2.1)
          clear h1 h2
          go_wp2
          go_roundw
          case rel => exact ⟨i + 1, by simp, by omega, hidOf (fun j q hj hq => by
            by_cases hji : j < i
            · exact NO.out j q hji hq
            · obtain rfl : j = i := by omega
              rw [HPZ.out] at hq; cases hq; exact FN.out), OB⟩
          case measure => simp [intOf]; omega
      · have h1I : ¬ (at_ : Int) ≥ zf := by omega
        have h1J : ¬ (zf : Int) ≤ at_ := by omega
        have FN : Hid (fitQ at_ k (fdR z) = false) := hidOf (by rw [Bool.eq_false_iff]; intro hc; exact h1 (FIT.out.1 hc).1)
        clear h1
        go_wp2
        go_roundw
        case rel => exact ⟨i + 1, by simp, by omega, hidOf (fun j q hj hq => by
          by_cases hji : j < i
          · exact NO.out j q hji hq
          · obtain rfl : j = i := by omega
            rw [HPZ.out] at hq; cases hq; exact FN.out), OB⟩
        case measure => simp [intOf]; omega
    · have hlt : ¬ (i : Int) < n := by omega
      obtain rfl : i = n := by omega
      have FN : Hid (fndI P at_ k = -1) := hidOf (by
        have h1 : P.length = i := by rw [hP.out, List.length_map, HRN.out]
        have := fnd_no (P := P) (at_ := at_) (k := k) (fun j q hq => NO.out j q (by have := (List.getElem?_eq_some_iff.1 hq).1; omega) hq)
        simp only [fndI, this])
      go_wp2
      go_ret
      exact ⟨by rw [FN.out]; rfl, O0.out.trans OR.out⟩
theorem wide_any (w : World) (x : Int) : Calls Tryz.prog 57 #[.int .i64 x] w fun e w' => e = .returned (.int .i64 (widN x : Nat)) ∧ w' = w := by
  by_cases h8 : x = 8
  · subst h8
    go_enter Tryz.func57, Tryz.ntmps57
    go_wp2
    go_ret
    exact ⟨rfl, rfl⟩
  · by_cases h16 : x = 16
    · subst h16
      go_enter Tryz.func57, Tryz.ntmps57
      go_wp2
      go_ret
      exact ⟨rfl, rfl⟩
    · by_cases h32 : x = 32
      · subst h32
        go_enter Tryz.func57, Tryz.ntmps57
        go_wp2
        go_ret
        exact ⟨rfl, rfl⟩
      · have e : widN x = 8 := by simp [widN, h8, h16, h32]
        have b8 : (x == 8) = false := by simpa using h8
        have b16 : (x == 16) = false := by simpa using h16
        have b32 : (x == 32) = false := by simpa using h32
        go_enter Tryz.func57, Tryz.ntmps57
        go_wp2
        go_ret
        exact ⟨by rw [e]; rfl, rfl⟩
theorem numL_top {l : List UInt8} {j : Nat} {b : UInt8} (h : l[j]? = some b) : numL (l.drop j) = numL (l.drop (j + 1)) * 256 + b.toNat := by
  rw [List.drop_eq_getElem_cons (List.getElem?_eq_some_iff.1 h).1, (List.getElem?_eq_some_iff.1 h).2]
  simp only [numL]
  omega
set_option maxHeartbeats 4000000 in
set_option maxRecDepth 100000 in
theorem refLoad_any (w : World) (B0 : Nat) (a : Option Addr) (c n : Nat) (R : List Rg) (at_ : Nat) (wd : Int) (h : RLs B0 w a c n R) (hRn : R.length = n) (hb : ∀ z ∈ R, z.d.length ≤ 140737488355328 ∧ z.f < 18446744073709551616) (hn : n ≤ 4398046511104) (ha : at_ < 18446744073709551616) :
    Calls Tryz.prog 27 #[.agg #[.slice a n c], .int .u64 at_, .int .i64 wd] w fun e w' => e = .returned (.tuple #[.int .u64 ((LdQ (R.map fdR) at_ (widN wd)).1 : Nat), .int .i64 (LdQ (R.map fdR) at_ (widN wd)).2]) ∧ Out w w' := by
  obtain ⟨k, hk⟩ : ∃ k, Hid (k = widN wd) := ⟨_, rfl⟩
  have hk0 : 0 < k ∧ k ≤ 8 := by rw [hk.out]; unfold widN; (repeat' split) <;> omega
  have WC := hidOf (fun W => wide_any W wd)
  rw [← hk.out] at WC ⊢
  have FC := hidOf (fun (W : World) (o : Out w W) => refFind_any W B0 a c n R at_ k (h.out o) hRn hb hn ha (by omega))
  obtain ⟨P, hP⟩ : ∃ P, Hid (P = R.map fdR) := ⟨_, rfl⟩
  rw [← hP.out] at FC ⊢
  have HI := hidOf h
  have HB0 := hidOf hb
  have HRN := hidOf hRn
  clear h hb hRn
  obtain ⟨p, hp⟩ : ∃ p, Hid (p = w.heap.size) := ⟨_, rfl⟩
  obtain ⟨w0, H0, bp, o0⟩ : ∃ w0, Hid (w0 = w.alloc (.cells #[.slice a n c] 47)) ∧ w0.heap[p]? = some (.cells #[.slice a n c] 47 (0, 0)) ∧ Out w w0 := ⟨_, rfl, by rw [hp.out]; exact heap_alloc_new w _, (Out.refl w).alloc _⟩
  have O0 := hidOf o0
  have BP := hidOf bp
  have cp : w0.cell? ⟨p, 0, none⟩ = some (.slice a n c) := (cell_B bp 0).trans rfl
  have F1 := hidOf (FC.out w0 O0.out)
  clear o0 bp FC
  go_enter Tryz.func27, Tryz.ntmps27
  go_upto_region 1 with fail
  rw [← hp.out]
  rw [← H0.out]
  cases hf : fndO P at_ k with
  | none =>
    have hF : fndI P at_ k = -1 := by simp only [fndI, hf]
    have hL : LdQ P at_ k = (0, 200) := by simp only [LdQ, hf]
    rw [hF] at F1
    have HL := hidOf hL
    clear hF hL hf
    go_wp2_with (first | (go_at_call 57; refine (WC.out _).mono ?_; rintro e w1 ⟨rfl, hw1⟩; subst hw1) | (go_at_call 58; refine F1.out.mono ?_; rintro e w2 ⟨rfl, ho2⟩; have O2 := hidOf (O0.out.trans ho2); clear ho2))
    refine bodyPost_ret (results_tmp2 rfl _ _ _) rfl ?_
    exact ⟨by rw [HL.out]; rfl, O2.out⟩
  | some i =>
    have hF : fndI P at_ k = (i : Int) := by simp only [fndI, hf]
    obtain ⟨q, hq, hfit⟩ := fnd_some hf
    have hL : LdQ P at_ k = (numL ((q.2.drop (at_ - q.1)).take k), 0) := by simp only [LdQ, hf, hq, Option.getD_some]
    have hin : i < n := by have := (List.getElem?_eq_some_iff.1 hq).1; rw [hP.out, List.length_map, HRN.out] at this; exact this
    obtain ⟨z, hz⟩ : ∃ z, R[i]? = some z := ⟨_, List.getElem?_eq_getElem (by rw [HRN.out]; exact hin)⟩
    have hqz : q = fdR z := by
      have h1 : P[i]? = some (fdR z) := by rw [hP.out, List.getElem?_map, hz]; rfl
      rw [hq] at h1; exact Option.some.inj h1
    subst hqz
    have hft := fitQ_iff.1 hfit
    simp only [fdR] at hft hL
    have hown := HI.out.own
    obtain ⟨g, cc2, ee, _, _⟩ := hown.form (by omega)
    simp only [Value.slice.injEq] at ee
    obtain ⟨rfl, _, rfl⟩ := ee
    have q0 := (own_cellK hown (rowG_get hz).1).1
    have q1 := (own_cellK hown (rowG_get hz).2).1
    have hzb := HB0.out z (List.mem_of_getElem? hz)
    have hda := HI.out.da z (List.mem_of_getElem? hz)
    rw [daV] at q1
    obtain ⟨zb, kk, jj, _, _⟩ := (show w.ownsRow B0 5 1 (daV z) z.d.length (z.d.map byV) from hda).form (by omega)
    rw [daV] at jj
    simp only [Value.slice.injEq] at jj
    have hda2 : w.ownsRow B0 5 1 (.slice (some ⟨zb, 0, none⟩) z.d.length kk) z.d.length (z.d.map byV) := by
      have h9 : w.ownsRow B0 5 1 (daV z) z.d.length (z.d.map byV) := hda
      rw [daV, jj.1, jj.2.2] at h9; exact h9
    rw [jj.1, jj.2.2] at q1
    obtain ⟨zf, hzf⟩ : ∃ zf, Hid (zf = z.f) := ⟨_, rfl⟩
    obtain ⟨zl, hzl⟩ : ∃ zl, Hid (zl = z.d.length) := ⟨_, rfl⟩
    obtain ⟨D, hD⟩ : ∃ D, Hid (D = at_ - zf) := ⟨_, rfl⟩
    rw [← hzf.out] at q0 hft hL hzb
    rw [← hzl.out] at q1 hft hzb
    rw [← hD.out] at hft hL
    have hDk : D + k ≤ zl := by omega
    have hDb : D ≤ 140737488355328 := by omega
    have hws : IntKind.u64.wrap ((at_ : Int) - zf) = (D : Int) := by have := hD.out; rw [IntKind.wrap_u64]; omega
    have hws2 : IntKind.i64.wrap (D : Int) = (D : Int) := by rw [IntKind.wrap_i64]; omega
    have BY : Hid (∀ (j : Nat) x, ((z.d.drop D).take k)[j]? = some x → w.cell? ⟨zb, D + j, none⟩ = some (.int .u8 (x.toNat : Int))) := hidOf (fun j x hx => by
      have hjk : j < k := by have := (List.getElem?_eq_some_iff.1 hx).1; rw [List.length_take] at this; omega
      rw [List.getElem?_take, if_pos hjk, List.getElem?_drop] at hx
      exact (own_cellK hda2 (show (z.d.map byV)[D + j]? = some (byV x) by rw [List.getElem?_map, hx]; rfl)).1)
    have hsl : Hid (((z.d.drop D).take k).length = k) := hidOf (by rw [List.length_take, List.length_drop, ← hzl.out]; omega)
    obtain ⟨Sg, hSg⟩ : ∃ Sg, Hid (Sg = (z.d.drop D).take k) := ⟨_, rfl⟩
    rw [← hSg.out] at hL BY hsl
    rw [hF] at F1
    have HL := hidOf hL
    have Q0 := hidOf q0
    have Q1 := hidOf q1
    clear hF hL hf hq hfit hft hz hown q0 q1 hda hda2 jj hzb
    have hkw : IntKind.i64.wrap ((k : Int) - 1) = (k : Int) - 1 := by rw [IntKind.wrap_i64]; omega
    go_upto_region 3 with (first | (go_at_call 57; refine (WC.out _).mono ?_; rintro e w1 ⟨rfl, hw1⟩; subst hw1) | (go_at_call 58; refine F1.out.mono ?_; rintro e w2 ⟨rfl, ho2⟩; have cp2 := cell_later ho2 cp; have BP2 := hidOf (blk_out BP.out ho2); have O2 := hidOf (O0.out.trans ho2); clear ho2))
    clear cp
    have r0 := cell_later O2.out Q0.out
    have r1 := cell_later O2.out Q1.out
    have hi0 : ¬ (i : Int) < 0 := by omega
    go_upto_region 8 with fail
    clear r0 r1 cp2
    go_loopw [10, 12] (fun xv jv wr => ∃ (t X : Nat), xv = .int .u64 (X : Nat) ∧ jv = .int .i64 ((t : Int) - 1) ∧ t ≤ k ∧ Hid (X = numL (Sg.drop t)) ∧ Hid (Out w2 wr)) (fun _ jv _ => (intOf jv + 1).toNat)
    case atStart => exact ⟨k, 0, rfl, rfl, Nat.le_refl _, hidOf (by rw [List.drop_of_length_le (by rw [hsl.out]; exact Nat.le_refl _)]; rfl), hidOf (Out.refl _)⟩
    case round =>
      obtain ⟨t, X, rfl, rfl, ht, HX, OR⟩ := hrel
      have cp3 : wr.cell? ⟨p, 0, none⟩ = some (.slice (some ⟨g, 0, none⟩) n c) := (cell_B (blk_out BP2.out OR.out) 0).trans rfl
      have r1 := cell_later (O2.out.trans OR.out) Q1.out
      by_cases ht0 : 0 < t
      · obtain ⟨j, rfl⟩ : ∃ j, t = j + 1 := ⟨t - 1, by omega⟩
        have hj1 : (((j + 1 : Nat) : Int) - 1) = (j : Int) := by omega
        have hjw : IntKind.i64.wrap ((j : Int) - 1) = (j : Int) - 1 := by rw [IntKind.wrap_i64]; omega
        obtain ⟨b, hb⟩ : ∃ b, Sg[j]? = some b := ⟨_, List.getElem?_eq_getElem (by rw [hsl.out]; omega)⟩
        have rb := cell_later (O2.out.trans OR.out) (BY.out j b hb)
        have hb8 : b.toNat < 256 := b.toNat_lt
        have hX9 : X < 72057594037927936 := by
          have h1 := numL_lt (Sg.drop (j + 1))
          rw [← HX.out, List.length_drop, hsl.out] at h1
          have h2 : 2 ^ (8 * (k - (j + 1))) ≤ 2 ^ 56 := Nat.pow_le_pow_right (by decide) (by omega)
          omega
        have hnx := numL_top hb
        rw [← HX.out] at hnx
        obtain ⟨b', hb'⟩ : ∃ b', Hid (b' = b.toNat) := ⟨_, rfl⟩
        rw [← hb'.out] at rb hb8 hnx
        obtain ⟨Y, hY⟩ : ∃ Y, Hid (Y = X * 256) := ⟨_, rfl⟩
        obtain ⟨Z, hZ⟩ : ∃ Z, Hid (Z = Y + b') := ⟨_, rfl⟩
        have hw1 : IntKind.u64.wrap ((X : Int) * 256) = (Y : Int) := by have := hY.out; rw [IntKind.wrap_u64]; omega
        have hw2 : IntKind.u64.wrap (b' : Int) = (b' : Int) := by rw [IntKind.wrap_u64]; omega
        have hw3 : IntKind.u64.wrap ((Y : Int) + b') = (Z : Int) := by have := hY.out; have := hZ.out; rw [IntKind.wrap_u64]; omega
        obtain ⟨V, hV⟩ : ∃ V, Hid (V = D + j) := ⟨_, rfl⟩
        have hw4 : IntKind.i64.wrap ((D : Int) + j) = (V : Int) := by have := hV.out; rw [IntKind.wrap_i64]; omega
        have hVz : V < zl := by have := hV.out; omega
        have hVz2 : (V : Int) < zl := by omega
        rw [← hV.out] at rb
        have HNX : Hid (Z = numL (Sg.drop j)) := hidOf (by rw [hnx, hZ.out, hY.out])
        have hj0 : (0 : Int) ≤ (j : Int) := by omega
        have hj0' : (j : Int) ≥ 0 := by omega
        clear hb hnx
        rw [hj1]
        go_wp2
        go_roundw
        case rel => exact ⟨j, Z, by first | rfl | simp, by first | rfl | simp, by omega, HNX, OR⟩
        case measure => first | (simp [intOf]; done) | (simp [intOf]; omega)
      · obtain rfl : t = 0 := by omega
        have hj1 : ¬ ((((0 : Nat) : Int) - 1) ≥ 0) := by omega
        have HX0 : Hid (X = numL Sg) := hidOf (by have := HX.out; simpa using this)
        go_wp2
        refine bodyPost_ret (results_tmp2 rfl _ _ _) rfl ?_
        exact ⟨by rw [HL.out]; show _ = Ending.returned (.tuple #[.int .u64 ((numL Sg : Nat) : Int), .int .i64 0]); rw [← HX0.out]; rfl, O2.out.trans OR.out⟩
end Go.Proofs.YtekjfbmebekmeaaGreat
