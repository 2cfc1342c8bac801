import Derived.Test.YtekjfbmebekmeaaGreatGa30
import Derived.Test.YtekjfbmebekmeaaGreatGa27
namespace Go.Proofs.YtekjfbmebekmeaaGreat
open Go.RowKit
set_option linter.unusedVariables false
set_option linter.unusedSimpArgs false
set_option maxHeartbeats 8000000 in
set_option maxRecDepth 100000 in
theorem refStore_any (w : World) (B0 : Nat) (a : Option Addr) (c n : Nat) (R : List Rg) (at_ x : Nat) (wd : Int) (h : RLs B0 w a c n R) (hRn : R.length = n) (hb : ∀ z ∈ R, z.d.length ≤ 140737488355328 ∧ z.f < 18446744073709551616) (hn : n ≤ 4398046511104) (ha : at_ < 18446744073709551616) (hx : x < 18446744073709551616) :
    Calls Tryz.prog 29 #[.agg #[.slice a n c], .int .u64 at_, .int .i64 wd, .int .u64 x] w fun e w' => PutE a c n R at_ (bysN x (widN wd)) w e w' := by
  obtain ⟨i0, hi0, hz0, hz1, hz2⟩ := info_parts info8
  obtain ⟨k, hk⟩ : ∃ k, Hid (k = widN wd) := ⟨_, rfl⟩
  have hk0 : 0 < k ∧ k ≤ 8 := by rw [hk.out]; unfold widN; (repeat' split) <;> omega
  have WC := hidOf (fun W => wide_any W wd)
  rw [← hk.out] at WC ⊢
  have PC := hidOf (fun (W : World) (bc : Nat) (ba : Option Addr) (o : Out w W) (hB : RestG W ba (bysN x k)) => refPut_any W B0 a c n R at_ bc ba (bysN x k) (h.out o) hRn hb hn ha hB (by rw [bysN_len]; omega))
  rw [bysN_len] at PC
  clear h hRn hb
  obtain ⟨p, hp⟩ : ∃ p, Hid (p = w.heap.size) := ⟨_, rfl⟩
  obtain ⟨w0, H0, bp, b1, o0, s0⟩ : ∃ w0, Hid (w0 = (w.alloc (.cells #[.slice a n c] 47)).alloc (.cells #[.slice none 0 0] 47)) ∧ w0.heap[p]? = some (.cells #[.slice a n c] 47 (0, 0)) ∧ w0.heap[p + 1]? = some (.cells #[.slice none 0 0] 47 (0, 0)) ∧ Out w w0 ∧ w0.heap.size = p + 2 := by
    have s1 : (w.alloc (.cells #[.slice a n c] 47)).heap.size = p + 1 := by rw [size_alloc, hp.out]
    refine ⟨_, rfl, ?_, ?_, ((Out.refl w).alloc _).alloc _, by rw [size_alloc, s1]⟩
    · refine blk_out ?_ ((Out.refl _).alloc _)
      rw [hp.out]; exact heap_alloc_new w _
    · rw [← s1]; exact heap_alloc_new _ _
  have O0 := hidOf o0
  have BP := hidOf bp
  have B1 := hidOf b1
  clear o0 bp b1 s0
  go_enter Tryz.func29, Tryz.ntmps29
  go_upto_region 1 with fail
  rw [← hp.out]
  rw [← H0.out]
  go_wp2
  go_loopw [3, 10, 11] (fun xv bv jv wr => ∃ (j y oc : Nat) (oa : Option Addr), xv = .int .u64 (y : Nat) ∧ bv = .slice oa j oc ∧ jv = .int .i64 (j : Nat) ∧ j ≤ k ∧ Hid (y = x / 2 ^ (8 * j)) ∧ Hid (wr.ownsRow w0.heap.size 5 1 (.slice oa j oc) j ((bysN x j).map byV)) ∧ Hid (Out w0 wr)) (fun _ _ jv _ => k - (intOf jv).toNat)
  case atStart => exact ⟨0, x, 0, none, rfl, rfl, rfl, Nat.zero_le _, hidOf (by simp), hidOf (World.ownsRow_nil _ _ _ _), hidOf (Out.refl _)⟩
  case round =>
    obtain ⟨j, y, oc, oa, rfl, rfl, rfl, hj, HY, OWN, OR⟩ := hrel
    by_cases hjk : j < k
    · have hlt : (j : Int) < k := by omega
      have hy64 : y < 18446744073709551616 := by rw [HY.out]; exact Nat.lt_of_le_of_lt (Nat.div_le_self _ _) hx
      obtain ⟨v, hv⟩ : ∃ v, Hid (v = y % 256) := ⟨_, rfl⟩
      obtain ⟨y2, hy2⟩ : ∃ y2, Hid (y2 = y / 256) := ⟨_, rfl⟩
      have hw8 : (y : Int) % 256 = (v : Int) := by have := hv.out; omega
      have hwq : IntKind.u64.wrap ((y : Int) / 256) = (y2 : Int) := by have := hy2.out; rw [IntKind.wrap_u64]; omega
      have HY2 : Hid (y2 = x / 2 ^ (8 * (j + 1))) := hidOf (by rw [hy2.out, HY.out, Nat.div_div_eq_div_mul, show 2 ^ (8 * (j + 1)) = 2 ^ (8 * j) * 256 by rw [show 8 * (j + 1) = 8 * j + 8 by omega, Nat.pow_add]])
      obtain ⟨wC, HC, bC, oC⟩ : ∃ wC, Hid (wC = wr.alloc (.cells #[.int .u8 (v : Int)] 5)) ∧ wC.heap[wr.heap.size]? = some (.cells #[.int .u8 (v : Int)] 5 (0, 0)) ∧ Out wr wC := ⟨_, rfl, heap_alloc_new wr _, (Out.refl wr).alloc _⟩
      obtain ⟨v2, w4, hap, hown2, hgr2, _, _⟩ := run_append_own_at (P := Tryz.prog) (ty := 29) wC w0.heap.size 29 5 i0 _ 1 1 Tryz.underlying29 hi0 hz0 hz1 hz2 rfl (by decide) (.slice oa j oc) j ((bysN x j).map byV) (own_out OWN.out oC) ⟨wr.heap.size, 0, none⟩ 1 1 [.int .u8 (v : Int)] rfl (fun q u hq => by rw [add_B, Nat.zero_add]; match q, hq with | 0, hq => cases hq; exact (cell_B bC 0).trans rfl) (by intro u hu; simp at hu; subst hu; rfl) (by simp only [maxLen]; omega) (by omega) (OR.out.trans oC).size
      obtain ⟨a2, c2, rfl, _, _⟩ := own_slice hown2
      have hc2 : Chg (fun b => (Value.slice oa j oc).ownBlock = some b) wC w4 := Chg.of_grown hgr2 (fun q hq => hq)
      have O4 : Hid (Out w0 w4) := hidOf (Chg.out hc2 (OR.out.trans oC) (fun b hb => ((own_out OWN.out oC).lt b hb).1))
      have OWN4 : Hid (w4.ownsRow w0.heap.size 5 1 (.slice a2 (j + 1 : Nat) c2) (j + 1) ((bysN x (j + 1)).map byV)) := hidOf (by
        have e : (bysN x (j + 1)).map byV = (bysN x j).map byV ++ [.int .u8 (v : Int)] := by
          show (bysN x j ++ [UInt8.ofNat (x / 2 ^ (8 * j) % 256)]).map byV = _
          rw [List.map_append, List.map_cons, List.map_nil, byV_ofNat _ (Nat.mod_lt _ (by decide)), ← HY.out, ← hv.out]
        rw [e]; exact hown2)
      have HAP := hidOf hap
      clear bC oC hap hown2 hgr2 hc2
      go_wp2_with (first | (go_at_call 57; refine (WC.out _).mono ?_; rintro e w1 ⟨rfl, hw1⟩; subst hw1) | (at_builtin; rw [← HC.out]; refine Lib.wpList_append_run _ rfl _ _ _ _ rfl _ _ rfl rfl _ _ HAP.out ?_))
      go_roundw
      case rel => exact ⟨j + 1, y2, c2, a2, by first | rfl | simp, by first | rfl | simp, by simp, by omega, HY2, OWN4, O4⟩
      case measure => simp [intOf]; omega
    · have hlt : ¬ (j : Int) < k := by omega
      obtain rfl : j = k := by omega
      have hrg : RestG wr oa (bysN x j) := by
        obtain ⟨g, cc, e, _, _⟩ := OWN.out.form (by omega)
        simp only [Value.slice.injEq] at e
        obtain ⟨rfl, _, rfl⟩ := e
        exact RestG.own OWN.out
      have P1 := hidOf (PC.out wr oc oa (O0.out.trans OR.out) hrg)
      have cp := (cell_B (blk_out BP.out OR.out) 0).trans (show (#[Value.slice a n c] : Array Value)[0]? = some (.slice a n c) from rfl)
      have B2 := hidOf (blk_out B1.out OR.out)
      clear hrg
      go_upto_region 7 with (go_at_call 57; refine (WC.out _).mono ?_; rintro e w1 ⟨rfl, hw1⟩; subst hw1)
      go_wp2_with (go_at_call 34; refine P1.out.mono ?_; rintro e w2 ⟨ho2, (⟨hq, rfl⟩ | ⟨a', c', R', rfl, hrl, hq⟩)⟩ <;> (have HQ := hidOf hq; have O2 := hidOf ho2; have c9 := (cell_B (blk_out B2.out ho2) 0).trans (show (#[Value.slice none 0 0] : Array Value)[0]? = some (.slice none 0 0) from rfl); have z9 := froz_B (blk_out B2.out ho2) 0; clear hq ho2))
      · have KB := hidOf (blk_out B2.out O2.out)
        have CT := (Chg.refl (fun b => b = p + 1) w2).setCell (p := ⟨p + 1, 0, none⟩) rfl (.slice a n c)
        refine bodyPost_ret (results_cell2 rfl _ _ (p + 1) 47 _ (0, 0) _ rfl (set_B KB.out 0 _) Tryz.underlying47 rfl (by kernel_rfl)) rfl ?_
        exact ⟨Chg.out CT ((O0.out.trans OR.out).trans O2.out) (fun b hb => by have := hp.out; omega), .inl ⟨HQ.out, rfl⟩⟩
      · have KB := hidOf (blk_out B2.out O2.out)
        have CT := (Chg.refl (fun b => b = p + 1) w2).setCell (p := ⟨p + 1, 0, none⟩) rfl (.slice a' n c')
        refine bodyPost_ret (results_cell2 rfl _ _ (p + 1) 47 _ (0, 0) _ rfl (set_B KB.out 0 _) Tryz.underlying47 rfl (by kernel_rfl)) rfl ?_
        exact ⟨Chg.out CT ((O0.out.trans OR.out).trans O2.out) (fun b hb => by have := hp.out; omega), .inr ⟨a', c', R', rfl, (hrl.chgT KB.out CT).base (O0.out.trans OR.out).size, HQ.out⟩⟩
def ByE (P : List (Nat × List UInt8)) (at_ : Nat) (N : Int) (w : World) (e : Ending) (w' : World) : Prop :=
  ∃ v, e = .returned (.tuple #[v, .int .i64 (ByQ P at_ N).2]) ∧ w'.ownsRow w.heap.size 5 1 v (ByQ P at_ N).1.length ((ByQ P at_ N).1.map byV) ∧ Out w w'
set_option maxHeartbeats 8000000 in
set_option maxRecDepth 100000 in
theorem refBytes_any (w : World) (B0 : Nat) (a : Option Addr) (c n : Nat) (R : List Rg) (at_ : Nat) (N : Int) (h : RLs B0 w a c n R) (hRn : R.length = n) (hb : ∀ z ∈ R, z.d.length ≤ 140737488355328 ∧ z.f < 18446744073709551616) (hn : n ≤ 4398046511104) (ha : at_ < 18446744073709551616) (hN : -9223372036854775808 ≤ N ∧ N < 9223372036854775808) :
    Calls Tryz.prog 31 #[.agg #[.slice a n c], .int .u64 at_, .int .i64 N] w fun e w' => ByE (R.map fdR) at_ N w e w' := by
  obtain ⟨p, hp⟩ : ∃ p, Hid (p = w.heap.size) := ⟨_, rfl⟩
  obtain ⟨w0, H0, bp, o0⟩ : ∃ w0, Hid (w0 = w.alloc (.cells #[.slice a n c] 47)) ∧ w0.heap[p]? = some (.cells #[.slice a n c] 47 (0, 0)) ∧ Out w w0 := ⟨_, rfl, by rw [hp.out]; exact heap_alloc_new w _, (Out.refl w).alloc _⟩
  have O0 := hidOf o0
  have cp : w0.cell? ⟨p, 0, none⟩ = some (.slice a n c) := (cell_B bp 0).trans rfl
  have BP := hidOf bp
  clear o0 bp
  by_cases h0 : N = 0
  · subst h0
    clear h hRn hb
    go_enter Tryz.func31, Tryz.ntmps31
    go_upto_region 1 with fail
    rw [← hp.out]
    rw [← H0.out]
    go_wp2
    refine bodyPost_ret (results_tmp2 rfl _ _ _) rfl ?_
    exact ⟨.slice none 0 0, rfl, World.ownsRow_nil _ _ _ _, O0.out⟩
  · have h0b : (N == 0) = false := by rw [beq_eq_false_iff_ne]; exact h0
    by_cases hneg : N < 0
    · have HQ : Hid (ByQ (R.map fdR) at_ N = ([], 200)) := hidOf (by simp [ByQ, h0, hneg])
      clear h hRn hb
      go_enter Tryz.func31, Tryz.ntmps31
      go_upto_region 1 with fail
      rw [← hp.out]
      rw [← H0.out]
      go_wp2
      refine bodyPost_ret (results_tmp2 rfl _ _ _) rfl ?_
      unfold ByE
      rw [HQ.out]
      exact ⟨.slice none 0 0, rfl, World.ownsRow_nil _ _ _ _, O0.out⟩
    · obtain ⟨k, rfl⟩ : ∃ k : Nat, N = (k : Int) := ⟨N.toNat, by omega⟩
      have hk0 : 0 < k := by omega
      have FC := hidOf (fun (W : World) (o : Out w W) => refFind_any W B0 a c n R at_ k (h.out o) hRn hb hn ha (by omega))
      obtain ⟨P, hP⟩ : ∃ P, Hid (P = R.map fdR) := ⟨_, rfl⟩
      rw [← hP.out] at FC
      have HI := hidOf h
      have HB0 := hidOf hb
      have HRN := hidOf hRn
      clear h hRn hb
      have F1 := hidOf (FC.out w0 O0.out)
      cases hf : fndO P at_ k with
      | none =>
        have hF : fndI P at_ k = -1 := by simp only [fndI, hf]
        have HQ : Hid (ByQ P at_ (k : Int) = ([], 200)) := hidOf (by simp only [ByQ, if_neg h0, if_neg hneg, Int.toNat_natCast, hf])
        rw [hF] at F1
        clear hF hf FC h0 hneg
        go_enter Tryz.func31, Tryz.ntmps31
        go_upto_region 1 with fail
        rw [← hp.out]
        rw [← H0.out]
        go_wp2_with (go_at_call 58; refine F1.out.mono ?_; rintro e w2 ⟨rfl, ho2⟩; have O2 := hidOf (O0.out.trans ho2); clear ho2)
        refine bodyPost_ret (results_tmp2 rfl _ _ _) rfl ?_
        unfold ByE
        rw [← hP.out, HQ.out]
        exact ⟨.slice none 0 0, rfl, World.ownsRow_nil _ _ _ _, O2.out⟩
      | some i =>
        have hF : fndI P at_ k = (i : Int) := by simp only [fndI, hf]
        obtain ⟨q, hq, hfit⟩ := fnd_some hf
        have hQ : ByQ P at_ (k : Int) = ((q.2.drop (at_ - q.1)).take k, 0) := by simp only [ByQ, if_neg h0, if_neg hneg, Int.toNat_natCast, hf, hq, Option.getD_some]
        have hin : i < n := by have := (List.getElem?_eq_some_iff.1 hq).1; rw [hP.out, List.length_map, HRN.out] at this; exact this
        have hi0 : ¬ (i : Int) < 0 := by omega
        have hi0b : decide ((i : Int) < 0) = false := decide_eq_false hi0
        have hft := fitQ_iff.1 hfit
        obtain ⟨z, hz⟩ : ∃ z, R[i]? = some z := ⟨_, List.getElem?_eq_getElem (by rw [HRN.out]; exact hin)⟩
        have hqz : q = fdR z := by
          have h1 : P[i]? = some (fdR z) := by rw [hP.out, List.getElem?_map, hz]; rfl
          rw [hq] at h1; exact Option.some.inj h1
        subst hqz
        simp only [fdR] at hft hQ
        have hown := HI.out.own
        obtain ⟨g, cc2, ee, _, _⟩ := hown.form (by omega)
        simp only [Value.slice.injEq] at ee
        obtain ⟨rfl, _, rfl⟩ := ee
        have q0 := (own_cellK hown (rowG_get hz).1).1
        have q1 := (own_cellK hown (rowG_get hz).2).1
        have hzb := HB0.out z (List.mem_of_getElem? hz)
        rw [daV] at q1
        have hda : w.ownsRow B0 5 1 (daV z) z.d.length (z.d.map byV) := HI.out.da z (List.mem_of_getElem? hz)
        obtain ⟨zb, kk, jj, _, _⟩ := hda.form (by omega)
        rw [daV] at jj
        simp only [Value.slice.injEq] at jj
        rw [daV, jj.1, jj.2.2] at hda
        have hzk : z.d.length ≤ kk := by obtain ⟨cl, _, _, hnc, _⟩ := owns_blk hda; exact hnc
        rw [jj.1, jj.2.2] at q1
        obtain ⟨zf, hzf⟩ : ∃ zf, Hid (zf = z.f) := ⟨_, rfl⟩
        obtain ⟨zl, hzl⟩ : ∃ zl, Hid (zl = z.d.length) := ⟨_, rfl⟩
        obtain ⟨D, hD⟩ : ∃ D, Hid (D = at_ - zf) := ⟨_, rfl⟩
        rw [← hzf.out] at q0 hft hQ hzb
        rw [← hzl.out] at q1 hft hzb hzk
        rw [← hD.out] at hft hQ
        obtain ⟨V, hV⟩ : ∃ V, Hid (V = D + k) := ⟨_, rfl⟩
        obtain ⟨cr, hcr⟩ : ∃ cr, Hid (cr = kk - D) := ⟨_, rfl⟩
        have hDz : D ≤ 140737488355328 := by omega
        have hkz : k ≤ 140737488355328 := by omega
        have hVz : V ≤ zl := by have := hV.out; omega
        have hVk : V ≤ kk := by omega
        have hVk2 : (V : Int) ≤ kk := by omega
        have hDV : D ≤ V := by have := hV.out; omega
        have hDV2 : (D : Int) ≤ V := by omega
        have hVD : V - D = k := by have := hV.out; omega
        have hkD : kk - D = cr := hcr.out.symm
        have hDk : ¬ kk = D := by omega
        have hws : IntKind.u64.wrap ((at_ : Int) - zf) = (D : Int) := by have := hD.out; rw [IntKind.wrap_u64]; omega
        have hws2 : IntKind.i64.wrap (D : Int) = (D : Int) := by rw [IntKind.wrap_i64]; omega
        have hws3 : IntKind.i64.wrap ((D : Int) + k) = (V : Int) := by have := hV.out; rw [IntKind.wrap_i64]; omega
        have RST : Hid (RestA w (some ⟨zb, D, none⟩) ((z.d.drop D).take k)) := hidOf (rest_own hda D _ (fun j x hx => by
          have hjk : j < k := by have := (List.getElem?_eq_some_iff.1 hx).1; rw [List.length_take] at this; omega
          rw [List.getElem?_take, if_pos hjk, List.getElem?_drop] at hx
          exact hx))
        obtain ⟨Sg, hSg⟩ : ∃ Sg, Hid (Sg = (z.d.drop D).take k) := ⟨_, rfl⟩
        have hsl : Hid (Sg.length = k) := hidOf (by rw [hSg.out, List.length_take, List.length_drop, ← hzl.out]; omega)
        rw [← hSg.out] at RST hQ
        have HQ := hidOf hQ
        rw [hF] at F1
        have F2 : Hid (∀ W, Out w W → Calls Tryz.prog 58 #[.agg #[.slice (some ⟨g, 0, none⟩) n c], .int .u64 at_, .int .i64 k] W fun e w' => e = .returned (.int .i64 (i : Int)) ∧ Out W w') := hidOf (fun W o => by have h9 := FC.out W o; rw [hF] at h9; exact h9)
        have Q0 := hidOf q0
        have Q1 := hidOf q1
        clear hF hQ hf hq hfit hft hz hown q0 q1 hda jj hzb h0 hneg FC
        go_enter Tryz.func31, Tryz.ntmps31
        go_upto_region 1 with fail
        rw [← hp.out]
        rw [← H0.out]
        go_upto_region 5 with (go_at_call 58; refine F1.out.mono ?_; rintro e w2 ⟨rfl, ho2⟩; have O2 := hidOf (O0.out.trans ho2); have cp2 := cell_later ho2 cp; clear ho2)
        have r0 := cell_later O2.out Q0.out
        have r1 := cell_later O2.out Q1.out
        clear cp
        refine wp_region_held_drew (S := (fun w' => w'.cell? ⟨p, 0, none⟩ = some (.slice (some ⟨g, 0, none⟩) n c) ∧ w'.cell? ⟨g, i * 2, none⟩ = some (.int .u64 zf) ∧ w'.cell? ⟨g, i * 2 + 1, none⟩ = some (.slice (some ⟨zb, 0, none⟩) zl kk))) (by kernel_rfl) ?_ (fun hHeld => ?_)
        · exact ⟨cp2, r0, r1⟩
        refine wpAnyH_take (i := 0) (v := ?_) rfl (by kernel_rfl) (by kernel_rfl) (by kernel_rfl) (fun _ _ _ h => h) (Or.inl ⟨by rfl, ?_⟩) (by assumption) ?_
        rotate_left
        · (intro w hSw; (try dsimp only at hSw); go_simp; (try with_reducible rfl))
        show wpAnyH _ _ _ _ _ _ _ (Act.put _ (some 21) _) _
        simp only [Act.put, List.setIfInBounds_toArray, List.set_cons_zero, List.set_cons_succ]
        refine wpAnyH_take (i := 1) (v := ?_) rfl (by kernel_rfl) (by kernel_rfl) (by kernel_rfl) (fun _ _ _ h => h) (Or.inl ⟨by rfl, ?_⟩) (by assumption) ?_
        rotate_left
        · (intro w hSw; (try dsimp only at hSw); go_simp; (try with_reducible rfl))
        show wpAnyH _ _ _ _ _ _ _ (Act.put _ (some 22) _) _
        simp only [Act.put, List.setIfInBounds_toArray, List.set_cons_zero, List.set_cons_succ]
        refine wpAnyH_take (i := 2) (v := ?_) rfl (by kernel_rfl) (by kernel_rfl) (by kernel_rfl) (fun _ _ _ h => h) (Or.inl ⟨by rfl, ?_⟩) (by assumption) ?_
        rotate_left
        · (intro w hSw; (try dsimp only at hSw); go_simp; (try with_reducible rfl))
        show wpAnyH _ _ _ _ _ _ _ (Act.put _ (some 23) _) _
        simp only [Act.put, List.setIfInBounds_toArray, List.set_cons_zero, List.set_cons_succ]
        refine wpAnyH_take (i := 3) (v := ?_) rfl (by kernel_rfl) (by kernel_rfl) (by kernel_rfl) (fun _ _ _ h => h) (Or.inl ⟨by rfl, ?_⟩) (by assumption) ?_
        rotate_left
        · (intro w hSw; (try dsimp only at hSw); go_simp; (try with_reducible rfl))
        show wpAnyH _ _ _ _ _ _ _ (Act.put _ (some 24) _) _
        simp only [Act.put, List.setIfInBounds_toArray, List.set_cons_zero, List.set_cons_succ]
        refine wpAnyH_take (i := 4) (v := ?_) rfl (by kernel_rfl) (by kernel_rfl) (by kernel_rfl) (fun _ _ _ h => h) (Or.inl ⟨by rfl, ?_⟩) (by assumption) ?_
        rotate_left
        · (intro w hSw; (try dsimp only at hSw); go_simp; (try with_reducible rfl))
        show wpAnyH _ _ _ _ _ _ _ (Act.put _ (some 25) _) _
        simp only [Act.put, List.setIfInBounds_toArray, List.set_cons_zero, List.set_cons_succ]
        refine wpAnyH_ready (rs := [5, 8]) (by kernel_rfl) (by simp) ?_
        refine (AllReadyH.cons rfl (fun Ko5 hKo5 => ?_) (AllReadyH.cons rfl (fun Ko8 hKo8 => ?_) AllReadyH.nil))
        · rw [if_pos (by rfl)]
          go_simp
          go_at_call 58
          refine (F2.out _ (O2.out.trans ((Out.refl w2).drew))).mono ?_
          rintro e w3 ⟨rfl, ho3⟩
          have O3 : Hid (Out w2 w3) := hidOf ((((Out.refl w2).drew)).trans ho3)
          have t0 := cell_later O3.out cp2
          have t1 := cell_later O3.out r0
          have t2 := cell_later O3.out r1
          clear ho3
          refine hKo5.out _ _ ⟨t0, t1, t2⟩ (fun hHeld5 => ?_)
          try simp only [Act.put, List.setIfInBounds_toArray, List.set_cons_zero, List.set_cons_succ]
          refine wpAnyH_take (i := 6) (v := ?_) rfl (by kernel_rfl) (by kernel_rfl) (by kernel_rfl) (fun _ _ _ h => h) (Or.inl ⟨by rfl, ?_⟩) (by assumption) ?_
          rotate_left
          · (intro w hSw; (try dsimp only at hSw); go_simp; (try with_reducible rfl))
          show wpAnyH _ _ _ _ _ _ _ (Act.put _ (some 27) _) _
          simp only [Act.put, List.setIfInBounds_toArray, List.set_cons_zero, List.set_cons_succ]
          refine wpAnyH_take (i := 7) (v := ?_) rfl (by kernel_rfl) (by kernel_rfl) (by kernel_rfl) (fun _ _ _ h => h) (Or.inl ⟨by rfl, ?_⟩) (by assumption) ?_
          rotate_left
          · (intro w hSw; (try dsimp only at hSw); go_simp; (try with_reducible rfl))
          show wpAnyH _ _ _ _ _ _ _ (Act.put _ (some 28) _) _
          simp only [Act.put, List.setIfInBounds_toArray, List.set_cons_zero, List.set_cons_succ]
          refine wpAnyH_ready (rs := [8]) (by kernel_rfl) (by simp) ?_
          refine (AllReadyH.cons rfl (fun Ko8 hKo8 => ?_) AllReadyH.nil)
          rw [if_pos (by rfl)]
          go_simp
          obtain ⟨wA, HA, hA⟩ : ∃ wA, Hid (wA = w3.alloc (.cells #[.int .u64 0, .slice none 0 0] 36)) ∧ Hid (wA.heap[w3.heap.size]? = some (.cells #[.int .u64 0, .slice none 0 0] 36 (0, 0))) := ⟨_, rfl, hidOf (heap_alloc_new w3 _)⟩
          have OA : Hid (Out w2 wA) := hidOf (O3.out.trans (by rw [HA.out]; exact (Out.refl w3).alloc _))
          rw [← HA.out]
          obtain ⟨q4, hq4⟩ : ∃ q4, Hid (q4 = w3.heap.size) := ⟨_, rfl⟩
          have hqr : Hid (w2.heap.size ≤ q4) := hidOf (by rw [hq4.out]; exact O3.out.size)
          have bA := hA
          rw [← hq4.out] at bA
          rw [← hq4.out]
          refine hKo8.out _ _ ⟨cell_later OA.out cp2, cell_later OA.out r0, cell_later OA.out r1⟩ (fun hHeld8 => ?_)
          try simp only [Act.put, List.setIfInBounds_toArray, List.set_cons_zero, List.set_cons_succ]
          refine wpAnyH_ready (rs := [9]) (by kernel_rfl) (by simp) ?_
          refine (AllReadyH.cons rfl (fun Ko9 hKo9 => ?_) AllReadyH.nil)
          have zq0 : wA.frozen? ⟨q4, 0, none⟩ = false := froz_B bA.out 0
          have zq1 : wA.frozen? ⟨q4, 1, none⟩ = false := froz_B bA.out 1
          have zc0 : wA.cell? ⟨q4, 0, none⟩ = some (.int .u64 0) := (cell_B bA.out 0).trans rfl
          have zc1 : wA.cell? ⟨q4, 1, none⟩ = some (.slice none 0 0) := (cell_B bA.out 1).trans rfl
          rw [if_pos (by rfl)]
          go_simp
          obtain ⟨wS, HS, bS, cS⟩ : ∃ wS, Hid (wS = (wA.setCell ⟨q4, 0, none⟩ (.int .u64 zf)).setCell ⟨q4, 1, none⟩ (.slice (some ⟨zb, 0, none⟩) zl kk)) ∧ wS.heap[q4]? = some (.cells #[.int .u64 zf, .slice (some ⟨zb, 0, none⟩) zl kk] 36 (0, 0)) ∧ Chg (fun b => b = q4) wA wS := ⟨_, rfl, set_B (set_B bA.out 0 _) 1 _, chg_two _ _ _ _ _ _⟩
          rw [← HS.out]
          have OS : Hid (Out w2 wS) := hidOf (Chg.out cS OA.out (fun b hb => by have := hqr.out; omega))
          have BS := hidOf bS
          clear cS bS zq0 zq1 zc0 zc1
          refine hKo9.out _ _ ⟨cell_later OS.out cp2, cell_later OS.out r0, cell_later OS.out r1⟩ (fun hHeld9 => ?_)
          try simp only [Act.put, List.setIfInBounds_toArray, List.set_cons_zero, List.set_cons_succ]
          refine wpAnyH_done (by kernel_rfl) ?_ _
          have u0 : wS.cell? ⟨q4, 0, none⟩ = some (.int .u64 zf) := (cell_B BS.out 0).trans rfl
          have u1 : wS.cell? ⟨q4, 1, none⟩ = some (.slice (some ⟨zb, 0, none⟩) zl kk) := (cell_B BS.out 1).trans rfl
          obtain ⟨x, W1, hap, hxf, hxd, hda, ho1⟩ := append_nil8 wS (some ⟨zb, D, none⟩) cr 0 Sg (RST.out.out (O2.out.trans OS.out)) (by rw [hsl.out]; exact hkz)
          rw [hsl.out] at hap
          have HAP := hidOf hap
          have HDA := hidOf hda
          have HXD := hidOf hxd
          have OW := hidOf ((O2.out.trans OS.out).trans ho1)
          have hsz : Hid (w.heap.size ≤ wS.heap.size) := hidOf (O2.out.trans OS.out).size
          clear hap hda hxd hxf ho1 t0 t1 t2
          go_wp2_with (at_builtin; refine Lib.wpList_append_run _ rfl _ _ _ _ rfl _ _ rfl rfl _ _ (HAP.out _) ?_)
          refine bodyPost_ret (results_tmp2 rfl _ _ _) rfl ?_
          unfold ByE
          rw [← hP.out, HQ.out]
          have h8 := HDA.out
          unfold DaI at h8
          rw [HXD.out] at h8
          exact ⟨daV x, by rw [daV, HXD.out, hsl.out]; rfl, own_base h8 hsz.out, OW.out⟩
        · rw [if_pos (by rfl)]
          go_simp
          obtain ⟨wA, HA, hA⟩ : ∃ wA, Hid (wA = (w2.alloc (.cells #[.int .u64 0, .slice none 0 0] 36)).drew) ∧ Hid (wA.heap[w2.heap.size]? = some (.cells #[.int .u64 0, .slice none 0 0] 36 (0, 0))) := ⟨_, rfl, hidOf (heap_alloc_new w2 _)⟩
          have bA := hA
          have OA : Hid (Out w2 wA) := hidOf (by rw [HA.out]; exact ((Out.refl w2).alloc _).drew)
          rw [← HA.out]
          obtain ⟨q4, hq4⟩ : ∃ q4, Hid (q4 = w2.heap.size) := ⟨_, rfl⟩
          have hqr : Hid (w2.heap.size ≤ q4) := hidOf (by rw [hq4.out]; exact Nat.le_refl _)
          rw [← hq4.out] at bA
          rw [← hq4.out]
          refine hKo8.out _ _ ⟨cell_later OA.out cp2, cell_later OA.out r0, cell_later OA.out r1⟩ (fun hHeld8 => ?_)
          try simp only [Act.put, List.setIfInBounds_toArray, List.set_cons_zero, List.set_cons_succ]
          refine wpAnyH_ready (rs := [5]) (by kernel_rfl) (by simp) ?_
          refine (AllReadyH.cons rfl (fun Ko5 hKo5 => ?_) AllReadyH.nil)
          rw [if_pos (by rfl)]
          go_simp
          go_at_call 58
          refine (F2.out _ (O2.out.trans OA.out)).mono ?_
          rintro e w3 ⟨rfl, ho3⟩
          have O3 : Hid (Out w2 w3) := hidOf ((OA.out).trans ho3)
          have t0 := cell_later O3.out cp2
          have t1 := cell_later O3.out r0
          have t2 := cell_later O3.out r1
          have bA3 := blk_out bA.out ho3
          clear ho3
          refine hKo5.out _ _ ⟨t0, t1, t2⟩ (fun hHeld5 => ?_)
          try simp only [Act.put, List.setIfInBounds_toArray, List.set_cons_zero, List.set_cons_succ]
          refine wpAnyH_take (i := 6) (v := ?_) rfl (by kernel_rfl) (by kernel_rfl) (by kernel_rfl) (fun _ _ _ h => h) (Or.inl ⟨by rfl, ?_⟩) (by assumption) ?_
          rotate_left
          · (intro w hSw; (try dsimp only at hSw); go_simp; (try with_reducible rfl))
          show wpAnyH _ _ _ _ _ _ _ (Act.put _ (some 27) _) _
          simp only [Act.put, List.setIfInBounds_toArray, List.set_cons_zero, List.set_cons_succ]
          refine wpAnyH_take (i := 7) (v := ?_) rfl (by kernel_rfl) (by kernel_rfl) (by kernel_rfl) (fun _ _ _ h => h) (Or.inl ⟨by rfl, ?_⟩) (by assumption) ?_
          rotate_left
          · (intro w hSw; (try dsimp only at hSw); go_simp; (try with_reducible rfl))
          show wpAnyH _ _ _ _ _ _ _ (Act.put _ (some 28) _) _
          simp only [Act.put, List.setIfInBounds_toArray, List.set_cons_zero, List.set_cons_succ]
          refine wpAnyH_ready (rs := [9]) (by kernel_rfl) (by simp) ?_
          refine (AllReadyH.cons rfl (fun Ko9 hKo9 => ?_) AllReadyH.nil)
          have zq0 : w3.frozen? ⟨q4, 0, none⟩ = false := froz_B bA3 0
          have zq1 : w3.frozen? ⟨q4, 1, none⟩ = false := froz_B bA3 1
          have zc0 : w3.cell? ⟨q4, 0, none⟩ = some (.int .u64 0) := (cell_B bA3 0).trans rfl
          have zc1 : w3.cell? ⟨q4, 1, none⟩ = some (.slice none 0 0) := (cell_B bA3 1).trans rfl
          rw [if_pos (by rfl)]
          go_simp
          obtain ⟨wS, HS, bS, cS⟩ : ∃ wS, Hid (wS = (w3.setCell ⟨q4, 0, none⟩ (.int .u64 zf)).setCell ⟨q4, 1, none⟩ (.slice (some ⟨zb, 0, none⟩) zl kk)) ∧ wS.heap[q4]? = some (.cells #[.int .u64 zf, .slice (some ⟨zb, 0, none⟩) zl kk] 36 (0, 0)) ∧ Chg (fun b => b = q4) w3 wS := ⟨_, rfl, set_B (set_B bA3 0 _) 1 _, chg_two _ _ _ _ _ _⟩
          rw [← HS.out]
          have OS : Hid (Out w2 wS) := hidOf (Chg.out cS O3.out (fun b hb => by have := hqr.out; omega))
          have BS := hidOf bS
          clear cS bS zq0 zq1 zc0 zc1
          refine hKo9.out _ _ ⟨cell_later OS.out cp2, cell_later OS.out r0, cell_later OS.out r1⟩ (fun hHeld9 => ?_)
          try simp only [Act.put, List.setIfInBounds_toArray, List.set_cons_zero, List.set_cons_succ]
          refine wpAnyH_done (by kernel_rfl) ?_ _
          have u0 : wS.cell? ⟨q4, 0, none⟩ = some (.int .u64 zf) := (cell_B BS.out 0).trans rfl
          have u1 : wS.cell? ⟨q4, 1, none⟩ = some (.slice (some ⟨zb, 0, none⟩) zl kk) := (cell_B BS.out 1).trans rfl
          obtain ⟨x, W1, hap, hxf, hxd, hda, ho1⟩ := append_nil8 wS (some ⟨zb, D, none⟩) cr 0 Sg (RST.out.out (O2.out.trans OS.out)) (by rw [hsl.out]; exact hkz)
          rw [hsl.out] at hap
          have HAP := hidOf hap
          have HDA := hidOf hda
          have HXD := hidOf hxd
          have OW := hidOf ((O2.out.trans OS.out).trans ho1)
          have hsz : Hid (w.heap.size ≤ wS.heap.size) := hidOf (O2.out.trans OS.out).size
          clear hap hda hxd hxf ho1 t0 t1 t2
          go_wp2_with (at_builtin; refine Lib.wpList_append_run _ rfl _ _ _ _ rfl _ _ rfl rfl _ _ (HAP.out _) ?_)
          refine bodyPost_ret (results_tmp2 rfl _ _ _) rfl ?_
          unfold ByE
          rw [← hP.out, HQ.out]
          have h8 := HDA.out
          unfold DaI at h8
          rw [HXD.out] at h8
          exact ⟨daV x, by rw [daV, HXD.out, hsl.out]; rfl, own_base h8 hsz.out, OW.out⟩
end Go.Proofs.YtekjfbmebekmeaaGreat
