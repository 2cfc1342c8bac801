import Derived.Test.YtekjfbmebekmeaaGreatGc33
namespace Go.Proofs.YtekjfbmebekmeaaGreat
open Go.RowKit
set_option linter.unusedVariables false
set_option linter.unusedSimpArgs false
set_option maxHeartbeats 8000000 in
set_option maxRecDepth 100000 in
/-- the document's own Store -/
theorem refStore_any (w : World) (B0 : Nat) (a : Option Addr) (c n : Nat) (R : List Rg) (at_ x : Nat) (wd : Int) (h : RLs B0 w a c n R) (hRn : R.length = n) (hb : ∀ z ∈ R, z.d.length ≤ 140737488355328 ∧ z.f < 18446744073709551616) (hn : n ≤ 4398046511104) (ha : at_ < 18446744073709551616) (hx : x < 18446744073709551616) :
    Calls Tryz.prog 29 #[.agg #[.slice a n c], .int .u64 at_, .int .i64 wd, .int .u64 x] w fun e w' => PutE a c n R at_ (bysN x (widN wd)) w e w' := by
  obtain ⟨i0, hi0, hz0, hz1, hz2⟩ := info_parts info8
  obtain ⟨k, hk⟩ : ∃ k, Hid (k = widN wd) := ⟨_, rfl⟩
  have hk0 : 0 < k ∧ k ≤ 8 := by rw [hk.out]; unfold widN; (repeat' split) <;> omega
  have WC := hidOf (fun W => wide_any W wd)
  rw [← hk.out] at WC ⊢
  have PC := hidOf (fun (W : World) (bc : Nat) (ba : Option Addr) (o : Out w W) (hB : RestG W ba (bysN x k)) => refPut_any W B0 a c n R at_ bc ba (bysN x k) (h.out o) hRn hb hn ha hB (by rw [bysN_len]; omega))
  rw [bysN_len] at PC
  clear h hRn hb
  obtain ⟨p, hp⟩ : ∃ p, Hid (p = w.heap.size) := ⟨_, rfl⟩
  obtain ⟨w0, H0, bp, b1, o0, s0⟩ : ∃ w0, Hid (w0 = (w.alloc (.cells #[.slice a n c] 47)).alloc (.cells #[.slice none 0 0] 47)) ∧ w0.heap[p]? = some (.cells #[.slice a n c] 47 (0, 0)) ∧ w0.heap[p + 1]? = some (.cells #[.slice none 0 0] 47 (0, 0)) ∧ Out w w0 ∧ w0.heap.size = p + 2 := by
    have s1 : (w.alloc (.cells #[.slice a n c] 47)).heap.size = p + 1 := by rw [size_alloc, hp.out]
    refine ⟨_, rfl, ?_, ?_, ((Out.refl w).alloc _).alloc _, by rw [size_alloc, s1]⟩
    · refine blk_out ?_ ((Out.refl _).alloc _)
      rw [hp.out]; exact heap_alloc_new w _
    · rw [← s1]; exact heap_alloc_new _ _
  have O0 := hidOf o0
  have BP := hidOf bp
  have B1 := hidOf b1
  clear o0 bp b1 s0
  go_enter Tryz.func29, Tryz.ntmps29
  go_upto_region 1 with fail
  rw [← hp.out]
  rw [← H0.out]
  go_wp2
  go_loopw [3, 10, 11] (fun xv bv jv wr => ∃ (j y oc : Nat) (oa : Option Addr), xv = .int .u64 (y : Nat) ∧ bv = .slice oa j oc ∧ jv = .int .i64 (j : Nat) ∧ j ≤ k ∧ Hid (y = x / 2 ^ (8 * j)) ∧ Hid (wr.ownsRow w0.heap.size 5 1 (.slice oa j oc) j ((bysN x j).map byV)) ∧ Hid (Out w0 wr)) (fun _ _ jv _ => k - (intOf jv).toNat)
  case atStart => exact ⟨0, x, 0, none, rfl, rfl, rfl, Nat.zero_le _, hidOf (by simp), hidOf (World.ownsRow_nil _ _ _ _), hidOf (Out.refl _)⟩
  case round =>
    obtain ⟨j, y, oc, oa, rfl, rfl, rfl, hj, HY, OWN, OR⟩ := hrel
    by_cases hjk : j < k
    · have hlt : (j : Int) < k := by omega
      have hy64 : y < 18446744073709551616 := by rw [HY.out]; exact Nat.lt_of_le_of_lt (Nat.div_le_self _ _) hx
      obtain ⟨v, hv⟩ : ∃ v, Hid (v = y % 256) := ⟨_, rfl⟩
      obtain ⟨y2, hy2⟩ : ∃ y2, Hid (y2 = y / 256) := ⟨_, rfl⟩
      have hw8 : (y : Int) % 256 = (v : Int) := by have := hv.out; omega
      have hwq : IntKind.u64.wrap ((y : Int) / 256) = (y2 : Int) := by have := hy2.out; rw [IntKind.wrap_u64]; omega
      have HY2 : Hid (y2 = x / 2 ^ (8 * (j + 1))) := hidOf (by rw [hy2.out, HY.out, Nat.div_div_eq_div_mul, show 2 ^ (8 * (j + 1)) = 2 ^ (8 * j) * 256 by rw [show 8 * (j + 1) = 8 * j + 8 by omega, Nat.pow_add]])
      obtain ⟨wC, HC, bC, oC⟩ : ∃ wC, Hid (wC = wr.alloc (.cells #[.int .u8 (v : Int)] 5)) ∧ wC.heap[wr.heap.size]? = some (.cells #[.int .u8 (v : Int)] 5 (0, 0)) ∧ Out wr wC := ⟨_, rfl, heap_alloc_new wr _, (Out.refl wr).alloc _⟩
      obtain ⟨v2, w4, hap, hown2, hgr2, _, _⟩ := run_append_own_at (P := Tryz.prog) (ty := 29) wC w0.heap.size 29 5 i0 _ 1 1 Tryz.underlying29 hi0 hz0 hz1 hz2 rfl (by decide) (.slice oa j oc) j ((bysN x j).map byV) (own_out OWN.out oC) ⟨wr.heap.size, 0, none⟩ 1 1 [.int .u8 (v : Int)] rfl (fun q u hq => by rw [add_B, Nat.zero_add]; match q, hq with | 0, hq => cases hq; exact (cell_B bC 0).trans rfl) (by intro u hu; simp at hu; subst hu; rfl) (by simp only [maxLen]; omega) (by omega) (OR.out.trans oC).size
      obtain ⟨a2, c2, rfl, _, _⟩ := own_slice hown2
      have hc2 : Chg (fun b => (Value.slice oa j oc).ownBlock = some b) wC w4 := Chg.of_grown hgr2 (fun q hq => hq)
      have O4 : Hid (Out w0 w4) := hidOf (Chg.out hc2 (OR.out.trans oC) (fun b hb => ((own_out OWN.out oC).lt b hb).1))
      have OWN4 : Hid (w4.ownsRow w0.heap.size 5 1 (.slice a2 (j + 1 : Nat) c2) (j + 1) ((bysN x (j + 1)).map byV)) := hidOf (by
        have e : (bysN x (j + 1)).map byV = (bysN x j).map byV ++ [.int .u8 (v : Int)] := by
          show (bysN x j ++ [UInt8.ofNat (x / 2 ^ (8 * j) % 256)]).map byV = _
          rw [List.map_append, List.map_cons, List.map_nil, byV_ofNat _ (Nat.mod_lt _ (by decide)), ← HY.out, ← hv.out]
        rw [e]; exact hown2)
      have HAP := hidOf hap
      clear bC oC hap hown2 hgr2 hc2
      go_wp2_with (first | (go_at_call 57; refine (WC.out _).mono ?_; rintro e w1 ⟨rfl, hw1⟩; subst hw1) | (at_builtin; rw [← HC.out]; refine Lib.wpList_append_run _ rfl _ _ _ _ rfl _ _ rfl rfl _ _ HAP.out ?_))
      go_roundw
      case rel => exact ⟨j + 1, y2, c2, a2, by first | rfl | simp, by first | rfl | simp, by simp, by omega, HY2, OWN4, O4⟩
      case measure => simp [intOf]; omega
    · have hlt : ¬ (j : Int) < k := by omega
      obtain rfl : j = k := by omega
      have hrg : RestG wr oa (bysN x j) := by
        obtain ⟨g, cc, e, _, _⟩ := OWN.out.form (by omega)
        simp only [Value.slice.injEq] at e
        obtain ⟨rfl, _, rfl⟩ := e
        exact RestG.own OWN.out
      have P1 := hidOf (PC.out wr oc oa (O0.out.trans OR.out) hrg)
      have cp := (cell_B (blk_out BP.out OR.out) 0).trans (show (#[Value.slice a n c] : Array Value)[0]? = some (.slice a n c) from rfl)
      have B2 := hidOf (blk_out B1.out OR.out)
      clear hrg
      go_upto_region 7 with (go_at_call 57; refine (WC.out _).mono ?_; rintro e w1 ⟨rfl, hw1⟩; subst hw1)
      go_wp2_with (go_at_call 34; refine P1.out.mono ?_; rintro e w2 ⟨ho2, (⟨hq, rfl⟩ | ⟨a', c', R', rfl, hrl, hq⟩)⟩ <;> (have HQ := hidOf hq; have O2 := hidOf ho2; have c9 := (cell_B (blk_out B2.out ho2) 0).trans (show (#[Value.slice none 0 0] : Array Value)[0]? = some (.slice none 0 0) from rfl); have z9 := froz_B (blk_out B2.out ho2) 0; clear hq ho2))
      · have KB := hidOf (blk_out B2.out O2.out)
        have CT := (Chg.refl (fun b => b = p + 1) w2).setCell (p := ⟨p + 1, 0, none⟩) rfl (.slice a n c)
        refine bodyPost_ret (results_cell2 rfl _ _ (p + 1) 47 _ (0, 0) _ rfl (set_B KB.out 0 _) Tryz.underlying47 rfl (by kernel_rfl)) rfl ?_
        exact ⟨Chg.out CT ((O0.out.trans OR.out).trans O2.out) (fun b hb => by have := hp.out; omega), .inl ⟨HQ.out, rfl⟩⟩
      · have KB := hidOf (blk_out B2.out O2.out)
        have CT := (Chg.refl (fun b => b = p + 1) w2).setCell (p := ⟨p + 1, 0, none⟩) rfl (.slice a' n c')
        refine bodyPost_ret (results_cell2 rfl _ _ (p + 1) 47 _ (0, 0) _ rfl (set_B KB.out 0 _) Tryz.underlying47 rfl (by kernel_rfl)) rfl ?_
        exact ⟨Chg.out CT ((O0.out.trans OR.out).trans O2.out) (fun b hb => by have := hp.out; omega), .inr ⟨a', c', R', rfl, (hrl.chgT KB.out CT).base (O0.out.trans OR.out).size, HQ.out⟩⟩
end Go.Proofs.YtekjfbmebekmeaaGreat
