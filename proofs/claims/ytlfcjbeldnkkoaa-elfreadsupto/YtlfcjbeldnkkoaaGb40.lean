import Derived.Test.YtlfcjbeldnkkoaaGb39
import Derived.Deep.CutBlock
namespace Go.Proofs.Ytlfcjbeldnkkoaa
open Go.RowKit
set_option linter.unusedVariables false
set_option linter.unusedSimpArgs false
theorem setCell_selfZ {w : World} {b j : Nat} {cs : Array Value} {t : TypeId} {fr : Nat × Nat} {u : Value} (h : w.heap[b]? = some (.cells cs t fr)) (hj : cs[j]? = some u) : w.setCell ⟨b, j, none⟩ u = w := by
  have hh : (w.setCell ⟨b, j, none⟩ u).heap = w.heap := by
    apply Array.ext_getElem?
    intro k
    by_cases hk : k = b
    · subst hk
      have hset : cs.setIfInBounds j u = cs := by
        apply Array.ext_getElem?
        intro x
        rw [Array.getElem?_setIfInBounds]
        by_cases hx : j = x
        · subst hx; simp [hj]; exact (Array.getElem?_eq_some_iff.1 hj).1
        · rw [if_neg hx]
      simp [World.setCell, Array.getElem?_modify, h, hset]
    · exact Below.heap_setCell w ⟨b, j, none⟩ u k hk
  cases w
  simp only [World.setCell] at hh ⊢
  simp only [hh]
set_option maxRecDepth 20000 in
set_option maxHeartbeats 1000000 in
theorem writeZ_any (B : Nat) (w : World) (p : Nat) (ct tt : Int) (r : Nat → Value) (L : Nat → List Value) (h : ZI B w p ct tt r L) (hF : (L 0).length ≤ 3) (hK : (L 2).length ≤ 500000000000) (ct0 : 0 ≤ ct) (ct1 : ct ≤ 1000000000000) (t0 : 0 ≤ tt) (t1 : tt ≤ 1000000000000000) :
    Calls Try.prog 68 #[.pointer (some ⟨p, 0, none⟩)] w fun e w' => (∃ q, e = .returned q) ∧ WrZ B w p ct tt r L ((L 2).length + 4 * (L 0).length) w' := by
  obtain ⟨af, cf, e0⟩ := own_form (h.sh.row 0 (by omega))
  have CU := hidOf (untouchedZ_any w p ct tt r L h.sh h.wl h.pf (by omega))
  have b2 : w.cell? ⟨p, 2, none⟩ = some (.bool false) := by rw [cell_atL h.sh.st]; rfl
  have HFz : Hid (∀ wx, Out w wx → wx.cell? ⟨p, 2, none⟩ = some (.bool false) ∧ wx.frozen? ⟨p, 2, none⟩ = false ∧ wx.setCell ⟨p, 2, none⟩ (.bool false) = wx) := hidOf (fun wx o => ⟨cell_later o b2, frozen_atL (h.sh.out o).st 2, setCell_selfZ (h.sh.out o).st rfl⟩)
  have H := hidOf h
  have E0 := hidOf e0
  have HD := hidOf h.ds
  have HS0 := hidOf (h.start ct)
  clear h e0
  obtain ⟨F, hFF⟩ : ∃ F, F = L 0 := ⟨_, rfl⟩
  obtain ⟨K, hKK⟩ : ∃ K, K = L 2 := ⟨_, rfl⟩
  obtain ⟨V, hVV⟩ : ∃ V, V = L 3 := ⟨_, rfl⟩
  rw [← hFF, ← hKK, ← hVV] at HS0
  rw [← hFF] at E0 HD hF
  rw [← hKK] at hK
  have HFF := hidOf hFF
  have HKK := hidOf hKK
  clear hVV
  obtain ⟨NF, hNF⟩ : ∃ NF, NF = F.length := ⟨_, rfl⟩
  obtain ⟨NK, hNK⟩ : ∃ NK, NK = K.length := ⟨_, rfl⟩
  rw [← hNF] at hF
  rw [← hNK] at hK
  have HNF := hidOf hNF
  have HNK := hidOf hNK
  rw [← hFF, ← hKK, ← hNF, ← hNK]
  clear hFF hKK hNF hNK
  rw [← HNF.out] at E0
  go_enter Try.func68, Try.ntmps68
  go_upto_region 1 with (go_at_call 42; refine CU.out.mono ?_; rintro e w1 ⟨rfl, ho⟩; obtain ⟨y1, y2, y3⟩ := HFz.out w1 ho; have HS := hidOf y3; have S1 := hidOf (HS0.out.out ho); clear ho y3)
  rw [HS.out]
  clear y1 y2 HS b2 CU HFz HS0
  go_wp2
  go_loopw [2] (fun iv wr => ∃ i : Nat, iv = .int .i64 i ∧ i ≤ NF ∧ Hid (WZ w p ct tt r F ct wr K V [] [] 0 i)) (fun iv _ => NF - (intOf iv).toNat)
  case atStart => exact ⟨0, rfl, by omega, S1⟩
  case round =>
    clear S1
    obtain ⟨i, rfl, hi, HW⟩ := hrel
    obtain ⟨c0, -, -, c3, -, -⟩ := HW.out.cells (by rw [← HNF.out]; exact E0.out)
    rw [← HNF.out] at c3
    by_cases hlt : i < NF
    · have hltI : (i : Int) < NF := by omega
      have hi0 : (0 : Int) ≤ i := by omega
      have hi3 : (i : Int) ≤ 3 := by omega
      obtain ⟨x, hx⟩ : ∃ x, F[i]? = some x := ⟨_, List.getElem?_eq_getElem (by rw [← HNF.out]; exact hlt)⟩
      obtain ⟨N, hN, hown, _⟩ := HW.out.fown (Nat.zero_le _) hx
      obtain ⟨n, hn⟩ : ∃ n, n = N.length := ⟨_, rfl⟩
      obtain ⟨a, c, ex⟩ := own_form hown
      rw [← hn] at ex hN
      have Hx : Hid (F[i]? = some (.slice a n c)) := hidOf (by rw [← ex]; exact hx)
      have HM : Hid (MkZ wr (.slice a n c) (ct + i) n 0) := hidOf ⟨N, hn.symm, by rw [← ex]; exact hown, by simp [mks]⟩
      clear hx hown hn ex
      go_upto_region 5 with fail
      clear c3 c0
      obtain ⟨m, hm⟩ : ∃ m : Int, 1000003 * (ct + (i : Int)) = m := ⟨_, rfl⟩
      rw [hm]
      have Hm := hidOf hm
      have m0 : 0 ≤ m := by omega
      have m1 : m ≤ 1000010000000000000 := by omega
      clear hm
      obtain ⟨w3, hw3⟩ : ∃ w3, w3 = wr := ⟨_, rfl⟩
      rw [← hw3] at HW HM
      have Hw3 := hidOf hw3
      clear hw3
      go_wp2
      go_loopw [4] (fun kv wr => ∃ k : Nat, kv = .int .i64 k ∧ k ≤ n ∧ Hid (WZ w p ct tt r F ct wr K V [] [] 0 i) ∧ Hid (MkZ wr (.slice a n c) (ct + i) n k)) (fun kv _ => n - (intOf kv).toNat)
      case atStart => exact ⟨0, rfl, by omega, by rw [← Hw3.out]; exact HW, by rw [← Hw3.out]; exact HM⟩
      case round =>
        clear HW HM Hw3
        obtain ⟨k, rfl, hk, HW, HM⟩ := hrel
        obtain ⟨-, -, -, c3, -, hrow⟩ := HW.out.cells (by rw [← HNF.out]; exact E0.out)
        rw [← HNF.out] at c3 hrow
        obtain ⟨gf, haf, qf⟩ := own_getZ hrow Hx.out
        rw [haf] at c3
        clear hrow
        have Haf := hidOf haf
        clear haf
        by_cases hkn : k < n
        · have hkI : (k : Int) < n := by omega
          have hk0 : (0 : Int) ≤ k := by omega
          obtain ⟨N, hNl, hown, htk⟩ := HM.out
          obtain ⟨g, rfl⟩ := hown.adr (by omega)
          obtain ⟨z, hz⟩ : ∃ z, N[k]? = some z := ⟨_, List.getElem?_eq_getElem (by omega)⟩
          have Hown := hidOf hown
          have HNl := hidOf hNl
          have Htk := hidOf htk
          have Hz := hidOf hz
          obtain ⟨-, gcs, hgc⟩ := own_blkZ hown (b := g) rfl
          have hgp : ¬ g = p := fun e => by
            obtain ⟨r', L', h'⟩ := HW.out
            have := h'.sh.st
            rw [← e, hgc] at this; simp at this
          have hgf : ¬ g = gf := fun e => by
            obtain ⟨-, -, -, -, -, hrow⟩ := HW.out.cells (by rw [← HNF.out]; exact E0.out)
            rw [Haf.out] at hrow
            exact own_kind hrow hgc (by decide) (by rw [e]; rfl)
          clear hz htk hNl hown hgc HM
          go_upto_region 8 with fail
          have hwl : IntKind.i64.wrap (m + (k : Int)) = m + (k : Int) := by rw [IntKind.wrap_i64]; omega
          refine wp_region_held_drew (S := (fun w' => w'.cell? ⟨p, 3, none⟩ = some (.slice (some ⟨gf, 0, none⟩) NF cf) ∧ w'.cell? ⟨gf, i, none⟩ = some (.slice (some ⟨g, 0, none⟩) n c))) (by kernel_rfl) ?_ (fun hHeld => ?_)
          · exact ⟨c3, qf⟩
          refine wpAnyH_take (i := 0) (v := ?_) rfl (by kernel_rfl) (by kernel_rfl) (by kernel_rfl) (fun _ _ _ h => h) (Or.inl ⟨by rfl, ?_⟩) (by assumption) ?_
          rotate_left
          · (intro w hSw; (try dsimp only at hSw); go_simp; (try with_reducible rfl))
          show wpAnyH _ _ _ _ _ _ _ (Act.put _ (some 54) _) _
          simp only [Act.put, List.setIfInBounds_toArray, List.set_cons_zero, List.set_cons_succ]
          refine wpAnyH_take (i := 1) (v := ?_) rfl (by kernel_rfl) (by kernel_rfl) (by kernel_rfl) (fun _ _ _ h => h) (Or.inl ⟨by rfl, ?_⟩) (by assumption) ?_
          rotate_left
          · (intro w hSw; (try dsimp only at hSw); go_simp; (try with_reducible rfl))
          show wpAnyH _ _ _ _ _ _ _ (Act.put _ (some 55) _) _
          simp only [Act.put, List.setIfInBounds_toArray, List.set_cons_zero, List.set_cons_succ]
          refine wpAnyH_take (i := 2) (v := ?_) rfl (by kernel_rfl) (by kernel_rfl) (by kernel_rfl) (fun _ _ _ h => h) (Or.inl ⟨by rfl, ?_⟩) (by assumption) ?_
          rotate_left
          · (intro w hSw; (try dsimp only at hSw); go_simp; (try with_reducible rfl))
          show wpAnyH _ _ _ _ _ _ _ (Act.put _ (some 56) _) _
          simp only [Act.put, List.setIfInBounds_toArray, List.set_cons_zero, List.set_cons_succ]
          refine wpAnyH_take (i := 3) (v := ?_) rfl (by kernel_rfl) (by kernel_rfl) (by kernel_rfl) (fun _ _ _ h => h) (Or.inl ⟨by rfl, ?_⟩) (by assumption) ?_
          rotate_left
          · (intro w hSw; (try dsimp only at hSw); go_simp; (try with_reducible rfl))
          show wpAnyH _ _ _ _ _ _ _ (Act.put _ (some 57) _) _
          simp only [Act.put, List.setIfInBounds_toArray, List.set_cons_zero, List.set_cons_succ]
          refine wpAnyH_take (i := 4) (v := ?_) rfl (by kernel_rfl) (by kernel_rfl) (by kernel_rfl) (fun _ _ _ h => h) (Or.inl ⟨by rfl, ?_⟩) (by assumption) ?_
          rotate_left
          · (intro w hSw; (try dsimp only at hSw); go_simp; (try with_reducible rfl))
          show wpAnyH _ _ _ _ _ _ _ (Act.put _ (some 58) _) _
          simp only [Act.put, List.setIfInBounds_toArray, List.set_cons_zero, List.set_cons_succ]
          refine wpAnyH_take (i := 5) (v := ?_) rfl (by kernel_rfl) (by kernel_rfl) (by kernel_rfl) (fun _ _ _ h => h) (Or.inl ⟨by rfl, ?_⟩) (by assumption) ?_
          rotate_left
          · (intro w hSw; (try dsimp only at hSw); go_simp; (try with_reducible rfl))
          show wpAnyH _ _ _ _ _ _ _ (Act.put _ (some 59) _) _
          simp only [Act.put, List.setIfInBounds_toArray, List.set_cons_zero, List.set_cons_succ]
          refine wpAnyH_take (i := 6) (v := ?_) rfl (by kernel_rfl) (by kernel_rfl) (by kernel_rfl) (fun _ _ _ h => h) (Or.inl ⟨by rfl, ?_⟩) (by assumption) ?_
          rotate_left
          · (intro w hSw; (try dsimp only at hSw); go_simp; (try with_reducible rfl))
          show wpAnyH _ _ _ _ _ _ _ (Act.put _ (some 60) _) _
          simp only [Act.put, List.setIfInBounds_toArray, List.set_cons_zero, List.set_cons_succ]
          refine wpAnyH_take (i := 7) (v := ?_) rfl (by kernel_rfl) (by kernel_rfl) (by kernel_rfl) (fun _ _ _ h => h) (Or.inl ⟨by rfl, ?_⟩) (by assumption) ?_
          rotate_left
          · (intro w hSw; (try dsimp only at hSw); go_simp; (try with_reducible rfl))
          show wpAnyH _ _ _ _ _ _ _ (Act.put _ (some 61) _) _
          simp only [Act.put, List.setIfInBounds_toArray, List.set_cons_zero, List.set_cons_succ]
          refine wpAnyH_take (i := 8) (v := ?_) rfl (by kernel_rfl) (by kernel_rfl) (by kernel_rfl) (fun _ _ _ h => h) (Or.inl ⟨by rfl, ?_⟩) (by assumption) ?_
          rotate_left
          · (intro w hSw; (try dsimp only at hSw); go_simp; (try with_reducible rfl))
          show wpAnyH _ _ _ _ _ _ _ (Act.put _ (some 62) _) _
          simp only [Act.put, List.setIfInBounds_toArray, List.set_cons_zero, List.set_cons_succ]
          refine wpAnyH_take (i := 9) (v := ?_) rfl (by kernel_rfl) (by kernel_rfl) (by kernel_rfl) (fun _ _ _ h => h) (Or.inl ⟨by rfl, ?_⟩) (by assumption) ?_
          rotate_left
          · (intro w hSw; (try dsimp only at hSw); go_simp; (try with_reducible rfl))
          show wpAnyH _ _ _ _ _ _ _ (Act.put _ (some 63) _) _
          simp only [Act.put, List.setIfInBounds_toArray, List.set_cons_zero, List.set_cons_succ]
          refine wpAnyH_take (i := 10) (v := ?_) rfl (by kernel_rfl) (by kernel_rfl) (by kernel_rfl) (fun _ _ _ h => h) (Or.inl ⟨by rfl, ?_⟩) (by assumption) ?_
          rotate_left
          · (intro w hSw; (try dsimp only at hSw); go_simp; (try with_reducible rfl))
          show wpAnyH _ _ _ _ _ _ _ (Act.put _ (some 64) _) _
          simp only [Act.put, List.setIfInBounds_toArray, List.set_cons_zero, List.set_cons_succ]
          refine wpAnyH_ready (rs := [11]) (by kernel_rfl) (by simp) ?_
          refine AllReadyH.cons rfl (fun K hK => ?_) AllReadyH.nil
          rw [if_pos (by rfl)]
          go_simp
          go_at_call 84
          refine (mine9_any _ _).mono ?_
          rintro e w2 ⟨rfl, h2⟩
          have O2 := hidOf (Out.trans ((Out.refl wr).drewN 1) h2)
          have e3 := cell_later O2.out c3
          have e4 := cell_later O2.out qf
          refine hK.out _ _ ⟨e3, e4⟩ (fun hHeld => ?_)
          obtain ⟨g', hg', x0, x1, x2, x3, x4, x5, x6, x7⟩ := (Hown.out.out O2.out).cells Hz.out
          obtain rfl : g = g' := by simpa using hg'
          have hfz := (Hown.out.out O2.out).frz
          have g0 := hfz (k * 8)
          have g1 := hfz (k * 8 + 1)
          have g2 := hfz (k * 8 + 2)
          have g3 := hfz (k * 8 + 3)
          have g4 := hfz (k * 8 + 4)
          have g5 := hfz (k * 8 + 5)
          have g6 := hfz (k * 8 + 6)
          have g7 := hfz (k * 8 + 7)
          clear h2 hfz hg'
          refine wpAnyH_take (i := 12) (v := ?_) rfl (by kernel_rfl) (by kernel_rfl) (by kernel_rfl) (fun _ _ _ h => h) (Or.inl ⟨by rfl, ?_⟩) (by assumption) ?_
          rotate_left
          · (intro w hSw; (try dsimp only at hSw); go_simp; (try with_reducible rfl))
          show wpAnyH _ _ _ _ _ _ _ (Act.put _ (some 66) _) _
          simp only [Act.put, List.setIfInBounds_toArray, List.set_cons_zero, List.set_cons_succ]
          refine wpAnyH_ready (rs := [13]) (by kernel_rfl) (by simp) ?_
          refine AllReadyH.cons rfl (fun K2 hK2 => ?_) AllReadyH.nil
          rw [if_pos (by rfl)]
          go_simp
          have hP := (Hown.out.out O2.out).put (i := k) (by rw [HNl.out]; exact hkn) ⟨[109, 105, 110, 101], m + (k : Int), 0, 0, 0, 0, 0, none, 0, 0⟩
          have B3 := hidOf hP.1
          have C3 := hidOf hP.2
          clear hP
          unfold putZ at B3 C3
          dsimp only at B3 C3
          have hmk : mk8 (ct + (i : Int)) (k : Int) = ⟨[109, 105, 110, 101], m + (k : Int), 0, 0, 0, 0, 0, none, 0, 0⟩ := by unfold mk8; rw [Hm.out]
          have HW3 := hidOf ((HW.out.out O2.out).turn HD.out Hx.out (Nat.zero_le _) C3.out (by rw [List.length_set, HNl.out]; exact hN) B3.out (hi' := i) (fun h => by omega) (fun j hj h => h))
          have HM3 : Hid (MkZ _ _ (ct + (i : Int)) n (k + 1)) := hidOf ⟨_, by rw [List.length_set, HNl.out], B3.out, by rw [← hmk]; exact mks_set HNl.out hkn Htk.out⟩
          have C3p := C3.out.cell e3 (fun e => hgp (by simpa [Value.ownBlock] using e))
          have C3f := C3.out.cell e4 (fun e => hgf (by simpa [Value.ownBlock] using e))
          clear B3 C3 hmk
          refine hK2.out _ _ ⟨C3p, C3f⟩ (fun hHeld => ?_)
          clear x0 x1 x2 x3 x4 x5 x6 x7 g0 g1 g2 g3 g4 g5 g6 g7 c3 qf e3 e4 C3p C3f
          refine wpAnyH_done (by kernel_rfl) ?_ _
          go_wp2
          go_roundw
          case rel => exact ⟨k + 1, by simp, by omega, HW3, HM3⟩
          case measure => simp [intOf]; omega
        · have hkI : ¬ (k : Int) < n := by omega
          obtain rfl : k = n := by omega
          obtain ⟨N, hNl, hown, htk⟩ := HM.out
          have hmk : N = mks (ct + (i : Int)) 0 N.length := by
            rw [hNl, ← htk, List.take_of_length_le (by omega)]
          have HW3 := hidOf (HW.out.turn HD.out Hx.out (Nat.zero_le _) (Chg.refl _ _) (by rw [hNl]; exact hN) hown (hi' := i + 1) (fun _ => hmk) (fun j hj h => by omega))
          clear hmk htk hown hNl
          go_wp2
          go_roundw
          case rel => exact ⟨i + 1, by simp, by omega, HW3⟩
          case measure => simp [intOf]; omega
    · have hltI : ¬ (i : Int) < NF := by omega
      obtain rfl : NF = i := by omega
      go_upto_region 9 with fail
      clear c3 c0 hi hlt hltI
      go_wp2
      go_loopw [5] (fun iv wr => ∃ (i : Nat) (K' V' : List Value), iv = .int .i64 i ∧ i ≤ NF ∧ Hid (K'.length = NK + 4 * i) ∧ Hid (WZ w p ct tt r F ct wr K' V' [] [] i NF)) (fun iv _ => NF - (intOf iv).toNat)
      case atStart => exact ⟨0, K, V, rfl, by omega, hidOf (by rw [← HNK.out]; rfl), HW⟩
      case round =>
        clear HW
        obtain ⟨i, K', V', rfl, hi, HKl, HW⟩ := hrel
        obtain ⟨c0, c1, -, c3, -, hrow⟩ := HW.out.cells (by rw [← HNF.out]; exact E0.out)
        rw [← HNF.out] at c3 hrow
        by_cases hlt : i < NF
        · have hltI : (i : Int) < NF := by omega
          have hi0 : (0 : Int) ≤ i := by omega
          have hi3 : (i : Int) ≤ 3 := by omega
          obtain ⟨x, hx⟩ : ∃ x, F[i]? = some x := ⟨_, List.getElem?_eq_getElem (by rw [← HNF.out]; exact hlt)⟩
          obtain ⟨N, hN, hown, hmk⟩ := HW.out.fown (Nat.le_refl _) hx
          obtain ⟨n, hn⟩ : ∃ n, n = N.length := ⟨_, rfl⟩
          obtain ⟨a, c, ex⟩ := own_form hown
          rw [← hn] at ex hN
          have Hx : Hid (F[i]? = some (.slice a n c)) := hidOf (by rw [← ex]; exact hx)
          obtain ⟨M, hM⟩ : ∃ M, M = mks (ct + (i : Int)) 0 n := ⟨_, rfl⟩
          have HMe := hidOf hM
          have hMl : M.length = n := by rw [hM, mks_len]
          have HMl := hidOf hMl
          obtain ⟨wS, rfl⟩ : ∃ wS, wS = wr := ⟨_, rfl⟩
          have X0 : Hid (OwZ 0 (.slice a n c) M wS) := hidOf (by rw [← ex, hM, hn, ← hmk hlt]; exact hown)
          obtain ⟨gf, haf, qf⟩ := own_getZ hrow Hx.out
          rw [haf] at c3
          have HsS := hidOf HW.out.size
          clear hx hown hmk hn ex hM hMl hrow haf
          go_upto_region 14 with fail
          clear c3 qf c0
          obtain ⟨m, hm⟩ : ∃ m : Int, 1000003 * (ct + (i : Int)) = m := ⟨_, rfl⟩
          rw [hm]
          have Hm := hidOf hm
          have m0 : 0 ≤ m := by omega
          have m1 : m ≤ 1000010000000000000 := by omega
          clear hm
          obtain ⟨q, hq, hq0, hq3⟩ : ∃ q : Int, min tt 3000 = q ∧ 0 ≤ q ∧ q ≤ 3000 := ⟨min tt 3000, rfl, by omega, by omega⟩
          obtain ⟨R, HR⟩ : ∃ R : Nat, Hid (q + 70 = (R : Int)) := ⟨(q + 70).toNat, by show _ = _; omega⟩
          have hR0 : 70 ≤ R := by have := HR.out; omega
          have hR1 : R ≤ 3070 := by have := HR.out; omega
          have CM1 : Hid (∀ wx, Calls Try.prog 85 #[.int .i64 m, .int .i64 (n : Int)] wx fun e w' => ∃ ad c, e = .returned (.slice ad n c) ∧ OwZ 0 (.slice ad n c) M w' ∧ (∀ b, (Value.slice ad n c).ownBlock = some b → wx.heap.size ≤ b) ∧ Out wx w') := hidOf (fun wx => by rw [HMe.out]; exact marks9_any wx m (ct + (i : Int)) 0 n (by rw [← Hm.out]; omega) m0 (by omega) (by omega))
          obtain ⟨Rm, hRm⟩ : ∃ Rm, Rm = mks (ct + (i : Int)) 500000 R := ⟨_, rfl⟩
          have HRl : Hid (Rm.length = R) := hidOf (by rw [hRm, mks_len])
          have CM2 : Hid (∀ wx, Calls Try.prog 85 #[.int .i64 (m + 500000), .int .i64 (q + 70)] wx fun e w' => ∃ ad c, e = .returned (.slice ad R c) ∧ OwZ 0 (.slice ad R c) Rm w' ∧ (∀ b, (Value.slice ad R c).ownBlock = some b → wx.heap.size ≤ b) ∧ Out wx w') := hidOf (fun wx => by rw [HR.out, hRm]; exact marks9_any wx (m + 500000) (ct + (i : Int)) 500000 R (by rw [← Hm.out]) (by omega) (by omega) (by omega))
          clear hRm
          go_upto_region 15 with (go_at_call 85; refine (CM1.out _).mono ?_; rintro e w1 ⟨au, cu, rfl, ho, hb, hout⟩; have U1 := hidOf ho; have UB := hidOf hb; have P1 := hidOf hout; have d1 := cell_later hout c1; clear ho hb hout)
          clear c1
          go_upto_region 16 with (go_at_call 85; refine (CM2.out _).mono ?_; rintro e w2 ⟨am, cm, rfl, ho, hb, hout⟩; have M2 := hidOf ho; have MB := hidOf hb; have P2 := hidOf hout; clear ho hb hout)
          clear d1 CM1 CM2 hq
          obtain ⟨gm, rfl⟩ : ∃ gm, am = some ⟨gm, 0, none⟩ := M2.out.adr (by rw [HRl.out]; omega)
          have hRI : (70 : Int) ≤ R := by omega
          obtain ⟨z0, hz0⟩ : ∃ z0, Rm[0]? = some z0 := ⟨_, List.getElem?_eq_getElem (by rw [HRl.out]; omega)⟩
          have Hz0 := hidOf hz0
          obtain ⟨g', hg', x0, x1, x2, x3, x4, x5, x6, x7⟩ := M2.out.cells hz0
          obtain rfl : gm = g' := by simpa using hg'
          simp only [Nat.zero_mul, Nat.zero_add] at x0 x1 x2 x3 x4 x5 x6 x7
          clear hg' hz0
          have X2 := hidOf ((X0.out.out P1.out).out P2.out)
          go_upto_region 17 with (at_builtin; refine wpList_app8 rfl (.tmp 103) (.tmp 107) rfl (.slice a n c) M rfl (X2.out.out ((Out.refl w2).alloc _)) ⟨w2.heap.size, 0, none⟩ [z0] 1 1 rfl (by omega) rfl (news_new w2 _ _ _ rfl) (by have := HMl.out; omega) ?_; intro v3 w3 ha; obtain ⟨a1, c1, rfl⟩ := ha.form HMl.out rfl; have A3 := hidOf ha; clear ha)
          clear x0 x1 x2 x3 x4 x5 x6 x7
          have Z12 : Hid (wS.heap.size ≤ w1.heap.size ∧ w1.heap.size ≤ w2.heap.size) := hidOf ⟨P1.out.size, P2.out.size⟩
          have FB : Hid (∀ b, (Value.slice a n c).ownBlock = some b → b < wS.heap.size) := hidOf (fun b hb => (own_blkZ X0.out hb).1)
          have G0 : Hid (GrZ wS w3 (.slice a n c) (.slice au n cu) (.slice (some ⟨gm, 0, none⟩) R cm) (.slice a1 (n + 1) c1) (.slice a n c) M Rm 0) := by
            have f3 := A3.out.pre 0 _ _ (X2.out.out ((Out.refl w2).alloc _)) (Nat.le_refl _)
            have e1 : Rm.take 1 = [z0] := by
              have h0 := Hz0.out
              cases hRm : Rm with
              | nil => rw [hRm] at h0; simp at h0
              | cons y t => rw [hRm] at h0; simp at h0; subst h0; simp
            refine hidOf ⟨f3, A3.out.pre 0 _ _ ((U1.out.out P2.out).out ((Out.refl w2).alloc _)) (Nat.le_refl _), (M2.out.out ((Out.refl w2).alloc _)).chg A3.out.chg (fun b hb hc => ?_), by rw [e1]; exact A3.out.own, by simpa using f3, (Chg.of_out ((P1.out.trans P2.out).alloc _)).trans A3.out.chg (fun b hb _ => hb), fun b hb => ?_, fun b hb => .inl hb⟩
            · have h1 := MB.out b hb
              have h2 := FB.out b hc
              have h3 := Z12.out
              omega
            · rcases A3.out.blk b hb with e | e
              · exact .inl e
              · rw [size_alloc] at e
                have h3 := Z12.out
                exact .inr (by omega)
          have N0 : Hid (∀ b, (Value.slice a n c).ownBlock = some b → ¬ (Value.slice (some ⟨gm, 0, none⟩) R cm).ownBlock = some b) := hidOf (fun b hc hb => by
            have h1 := MB.out b hb
            have h2 := FB.out b hc
            have h3 := Z12.out
            omega)
          have UB2 : Hid (∀ b, (Value.slice au n cu).ownBlock = some b → w.heap.size ≤ b) := hidOf (fun b hb => Nat.le_trans HsS.out (UB.out b hb))
          have Hf : Hid (∀ b, (Value.slice (some ⟨gm, 0, none⟩) R cm).ownBlock = some b → ¬ (Value.slice a n c).ownBlock = some b) := hidOf (fun b hb hc => N0.out b hc hb)
          clear A3 U1 M2 P1 P2 X2 UB MB Z12 Hz0
          go_wp2
          go_loopw [12, 11] (fun kv gv wr => ∃ (k : Nat) (ag : Option Addr) (cg : Nat), kv = .int .i64 k ∧ gv = .slice ag (n + k) cg ∧ k ≤ R ∧ Hid (GrZ wS wr (.slice a n c) (.slice au n cu) (.slice (some ⟨gm, 0, none⟩) R cm) (.slice a1 (n + 1) c1) (.slice ag (n + k) cg) M Rm k) ∧ Hid (∀ b, (Value.slice ag (n + k) cg).ownBlock = some b → ¬ (Value.slice (some ⟨gm, 0, none⟩) R cm).ownBlock = some b)) (fun kv _ _ => R - (intOf kv).toNat)
          case atStart => exact ⟨0, a, c, rfl, rfl, by omega, G0, N0⟩
          case round =>
            clear G0 N0
            obtain ⟨k, ag, cg, rfl, rfl, hk, HG, HN⟩ := hrel
            have hk0 : (0 : Int) ≤ k := by omega
            by_cases hkR : k < R
            · have hkI : (k : Int) < R := by omega
              have HNl : Hid ((M ++ Rm.take k).length = n + k) := hidOf (by rw [List.length_append, List.length_take, HMl.out, HRl.out]; omega)
              obtain ⟨z, hz⟩ : ∃ z, Rm[k]? = some z := ⟨_, List.getElem?_eq_getElem (by rw [HRl.out]; omega)⟩
              have Hz := hidOf hz
              obtain ⟨g', hg', x0, x1, x2, x3, x4, x5, x6, x7⟩ := HG.out.mown.cells hz
              obtain rfl : gm = g' := by simpa using hg'
              clear hg' hz
              go_wp2_with (at_builtin; refine wpList_app8 rfl (.tmp 116) (.tmp 121) rfl (.slice ag (n + k) cg) (M ++ Rm.take k) rfl (HG.out.grow.out ((Out.refl wr).alloc _)) ⟨wr.heap.size, 0, none⟩ [z] 1 1 rfl (by omega) rfl (news_new wr _ _ _ rfl) (by rw [HNl.out]; omega) ?_; intro v4 w4 ha; obtain ⟨a4, c4, rfl⟩ := ha.form HNl.out rfl; have A4 := hidOf ha; clear ha)
              clear x0 x1 x2 x3 x4 x5 x6 x7
              have HG4 := hidOf ((HG.out.out ((Out.refl wr).alloc _)).step Hz.out A4.out HN.out)
              refine ⟨⟨k + 1, a4, c4, by simp, rfl, by omega, HG4, hidOf (fun b hb hc => ?_)⟩, by simp [intOf] <;> omega⟩
              rcases A4.out.blk b hb with e | e
              · exact HN.out b e hc
              · have := (own_blkZ HG.out.mown hc).1
                rw [size_alloc] at e
                omega
            · have hkI : ¬ (k : Int) < R := by omega
              obtain rfl : R = k := by omega
              have HTk : Hid (Rm.take R = Rm) := hidOf (List.take_of_length_le (by rw [HRl.out]; omega))
              go_upto_region 23 with (at_builtin; refine wpList_app8 rfl (.tmp 123) (.tmp 124) rfl (.slice a n c) M rfl HG.out.fown ⟨gm, 0, none⟩ Rm R cm HRl.out (by omega) rfl (fun j u hu => World.ownsRow.cells HG.out.mown (g := gm) rfl j u hu) (by have := HMl.out; omega) ?_; intro v5 w5 ha; obtain ⟨a5, c5, rfl⟩ := ha.form HMl.out HRl.out; have A5 := hidOf ha; clear ha)
              have F5 : Hid (OwZ 0 (.slice a n c) M w5) := hidOf (A5.out.pre 0 _ _ HG.out.fown (Nat.le_refl _))
              have U5 : Hid (OwZ 0 (.slice au n cu) M w5) := hidOf (A5.out.pre 0 _ _ HG.out.uown (Nat.le_refl _))
              have M5 : Hid (OwZ 0 (.slice (some ⟨gm, 0, none⟩) R cm) Rm w5) := hidOf (HG.out.mown.chg A5.out.chg (fun b hb => Hf.out b hb))
              have O5 : Hid (OwZ 0 (.slice a1 (n + 1) c1) (M ++ Rm.take 1) w5) := hidOf (A5.out.agr 0 _ _ HG.out.own1 (agr_all (k := 0)))
              have Y5 : Hid (OwZ 0 (.slice ag (n + R) cg) (M ++ Rm) w5) := hidOf (by
                have := A5.out.agr 0 _ _ HG.out.grow (agr_all (k := 0))
                rw [HTk.out] at this
                exact this)
              have V5 : Hid (OwZ 0 (.slice a5 (n + R) c5) (M ++ Rm) w5) := hidOf A5.out.own
              have HW5 : Hid (WZ w p ct tt r F ct w5 K' V' [] [] (i + 1) NF) := hidOf ((HW.out.turn HD.out Hx.out (Nat.le_refl _) (HG.out.chg.trans A5.out.chg (fun b hb _ => hb)) (by rw [HMl.out]; exact hN) F5.out (hi' := NF) (fun _ => by rw [HMl.out, HMe.out]) (fun j _ h => h)).up (by omega))
              have GB1 : Hid (GBZ w (.slice a n c) (.slice a1 (n + 1) c1)) := hidOf (fun b hb => (HG.out.b1 b hb).imp id (fun h => Nat.le_trans HsS.out h))
              have GBg : Hid (GBZ w (.slice a n c) (.slice ag (n + R) cg)) := hidOf (fun b hb => (HG.out.bg b hb).imp id (fun h => Nat.le_trans HsS.out h))
              have GB5 : Hid (GBZ w (.slice a n c) (.slice a5 (n + R) c5)) := hidOf (GBZ.app A5.out (Nat.le_trans HsS.out HG.out.chg.size))
              have HNl : Hid ((M ++ Rm).length = n + R) := hidOf (by rw [List.length_append, HMl.out, HRl.out])
              have HN1 : Hid ((M ++ Rm.take 1).length = n + 1) := hidOf (by rw [List.length_append, List.length_take, HMl.out, HRl.out]; omega)
              have hKb : K'.length ≤ 600000000000 := by have := HKl.out; omega
              have hKb2 : (K' ++ [Value.slice a n c]).length ≤ 700000000000 := by rw [List.length_append, List.length_singleton]; omega
              have hKb3 : (K' ++ [Value.slice a n c] ++ [Value.slice ag (n + R) cg]).length ≤ 700000000000 := by simp only [List.length_append, List.length_singleton]; omega
              have hKb4 : (K' ++ [Value.slice a n c] ++ [Value.slice ag (n + R) cg] ++ [Value.slice a5 (n + R) c5]).length ≤ 700000000000 := by simp only [List.length_append, List.length_singleton]; omega
              clear A5 HG HN HW HTk Hf FB X0
              go_upto_region 24 with (go_at_call 86; refine (HW5.out.keepRest HD.out Hx.out (by omega) (by omega) (by rw [HMl.out]; omega) F5.out U5.out (fun b hb => .inl hb) UB2.out).mono ?_; rintro e w6 ⟨⟨q6, rfl⟩, hw, hkp⟩; have HW6 := hidOf hw; have KP := hidOf hkp; clear hw hkp)
              have U6 := hidOf (KP.out _ _ _ U5.out)
              have M6 := hidOf (KP.out _ _ _ M5.out)
              have O6 := hidOf (KP.out _ _ _ O5.out)
              have Y6 := hidOf (KP.out _ _ _ Y5.out)
              have V6 := hidOf (KP.out _ _ _ V5.out)
              clear KP F5 U5 M5 O5 Y5 V5 HW5
              go_upto_region 25 with (first | (go_at_call 67; refine (copied9_any _ au n cu M HMl.out U6.out (by omega)).mono ?_; rintro e w7 ⟨a7, c7, rfl, ho, hb, hout⟩; have C7 := hidOf ho; have CB7 := hidOf hb; have P7 := hidOf hout; clear ho hb hout) | (at_builtin; refine wpList_app8 rfl (.tmp 133) (.tmp 134) rfl (.slice a7 n c7) M rfl C7.out ⟨gm, 0, none⟩ Rm R cm HRl.out (by omega) rfl (fun j u hu => World.ownsRow.cells (M6.out.out P7.out) (g := gm) rfl j u hu) (by have := HMl.out; omega) ?_; intro v8 w8 ha; obtain ⟨a8, c8, rfl⟩ := ha.form HMl.out HRl.out; have P8 := hidOf (Chg.out ha.chg P7.out (fun k hk => CB7.out k hk)); have W8 := hidOf ha.own; have WB8 : Hid (∀ b, (Value.slice a8 (n + R) c8).ownBlock = some b → w6.heap.size ≤ b) := hidOf (fun b hb => (ha.blk b hb).elim (fun e => CB7.out b e) (fun e => Nat.le_trans P7.out.size e)); clear ha) | (go_at_call 86; refine ((HW6.out.out P8.out).keepRest HD.out Hx.out (by omega) (by omega) (by rw [HNl.out]; omega) (Y6.out.out P8.out) W8.out GBg.out (fun b hb => Nat.le_trans HW6.out.size (WB8.out b hb))).mono ?_; rintro e w9 ⟨⟨q9, rfl⟩, hw, hkp⟩; have HW9 := hidOf hw; have KP := hidOf hkp; clear hw hkp))
              have U9 := hidOf (KP.out _ _ _ (U6.out.out P8.out))
              have M9 := hidOf (KP.out _ _ _ (M6.out.out P8.out))
              have O9 := hidOf (KP.out _ _ _ (O6.out.out P8.out))
              have V9 := hidOf (KP.out _ _ _ (V6.out.out P8.out))
              clear KP U6 M6 O6 Y6 V6 HW6 C7 CB7 P7 P8 W8 WB8
              go_upto_region 26 with (first | (go_at_call 67; refine (copied9_any _ au n cu M HMl.out U9.out (by omega)).mono ?_; rintro e wa ⟨aa, ca, rfl, ho, hb, hout⟩; have Ca := hidOf ho; have CBa := hidOf hb; have Pa := hidOf hout; clear ho hb hout) | (at_builtin; refine wpList_app8 rfl (.tmp 140) (.tmp 141) rfl (.slice aa n ca) M rfl Ca.out ⟨gm, 0, none⟩ Rm R cm HRl.out (by omega) rfl (fun j u hu => World.ownsRow.cells (M9.out.out Pa.out) (g := gm) rfl j u hu) (by have := HMl.out; omega) ?_; intro vb wb ha; obtain ⟨ab, cb, rfl⟩ := ha.form HMl.out HRl.out; have Pb := hidOf (Chg.out ha.chg Pa.out (fun k hk => CBa.out k hk)); have Wb := hidOf ha.own; have WBb : Hid (∀ b, (Value.slice ab (n + R) cb).ownBlock = some b → w9.heap.size ≤ b) := hidOf (fun b hb => (ha.blk b hb).elim (fun e => CBa.out b e) (fun e => Nat.le_trans Pa.out.size e)); clear ha) | (go_at_call 86; refine ((HW9.out.out Pb.out).keepRest HD.out Hx.out (by omega) (by omega) (by rw [HNl.out]; omega) (V9.out.out Pb.out) Wb.out GB5.out (fun b hb => Nat.le_trans HW9.out.size (WBb.out b hb))).mono ?_; rintro e wc ⟨⟨qc, rfl⟩, hw, hkp⟩; have HWc := hidOf hw; have KP := hidOf hkp; clear hw hkp))
              have Oc := hidOf (KP.out _ _ _ (O9.out.out Pb.out))
              clear KP U9 M9 O9 V9 HW9 Ca CBa Pa Pb Wb WBb
              go_wp2_with (first | (go_at_call 67; refine (copied9_any _ a1 (n + 1) c1 (M ++ Rm.take 1) HN1.out Oc.out (by omega)).mono ?_; rintro e wd ⟨ad, cd, rfl, ho, hb, hout⟩; have Cd := hidOf ho; have CBd := hidOf hb; have Pd := hidOf hout; clear ho hb hout) | (go_at_call 86; refine ((HWc.out.out Pd.out).keepRest HD.out Hx.out (by omega) (by omega) (by rw [HN1.out]; omega) (Oc.out.out Pd.out) Cd.out GB1.out (fun b hb => Nat.le_trans HWc.out.size (CBd.out b hb))).mono ?_; rintro e we ⟨⟨qe, rfl⟩, hw, hkp⟩; have HWe := hidOf hw; clear hw hkp))
              go_roundw
              case rel => exact ⟨i + 1, _, _, by simp, by omega, hidOf (by simp only [List.length_append, List.length_singleton, HKl.out]; omega), HWe⟩
              case measure => simp [intOf]; omega
        · have hltI : ¬ (i : Int) < NF := by omega
          obtain rfl : NF = i := by omega
          have HD1 : Hid (WrZ B w p ct tt r L (NK + 4 * NF) ((wr.setCell ⟨p, 3, none⟩ (.slice none 0 0)).setCell ⟨p, 4, none⟩ (.slice none 0 0))) := hidOf (by
            have h := HW.out
            rw [HFF.out] at h
            exact h.done H.out HKl.out)
          obtain ⟨r', L', h'⟩ := HW.out
          have st0 := h'.sh.st
          have f2 : wr.frozen? ⟨p, 3, none⟩ = false := frozen_atL st0 3
          have st1 := set_atL st0 3 (.slice none 0 0)
          have d3 : (wr.setCell ⟨p, 3, none⟩ (.slice none 0 0)).cell? ⟨p, 4, none⟩ = some (r' 1) := by rw [cell_atL st1]; rfl
          have f3 : (wr.setCell ⟨p, 3, none⟩ (.slice none 0 0)).frozen? ⟨p, 4, none⟩ = false := frozen_atL st1 4
          clear h' st0 st1 hrow
          go_upto_region 29 with fail
          clear c3 c0 c1 f2 d3 f3
          generalize (wr.setCell ⟨p, 3, none⟩ (.slice none 0 0)).setCell ⟨p, 4, none⟩ (.slice none 0 0) = w5 at *
          obtain ⟨r2, L2, hq2, -, hlen, -⟩ := HD1.out
          have c1 : w5.cell? ⟨p, 2, none⟩ = some (.bool false) := by rw [cell_atL hq2.sh.st]; rfl
          have CS := hidOf (sameZ_any w5 p ct tt r2 L2 hq2.sh hq2.kl hq2.pk (by omega))
          have HFz : Hid (∀ wx, Out w5 wx → wx.cell? ⟨p, 2, none⟩ = some (.bool false) ∧ wx.frozen? ⟨p, 2, none⟩ = false ∧ wx.setCell ⟨p, 2, none⟩ (.bool false) = wx) := hidOf (fun wx o => ⟨cell_later o c1, frozen_atL (hq2.sh.out o).st 2, setCell_selfZ (hq2.sh.out o).st rfl⟩)
          clear hq2 hlen
          go_wp2_with (go_at_call 43; refine CS.out.mono ?_; rintro e w6 ⟨rfl, ho⟩; obtain ⟨k1, k2, k3⟩ := HFz.out w6 ho; have HS := hidOf k3; have O6 := hidOf ho; clear ho k3)
          go_end0
          rw [HS.out]
          exact ⟨⟨_, rfl⟩, HD1.out.out O6.out⟩
end Go.Proofs.Ytlfcjbeldnkkoaa
