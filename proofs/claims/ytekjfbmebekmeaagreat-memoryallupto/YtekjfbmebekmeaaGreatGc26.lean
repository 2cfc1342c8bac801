import Derived.Test.YtekjfbmebekmeaaGreatGc25
namespace Go.Proofs.YtekjfbmebekmeaaGreat
open Go.RowKit
set_option linter.unusedVariables false
set_option linter.unusedSimpArgs false
theorem LnI.there {w wr : World} {g n i : Nat} {fa : Option Addr} {fc : Nat} {L : List RI} {Q : List LQ} {V : List Rg} (h : LnI w wr g n i fa fc L Q V) {j : Nat} (hj : j < n + 70) : ∃ v1 v2, wr.cell? ⟨g, j * 2, none⟩ = some v1 ∧ wr.cell? ⟨g, j * 2 + 1, none⟩ = some v2 ∧ wr.frozen? ⟨g, j * 2, none⟩ = false ∧ wr.frozen? ⟨g, j * 2 + 1, none⟩ = false := by
  have hl : (Q.map LQ.g ++ V ++ List.replicate (n + 70 - i) z0R).length = n + 70 := by
    have h1 := h.vlen; have h2 := h.qlen; have h3 := h.le
    rw [List.length_append, List.length_append, List.length_map, List.length_replicate]; omega
  obtain ⟨z, hz⟩ : ∃ z, (Q.map LQ.g ++ V ++ List.replicate (n + 70 - i) z0R)[j]? = some z := ⟨_, List.getElem?_eq_getElem (by rw [hl]; exact hj)⟩
  obtain ⟨q0, q1⟩ := rowG_get hz
  exact ⟨_, _, (own_cellK h.own q0).1, (own_cellK h.own q1).1, (own_cellK h.own q0).2, (own_cellK h.own q1).2⟩
/-- what lent gives -/
def LentE (L : List RI) (n : Nat) (w : World) (e : Ending) (w' : World) : Prop :=
  ∃ g fa fc Q V, e = .returned (.tuple #[.slice (some ⟨g, 0, none⟩) (n + 70 : Nat) (n + 70 : Nat), .slice fa n fc]) ∧ LnI w w' g n (n + 70) fa fc L Q V
set_option maxHeartbeats 4000000 in
set_option maxRecDepth 100000 in
theorem lent_any (w : World) (a : Option Addr) (c : Nat) (L : List RI) (h : InR w a L) (hL : ∀ x ∈ L, x.f < 18446744073709551616 ∧ x.d.length ≤ 1000000000) (hn : L.length ≤ 1000000000) :
    Calls Tryz.prog 15 #[.slice a L.length c] w fun e w' => LentE L L.length w e w' := by
  obtain ⟨n, hN⟩ : ∃ n, Hid (n = L.length) := ⟨_, rfl⟩
  rw [← hN.out] at hn ⊢
  have HI := hidOf h
  have HL := hidOf hL
  have HNN := hidOf hn
  clear h hL
  obtain ⟨N, hNN⟩ : ∃ N, Hid (N = n + 70) := ⟨_, rfl⟩
  obtain ⟨p, hp⟩ : ∃ p, Hid (p = w.heap.size) := ⟨_, rfl⟩
  have hw70 : IntKind.i64.wrap ((n : Int) + 70) = (N : Int) := by have := hNN.out; rw [IntKind.wrap_i64]; omega
  have hmk := run_makeG N (by have := hNN.out; omega) w
  rw [← hp.out] at hmk
  obtain ⟨w0, H0, HLN⟩ : ∃ w0, Hid (w0 = w.alloc (.cells (rowG (List.replicate N z0R)).toArray 36)) ∧ Hid (LnI w w0 p n 0 none 0 L [] []) := by
    refine ⟨_, rfl, hidOf ⟨?_, World.ownsRow_nil _ _ _ _, by simp, List.Pairwise.nil, by simp, by simp, by simp, hN.out.symm, by omega, (Out.refl w).alloc _⟩⟩
    rw [← hNN.out, hp.out]
    have hbl := heap_alloc_new w (.cells (rowG (List.replicate N z0R)).toArray 36)
    refine ⟨?_, .inr ⟨w.heap.size, N, _, rfl, Nat.le_refl _, hbl, Nat.le_refl _, by have := hNN.out; simp only [maxLen]; omega, by rw [List.size_toArray, rowG_len, List.length_replicate], ?_⟩⟩
    · simp [rowG_len]
    · simp only [List.map_nil, List.nil_append, Nat.sub_zero]
      rw [List.take_of_length_le (by rw [rowG_len, List.length_replicate]; exact Nat.le_refl _)]
  have hw0 : Hid (w0.heap.size = w0.heap.size) := hidOf rfl
  rw [← H0.out] at hmk
  go_enter Tryz.func15, Tryz.ntmps15
  go_upto_region 2 with fail
  clear hmk
  go_wp2
  go_loopw [5, 6] (fun fv iv wr => ∃ (i m : Nat) (fa : Option Addr) (fc : Nat) (Q : List LQ) (V : List Rg), fv = .slice fa m fc ∧ iv = .int .i64 (i : Nat) ∧ Hid (i ≤ N) ∧ Hid (m = Q.length) ∧ Hid (LnI w wr p n i fa fc L Q V)) (fun _ iv _ => N - (intOf iv).toNat)
  case atStart => exact ⟨0, 0, none, 0, [], [], rfl, rfl, hidOf (Nat.zero_le _), hidOf rfl, HLN⟩
  case round =>
    obtain ⟨i, m, fa, fc, Q, V, rfl, rfl, HIN, HM, LN⟩ := hrel
    have hN9 : N ≤ 2000000000 := by have := HNN.out; have := hNN.out; omega
    by_cases hiN : i < N
    · have hltN : (i : Int) < N := by omega
      have hi70 : i < n + 70 := by have := hNN.out; omega
      have HI70 := hidOf hi70
      clear hi70
      by_cases hin : i < n
      · have hlt : (i : Int) < n := by omega
        obtain ⟨x, hx⟩ : ∃ x, L[i]? = some x := ⟨_, List.getElem?_eq_getElem (by rw [← hN.out]; exact hin)⟩
        obtain ⟨g, o, rfl, hcs⟩ : ∃ g o, a = some ⟨g, o, none⟩ ∧ _ := HI.out.resolve_left (fun e => by rw [e] at hx; simp at hx)
        obtain ⟨q0, q1, q2⟩ := hcs i x hx
        have hgp : g < p := by
          rw [hp.out]
          by_cases hg : g < w.heap.size
          · exact hg
          · simp [World.cell?, Array.getElem?_eq_none (Nat.le_of_not_lt hg)] at q0
        have p1 := cell_later LN.out.out q1
        have Q0 := hidOf q0
        have Q1 := hidOf q1
        have hxm := HL.out _ (List.mem_of_getElem? hx)
        obtain ⟨xf, xa, xc, xd⟩ := x
        simp only at p1 q2 hxm Q0 Q1
        obtain ⟨xn, hxn⟩ : ∃ xn, Hid (xn = xd.length) := ⟨_, rfl⟩
        obtain ⟨nn, hnn⟩ : ∃ nn, Hid (nn = 2 * xn + 70) := ⟨_, rfl⟩
        have SPC := hidOf (spareOf_any wr xa xc xd (q2.out LN.out.out) (by have := hxm.2; omega))
        rw [← hxn.out, ← hnn.out] at SPC
        rw [← hxn.out] at p1 Q1
        have HX := hidOf hx
        clear hcs q0 q1 q2 hx hxm
        go_upto_region 8 with (go_at_call 43; refine SPC.out.mono ?_; rintro e w1 ⟨b, cap, rfl, hown, ho1⟩; have W1 := hidOf hown; have O1 := hidOf ho1; clear hown ho1)
        clear p1
        have hnc : nn ≤ cap := by
          rcases W1.out.2 with ⟨he, _⟩ | ⟨g1, c1, cu, he, _, _, hle, _⟩
          · cases he
          · simp only [Value.slice.injEq] at he
            rw [he.2.2]; exact hle
        have hxc : xn ≤ cap := by have := hnn.out; omega
        have hxc2 : (xn : Int) ≤ cap := by omega
        clear hnc
        have LN1 := LN.out.upto (O1.out.trans (Out.refl w1).drew)
        obtain ⟨v1, v2, c1, c2, z1, z2⟩ := LN1.there HI70.out
        have c1 : w1.cell? ⟨p, i * 2, none⟩ = some v1 := c1
        have c2 : w1.cell? ⟨p, i * 2 + 1, none⟩ = some v2 := c2
        have z1 : w1.frozen? ⟨p, i * 2, none⟩ = false := z1
        have z2 : w1.frozen? ⟨p, i * 2 + 1, none⟩ = false := z2
        have p0 : w1.drew.cell? ⟨g, o + i * 2, none⟩ = some (.int .u64 xf) := cell_later LN1.out Q0.out
        have p1 : w1.drew.cell? ⟨g, o + i * 2 + 1, none⟩ = some (.slice xa xn xc) := cell_later LN1.out Q1.out
        have how : w1.drew.ownsRow w.heap.size 5 1 (LQ.u ⟨⟨xf, xa, xc, xd⟩, b, cap⟩) (2 * xd.length + 70) ((xd ++ spB xd.length).map byV) := by
          have h9 := own_base (own_out W1.out (Out.refl w1).drew) (LN.out.out.size)
          rw [hnn.out, hxn.out] at h9
          exact h9
        have hqb : ∀ q ∈ Q, q.b < b := fun q hq => by
          have h1 := ((LN.out.ow q hq).lt q.b rfl).2
          have h2 := (W1.out.lt b rfl).1
          omega
        obtain ⟨wS, wB, hS, hB, hoS, a2, c2', w4, hap, hI⟩ := LN1.stepQ hin HNN.out ⟨xf, xa, xc, xd⟩ HX.out b cap how hqb
        simp only at hS
        rw [← hxn.out] at hS
        have hB2 : wB = wS.alloc (.cells #[.slice (some ⟨b, 0, none⟩) nn cap] 29) := by rw [hB, hnn.out, hxn.out]; rfl
        rw [← HM.out] at hap
        have HS : Hid (((w1.setCell ⟨p, i * 2, none⟩ (.int .u64 xf)).setCell ⟨p, i * 2 + 1, none⟩ (.slice (some ⟨b, 0, none⟩) xn cap)).drew = wS) := hidOf (by rw [hS]; rfl)
        have HB := hidOf hB2
        have HAP := hidOf hap
        have HNX := hidOf hI
        have s0 : wS.cell? ⟨g, o + i * 2, none⟩ = some (.int .u64 xf) := cell_later hoS Q0.out
        have s1 : wS.cell? ⟨g, o + i * 2 + 1, none⟩ = some (.slice xa xn xc) := cell_later hoS Q1.out
        clear hS hB hB2 hap hI how hqb hoS LN1
        go_upto_region 8 with fail
        refine wp_region_held_drew (S := (fun w' => w'.cell? ⟨g, o + i * 2, none⟩ = some (.int .u64 xf) ∧ w'.cell? ⟨g, o + i * 2 + 1, none⟩ = some (.slice xa xn xc))) (by kernel_rfl) ?_ (fun hHeld => ?_)
        · exact ⟨p0, p1⟩
        refine wpAnyH_take (i := 0) (v := ?_) rfl (by kernel_rfl) (by kernel_rfl) (by kernel_rfl) (fun _ _ _ h => h) (Or.inl ⟨by rfl, ?_⟩) (by assumption) ?_
        rotate_left
        · (intro w hSw; (try dsimp only at hSw); go_simp; (try with_reducible rfl))
        show wpAnyH _ _ _ _ _ _ _ (Act.put _ (some 28) _) _
        simp only [Act.put, List.setIfInBounds_toArray, List.set_cons_zero, List.set_cons_succ]
        refine wpAnyH_take (i := 1) (v := ?_) rfl (by kernel_rfl) (by kernel_rfl) (by kernel_rfl) (fun _ _ _ h => h) (Or.inl ⟨by rfl, ?_⟩) (by assumption) ?_
        rotate_left
        · (intro w hSw; (try dsimp only at hSw); go_simp; (try with_reducible rfl))
        show wpAnyH _ _ _ _ _ _ _ (Act.put _ (some 29) _) _
        simp only [Act.put, List.setIfInBounds_toArray, List.set_cons_zero, List.set_cons_succ]
        refine wpAnyH_take (i := 2) (v := ?_) rfl (by kernel_rfl) (by kernel_rfl) (by kernel_rfl) (fun _ _ _ h => h) (Or.inl ⟨by rfl, ?_⟩) (by assumption) ?_
        rotate_left
        · (intro w hSw; (try dsimp only at hSw); go_simp; (try with_reducible rfl))
        show wpAnyH _ _ _ _ _ _ _ (Act.put _ (some 30) _) _
        simp only [Act.put, List.setIfInBounds_toArray, List.set_cons_zero, List.set_cons_succ]
        refine wpAnyH_take (i := 3) (v := ?_) rfl (by kernel_rfl) (by kernel_rfl) (by kernel_rfl) (fun _ _ _ h => h) (Or.inl ⟨by rfl, ?_⟩) (by assumption) ?_
        rotate_left
        · (intro w hSw; (try dsimp only at hSw); go_simp; (try with_reducible rfl))
        show wpAnyH _ _ _ _ _ _ _ (Act.put _ (some 31) _) _
        simp only [Act.put, List.setIfInBounds_toArray, List.set_cons_zero, List.set_cons_succ]
        refine wpAnyH_take (i := 4) (v := ?_) rfl (by kernel_rfl) (by kernel_rfl) (by kernel_rfl) (fun _ _ _ h => h) (Or.inl ⟨by rfl, ?_⟩) (by assumption) ?_
        rotate_left
        · (intro w hSw; (try dsimp only at hSw); go_simp; (try with_reducible rfl))
        show wpAnyH _ _ _ _ _ _ _ (Act.put _ (some 32) _) _
        simp only [Act.put, List.setIfInBounds_toArray, List.set_cons_zero, List.set_cons_succ]
        refine wpAnyH_take (i := 5) (v := ?_) rfl (by kernel_rfl) (by kernel_rfl) (by kernel_rfl) (fun _ _ _ h => h) (Or.inl ⟨by rfl, ?_⟩) (by assumption) ?_
        rotate_left
        · (intro w hSw; (try dsimp only at hSw); go_simp; (try with_reducible rfl))
        show wpAnyH _ _ _ _ _ _ _ (Act.put _ (some 33) _) _
        simp only [Act.put, List.setIfInBounds_toArray, List.set_cons_zero, List.set_cons_succ]
        refine wpAnyH_take (i := 6) (v := ?_) rfl (by kernel_rfl) (by kernel_rfl) (by kernel_rfl) (fun _ _ _ h => h) (Or.inl ⟨by rfl, ?_⟩) (by assumption) ?_
        rotate_left
        · (intro w hSw; (try dsimp only at hSw); go_simp; (try with_reducible rfl))
        show wpAnyH _ _ _ _ _ _ _ (Act.put _ (some 34) _) _
        simp only [Act.put, List.setIfInBounds_toArray, List.set_cons_zero, List.set_cons_succ]
        refine wpAnyH_take (i := 7) (v := ?_) rfl (by kernel_rfl) (by kernel_rfl) (by kernel_rfl) (fun _ _ _ h => h) (Or.inl ⟨by rfl, ?_⟩) (by assumption) ?_
        rotate_left
        · (intro w hSw; (try dsimp only at hSw); go_simp; (try with_reducible rfl))
        show wpAnyH _ _ _ _ _ _ _ (Act.put _ (some 35) _) _
        simp only [Act.put, List.setIfInBounds_toArray, List.set_cons_zero, List.set_cons_succ]
        refine wpAnyH_take (i := 8) (v := ?_) rfl (by kernel_rfl) (by kernel_rfl) (by kernel_rfl) (fun _ _ _ h => h) (Or.inl ⟨by rfl, ?_⟩) (by assumption) ?_
        rotate_left
        · (intro w hSw; (try dsimp only at hSw); go_simp; (try with_reducible rfl))
        show wpAnyH _ _ _ _ _ _ _ (Act.put _ (some 36) _) _
        simp only [Act.put, List.setIfInBounds_toArray, List.set_cons_zero, List.set_cons_succ]
        refine wpAnyH_take (i := 9) (v := ?_) rfl (by kernel_rfl) (by kernel_rfl) (by kernel_rfl) (fun _ _ _ h => h) (Or.inl ⟨by rfl, ?_⟩) (by assumption) ?_
        rotate_left
        · (intro w hSw; (try dsimp only at hSw); go_simp; (try with_reducible rfl))
        show wpAnyH _ _ _ _ _ _ _ (Act.put _ (some 37) _) _
        simp only [Act.put, List.setIfInBounds_toArray, List.set_cons_zero, List.set_cons_succ]
        refine wpAnyH_take (i := 10) (v := ?_) rfl (by kernel_rfl) (by kernel_rfl) (by kernel_rfl) (fun _ _ _ h => h) (Or.inl ⟨by rfl, ?_⟩) (by assumption) ?_
        rotate_left
        · (intro w hSw; (try dsimp only at hSw); go_simp; (try with_reducible rfl))
        show wpAnyH _ _ _ _ _ _ _ (Act.put _ (some 38) _) _
        simp only [Act.put, List.setIfInBounds_toArray, List.set_cons_zero, List.set_cons_succ]
        refine wpAnyH_take (i := 11) (v := ?_) rfl (by kernel_rfl) (by kernel_rfl) (by kernel_rfl) (fun _ _ _ h => h) (Or.inl ⟨by rfl, ?_⟩) (by assumption) ?_
        rotate_left
        · (intro w hSw; (try dsimp only at hSw); go_simp; (try with_reducible rfl))
        show wpAnyH _ _ _ _ _ _ _ (Act.put _ (some 39) _) _
        simp only [Act.put, List.setIfInBounds_toArray, List.set_cons_zero, List.set_cons_succ]
        refine wpAnyH_take (i := 12) (v := ?_) rfl (by kernel_rfl) (by kernel_rfl) (by kernel_rfl) (fun _ _ _ h => h) (Or.inl ⟨by rfl, ?_⟩) (by assumption) ?_
        rotate_left
        · (intro w hSw; (try dsimp only at hSw); go_simp; (try with_reducible rfl))
        show wpAnyH _ _ _ _ _ _ _ (Act.put _ (some 40) _) _
        simp only [Act.put, List.setIfInBounds_toArray, List.set_cons_zero, List.set_cons_succ]
        refine wpAnyH_take (i := 13) (v := ?_) rfl (by kernel_rfl) (by kernel_rfl) (by kernel_rfl) (fun _ _ _ h => h) (Or.inl ⟨by rfl, ?_⟩) (by assumption) ?_
        rotate_left
        · (intro w hSw; (try dsimp only at hSw); go_simp; (try with_reducible rfl))
        show wpAnyH _ _ _ _ _ _ _ (Act.put _ (some 41) _) _
        simp only [Act.put, List.setIfInBounds_toArray, List.set_cons_zero, List.set_cons_succ]
        refine wpAnyH_take (i := 14) (v := ?_) rfl (by kernel_rfl) (by kernel_rfl) (by kernel_rfl) (fun _ _ _ h => h) (Or.inl ⟨by rfl, ?_⟩) (by assumption) ?_
        rotate_left
        · (intro w hSw; (try dsimp only at hSw); go_simp; (try with_reducible rfl))
        show wpAnyH _ _ _ _ _ _ _ (Act.put _ (some 42) _) _
        simp only [Act.put, List.setIfInBounds_toArray, List.set_cons_zero, List.set_cons_succ]
        refine wpAnyH_take (i := 15) (v := ?_) rfl (by kernel_rfl) (by kernel_rfl) (by kernel_rfl) (fun _ _ _ h => h) (Or.inl ⟨by rfl, ?_⟩) (by assumption) ?_
        rotate_left
        · (intro w hSw; (try dsimp only at hSw); go_simp; (try with_reducible rfl))
        show wpAnyH _ _ _ _ _ _ _ (Act.put _ (some 43) _) _
        simp only [Act.put, List.setIfInBounds_toArray, List.set_cons_zero, List.set_cons_succ]
        refine wpAnyH_take (i := 16) (v := ?_) rfl (by kernel_rfl) (by kernel_rfl) (by kernel_rfl) (fun _ _ _ h => h) (Or.inl ⟨by rfl, ?_⟩) (by assumption) ?_
        rotate_left
        · (intro w hSw; (try dsimp only at hSw); go_simp; (try with_reducible rfl))
        show wpAnyH _ _ _ _ _ _ _ (Act.put _ (some 44) _) _
        simp only [Act.put, List.setIfInBounds_toArray, List.set_cons_zero, List.set_cons_succ]
        refine wpAnyH_ready (rs := [17]) (by kernel_rfl) (by simp) ?_
        refine (AllReadyH.cons rfl (fun Ko17 hKo17 => ?_) AllReadyH.nil)
        rw [if_pos (by rfl)]
        go_simp
        rw [HS.out]
        refine hKo17.out _ _ ⟨s0, s1⟩ (fun hHeld17 => ?_)
        try simp only [Act.put, List.setIfInBounds_toArray, List.set_cons_zero, List.set_cons_succ]
        refine wpAnyH_done (by kernel_rfl) ?_ _
        clear c1 c2 z1 z2 p0 p1 s0 s1 hxc hxc2 hgp
        go_wp2_with (at_builtin; rw [← HB.out]; refine Lib.wpList_append_run _ rfl _ _ _ _ rfl _ _ rfl rfl _ _ HAP.out ?_)
        go_roundw
        case rel => exact ⟨i + 1, m + 1, a2, c2', Q ++ [⟨⟨xf, xa, xc, xd⟩, b, cap⟩], V, by first | rfl | simp, by simp, hidOf (by omega), hidOf (by rw [List.length_append, ← HM.out]; rfl), HNX⟩
        case measure => simp [intOf]; omega
      · have hlt : ¬ (i : Int) < n := by omega
        have hw64 : IntKind.u64.wrap (i : Int) = (i : Int) := by have := HNN.out; have := HI70.out; rw [IntKind.wrap_u64]; omega
        have oA : Out wr (wr.alloc (.cells #[.int .u8 77] 5)) := (Out.refl wr).alloc _
        obtain ⟨v1, v2, c1, c2, z1, z2⟩ := (LN.out.upto oA).there HI70.out
        obtain ⟨wS, HS⟩ : ∃ wS, Hid (wS = ((wr.alloc (.cells #[.int .u8 77] 5)).setCell ⟨p, i * 2, none⟩ (.int .u64 (i : Nat))).setCell ⟨p, i * 2 + 1, none⟩ (.slice (some ⟨wr.heap.size, 0, none⟩) 1 1)) := ⟨_, rfl⟩
        have LNS : Hid (LnI w wS p n (i + 1) fa fc L Q (V ++ [⟨i, some wr.heap.size, 1, [77]⟩])) := hidOf (by rw [HS.out]; exact LN.out.stepM (by omega) HI70.out)
        clear oA
        go_wp2
        rw [← HS.out]
        go_roundw
        case rel => exact ⟨i + 1, m, fa, fc, Q, V ++ [⟨i, some wr.heap.size, 1, [77]⟩], by first | rfl | simp, by simp, hidOf (by omega), HM, LNS⟩
        case measure => simp [intOf]; omega
    · have hltN : ¬ (i : Int) < N := by omega
      have hiN2 : i = n + 70 := by have := HIN.out; have := hNN.out; omega
      have hmn : m = n := by have h1 := LN.out.qlen; have h2 := HM.out; omega
      subst hmn
      subst hiN2
      have hres : Hid (N = m + 70) := hNN
      go_wp2
      refine bodyPost_ret (results_tmp2 rfl _ _ _) rfl ?_
      exact ⟨p, fa, fc, Q, V, by rw [← hres.out]; rfl, LN.out⟩
end Go.Proofs.YtekjfbmebekmeaaGreat
