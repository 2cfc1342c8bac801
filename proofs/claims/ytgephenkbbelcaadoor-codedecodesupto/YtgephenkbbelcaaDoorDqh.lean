import Derived.Test.YtgephenkbbelcaaDoorDqg
import Derived.Deep.CutBlock
namespace Go.Proofs.YtgephenkbbelcaaDoor
open Go.RowKit
set_option linter.unusedVariables false
set_option linter.unusedSimpArgs false
theorem mid_get {K0 F : List Value} {i : Nat} {x : Value} (h : F[i]? = some x) : (K0 ++ F)[K0.length + i]? = some x := by
  rw [List.getElem?_append_right (by omega), show K0.length + i - K0.length = i by omega]; exact h
/-- what keeps its lists -/
def Kps (w w' : World) : Prop := ∀ B v N, OwI B v N w → OwI B v N w'
theorem news5 (w : World) (o d s f i : Int) (t : TypeId) : ∀ j u, (insV [⟨o, d, s, f, i⟩])[j]? = some u → (w.alloc (.cells #[.int .i64 o, .int .i64 d, .int .i64 s, .int .i64 f, .int .i64 i] t)).cell? ((⟨w.heap.size, 0, none⟩ : Addr).add j) = some u := news_new w _ _ _ rfl
set_option maxRecDepth 20000 in
set_option maxHeartbeats 2000000 in
theorem writeI_any (B : Nat) (w : World) (p : Nat) (mk tt : Int) (r : Nat → Value) (L : Nat → List Value) (h : QI B w p mk tt r L) (hF0 : 0 < (L 0).length) (hF : (L 0).length ≤ 3) (hK : (L 2).length ≤ 100000) (m0 : 0 ≤ mk) (m1 : mk ≤ 100000000000000) (t0 : 0 ≤ tt) (t1 : tt ≤ 900000000) :
    Calls Tryd.prog 20 #[.pointer (some ⟨p, 0, none⟩)] w fun e w' => (∃ q, e = .returned q) ∧ ∃ mk', mk ≤ mk' ∧ mk' ≤ mk + 4000000000 ∧ WrQ B w p tt r L ((L 2).length + 2 * (L 0).length) mk' w' := by
  obtain ⟨T, rfl⟩ : ∃ T : Nat, tt = T := ⟨tt.toNat, by omega⟩
  obtain ⟨af, cf, e0⟩ := own_form (h.sh.row 0 (by omega))
  have H := hidOf h
  have E0 := hidOf e0
  have HD := hidOf h.ds
  have c3 : w.cell? ⟨p, 3, none⟩ = some (.slice af (L 0).length cf) := by rw [cell_atL h.sh.st, ← e0]; rfl
  have f3 : w.frozen? ⟨p, 3, none⟩ = false := frozen_atL h.sh.st 3
  have st1 := set_atL h.sh.st 3 (.slice none 0 0)
  have c4 : (w.setCell ⟨p, 3, none⟩ (.slice none 0 0)).cell? ⟨p, 4, none⟩ = some (r 1) := by rw [cell_atL st1]; rfl
  have f4 : (w.setCell ⟨p, 3, none⟩ (.slice none 0 0)).frozen? ⟨p, 4, none⟩ = false := frozen_atL st1 4
  have S0 := hidOf h.start
  clear h st1
  rw [e0] at S0
  clear e0
  obtain ⟨F, hFF⟩ : ∃ F, F = L 0 := ⟨_, rfl⟩
  obtain ⟨K, hKK⟩ : ∃ K, K = L 2 := ⟨_, rfl⟩
  obtain ⟨V, hVV⟩ : ∃ V, V = L 3 := ⟨_, rfl⟩
  rw [← hFF, ← hKK, ← hVV] at S0
  rw [← hFF] at E0 HD hF hF0 c3
  rw [← hKK] at hK
  have HFF := hidOf hFF
  have HVK : Hid (V.length = K.length) := hidOf (by rw [hVV, hKK]; exact H.out.kl)
  obtain ⟨NF, hNF⟩ : ∃ NF, NF = F.length := ⟨_, rfl⟩
  obtain ⟨NK, hNK⟩ : ∃ NK, NK = K.length := ⟨_, rfl⟩
  have HNF := hidOf hNF
  have HNK := hidOf hNK
  rw [← hNF] at hF hF0 c3 E0 S0
  rw [← hNK] at hK
  rw [← hFF, ← hKK, ← hNF, ← hNK]
  clear hFF hKK hVV hNF hNK
  go_enter Tryd.func20, Tryd.ntmps20
  go_upto_region 3 with fail
  clear c3 f3 c4 f4
  generalize (w.setCell ⟨p, 3, none⟩ (.slice none 0 0)).setCell ⟨p, 4, none⟩ (.slice none 0 0) = w1 at *
  go_wp2
  go_loopw [3] (fun iv wr => ∃ (i : Nat) (mk1 : Int) (ms : List Value), iv = .int .i64 i ∧ i ≤ NF ∧ Hid (ms.length = i) ∧ mk ≤ mk1 ∧ mk1 ≤ mk + 100000000 * i ∧ Hid (WQ w p T r (.slice af NF cf) F wr mk1 (K ++ F.take i) (V ++ ms) [] [] i 0)) (fun iv _ => NF - (intOf iv).toNat)
  case atStart => exact ⟨0, mk, [], rfl, by omega, hidOf rfl, by omega, by omega, by have := S0.out; exact hidOf (by simpa using this)⟩
  case round =>
    clear S0
    obtain ⟨i, mk1, ms, rfl, hi, HMs, hm0, hm1, HW⟩ := hrel
    by_cases hlt : i < NF
    · have hltI : (i : Int) < NF := by omega
      have hi0 : (0 : Int) ≤ i := by omega
      obtain ⟨x, hx⟩ : ∃ x, F[i]? = some x := ⟨_, List.getElem?_eq_getElem (by rw [← HNF.out]; exact hlt)⟩
      obtain ⟨N, hN, hown⟩ := HW.out.fown hx
      obtain ⟨n, hn⟩ : ∃ n, n = N.length := ⟨_, rfl⟩
      obtain ⟨a, c, ex⟩ := own_form hown
      rw [← hn] at ex hN
      have Hx : Hid (F[i]? = some (.slice a n c)) := hidOf (by rw [← ex]; exact hx)
      have HO : Hid (OwI 0 (.slice a n c) N wr) := hidOf (by rw [← ex]; exact hown)
      have HNn := hidOf hn.symm
      have GR : Hid (∀ wx mk2 Kx Wx Px Rx lo plo, WQ w p T r (.slice af NF cf) F wx mk2 Kx Wx Px Rx lo plo → ∃ gf, af = some ⟨gf, 0, none⟩ ∧ wx.cell? ⟨gf, i, none⟩ = some (.slice a n c)) := fun wx mk2 Kx Wx Px Rx lo plo hq => by
        obtain ⟨_, _, _, hrow⟩ := hq.cells
        rw [← HNF.out] at hrow
        exact own_getQ hrow Hx.out
      obtain ⟨gf, haf, qf⟩ := GR.out _ _ _ _ _ _ _ _ HW.out
      subst haf
      clear hx hown hn ex
      go_upto_region 7 with (go_at_call 32; refine (HW.out.some_ n (by omega) (by omega) (by omega)).mono ?_; rintro e w2 ⟨gm, Z, rfl, hZ, hgm, hZo, hW2, hk2, hs2⟩; have HZ := hidOf hZ; have HZo := hidOf hZo; have HW2 := hidOf hW2; have KP2 := hidOf hk2; have HGm := hidOf hgm; have S2 := hidOf hs2; clear hZ hZo hW2 hk2 hgm hs2)
      obtain ⟨gf2, haf2, q2⟩ := GR.out _ _ _ _ _ _ _ _ HW2.out
      simp only [Option.some.injEq, Addr.mk.injEq] at haf2
      obtain ⟨rfl, _⟩ := haf2
      clear qf
      go_upto_region 8 with (first | (refine wpList_copy5 rfl (.tmp 40) (.tmp 41) rfl a n c N (KP2.out _ _ _ HO.out) gm n Z HZ.out HZo.out rfl rfl ?_; intro w3 ho3 hc3; have HO3 := hidOf ho3; have C3 := hidOf hc3; clear ho3 hc3))
      have HW3 := hidOf (HW2.out.turnA HD.out Hx.out (Nat.le_refl _) C3.out (by rw [HZ.out]; exact hN) HO3.out)
      have HZ3 : Hid (OwI 0 (.slice (some ⟨gm, 0, none⟩) n n) Z w3) := hidOf (HZo.out.chg C3.out (fun b hb hs => by
        have h1 := (own_blkQ HO.out hs).1
        have h2 := HGm.out
        simp [Value.ownBlock] at hb
        omega))
      obtain ⟨gf2, haf2, q3⟩ := GR.out _ _ _ _ _ _ _ _ HW3.out
      simp only [Option.some.injEq, Addr.mk.injEq] at haf2
      obtain ⟨rfl, _⟩ := haf2
      clear q2
      have HNoF : Hid (∀ (j : Nat) z, NF ≤ j → F[j]? = some z → False) := hidOf (fun j z hj hz => by have := (List.getElem?_eq_some_iff.1 hz).1; have := HNF.out; omega)
      have hkl : (K ++ F.take i).length + ([] : List Value).length ≤ 1000000000000 := by simp only [List.length_append, List.length_take, List.length_nil]; have := HNK.out; omega
      have K1 : Hid (∀ b, (Value.slice a n c).ownBlock = some b → w.heap.size ≤ b ∨ KnQ w r F b) := hidOf (fun b hb => .inr (.inr ⟨_, List.mem_of_getElem? Hx.out, hb⟩))
      have K2 : Hid (∀ b, (Value.slice (some ⟨gm, 0, none⟩) n n).ownBlock = some b → w.heap.size ≤ b ∨ KnQ w r F b) := hidOf (fun b hb => .inl (by
        have h1 := HW.out.size
        have h2 := HGm.out
        simp [Value.ownBlock] at hb
        omega))
      go_wp2_with (go_at_call 33; refine (HW3.out.keep hkl (by rw [HZ.out]; omega) HO3.out HZ3.out NF (Nat.zero_le _) (fun b hb j z hj hz => (HNoF.out j z hj hz).elim) (fun b hb j z hj hz => (HNoF.out j z hj hz).elim) K1.out K2.out).mono ?_; rintro e w4 ⟨⟨q4, rfl⟩, hw4, _, _⟩; have HW4 := hidOf hw4; clear hw4)
      have HW5 := hidOf (HW4.out.rest Hx.out HD.out (fun b hb => by
        have h1 := HW.out.size
        have h2 := HGm.out
        simp [Value.ownBlock] at hb
        omega))
      have Htk : Hid (K ++ F.take i ++ [.slice a n c] = K ++ F.take (i + 1)) := hidOf (by rw [List.take_add_one, Hx.out, List.append_assoc]; rfl)
      go_roundw
      case rel =>
        refine ⟨i + 1, mk1 + n, ms ++ [.slice (some ⟨gm, 0, none⟩) n n], by simp, by omega, hidOf (by rw [List.length_append, HMs.out]; rfl), by omega, by omega, ?_⟩
        have h := HW5.out
        rw [Htk.out, List.append_assoc] at h
        exact hidOf h
      case measure => simp [intOf]; omega
    · have hltI : ¬ (i : Int) < NF := by omega
      obtain rfl : NF = i := by omega
      have HWa : Hid (WQ w p T r (.slice af NF cf) F wr mk1 (K ++ F) (V ++ ms) [] [] NF 0) := hidOf (by
        have h := HW.out
        rw [List.take_of_length_le (by rw [← HNF.out]; exact Nat.le_refl _)] at h
        exact h)
      have HKl : Hid ((K ++ F).length = NK + NF) := hidOf (by rw [List.length_append, ← HNK.out, ← HNF.out])
      obtain ⟨-, ⟨a2, d2, c5⟩, -, -⟩ := HWa.out.cells
      rw [List.append_nil, HKl.out] at c5
      clear HW
      go_upto_region 10 with fail
      clear c5
      go_wp2
      go_loopw [6] (fun iv wr => ∃ (i : Nat) (mk2 : Int) (P R : List Value), iv = .int .i64 i ∧ i ≤ NF ∧ Hid (P.length = i) ∧ mk ≤ mk2 ∧ mk2 ≤ mk + 300000000 + 100 * i ∧ Hid (WQ w p T r (.slice af NF cf) F wr mk2 (K ++ F) (V ++ ms) P R NF i)) (fun iv _ => NF - (intOf iv).toNat)
      case atStart => exact ⟨0, mk1, [], [], rfl, by omega, hidOf rfl, by omega, by omega, HWa⟩
      case round =>
        clear HWa
        obtain ⟨i, mk2, P, R, rfl, hi, HPl, hm2, hm3, HW⟩ := hrel
        by_cases hlt : i < NF
        · have hltI : (i : Int) < NF := by omega
          have hi0 : (0 : Int) ≤ i := by omega
          obtain ⟨x, hx⟩ : ∃ x, F[i]? = some x := ⟨_, List.getElem?_eq_getElem (by rw [← HNF.out]; exact hlt)⟩
          have hkx : (K ++ F)[NK + i]? = some x := by rw [HNK.out]; exact mid_get hx
          obtain ⟨y, hy⟩ : ∃ y, (V ++ ms)[NK + i]? = some y := ⟨_, List.getElem?_eq_getElem (by rw [HW.out.wl, HKl.out]; omega)⟩
          obtain ⟨N, hNb, hxo, hyo⟩ := HW.out.kown hkx hy
          obtain ⟨n, hn⟩ : ∃ n, n = N.length := ⟨_, rfl⟩
          obtain ⟨a, c, ex⟩ := own_form hxo
          obtain ⟨ay, cy, ey⟩ := own_form hyo
          rw [← hn] at ex ey
          obtain ⟨N1, hN1, hx1⟩ := HW.out.fown hx
          have hnb : n ≤ 100000000 := by
            rw [ex] at hx1
            have := hx1.len
            omega
          have Hx : Hid (F[i]? = some (.slice a n c)) := hidOf (by rw [← ex]; exact hx)
          have Hy : Hid ((V ++ ms ++ R)[NK + i]? = some (.slice ay n cy)) := hidOf (by rw [List.getElem?_append_left (List.getElem?_eq_some_iff.1 hy).1, ← ey]; exact hy)
          have HXo : Hid (OwI 0 (.slice a n c) N wr) := hidOf (by rw [← ex]; exact hxo)
          have HYo : Hid (OwI 0 (.slice ay n cy) N wr) := hidOf (by rw [← ey]; exact hyo)
          have HNn := hidOf hn.symm
          have GR : Hid (∀ wx mk2 Kx Wx Px Rx lo plo, WQ w p T r (.slice af NF cf) F wx mk2 Kx Wx Px Rx lo plo → ∃ gf, af = some ⟨gf, 0, none⟩ ∧ wx.cell? ⟨gf, i, none⟩ = some (.slice a n c)) := fun wx mk2 Kx Wx Px Rx lo plo hq => by
            obtain ⟨_, _, _, hrow⟩ := hq.cells
            rw [← HNF.out] at hrow
            exact own_getQ hrow Hx.out
          clear hx hkx hy hxo hyo hn ex ey hx1 hN1 hNb
          go_upto_region 14 with (go_at_call 32; refine (HW.out.some_ 16 (by omega) (by omega) (by omega)).mono ?_; rintro e w2 ⟨gm, Z, rfl, hZ, hgm, hZo, hW2, hk2, hs2⟩; have HZ := hidOf hZ; have HZo := hidOf hZo; have HW2 := hidOf hW2; have KP2 := hidOf hk2; have HGm := hidOf hgm; have S2 := hidOf hs2; clear hZ hZo hW2 hk2 hgm hs2)
          obtain ⟨gf, haf, q2⟩ := GR.out _ _ _ _ _ _ _ _ HW2.out
          subst haf
          have G0 : Hid (Gr5 w2 w2 (.slice a n c) (.slice a n c) (.slice (some ⟨gm, 0, none⟩) 16 16) n N Z) := hidOf ⟨KP2.out _ _ _ HXo.out, HZo.out, Chg.refl _ _, fun B v M h1 _ => h1, fun b hb => .inl hb, Nat.le_of_eq HNn.out.symm, fun b hb => ⟨(own_blkQ HZo.out hb).1, fun hs => by
            have h1 := (own_blkQ HXo.out hs).1
            have h2 := HGm.out
            simp [Value.ownBlock] at hb
            omega⟩⟩
          have Y2 := hidOf (KP2.out _ _ _ HYo.out)
          have Z2 : Hid (w.heap.size ≤ w2.heap.size) := hidOf HW2.out.size
          go_upto_region 15 with fail
          clear q2 KP2 HXo HYo
          go_wp2
          go_loopw [9, 8] (fun kv gv wr => ∃ (k : Nat) (ag : Option Addr) (cg : Nat), kv = .int .i64 k ∧ gv = .slice ag (n + k) cg ∧ k ≤ 16 ∧ Hid (Gr5 w2 wr (.slice a n c) (.slice ag (n + k) cg) (.slice (some ⟨gm, 0, none⟩) 16 16) n (N ++ Z.take k) Z)) (fun kv _ _ => 16 - (intOf kv).toNat)
          case atStart => exact ⟨0, a, c, rfl, rfl, by omega, by have h := G0.out; rw [List.take_zero, List.append_nil]; exact hidOf h⟩
          case round =>
            clear G0
            obtain ⟨k, ag, cg, rfl, rfl, hk, HG⟩ := hrel
            have hk0 : (0 : Int) ≤ k := by omega
            by_cases hkR : k < 16
            · have hkI : (k : Int) < 16 := by omega
              obtain ⟨z, hz⟩ : ∃ z, Z[k]? = some z := ⟨_, List.getElem?_eq_getElem (by rw [HZ.out]; exact hkR)⟩
              obtain ⟨⟨x0, x1, x2, x3, x4⟩, -⟩ := HG.out.few.cells5 hz
              have Htk : Hid (Z.take k ++ [z] = Z.take (k + 1)) := hidOf (by rw [List.take_add_one, hz]; rfl)
              have HNl : Hid ((N ++ Z.take k).length = n + k) := hidOf (by rw [List.length_append, HNn.out, List.length_take, HZ.out]; omega)
              obtain ⟨zo, zd, zs, zf, zi⟩ := z
              simp only at x0 x1 x2 x3 x4
              clear hz
              go_wp2_with (at_builtin; refine wpList_app5 rfl (.tmp 73) (.tmp 78) rfl (.slice ag (n + k) cg) (N ++ Z.take k) rfl (HG.out.gown.out ((Out.refl wr).alloc _)) ⟨wr.heap.size, 0, none⟩ [⟨zo, zd, zs, zf, zi⟩] 1 1 rfl (by omega) rfl (news5 wr _ _ _ _ _ _) (by rw [HNl.out]; omega) ?_; intro v5 w5 ha; obtain ⟨a5, c5, rfl⟩ := ha.form HNl.out rfl; have A5 := hidOf ha; clear ha)
              have HG2 := hidOf ((HG.out.out ((Out.refl wr).alloc _)).step A5.out)
              refine ⟨⟨k + 1, a5, c5, by simp, rfl, by omega, ?_⟩, by simp [intOf]; omega⟩
              have h := HG2.out
              rw [List.append_assoc, Htk.out] at h
              exact hidOf h
            · have hkI : ¬ (k : Int) < 16 := by omega
              obtain rfl : k = 16 := by omega
              have HGx : Hid (Gr5 w2 wr (.slice a n c) (.slice ag (n + 16) cg) (.slice (some ⟨gm, 0, none⟩) 16 16) n (N ++ Z) Z) := hidOf (by
                have h := HG.out
                rw [List.take_of_length_le (Nat.le_of_eq HZ.out)] at h
                exact h)
              clear HG
              have HWq := hidOf (HW2.out.turnB HD.out Hx.out (Nat.le_refl _) (n := n) (fun M h => h.len) HGx.out.chg HGx.out.pre)
              obtain ⟨-, -, ⟨a3, d3, c6, hrow6⟩, -⟩ := HWq.out.cells
              obtain ⟨gw, haw, qw⟩ := own_getQ hrow6 Hy.out
              subst haw
              obtain ⟨LW, hLW⟩ : ∃ LW, LW = (V ++ ms ++ R).length := ⟨_, rfl⟩
              have hIL : NK + i < LW := by rw [hLW]; exact (List.getElem?_eq_some_iff.1 Hy.out).1
              rw [← hLW] at c6
              clear hrow6 hLW
              obtain ⟨IX, hIX⟩ : ∃ IX, IX = NK + i := ⟨_, rfl⟩
              rw [← hIX] at qw hIL
              have hx1 : ((NK : Int) + NF) - NF + i = IX := by omega
              have hx2 : (NK : Int) + i = IX := by omega
              have hx3 : (0 : Int) ≤ IX := by omega
              have hx4 : (IX : Int) < LW := by omega
              have Y3 := hidOf (HGx.out.pre 0 _ _ Y2.out (Nat.le_of_eq HNn.out))
              have HCp := hidOf (copyI wr ay n cy N HNn.out Y3.out.at2 (by omega))
              clear hIX
              have G1 : Hid (∀ b, (Value.slice ag (n + 16) cg).ownBlock = some b → ∀ (j : Nat) z, i + 1 ≤ j → F[j]? = some z → ¬ z.ownBlock = some b) := hidOf (fun b hb j z hj hz e2 => by
                rcases HGx.out.gb b hb with e | e
                · exact HD.out j i z _ hz Hx.out (by omega) b e2 e
                · exact HWq.out.new (Nat.le_trans Z2.out e) j z hz e2)
              have K1 : Hid (∀ b, (Value.slice ag (n + 16) cg).ownBlock = some b → w.heap.size ≤ b ∨ KnQ w r F b) := hidOf (fun b hb => by
                rcases HGx.out.gb b hb with e | e
                · exact .inr (.inr ⟨_, List.mem_of_getElem? Hx.out, e⟩)
                · exact .inl (Nat.le_trans Z2.out e))
              go_wp2_with (first | (go_at_call 18; refine HCp.out.mono ?_; rintro e w7 ⟨v7, rfl, ho7, oo7⟩; obtain ⟨a7, c7, rfl⟩ := own_form ho7; rw [HNn.out] at ho7; have O7 := hidOf (show OwI wr.heap.size (.slice a7 n c7) N w7 from ho7); have P7 := hidOf oo7; (try rw [HNn.out]); clear ho7 oo7) | (at_builtin; refine wpList_app5 rfl (.tmp 94) (.tmp 95) rfl (.slice a7 n c7) N rfl (O7.out.low (Nat.zero_le _)) ⟨gm, 0, none⟩ Z 16 16 HZ.out (by omega) rfl (HGx.out.few.out P7.out).news (by rw [HNn.out]; omega) ?_; intro v8 w8 ha; obtain ⟨a8, c8, rfl⟩ := ha.form HNn.out HZ.out; have A8 := hidOf ha; clear ha) | (go_at_call 33; refine ((HWq.out.out (Chg.out A8.out.chg P7.out (fun k hk => (World.ownsRow.lt O7.out k hk).1))).keep (by rw [HKl.out, HPl.out]; omega) (by rw [List.length_append, HNn.out, HZ.out]; omega) (HGx.out.gown.out (Chg.out A8.out.chg P7.out (fun k hk => (World.ownsRow.lt O7.out k hk).1))) A8.out.own (i + 1) (by omega) G1.out (fun b hb j z hj hz => HWq.out.new (by have h1 := HWq.out.size; have h2 := P7.out.size; rcases A8.out.blk b hb with e | e; (have h3 := (World.ownsRow.lt O7.out b e).1; omega); omega) j z hz) K1.out (fun b hb => .inl (by have h1 := HWq.out.size; have h2 := P7.out.size; rcases A8.out.blk b hb with e | e; (have h3 := (World.ownsRow.lt O7.out b e).1; omega); omega))).mono ?_; rintro e w9 ⟨⟨q9, rfl⟩, hw9, _, _⟩; have HW9 := hidOf hw9; clear hw9))
              go_roundw
              case rel => exact ⟨i + 1, mk2 + 16, _, _, by simp, by omega, hidOf (by rw [List.length_append, HPl.out]; rfl), by omega, by omega, HW9⟩
              case measure => simp [intOf]; omega
        · have hltI : ¬ (i : Int) < NF := by omega
          obtain rfl : NF = i := by omega
          have hKP : Hid ((K ++ F ++ P).length = NK + NF + NF) := hidOf (by rw [List.length_append, HKl.out, HPl.out])
          have CKp := hidOf (HW.out.kept_ (by rw [HKl.out, HPl.out]; omega))
          go_upto_region 21 with (go_at_call 34; refine CKp.out.mono ?_; rintro e w2 ⟨⟨q2, rfl⟩, ho⟩; have HW2 := hidOf (HW.out.out ho); clear ho)
          obtain ⟨g2, d2, g3, d3, c5, c6, n2, n3, hlen, fz, hset⟩ := HW2.out.rows (by rw [hKP.out]; omega)
          have HWc := hidOf (HW2.out.cutP c5 c6)
          rw [HKl.out] at HWc
          rw [hlen] at c6
          rw [hKP.out] at c5 c6 n2 n3
          have hn2 : ((NK : Int) + NF) ≤ d2 := by omega
          have hn3 : ((NK : Int) + NF) ≤ d3 := by omega
          have f5 := fz 5
          obtain ⟨c6b, f6⟩ := hset (.slice (some ⟨g2, 0, none⟩) (NK + NF) d2)
          rw [hlen, hKP.out] at c6b
          have hna : ¬ d2 = NK + NF := by omega
          clear fz hset hlen HW CKp
          go_upto_region 23 with fail
          clear c5 c6 c6b f5 f6
          generalize (w2.setCell ⟨p, 5, none⟩ (.slice (some ⟨g2, 0, none⟩) (NK + NF) d2)).setCell ⟨p, 6, none⟩ (.slice (some ⟨g3, 0, none⟩) (NK + NF) d3) = w3 at *
          go_wp2
          go_loopw [10] (fun iv wr => ∃ (i : Nat) (mk2 : Int) (P R : List Value), iv = .int .i64 i ∧ i ≤ NF ∧ Hid (P.length = i) ∧ mk ≤ mk2 ∧ mk2 ≤ mk + 300001000 + 1000000000 * i ∧ Hid (WQ w p T r (.slice af NF cf) F wr mk2 (K ++ F) (V ++ ms) P R NF i)) (fun iv _ => NF - (intOf iv).toNat)
          case atStart => exact ⟨0, mk2, [], [], rfl, by omega, hidOf rfl, by omega, by omega, HWc⟩
          case round =>
            clear HWc HPl HW2 hKP
            obtain ⟨i, mk2, P, R, rfl, hi, HPl, hm2, hm3, HW⟩ := hrel
            by_cases hlt : i < NF
            · have hltI : (i : Int) < NF := by omega
              have hi0 : (0 : Int) ≤ i := by omega
              obtain ⟨x, hx⟩ : ∃ x, F[i]? = some x := ⟨_, List.getElem?_eq_getElem (by rw [← HNF.out]; exact hlt)⟩
              have hkx : (K ++ F)[NK + i]? = some x := by rw [HNK.out]; exact mid_get hx
              obtain ⟨y, hy⟩ : ∃ y, (V ++ ms)[NK + i]? = some y := ⟨_, List.getElem?_eq_getElem (by rw [HW.out.wl, HKl.out]; omega)⟩
              obtain ⟨N, hNb, hxo, hyo⟩ := HW.out.kown hkx hy
              obtain ⟨n, hn⟩ : ∃ n, n = N.length := ⟨_, rfl⟩
              obtain ⟨a, c, ex⟩ := own_form hxo
              obtain ⟨ay, cy, ey⟩ := own_form hyo
              rw [← hn] at ex ey
              obtain ⟨N1, hN1, hx1⟩ := HW.out.fown hx
              have hnb : n ≤ 100000000 := by
                rw [ex] at hx1
                have := hx1.len
                omega
              have Hx : Hid (F[i]? = some (.slice a n c)) := hidOf (by rw [← ex]; exact hx)
              have Hy : Hid ((V ++ ms ++ R)[NK + i]? = some (.slice ay n cy)) := hidOf (by rw [List.getElem?_append_left (List.getElem?_eq_some_iff.1 hy).1, ← ey]; exact hy)
              have HXo : Hid (OwI 0 (.slice a n c) N wr) := hidOf (by rw [← ex]; exact hxo)
              have HYo : Hid (OwI 0 (.slice ay n cy) N wr) := hidOf (by rw [← ey]; exact hyo)
              have HNn := hidOf hn.symm
              have GR : Hid (∀ wx mk2 Kx Wx Px Rx lo plo, WQ w p T r (.slice af NF cf) F wx mk2 Kx Wx Px Rx lo plo → ∃ gf, af = some ⟨gf, 0, none⟩ ∧ wx.cell? ⟨gf, i, none⟩ = some (.slice a n c)) := fun wx mk2 Kx Wx Px Rx lo plo hq => by
                obtain ⟨_, _, _, hrow⟩ := hq.cells
                rw [← HNF.out] at hrow
                exact own_getQ hrow Hx.out
              clear hx hkx hy hxo hyo hn ex ey hx1 hN1 hNb
              have CSm : Hid (Calls Tryd.prog 32 #[.pointer (some ⟨p, 0, none⟩), .int .i64 ((T : Int) + 70)] wr fun e w' => ∃ g Z, e = .returned (.slice (some ⟨g, 0, none⟩) (T + 70) (T + 70)) ∧ Z.length = T + 70 ∧ wr.heap.size ≤ g ∧ OwI 0 (.slice (some ⟨g, 0, none⟩) (T + 70) (T + 70)) Z w' ∧ WQ w p T r (.slice af NF cf) F w' (mk2 + ((T : Int) + 70)) (K ++ F) (V ++ ms) P R NF i ∧ (∀ B v N, OwI B v N wr → OwI B v N w') ∧ wr.heap.size ≤ w'.heap.size) := hidOf (by
                have h := HW.out.some_ (T + 70) (by omega) (by omega) (by omega)
                rw [Int.natCast_add] at h
                exact h)
              obtain ⟨c1, -, -, -⟩ := HW.out.cells
              go_upto_region 27 with (go_at_call 32; refine CSm.out.mono ?_; rintro e w2 ⟨gm, Z, rfl, hZ, hgm, hZo, hW2, hk2, hs2⟩; have HZ := hidOf hZ; have HZo := hidOf hZo; have HW2 := hidOf hW2; have KP2 := hidOf hk2; have HGm := hidOf hgm; have S2 := hidOf hs2; clear hZ hZo hW2 hk2 hgm hs2)
              clear c1
              obtain ⟨gf, haf, q2⟩ := GR.out _ _ _ _ _ _ _ _ HW2.out
              subst haf
              have G0 : Hid (Gr5 w2 w2 (.slice a n c) (.slice a n c) (.slice (some ⟨gm, 0, none⟩) (T + 70) (T + 70)) n N Z) := hidOf ⟨KP2.out _ _ _ HXo.out, HZo.out, Chg.refl _ _, fun B v M h1 _ => h1, fun b hb => .inl hb, Nat.le_of_eq HNn.out.symm, fun b hb => ⟨(own_blkQ HZo.out hb).1, fun hs => by
                have h1 := (own_blkQ HXo.out hs).1
                have h2 := HGm.out
                simp [Value.ownBlock] at hb
                omega⟩⟩
              have Y2 := hidOf (KP2.out _ _ _ HYo.out)
              have Z2 : Hid (w.heap.size ≤ w2.heap.size) := hidOf HW2.out.size
              go_upto_region 28 with fail
              clear q2 KP2 HXo HYo
              go_wp2
              go_loopw [13, 12] (fun kv gv wr => ∃ (k : Nat) (ag : Option Addr) (cg : Nat), kv = .int .i64 k ∧ gv = .slice ag (n + k) cg ∧ k ≤ (T + 70) ∧ Hid (Gr5 w2 wr (.slice a n c) (.slice ag (n + k) cg) (.slice (some ⟨gm, 0, none⟩) (T + 70) (T + 70)) n (N ++ Z.take k) Z)) (fun kv _ _ => (T + 70) - (intOf kv).toNat)
              case atStart => exact ⟨0, a, c, rfl, rfl, by omega, by have h := G0.out; rw [List.take_zero, List.append_nil]; exact hidOf h⟩
              case round =>
                clear G0
                obtain ⟨k, ag, cg, rfl, rfl, hk, HG⟩ := hrel
                have hk0 : (0 : Int) ≤ k := by omega
                by_cases hkR : k < (T + 70)
                · have hkI : (k : Int) < ((T : Int) + 70) := by omega
                  obtain ⟨z, hz⟩ : ∃ z, Z[k]? = some z := ⟨_, List.getElem?_eq_getElem (by rw [HZ.out]; exact hkR)⟩
                  obtain ⟨⟨x0, x1, x2, x3, x4⟩, -⟩ := HG.out.few.cells5 hz
                  have Htk : Hid (Z.take k ++ [z] = Z.take (k + 1)) := hidOf (by rw [List.take_add_one, hz]; rfl)
                  have HNl : Hid ((N ++ Z.take k).length = n + k) := hidOf (by rw [List.length_append, HNn.out, List.length_take, HZ.out]; omega)
                  obtain ⟨zo, zd, zs, zf, zi⟩ := z
                  simp only at x0 x1 x2 x3 x4
                  clear hz
                  go_wp2_with (at_builtin; refine wpList_app5 rfl (.tmp 141) (.tmp 146) rfl (.slice ag (n + k) cg) (N ++ Z.take k) rfl (HG.out.gown.out ((Out.refl wr).alloc _)) ⟨wr.heap.size, 0, none⟩ [⟨zo, zd, zs, zf, zi⟩] 1 1 rfl (by omega) rfl (news5 wr _ _ _ _ _ _) (by rw [HNl.out]; omega) ?_; intro v5 w5 ha; obtain ⟨a5, c5, rfl⟩ := ha.form HNl.out rfl; have A5 := hidOf ha; clear ha)
                  have HG2 := hidOf ((HG.out.out ((Out.refl wr).alloc _)).step A5.out)
                  refine ⟨⟨k + 1, a5, c5, by simp, rfl, by omega, ?_⟩, by simp [intOf]; omega⟩
                  have h := HG2.out
                  rw [List.append_assoc, Htk.out] at h
                  exact hidOf h
                · have hkI : ¬ (k : Int) < ((T : Int) + 70) := by omega
                  obtain rfl : k = (T + 70) := by omega
                  have HGx : Hid (Gr5 w2 wr (.slice a n c) (.slice ag (n + (T + 70)) cg) (.slice (some ⟨gm, 0, none⟩) (T + 70) (T + 70)) n (N ++ Z) Z) := hidOf (by
                    have h := HG.out
                    rw [List.take_of_length_le (Nat.le_of_eq HZ.out)] at h
                    exact h)
                  clear HG
                  have HWq := hidOf (HW2.out.turnB HD.out Hx.out (Nat.le_refl _) (n := n) (fun M h => h.len) HGx.out.chg HGx.out.pre)
                  obtain ⟨-, -, ⟨a3, d3, c6, hrow6⟩, -⟩ := HWq.out.cells
                  obtain ⟨gw, haw, qw⟩ := own_getQ hrow6 Hy.out
                  subst haw
                  obtain ⟨LW, hLW⟩ : ∃ LW, LW = (V ++ ms ++ R).length := ⟨_, rfl⟩
                  have hIL : NK + i < LW := by rw [hLW]; exact (List.getElem?_eq_some_iff.1 Hy.out).1
                  rw [← hLW] at c6
                  clear hrow6 hLW
                  obtain ⟨IX, hIX⟩ : ∃ IX, IX = NK + i := ⟨_, rfl⟩
                  rw [← hIX] at qw hIL
                  have hx1 : ((NK : Int) + NF) - NF + i = IX := by omega
                  have hx2 : (NK : Int) + i = IX := by omega
                  have hx3 : (0 : Int) ≤ IX := by omega
                  have hx4 : (IX : Int) < LW := by omega
                  have Y3 := hidOf (HGx.out.pre 0 _ _ Y2.out (Nat.le_of_eq HNn.out))
                  have HCp := hidOf (copyI wr ay n cy N HNn.out Y3.out.at2 (by omega))
                  clear hIX
                  have G1 : Hid (∀ b, (Value.slice ag (n + (T + 70)) cg).ownBlock = some b → ∀ (j : Nat) z, i + 1 ≤ j → F[j]? = some z → ¬ z.ownBlock = some b) := hidOf (fun b hb j z hj hz e2 => by
                    rcases HGx.out.gb b hb with e | e
                    · exact HD.out j i z _ hz Hx.out (by omega) b e2 e
                    · exact HWq.out.new (Nat.le_trans Z2.out e) j z hz e2)
                  have K1 : Hid (∀ b, (Value.slice ag (n + (T + 70)) cg).ownBlock = some b → w.heap.size ≤ b ∨ KnQ w r F b) := hidOf (fun b hb => by
                    rcases HGx.out.gb b hb with e | e
                    · exact .inr (.inr ⟨_, List.mem_of_getElem? Hx.out, e⟩)
                    · exact .inl (Nat.le_trans Z2.out e))
                  go_wp2_with (first | (go_at_call 18; refine HCp.out.mono ?_; rintro e w7 ⟨v7, rfl, ho7, oo7⟩; obtain ⟨a7, c7, rfl⟩ := own_form ho7; rw [HNn.out] at ho7; have O7 := hidOf (show OwI wr.heap.size (.slice a7 n c7) N w7 from ho7); have P7 := hidOf oo7; (try rw [HNn.out]); clear ho7 oo7) | (at_builtin; refine wpList_app5 rfl (.tmp 162) (.tmp 163) rfl (.slice a7 n c7) N rfl (O7.out.low (Nat.zero_le _)) ⟨gm, 0, none⟩ Z (T + 70) (T + 70) HZ.out (by omega) rfl (HGx.out.few.out P7.out).news (by rw [HNn.out]; omega) ?_; intro v8 w8 ha; obtain ⟨a8, c8, rfl⟩ := ha.form HNn.out HZ.out; have A8 := hidOf ha; clear ha) | (go_at_call 33; refine ((HWq.out.out (Chg.out A8.out.chg P7.out (fun k hk => (World.ownsRow.lt O7.out k hk).1))).keep (by rw [HKl.out, HPl.out]; omega) (by rw [List.length_append, HNn.out, HZ.out]; omega) (HGx.out.gown.out (Chg.out A8.out.chg P7.out (fun k hk => (World.ownsRow.lt O7.out k hk).1))) A8.out.own (i + 1) (by omega) G1.out (fun b hb j z hj hz => HWq.out.new (by have h1 := HWq.out.size; have h2 := P7.out.size; rcases A8.out.blk b hb with e | e; (have h3 := (World.ownsRow.lt O7.out b e).1; omega); omega) j z hz) K1.out (fun b hb => .inl (by have h1 := HWq.out.size; have h2 := P7.out.size; rcases A8.out.blk b hb with e | e; (have h3 := (World.ownsRow.lt O7.out b e).1; omega); omega))).mono ?_; rintro e w9 ⟨⟨q9, rfl⟩, hw9, _, _⟩; have HW9 := hidOf hw9; clear hw9))
                  go_roundw
                  case rel => exact ⟨i + 1, mk2 + ((T : Int) + 70), _, _, by simp, by omega, hidOf (by rw [List.length_append, HPl.out]; rfl), by omega, by omega, HW9⟩
                  case measure => simp [intOf]; omega
            · have hltI : ¬ (i : Int) < NF := by omega
              obtain rfl : NF = i := by omega
              go_wp2
              go_end0
              refine ⟨⟨_, rfl⟩, mk2, hm2, by omega, ?_⟩
              have h := HW.out
              rw [HFF.out, ← E0.out] at h
              exact h.done H.out (by rw [List.length_append, List.length_append, HPl.out, ← HNK.out, ← HFF.out, ← HNF.out]; omega)
end Go.Proofs.YtgephenkbbelcaaDoor
