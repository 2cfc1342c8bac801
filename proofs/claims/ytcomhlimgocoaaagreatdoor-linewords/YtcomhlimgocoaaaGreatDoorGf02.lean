import Derived.Test.YtcomhlimgocoaaaGreatDoorGf01
import Derived.Deep.CutBlock
import Derived.Deep.DeepCutAuto
namespace Go.Proofs.YtcomhlimgocoaaaGreatDoor
open Go.RowKit
set_option linter.unusedVariables false
set_option linter.unusedSimpArgs false
set_option maxRecDepth 20000 in
set_option maxHeartbeats 1000000 in
theorem writeQ_any (B : Nat) (w : World) (p : Nat) (tt : Int) (r : Nat → Value) (L : Nat → List Value) (h : QI B w p tt r L) (hF : (L 0).length ≤ 3) (hK : (L 2).length ≤ 500000000000) (t0 : 0 ≤ tt) (t1 : tt ≤ 1000000000000000) :
    Calls Tryz.prog 45 #[.pointer (some ⟨p, 0, none⟩)] w fun e w' => (∃ q, e = .returned q) ∧ WrQ B w p tt r L ((L 2).length + 5 * (L 0).length) w' := by
  obtain ⟨af, cf, e0⟩ := own_form (h.sh.row 0 (by omega))
  obtain ⟨ak, ck, e2⟩ := own_form (h.sh.row 2 (by omega))
  have CU := hidOf (untouchedQ_any w p tt r L h.sh h.wl h.pf (by omega))
  have H := hidOf h
  have E0 := hidOf e0
  have HD := hidOf h.ds
  have c4 : w.cell? ⟨p, 4, none⟩ = some (.slice ak (L 2).length ck) := by rw [cell_atL h.sh.st, ← e2]; rfl
  have HS0 := hidOf (h.start ((L 2).length : Int))
  clear h e0 e2
  obtain ⟨F, hFF⟩ : ∃ F, F = L 0 := ⟨_, rfl⟩
  obtain ⟨K, hKK⟩ : ∃ K, K = L 2 := ⟨_, rfl⟩
  obtain ⟨V, hVV⟩ : ∃ V, V = L 3 := ⟨_, rfl⟩
  rw [← hFF, ← hKK, ← hVV] at HS0
  rw [← hFF] at E0 HD hF
  rw [← hKK] at hK c4
  have HFF := hidOf hFF
  have HKK := hidOf hKK
  clear hVV
  obtain ⟨NF, hNF⟩ : ∃ NF, NF = F.length := ⟨_, rfl⟩
  obtain ⟨NK, hNK⟩ : ∃ NK, NK = K.length := ⟨_, rfl⟩
  rw [← hNF] at hF
  rw [← hNK] at hK c4 HS0
  have HNF := hidOf hNF
  have HNK := hidOf hNK
  rw [← hFF, ← hKK, ← hNF, ← hNK]
  clear hFF hKK hNF hNK
  rw [← HNF.out] at E0
  go_enter Tryz.func45, Tryz.ntmps45
  go_upto_region 2 with (go_at_call 46; refine CU.out.mono ?_; rintro e w1 ⟨⟨q1, rfl⟩, ho⟩; have S1 := hidOf (HS0.out.out ho); have d4 := cell_later ho c4; clear ho)
  clear c4 d4 CU HS0
  go_wp2
  go_loopw [3] (fun iv wr => ∃ i : Nat, iv = .int .i64 i ∧ i ≤ NF ∧ Hid (WQ w p tt r F NK wr K V [] [] 0 i)) (fun iv _ => NF - (intOf iv).toNat)
  case atStart => exact ⟨0, rfl, by omega, S1⟩
  case round =>
    clear S1
    obtain ⟨i, rfl, hi, HW⟩ := hrel
    obtain ⟨-, -, c2, -, -⟩ := HW.out.cells (by rw [← HNF.out]; exact E0.out)
    rw [← HNF.out] at c2
    by_cases hlt : i < NF
    · have hltI : (i : Int) < NF := by omega
      obtain ⟨x, hx⟩ : ∃ x, F[i]? = some x := ⟨_, List.getElem?_eq_getElem (by rw [← HNF.out]; exact hlt)⟩
      obtain ⟨N, hN, hown, _⟩ := HW.out.fown (Nat.zero_le _) hx
      obtain ⟨n, hn⟩ : ∃ n, n = N.length := ⟨_, rfl⟩
      obtain ⟨a, c, ex⟩ := own_form hown
      rw [← hn] at ex hN
      have Hx : Hid (F[i]? = some (.slice a n c)) := hidOf (by rw [← ex]; exact hx)
      have HM : Hid (Mkd wr (.slice a n c) ((NK : Int) + i) n 0) := hidOf ⟨N, hn.symm, by rw [← ex]; exact hown, by simp [mks]⟩
      clear hx hown hn ex
      go_upto_region 5 with fail
      clear c2
      obtain ⟨w3, hw3⟩ : ∃ w3, w3 = wr := ⟨_, rfl⟩
      rw [← hw3] at HW HM
      have Hw3 := hidOf hw3
      clear hw3
      go_wp2
      go_loopw [4] (fun kv wr => ∃ k : Nat, kv = .int .i64 k ∧ k ≤ n ∧ Hid (WQ w p tt r F NK wr K V [] [] 0 i) ∧ Hid (Mkd wr (.slice a n c) ((NK : Int) + i) n k)) (fun kv _ => n - (intOf kv).toNat)
      case atStart => exact ⟨0, rfl, by omega, by rw [← Hw3.out]; exact HW, by rw [← Hw3.out]; exact HM⟩
      case round =>
        clear HW HM Hw3
        obtain ⟨k, rfl, hk, HW, HM⟩ := hrel
        obtain ⟨-, -, c2, -, hrow⟩ := HW.out.cells (by rw [← HNF.out]; exact E0.out)
        rw [← HNF.out] at c2 hrow
        obtain ⟨gf, haf, qf⟩ := own_getQ hrow Hx.out
        rw [haf] at c2
        clear hrow
        have Haf := hidOf haf
        clear haf
        by_cases hkn : k < n
        · have hkI : (k : Int) < n := by omega
          have hk0 : (0 : Int) ≤ k := by omega
          have hi0 : (0 : Int) ≤ i := by omega
          obtain ⟨N, hNl, hown, htk⟩ := HM.out
          obtain ⟨g, rfl⟩ := hown.adr (by omega)
          obtain ⟨z, hz⟩ : ∃ z, N[k]? = some z := ⟨_, List.getElem?_eq_getElem (by omega)⟩
          have Hown := hidOf hown
          have HNl := hidOf hNl
          have Htk := hidOf htk
          have Hz := hidOf hz
          obtain ⟨-, gcs, hgc⟩ := own_blkQ hown (b := g) rfl
          have hgp : ¬ g = p := fun e => by
            obtain ⟨r', L', h'⟩ := HW.out
            have := h'.sh.st
            rw [← e, hgc] at this; simp at this
          have hgf : ¬ g = gf := fun e => by
            obtain ⟨-, -, -, -, hrow⟩ := HW.out.cells (by rw [← HNF.out]; exact E0.out)
            rw [Haf.out] at hrow
            exact own_kind hrow hgc (by decide) (by rw [e]; rfl)
          clear hz htk hNl hown hgc HM
          go_upto_region 8 with fail
          have hwl : IntKind.i64.wrap ((NK : Int) + i) = (NK : Int) + i := by rw [IntKind.wrap_i64]; omega
          refine wp_region_held_drew (S := (fun w' => w'.cell? ⟨p, 2, none⟩ = some (.slice (some ⟨gf, 0, none⟩) NF cf) ∧ w'.cell? ⟨gf, i, none⟩ = some (.slice (some ⟨g, 0, none⟩) n c))) (by kernel_rfl) ?_ (fun hHeld => ?_)
          · exact ⟨c2, qf⟩
          refine wpAnyH_take (i := 0) (v := ?_) rfl (by kernel_rfl) (by kernel_rfl) (by kernel_rfl) (fun _ _ _ h => h) (Or.inl ⟨by rfl, ?_⟩) (by assumption) ?_
          rotate_left
          · (intro w hSw; (try dsimp only at hSw); go_simp; (try with_reducible rfl))
          show wpAnyH _ _ _ _ _ _ _ (Act.put _ (some 44) _) _
          simp only [Act.put, List.setIfInBounds_toArray, List.set_cons_zero, List.set_cons_succ]
          refine wpAnyH_take (i := 1) (v := ?_) rfl (by kernel_rfl) (by kernel_rfl) (by kernel_rfl) (fun _ _ _ h => h) (Or.inl ⟨by rfl, ?_⟩) (by assumption) ?_
          rotate_left
          · (intro w hSw; (try dsimp only at hSw); go_simp; (try with_reducible rfl))
          show wpAnyH _ _ _ _ _ _ _ (Act.put _ (some 45) _) _
          simp only [Act.put, List.setIfInBounds_toArray, List.set_cons_zero, List.set_cons_succ]
          refine wpAnyH_take (i := 2) (v := ?_) rfl (by kernel_rfl) (by kernel_rfl) (by kernel_rfl) (fun _ _ _ h => h) (Or.inl ⟨by rfl, ?_⟩) (by assumption) ?_
          rotate_left
          · (intro w hSw; (try dsimp only at hSw); go_simp; (try with_reducible rfl))
          show wpAnyH _ _ _ _ _ _ _ (Act.put _ (some 46) _) _
          simp only [Act.put, List.setIfInBounds_toArray, List.set_cons_zero, List.set_cons_succ]
          refine wpAnyH_take (i := 3) (v := ?_) rfl (by kernel_rfl) (by kernel_rfl) (by kernel_rfl) (fun _ _ _ h => h) (Or.inl ⟨by rfl, ?_⟩) (by assumption) ?_
          rotate_left
          · (intro w hSw; (try dsimp only at hSw); go_simp; (try with_reducible rfl))
          show wpAnyH _ _ _ _ _ _ _ (Act.put _ (some 47) _) _
          simp only [Act.put, List.setIfInBounds_toArray, List.set_cons_zero, List.set_cons_succ]
          refine wpAnyH_take (i := 4) (v := ?_) rfl (by kernel_rfl) (by kernel_rfl) (by kernel_rfl) (fun _ _ _ h => h) (Or.inl ⟨by rfl, ?_⟩) (by assumption) ?_
          rotate_left
          · (intro w hSw; (try dsimp only at hSw); go_simp; (try with_reducible rfl))
          show wpAnyH _ _ _ _ _ _ _ (Act.put _ (some 48) _) _
          simp only [Act.put, List.setIfInBounds_toArray, List.set_cons_zero, List.set_cons_succ]
          refine wpAnyH_take (i := 5) (v := ?_) rfl (by kernel_rfl) (by kernel_rfl) (by kernel_rfl) (fun _ _ _ h => h) (Or.inl ⟨by rfl, ?_⟩) (by assumption) ?_
          rotate_left
          · (intro w hSw; (try dsimp only at hSw); go_simp; (try with_reducible rfl))
          show wpAnyH _ _ _ _ _ _ _ (Act.put _ (some 49) _) _
          simp only [Act.put, List.setIfInBounds_toArray, List.set_cons_zero, List.set_cons_succ]
          refine wpAnyH_take (i := 6) (v := ?_) rfl (by kernel_rfl) (by kernel_rfl) (by kernel_rfl) (fun _ _ _ h => h) (Or.inl ⟨by rfl, ?_⟩) (by assumption) ?_
          rotate_left
          · (intro w hSw; (try dsimp only at hSw); go_simp; (try with_reducible rfl))
          show wpAnyH _ _ _ _ _ _ _ (Act.put _ (some 50) _) _
          simp only [Act.put, List.setIfInBounds_toArray, List.set_cons_zero, List.set_cons_succ]
          refine wpAnyH_take (i := 7) (v := ?_) rfl (by kernel_rfl) (by kernel_rfl) (by kernel_rfl) (fun _ _ _ h => h) (Or.inl ⟨by rfl, ?_⟩) (by assumption) ?_
          rotate_left
          · (intro w hSw; (try dsimp only at hSw); go_simp; (try with_reducible rfl))
          show wpAnyH _ _ _ _ _ _ _ (Act.put _ (some 51) _) _
          simp only [Act.put, List.setIfInBounds_toArray, List.set_cons_zero, List.set_cons_succ]
          refine wpAnyH_take (i := 8) (v := ?_) rfl (by kernel_rfl) (by kernel_rfl) (by kernel_rfl) (fun _ _ _ h => h) (Or.inl ⟨by rfl, ?_⟩) (by assumption) ?_
          rotate_left
          · (intro w hSw; (try dsimp only at hSw); go_simp; (try with_reducible rfl))
          show wpAnyH _ _ _ _ _ _ _ (Act.put _ (some 52) _) _
          simp only [Act.put, List.setIfInBounds_toArray, List.set_cons_zero, List.set_cons_succ]
          refine wpAnyH_take (i := 9) (v := ?_) rfl (by kernel_rfl) (by kernel_rfl) (by kernel_rfl) (fun _ _ _ h => h) (Or.inl ⟨by rfl, ?_⟩) (by assumption) ?_
          rotate_left
          · (intro w hSw; (try dsimp only at hSw); go_simp; (try with_reducible rfl))
          show wpAnyH _ _ _ _ _ _ _ (Act.put _ (some 53) _) _
          simp only [Act.put, List.setIfInBounds_toArray, List.set_cons_zero, List.set_cons_succ]
          refine wpAnyH_take (i := 10) (v := ?_) rfl (by kernel_rfl) (by kernel_rfl) (by kernel_rfl) (fun _ _ _ h => h) (Or.inl ⟨by rfl, ?_⟩) (by assumption) ?_
          rotate_left
          · (intro w hSw; (try dsimp only at hSw); go_simp; (try with_reducible rfl))
          show wpAnyH _ _ _ _ _ _ _ (Act.put _ (some 54) _) _
          simp only [Act.put, List.setIfInBounds_toArray, List.set_cons_zero, List.set_cons_succ]
          refine wpAnyH_take (i := 11) (v := ?_) rfl (by kernel_rfl) (by kernel_rfl) (by kernel_rfl) (fun _ _ _ h => h) (Or.inl ⟨by rfl, ?_⟩) (by assumption) ?_
          rotate_left
          · (intro w hSw; (try dsimp only at hSw); go_simp; (try with_reducible rfl))
          show wpAnyH _ _ _ _ _ _ _ (Act.put _ (some 55) _) _
          simp only [Act.put, List.setIfInBounds_toArray, List.set_cons_zero, List.set_cons_succ]
          refine wpAnyH_ready (rs := [12]) (by kernel_rfl) (by simp) ?_
          refine AllReadyH.cons rfl (fun K hK => ?_) AllReadyH.nil
          rw [if_pos (by rfl)]
          go_simp
          go_at_call 84
          refine (mark6_any ((NK : Int) + i) k (by omega) (by omega) (by omega) (by omega) _).mono ?_
          rintro e w2 ⟨rfl, h2⟩
          have O2 := hidOf (Out.trans ((Out.refl wr).dN 1) h2)
          have e2 := cell_later O2.out c2
          have e3 := cell_later O2.out qf
          refine hK.out _ _ ⟨e2, e3⟩ (fun hHeld => ?_)
          obtain ⟨x0, hfz⟩ := (Hown.out.out O2.out).cell1 Hz.out
          have g0 := hfz k
          clear h2 hfz
          refine wpAnyH_take (i := 13) (v := ?_) rfl (by kernel_rfl) (by kernel_rfl) (by kernel_rfl) (fun _ _ _ h => h) (Or.inl ⟨by rfl, ?_⟩) (by assumption) ?_
          rotate_left
          · (intro w hSw; (try dsimp only at hSw); go_simp; (try with_reducible rfl))
          show wpAnyH _ _ _ _ _ _ _ (Act.put _ (some 57) _) _
          simp only [Act.put, List.setIfInBounds_toArray, List.set_cons_zero, List.set_cons_succ]
          refine wpAnyH_ready (rs := [14]) (by kernel_rfl) (by simp) ?_
          refine AllReadyH.cons rfl (fun K2 hK2 => ?_) AllReadyH.nil
          rw [if_pos (by rfl)]
          go_simp
          have hP := (Hown.out.out O2.out).put (i := k) (by rw [HNl.out]; exact hkn) (mk6 ((NK : Int) + i) k)
          have B3 := hidOf hP.1
          have C3 := hidOf hP.2
          clear hP
          have HW3 := hidOf ((HW.out.out O2.out).turn HD.out Hx.out (Nat.zero_le _) C3.out (by rw [List.length_set, HNl.out]; exact hN) B3.out (hi' := i) (fun h => by omega) (fun j hj h => h))
          have HM3 : Hid (Mkd _ _ ((NK : Int) + i) n (k + 1)) := hidOf ⟨_, by rw [List.length_set, HNl.out], B3.out, mks_set HNl.out hkn Htk.out⟩
          have C3p := C3.out.cell e2 (fun e => hgp (by simpa [Value.ownBlock] using e))
          have C3f := C3.out.cell e3 (fun e => hgf (by simpa [Value.ownBlock] using e))
          clear B3 C3
          refine hK2.out _ _ ⟨C3p, C3f⟩ (fun hHeld => ?_)
          clear x0 g0 c2 qf e2 e3 C3p C3f
          refine wpAnyH_done (by kernel_rfl) ?_ _
          go_wp2
          go_roundw
          case rel => exact ⟨k + 1, by simp, by omega, HW3, HM3⟩
          case measure => simp [intOf]; omega
        · have hkI : ¬ (k : Int) < n := by omega
          obtain rfl : k = n := by omega
          obtain ⟨N, hNl, hown, htk⟩ := HM.out
          have hmk : N = mks ((NK : Int) + i) 0 N.length := by
            rw [hNl, ← htk, List.take_of_length_le (by omega)]
          have HW3 := hidOf (HW.out.turn HD.out Hx.out (Nat.zero_le _) (Chg.refl _ _) (by rw [hNl]; exact hN) hown (hi' := i + 1) (fun _ => hmk) (fun j hj h => by omega))
          clear hmk htk hown hNl
          go_wp2
          go_roundw
          case rel => exact ⟨i + 1, by simp, by omega, HW3⟩
          case measure => simp [intOf]; omega
    · have hltI : ¬ (i : Int) < NF := by omega
      obtain rfl : NF = i := by omega
      go_upto_block 4 with fail
      clear c2 hi hlt hltI
      go_cut [0, 2, 5] (fun s0 s2 s5 wx => s0 = .pointer (some ⟨p, 0, none⟩) ∧ s2 = .int .i64 NK ∧ ∃ (R : Nat) (am : Option Addr) (cm : Nat), s5 = .slice am R cm ∧ 20 ≤ R ∧ R ≤ 3000 ∧ Hid (WQ w p tt r F NK wx K V [] [] 0 NF) ∧ Hid (ExS wx (.slice am R cm) R))
      case first =>
        obtain ⟨w3, rfl⟩ : ∃ w3, w3 = wr := ⟨_, rfl⟩
        obtain ⟨c0, -, -, -, -⟩ := HW.out.cells (by rw [← HNF.out]; exact E0.out)
        go_wp2
        go_loopw [6, 5] (fun kv mv wr => ∃ (k : Nat) (am : Option Addr) (cm : Nat), kv = .int .i64 k ∧ mv = .slice am k cm ∧ k ≤ 3000 ∧ Hid (Out w3 wr) ∧ Hid (ExS wr (.slice am k cm) k) ∧ Hid (∀ b, (Value.slice am k cm).ownBlock = some b → w3.heap.size ≤ b)) (fun kv _ _ => 3000 - (intOf kv).toNat)
        case atStart => exact ⟨0, none, 0, rfl, rfl, by omega, hidOf (Out.refl _), hidOf ⟨[], rfl, World.ownsRow_nil _ _ _ _⟩, hidOf (fun b hb => by cases hb)⟩
        case round =>
          obtain ⟨k, am, cm, rfl, rfl, hk, HO, HE, HB⟩ := hrel
          have d0 := cell_later HO.out c0
          have hk0 : (0 : Int) ≤ k := by omega
          by_cases h1 : (k : Int) < tt + 20
          · by_cases h2 : k < 3000
            · have h2I : (k : Int) < 3000 := by omega
              obtain ⟨M, hM, hown⟩ := HE.out
              have Hown := hidOf hown
              have HM := hidOf hM
              clear hown hM
              have hw1 : IntKind.i64.wrap ((NK : Int) + 9) = (NK : Int) + 9 := by rw [IntKind.wrap_i64]; omega
              have hw2 : IntKind.i64.wrap ((k : Int) + 5) = (k : Int) + 5 := by rw [IntKind.wrap_i64]; omega
              go_wp2_with (first | (go_at_call 84; refine (mark6_any ((NK : Int) + 9) ((k : Int) + 5) (by omega) (by omega) (by omega) (by omega) _).mono ?_; rintro e w4 ⟨rfl, ho⟩; have P4 := hidOf ho; clear ho) | (at_builtin; refine wpList_app6 rfl (.tmp 71) (.tmp 77) rfl (.slice am k cm) M rfl ((Hown.out.out P4.out).out ((Out.refl w4).alloc _)) ⟨w4.heap.size, 0, none⟩ [mk6 ((NK : Int) + 9) ((k : Int) + 5)] 1 1 rfl (by omega) rfl (news6 w4 _ _ _) (by have := HM.out; omega) ?_; intro v5 w5 ha; obtain ⟨a5, c5, rfl⟩ := ha.form HM.out rfl; have A5 := hidOf ha; clear ha))
              have O4 := hidOf ((HO.out.trans P4.out).alloc (.cells #[.string ⟨(mk6 ((NK : Int) + 9) ((k : Int) + 5)).toArray⟩] 9))
              have hsz := O4.out.size
              refine ⟨⟨k + 1, a5, c5, by simp, rfl, by omega, hidOf (Chg.out A5.out.chg O4.out HB.out), hidOf ⟨_, by simp [HM.out], A5.out.own⟩, hidOf (fun b hb => ?_)⟩, by simp [intOf]; omega⟩
              rcases A5.out.blk b hb with e | e
              · exact HB.out b e
              · exact Nat.le_trans hsz e
            · have h2I : ¬ (k : Int) < 3000 := by omega
              obtain rfl : k = 3000 := by omega
              have HW3 := hidOf (HW.out.out HO.out)
              go_wp2
              go_meet
              exact ⟨rfl, rfl, 3000, am, cm, rfl, by omega, by omega, HW3, HE⟩
          · have HW3 := hidOf (HW.out.out HO.out)
            go_wp2
            go_meet
            exact ⟨rfl, rfl, k, am, cm, rfl, by omega, by omega, HW3, HE⟩
      case rest =>
        obtain ⟨rfl, rfl, R, am, cm, rfl, hR0, hR1, HW2, HE⟩ := hcut
        obtain ⟨gm, rfl⟩ : ∃ gm, am = some ⟨gm, 0, none⟩ := by
          obtain ⟨Z, hZ, hown⟩ := HE.out
          exact hown.adr (by omega)
        have hRI : (20 : Int) ≤ R := by omega
        clear HW
        go_wp2
        go_loopw [7] (fun iv wr => ∃ (i : Nat) (K' V' : List Value), iv = .int .i64 i ∧ i ≤ NF ∧ Hid (K'.length = NK + 5 * i) ∧ Hid (WQ w p tt r F NK wr K' V' [] [] i NF) ∧ Hid (ExS wr (.slice (some ⟨gm, 0, none⟩) R cm) R)) (fun iv _ => NF - (intOf iv).toNat)
        case atStart => exact ⟨0, K, V, rfl, by omega, hidOf (by rw [← HNK.out]; rfl), HW2, HE⟩
        case round =>
          clear HW2 HE
          obtain ⟨i, K', V', rfl, hi, HKl, HW, HE⟩ := hrel
          obtain ⟨-, -, c2, -, hrow⟩ := HW.out.cells (by rw [← HNF.out]; exact E0.out)
          rw [← HNF.out] at c2 hrow
          by_cases hlt : i < NF
          · have hltI : (i : Int) < NF := by omega
            have hi0 : (0 : Int) ≤ i := by omega
            obtain ⟨x, hx⟩ : ∃ x, F[i]? = some x := ⟨_, List.getElem?_eq_getElem (by rw [← HNF.out]; exact hlt)⟩
            obtain ⟨N, hN, hown, hmk⟩ := HW.out.fown (Nat.le_refl _) hx
            obtain ⟨n, hn⟩ : ∃ n, n = N.length := ⟨_, rfl⟩
            obtain ⟨a, c, ex⟩ := own_form hown
            rw [← hn] at ex hN
            have Hx : Hid (F[i]? = some (.slice a n c)) := hidOf (by rw [← ex]; exact hx)
            obtain ⟨l, hl⟩ : ∃ l : Int, (NK : Int) + i = l := ⟨_, rfl⟩
            have Hl := hidOf hl
            have hl0 : 0 ≤ l := by omega
            have hl1 : l ≤ 500000000003 := by omega
            obtain ⟨M, hM⟩ : ∃ M, M = mks l 0 n := ⟨_, rfl⟩
            have HMe := hidOf hM
            have hMl : M.length = n := by rw [hM, mks_len]
            have HMl := hidOf hMl
            obtain ⟨wS, rfl⟩ : ∃ wS, wS = wr := ⟨_, rfl⟩
            have X0 : Hid (Rnd wS wS (.slice a n c) M) := hidOf ⟨by rw [← ex, hM, ← hl, hn, ← hmk hlt]; exact hown, Chg.refl _ _⟩
            obtain ⟨gf, haf, qf⟩ := own_getQ hrow Hx.out
            rw [haf] at c2
            have HsS := hidOf HW.out.size
            have hwl : IntKind.i64.wrap ((NK : Int) + i) = l := by rw [IntKind.wrap_i64]; omega
            clear hx hown hmk hn ex hM hMl hrow haf
            go_upto_region 18 with fail
            clear c2 qf
            go_upto_region 19 with (first | (go_at_call 84; refine (mark6_any l (-1) (by omega) (by omega) (by omega) (by omega) _).mono ?_; rintro e w1 ⟨rfl, ho⟩; have P1 := hidOf ho; clear ho) | (at_builtin; refine wpList_app6 rfl (.tmp 95) (.tmp 100) rfl (.slice a n c) M rfl ((X0.out.own.out P1.out).out ((Out.refl w1).alloc _)) ⟨w1.heap.size, 0, none⟩ [mk6 l (-1)] 1 1 rfl (by omega) rfl (news6 w1 _ _ _) (by have := HMl.out; omega) ?_; intro v2 w2 ha; obtain ⟨a1, c1, rfl⟩ := ha.form HMl.out rfl; have A2 := hidOf ha; clear ha))
            have X2 := hidOf (((X0.out.out P1.out).out ((Out.refl w1).alloc _)).app A2.out)
            have E2 := hidOf (((HE.out.out P1.out).out ((Out.refl w1).alloc _)).app A2.out)
            have G2 : Hid (ExS w2 (.slice a1 (n + 1) c1) (n + 1)) := hidOf ⟨_, by rw [List.length_append, HMl.out]; rfl, A2.out.own⟩
            have B1 : Hid (GBk w (.slice a n c) (.slice a1 (n + 1) c1)) := hidOf (GBk.app A2.out (Nat.le_trans HsS.out ((P1.out.alloc _).size)))
            have Z2 : Hid (wS.heap.size ≤ w2.heap.size) := hidOf X2.out.chg.size
            clear A2 P1 X0
            go_upto_region 20 with (first | (go_at_call 84; (fail_if_success (have hh := P3)); refine (mark6_any l _ (by omega) (by omega) (by omega) (by omega) _).mono ?_; rintro e w3 ⟨rfl, ho⟩; have P3 := hidOf ho; clear ho) | (go_at_call 84; refine (mark6_any l _ (by omega) (by omega) (by omega) (by omega) _).mono ?_; rintro e w4 ⟨rfl, ho⟩; have P4 := hidOf ho; clear ho) | (at_builtin; refine wpList_app6 rfl (.tmp 102) (.tmp 111) rfl (.slice a n c) M rfl (((X2.out.own.out P3.out).out P4.out).out ((Out.refl w4).alloc _)) ⟨w4.heap.size, 0, none⟩ [mk6 l (-2), mk6 l (-3)] 2 2 rfl (by omega) rfl (news66 w4 _ _ _ _) (by have := HMl.out; omega) ?_; intro v5 w5 ha; obtain ⟨a2, c2, rfl⟩ := ha.form HMl.out rfl; have A5 := hidOf ha; clear ha))
            have X5 := hidOf ((((X2.out.out P3.out).out P4.out).out ((Out.refl w4).alloc _)).app A5.out)
            have E5 := hidOf ((((E2.out.out P3.out).out P4.out).out ((Out.refl w4).alloc _)).app A5.out)
            have G5 := hidOf ((((G2.out.out P3.out).out P4.out).out ((Out.refl w4).alloc _)).app A5.out)
            have H5 : Hid (ExS w5 (.slice a2 (n + 2) c2) (n + 2)) := hidOf ⟨_, by rw [List.length_append, HMl.out]; rfl, A5.out.own⟩
            have B2 : Hid (GBk w (.slice a n c) (.slice a2 (n + 2) c2)) := hidOf (GBk.app A5.out (Nat.le_trans HsS.out (Nat.le_trans Z2.out (((P3.out.trans P4.out).alloc _).size))))
            have Z5 : Hid (wS.heap.size ≤ w5.heap.size) := hidOf X5.out.chg.size
            clear A5 P3 P4 X2 E2 G2 Z2
            obtain ⟨Z, hZ, hZo⟩ := E5.out
            have HZ := hidOf hZ
            have HZo := hidOf hZo
            clear hZ hZo
            go_upto_region 23 with (at_builtin; refine wpList_app6 rfl (.tmp 113) (.tmp 114) rfl (.slice a n c) M rfl X5.out.own ⟨gm, 0, none⟩ Z R cm HZ.out (by omega) rfl (TyAt.news HZo.out.at2) (by have := HMl.out; omega) ?_; intro v6 w6 ha; obtain ⟨a3, c3, rfl⟩ := ha.form HMl.out HZ.out; have A6 := hidOf ha; clear ha)
            have X6 := hidOf (X5.out.app A6.out)
            have E6 := hidOf (E5.out.app A6.out)
            have G6 := hidOf (G5.out.app A6.out)
            have H6 := hidOf (H5.out.app A6.out)
            have I6 : Hid (ExS w6 (.slice a3 (n + R) c3) (n + R)) := hidOf ⟨_, by rw [List.length_append, HMl.out, HZ.out], A6.out.own⟩
            have B3 : Hid (GBk w (.slice a n c) (.slice a3 (n + R) c3)) := hidOf (GBk.app A6.out (Nat.le_trans HsS.out Z5.out))
            have Z6 : Hid (wS.heap.size ≤ w6.heap.size) := hidOf X6.out.chg.size
            have HW6 := hidOf (HW.out.turn HD.out Hx.out (Nat.le_refl _) X6.out.chg (by rw [HMl.out]; exact hN) X6.out.own (hi' := NF) (fun _ => by rw [HMl.out, HMe.out, Hl.out]) (fun j _ h => h))
            clear A6 X5 E5 G5 H5 Z5 HZ HZo HE
            go_wp2
            go_loopw [14, 13] (fun kv tv wr => ∃ (k : Nat) (aw : Option Addr) (cw : Nat), kv = .int .i64 k ∧ tv = .slice aw k cw ∧ k ≤ n ∧ Hid (Out w6 wr) ∧ Hid (OwT 0 (.slice aw k cw) (mks l 0 k) wr) ∧ Hid (∀ b, (Value.slice aw k cw).ownBlock = some b → w6.heap.size ≤ b)) (fun kv _ _ => n - (intOf kv).toNat)
            case atStart => exact ⟨0, none, 0, rfl, rfl, by omega, hidOf (Out.refl _), hidOf (World.ownsRow_nil _ _ _ _), hidOf (fun b hb => by cases hb)⟩
            case round =>
              obtain ⟨k, aw, cw, rfl, rfl, hk, HO, HT, HB⟩ := hrel
              have hk0 : (0 : Int) ≤ k := by omega
              by_cases hkn : k < n
              · have hkI : (k : Int) < n := by omega
                go_wp2_with (first | (go_at_call 84; refine (mark6_any l k (by omega) (by omega) (by omega) (by omega) _).mono ?_; rintro e w7 ⟨rfl, ho⟩; have P7 := hidOf ho; clear ho) | (at_builtin; refine wpList_app6 rfl (.tmp 123) (.tmp 129) rfl (.slice aw k cw) (mks l 0 k) rfl ((HT.out.out P7.out).out ((Out.refl w7).alloc _)) ⟨w7.heap.size, 0, none⟩ [mk6 l k] 1 1 rfl (by omega) rfl (news6 w7 _ _ _) (by rw [mks_len]; omega) ?_; intro v8 w8 ha; obtain ⟨a8, c8, rfl⟩ := ha.form (mks_len _ _ _) rfl; have A8 := hidOf ha; clear ha))
                have O7 := hidOf ((HO.out.trans P7.out).alloc (.cells #[.string ⟨(mk6 l (k : Int)).toArray⟩] 9))
                have hsz := O7.out.size
                have hms : mks l 0 k ++ [mk6 l (k : Int)] = mks l 0 (k + 1) := by rw [mks_succ, Int.zero_add]
                refine ⟨⟨k + 1, a8, c8, by simp, rfl, by omega, hidOf (Chg.out A8.out.chg O7.out HB.out), hidOf (by rw [← hms]; exact A8.out.own), hidOf (fun b hb => ?_)⟩, by simp [intOf]; omega⟩
                rcases A8.out.blk b hb with e | e
                · exact HB.out b e
                · exact Nat.le_trans hsz e
              · have hkI : ¬ (k : Int) < n := by omega
                obtain rfl : n = k := by omega
                have HTM : Hid (OwT 0 (.slice aw n cw) M wr) := hidOf (by rw [HMe.out]; exact HT.out)
                clear HT
                have hKb : K'.length ≤ 600000000000 := by have := HKl.out; omega
                go_upto_region 28 with (first | (at_builtin; refine wpList_copy6 rfl (.tmp 133) (.tmp 134) rfl wr.heap.size rfl (void6 wr) aw M n cw HMl.out rfl (HTM.out.out ((Out.refl wr).alloc _)) (by omega) ?_; intro v7 w7 ha; obtain ⟨a7, c7, rfl⟩ := ha.form0 HMl.out; have A7 := hidOf ha.copied; clear ha) | (go_at_call 85; refine (((HW6.out.out HO.out).out A7.out.2.1).keep (by simp; omega) _ _ _ _ _ _).mono ?_; rintro e w8 ⟨⟨q8, rfl⟩, hw8, hk8, hs8⟩; have HW8 := hidOf hw8; have KP8 := hidOf hk8; have S8 := hidOf hs8; clear hw8 hk8 hs8))
                have P67 : Hid (Out w6 w7) := hidOf (HO.out.trans A7.out.2.1)
                have L8 : Hid (Lp6 w8 w8 (fun b => (Value.slice aw n cw).ownBlock = some b) (.slice a n c) (.slice a n c) (.slice aw n cw) (.slice a7 n c7) (.slice a1 (n + 1) c1) (.slice a2 (n + 2) c2) (.slice a3 (n + R) c3) (.slice (some ⟨gm, 0, none⟩) R cm) M M n R) := by
                  have kp := KP8.out
                  have fo : OwT 0 (.slice a n c) M w7 := X6.out.own.out P67.out
                  refine hidOf ⟨kp _ _ _ fo, kp _ _ _ (HTM.out.out A7.out.2.1), kp _ _ _ fo, kp _ _ _ A7.out.1, (G6.out.out P67.out).kp kp, (H6.out.out P67.out).kp kp, (I6.out.out P67.out).kp kp, (E6.out.out P67.out).kp kp, Chg.refl _ _, fun b hb => .inl hb, fun b hb => .inl hb, fun b hb ht => ?_, Nat.le_refl _⟩
                  have h1 := (own_blkQ X6.out.own hb).1
                  have h2 := HB.out b ht
                  omega
                have U7 : Hid (∀ b, (Value.slice a7 n c7).ownBlock = some b → w.heap.size ≤ b) := hidOf (fun b hb => by
                  have h1 := A7.out.2.2 b hb
                  have h2 := HO.out.size
                  have h3 := Z6.out
                  have h4 := HsS.out
                  omega)
                have HTb : Hid (∀ b, (Value.slice aw n cw).ownBlock = some b → w6.heap.size ≤ b ∧ ∃ cs, w8.heap[b]? = some (.cells cs 9 (0, 0))) := hidOf (fun b hb => ⟨HB.out b hb, (own_blkQ (KP8.out _ _ _ (HTM.out.out A7.out.2.1)) hb).2⟩)
                have Z8 : Hid (w6.heap.size ≤ w8.heap.size) := hidOf (Nat.le_trans P67.out.size S8.out)
                clear X6 E6 G6 H6 I6 HTM A7 P67 HB HO KP8 S8 HW6
                go_wp2
                go_loopw [15, 12, 13] (fun kv gv tv wr => ∃ (k : Nat) (ag at_ : Option Addr) (cg ct : Nat), kv = .int .i64 k ∧ gv = .slice ag (n + k) cg ∧ tv = .slice at_ (n + k) ct ∧ k ≤ R ∧ Hid (Lp6 w8 wr (fun b => (Value.slice aw n cw).ownBlock = some b) (.slice a n c) (.slice ag (n + k) cg) (.slice at_ (n + k) ct) (.slice a7 n c7) (.slice a1 (n + 1) c1) (.slice a2 (n + 2) c2) (.slice a3 (n + R) c3) (.slice (some ⟨gm, 0, none⟩) R cm) M (M ++ mks l 1000 k) n R)) (fun kv _ _ _ => R - (intOf kv).toNat)
                case atStart => exact ⟨0, a, aw, c, cw, rfl, rfl, rfl, by omega, by have h := L8.out; rw [show M ++ mks l 1000 0 = M by simp [mks]]; exact hidOf h⟩
                case round =>
                  clear L8
                  obtain ⟨k, ag, at_, cg, ct, rfl, rfl, rfl, hk, HL⟩ := hrel
                  have hk0 : (0 : Int) ≤ k := by omega
                  by_cases hkR : k < R
                  · have hkI : (k : Int) < R := by omega
                    have hw3 : IntKind.i64.wrap (1000 + (k : Int)) = 1000 + (k : Int) := by rw [IntKind.wrap_i64]; omega
                    have HNl : Hid ((M ++ mks l 1000 k).length = n + k) := hidOf (by rw [List.length_append, HMl.out, mks_len])
                    go_upto_region 32 with (first | (go_at_call 84; refine (mark6_any l (1000 + (k : Int)) (by omega) (by omega) (by omega) (by omega) _).mono ?_; rintro e w9 ⟨rfl, ho⟩; have P9 := hidOf ho; clear ho) | (at_builtin; refine wpList_app6 rfl (.tmp 143) (.tmp 150) rfl (.slice ag (n + k) cg) (M ++ mks l 1000 k) rfl ((HL.out.gown.out P9.out).out ((Out.refl w9).alloc _)) ⟨w9.heap.size, 0, none⟩ [mk6 l (1000 + (k : Int))] 1 1 rfl (by omega) rfl (news6 w9 _ _ _) (by rw [HNl.out]; omega) ?_; intro v10 w10 ha; obtain ⟨a10, c10, rfl⟩ := ha.form HNl.out rfl; have A10 := hidOf ha; clear ha))
                    go_wp2_with (first | (go_at_call 84; refine (mark6_any l (1000 + (k : Int)) (by omega) (by omega) (by omega) (by omega) _).mono ?_; rintro e w11 ⟨rfl, ho⟩; have P11 := hidOf ho; clear ho) | (at_builtin; refine wpList_app6 rfl (.tmp 152) (.tmp 159) rfl (.slice at_ (n + k) ct) (M ++ mks l 1000 k) rfl (((A10.out.pre 0 _ _ ((HL.out.town.out P9.out).out ((Out.refl w9).alloc _)) (Nat.le_refl _)).out P11.out).out ((Out.refl w11).alloc _)) ⟨w11.heap.size, 0, none⟩ [mk6 l (1000 + (k : Int))] 1 1 rfl (by omega) rfl (news6 w11 _ _ _) (by rw [HNl.out]; omega) ?_; intro v12 w12 ha; obtain ⟨a12, c12, rfl⟩ := ha.form HNl.out rfl; have A12 := hidOf ha; clear ha))
                    have HL2 := hidOf (((HL.out.out P9.out).out ((Out.refl w9).alloc _)).step A10.out (P11.out.alloc _) A12.out)
                    refine ⟨⟨k + 1, a10, a12, c10, c12, by simp, rfl, rfl, by omega, ?_⟩, by simp [intOf]; omega⟩
                    have h := HL2.out
                    rw [List.append_assoc, ← mks_succ] at h
                    exact hidOf h
                  · have hkI : ¬ (k : Int) < R := by omega
                    obtain rfl : R = k := by omega
                    obtain ⟨N, hNe⟩ : ∃ N, N = M ++ mks l 1000 R := ⟨_, rfl⟩
                    have hNl : N.length = n + R := by rw [hNe, List.length_append, HMl.out, mks_len]
                    rw [← hNe] at HL
                    have HNl := hidOf hNl
                    clear hNe hNl
                    have HWa : Hid (WQ w p tt r F NK wr (K' ++ [.slice a n c]) (V' ++ [.slice a7 n c7]) [] [] (i + 1) NF) := by
                      have h1 : WQ w p tt r F NK wr K' V' [.slice a n c] [.slice a7 n c7] i NF := by
                        refine HW8.out.turn2 HD.out Hx.out (Nat.le_refl _) HL.out.chg (fun b hb hs => ?_) (by rw [HMl.out]; exact hN) HL.out.fown (fun _ => by rw [HMl.out, HMe.out, Hl.out])
                        rcases hs with hs | hs
                        · exact .inl hs
                        · obtain ⟨h2, h3⟩ := HTb.out b hs
                          have h4 := Z6.out
                          have h5 := HsS.out
                          refine .inr ⟨by omega, fun q y hy e => ?_, h3⟩
                          have := HW.out.old q y b hy e
                          omega
                      refine hidOf ((h1.up (lo' := i + 1) (by omega)).rest (by rw [HMl.out]; omega) HL.out.fown HL.out.uown (fun b hb j z hj hz e => ?_) (fun b hb j z hj hz => h1.new (U7.out b hb) j z hz))
                      exact HD.out j i z _ hz Hx.out (by omega) b e hb
                    have GB4 : Hid (GBk w (.slice a n c) (.slice ag (n + R) cg)) := hidOf (fun b hb => by
                      rcases HL.out.fg b hb with e | e
                      · exact .inl e
                      · have h3 := Z8.out
                        have h4 := Z6.out
                        have h5 := HsS.out
                        exact .inr (by omega))
                    have TB4 : Hid (∀ b, (Value.slice at_ (n + R) ct).ownBlock = some b → w.heap.size ≤ b) := hidOf (fun b hb => by
                      have h3 := Z8.out
                      have h4 := Z6.out
                      have h5 := HsS.out
                      rcases HL.out.tb b hb with e | e
                      · have := (HTb.out b e).1
                        omega
                      · omega)
                    have hKb2 : (K' ++ [Value.slice a n c]).length ≤ 700000000000 := by rw [List.length_append, List.length_singleton]; omega
                    have hKb3 : (K' ++ [Value.slice a n c] ++ [Value.slice ag (n + R) cg]).length ≤ 700000000000 := by simp only [List.length_append, List.length_singleton]; omega
                    have hKb4 : (K' ++ [Value.slice a n c] ++ [Value.slice ag (n + R) cg] ++ [Value.slice a1 (n + 1) c1]).length ≤ 700000000000 := by simp only [List.length_append, List.length_singleton]; omega
                    have hKb5 : (K' ++ [Value.slice a n c] ++ [Value.slice ag (n + R) cg] ++ [Value.slice a1 (n + 1) c1] ++ [Value.slice a2 (n + 2) c2]).length ≤ 700000000000 := by simp only [List.length_append, List.length_singleton]; omega
                    go_upto_region 34 with (go_at_call 85; refine (HWa.out.keepRest HD.out Hx.out (by omega) (by omega) (by rw [HNl.out]; omega) HL.out.gown HL.out.town GB4.out TB4.out).mono ?_; rintro e wa ⟨⟨qa, rfl⟩, hw, hkp⟩; have HWb := hidOf hw; have KPa := hidOf hkp; clear hw hkp)
                    have Ea := hidOf (HL.out.em.kp KPa.out)
                    have Fa := hidOf (HL.out.e2.kp KPa.out)
                    have Ga := hidOf (HL.out.e3.kp KPa.out)
                    obtain ⟨M1, hM1, ho1⟩ := HL.out.e1.kp KPa.out
                    have HM1 := hidOf hM1
                    have HO1 := hidOf ho1
                    clear hM1 ho1 HL KPa HWa HW8
                    go_upto_region 35 with (first | (at_builtin; refine wpList_copy6 rfl (.tmp 167) (.tmp 168) rfl wa.heap.size rfl (void6 wa) a1 M1 (n + 1) c1 HM1.out rfl (HO1.out.out ((Out.refl wa).alloc _)) (by omega) ?_; intro vb wb ha; obtain ⟨ab, cb, rfl⟩ := ha.form0 HM1.out; have Ab := hidOf ha.copied; clear ha) | (go_at_call 85; refine ((HWb.out.out Ab.out.2.1).keepRest HD.out Hx.out (by omega) (by omega) (by rw [HM1.out]; omega) (HO1.out.out Ab.out.2.1) Ab.out.1 B1.out (fun b hb => Nat.le_trans HWb.out.size (Ab.out.2.2 b hb))).mono ?_; rintro e wd ⟨⟨qd, rfl⟩, hw, hkp⟩; have HWd := hidOf hw; have KPd := hidOf hkp; clear hw hkp))
                    have Ed := hidOf ((Ea.out.out Ab.out.2.1).kp KPd.out)
                    have Gd := hidOf ((Ga.out.out Ab.out.2.1).kp KPd.out)
                    obtain ⟨M2, hM2, ho2⟩ := (Fa.out.out Ab.out.2.1).kp KPd.out
                    have HM2 := hidOf hM2
                    have HO2 := hidOf ho2
                    clear hM2 ho2 KPd HWb Ea Ga Fa Ab HO1
                    go_upto_region 36 with (first | (at_builtin; refine wpList_copy6 rfl (.tmp 173) (.tmp 174) rfl wd.heap.size rfl (void6 wd) a2 M2 (n + 2) c2 HM2.out rfl (HO2.out.out ((Out.refl wd).alloc _)) (by omega) ?_; intro vb we ha; obtain ⟨ae, ce, rfl⟩ := ha.form0 HM2.out; have Ae := hidOf ha.copied; clear ha) | (go_at_call 85; refine ((HWd.out.out Ae.out.2.1).keepRest HD.out Hx.out (by omega) (by omega) (by rw [HM2.out]; omega) (HO2.out.out Ae.out.2.1) Ae.out.1 B2.out (fun b hb => Nat.le_trans HWd.out.size (Ae.out.2.2 b hb))).mono ?_; rintro e wf ⟨⟨qf, rfl⟩, hw, hkp⟩; have HWf := hidOf hw; have KPf := hidOf hkp; clear hw hkp))
                    have Ef := hidOf ((Ed.out.out Ae.out.2.1).kp KPf.out)
                    obtain ⟨M3, hM3, ho3⟩ := (Gd.out.out Ae.out.2.1).kp KPf.out
                    have HM3 := hidOf hM3
                    have HO3 := hidOf ho3
                    clear hM3 ho3 KPf HWd Ed Gd Ae HO2
                    go_wp2_with (first | (at_builtin; refine wpList_copy6 rfl (.tmp 179) (.tmp 180) rfl wf.heap.size rfl (void6 wf) a3 M3 (n + R) c3 HM3.out rfl (HO3.out.out ((Out.refl wf).alloc _)) (by omega) ?_; intro vb wg ha; obtain ⟨ah, ch, rfl⟩ := ha.form0 HM3.out; have Ah := hidOf ha.copied; clear ha) | (go_at_call 85; refine ((HWf.out.out Ah.out.2.1).keepRest HD.out Hx.out (by omega) (by omega) (by rw [HM3.out]; omega) (HO3.out.out Ah.out.2.1) Ah.out.1 B3.out (fun b hb => Nat.le_trans HWf.out.size (Ah.out.2.2 b hb))).mono ?_; rintro e wi ⟨⟨qi, rfl⟩, hw, hkp⟩; have HWi := hidOf hw; have KPi := hidOf hkp; clear hw hkp))
                    have Ei := hidOf ((Ef.out.out Ah.out.2.1).kp KPi.out)
                    go_roundw
                    case rel => exact ⟨i + 1, _, _, by simp, by omega, hidOf (by simp only [List.length_append, List.length_singleton, HKl.out]; omega), HWi, Ei⟩
                    case measure => simp [intOf]; omega
          · have hltI : ¬ (i : Int) < NF := by omega
            obtain rfl : NF = i := by omega
            have HD1 : Hid (WrQ B w p tt r L (NK + 5 * NF) ((wr.setCell ⟨p, 2, none⟩ (.slice none 0 0)).setCell ⟨p, 3, none⟩ (.slice none 0 0))) := hidOf (by
              have h := HW.out
              rw [HFF.out] at h
              exact h.done H.out HKl.out)
            obtain ⟨r', L', h'⟩ := HW.out
            have st0 := h'.sh.st
            have f2 : wr.frozen? ⟨p, 2, none⟩ = false := frozen_atL st0 2
            have st1 := set_atL st0 2 (.slice none 0 0)
            have d3 : (wr.setCell ⟨p, 2, none⟩ (.slice none 0 0)).cell? ⟨p, 3, none⟩ = some (r' 1) := by rw [cell_atL st1]; rfl
            have f3 : (wr.setCell ⟨p, 2, none⟩ (.slice none 0 0)).frozen? ⟨p, 3, none⟩ = false := frozen_atL st1 3
            clear h' st0 st1 hrow
            go_upto_region 39 with fail
            clear c2 f2 d3 f3
            generalize (wr.setCell ⟨p, 2, none⟩ (.slice none 0 0)).setCell ⟨p, 3, none⟩ (.slice none 0 0) = w5 at *
            obtain ⟨r2, L2, hq2, -, hlen, -⟩ := HD1.out
            have c1 : w5.cell? ⟨p, 1, none⟩ = some (.bool false) := by rw [cell_atL hq2.sh.st]; rfl
            have CS := hidOf (sameQ_any w5 p tt r2 L2 hq2.sh hq2.kl hq2.pk (by omega))
            have HFz : Hid (∀ wx, Out w5 wx → wx.cell? ⟨p, 1, none⟩ = some (.bool false) ∧ wx.frozen? ⟨p, 1, none⟩ = false ∧ wx.setCell ⟨p, 1, none⟩ (.bool false) = wx) := hidOf (fun wx o => ⟨cell_later o c1, frozen_atL (hq2.sh.out o).st 1, setCell_selfQ (hq2.sh.out o).st rfl⟩)
            clear hq2 hlen
            go_wp2_with (go_at_call 47; refine CS.out.mono ?_; rintro e w6 ⟨rfl, ho⟩; obtain ⟨k1, k2, k3⟩ := HFz.out w6 ho; have HS := hidOf k3; have O6 := hidOf ho; clear ho k3)
            go_end0
            rw [HS.out]
            exact ⟨⟨_, rfl⟩, HD1.out.out O6.out⟩
end Go.Proofs.YtcomhlimgocoaaaGreatDoor
