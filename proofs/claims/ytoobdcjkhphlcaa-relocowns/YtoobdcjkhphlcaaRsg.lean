import Derived.Test.YtoobdcjkhphlcaaRsf
import Derived.Deep.DeepCutAuto
namespace Go.Proofs.Ytoobdcjkhphlcaa
open Go.RowKit
set_option linter.unusedVariables false
set_option linter.unusedSimpArgs false
set_option maxRecDepth 20000 in
set_option maxHeartbeats 8000000 in
theorem shelfWrite_any (w : World) (B p : Nat) (ct tt : Int) (fa wa ka ma : Value) (F W K : List Value) (M : List Int) (h : Shf w B p ct tt fa wa ka ma F W K M) (hl : W.length = F.length) (hp : Prs w F W) (hF : F.length ≤ 3) (hk : Kp w K M) (hK : K.length ≤ 100) (hKM : M.length = K.length)
    (h1 : L1 w B ct F 0) (hd : Dst F) (ha : Ak F K) (hct0 : 0 ≤ ct) (hct1 : ct ≤ 1000) (htt0 : 0 ≤ tt) (htt1 : tt ≤ 400000000) :
    Calls Try.prog 35 #[.pointer (some ⟨p, 0, none⟩)] w fun e w' => WrEnd w B p ct tt ma F K e w' := by
  obtain ⟨af, cf, rfl⟩ := own_form h.fa_
  obtain ⟨ak, ck, rfl⟩ := own_form h.ka_
  obtain ⟨am, cm, rfl⟩ := own_form h.ma_
  obtain ⟨mo, hmo⟩ : ∃ mo, mo = Value.slice am M.length cm := ⟨_, rfl⟩
  have Hmo := hidOf hmo
  rw [← hmo]
  have CU := hidOf (untouched_any w B p ct tt _ wa _ _ F W K M h hl hp (by omega))
  have H := hidOf h
  have HK := hidOf hk
  have H1 := hidOf h1
  have HD := hidOf hd
  have HA := hidOf ha
  have HKM := hidOf hKM
  have c2 : w.cell? ⟨p, 2, none⟩ = some (.bool false) := by rw [cell_atL h.st]; rfl
  clear h hl hp hk h1 hd ha hKM hmo
  go_enter Try.func35, Try.ntmps35
  go_upto_region 1 with (go_at_call 37; refine CU.out.mono ?_; rintro e w1 ⟨rfl, ho⟩; have P1 := hidOf ho; have d2 := cell_later ho c2; have f2 : w1.frozen? ⟨p, 2, none⟩ = false := frozen_atL ((ho.block p H.out.lt).trans H.out.st) 2; clear ho)
  have S1 : Hid (Shf (w1.setCell ⟨p, 2, none⟩ (.bool false)) B p ct tt (.slice af F.length cf) wa (.slice ak K.length ck) (.slice am M.length cm) F W K M) := by
    have h := H.out.out P1.out
    exact hidOf (Shf.store h.st h.bp 2 _ rfl h.fa_ h.wa_ h.ka_ h.ma_ h.fw h.fk h.wk)
  have C1 : Hid (Chg (fun b => b = p) w1 (w1.setCell ⟨p, 2, none⟩ (.bool false))) := Chg.setCell (S := fun b => b = p) (Chg.refl _ w1) (p := ⟨p, 2, none⟩) rfl _
  have hpT : Hid (∀ b, (∃ cs, BlT w1 b cs) → ¬ b = p) := fun b ⟨cs, hb⟩ e => by
    have h2 := (H.out.out P1.out).st
    have h3 : w1.heap[b]? = _ := hb
    rw [e, h2] at h3; simp at h3
  have K1 : Hid (Kp (w1.setCell ⟨p, 2, none⟩ (.bool false)) K M) := (HK.out.out P1.out).chg C1.out (fun j y b hy hb => by
    obtain ⟨m, n, _, hml, _⟩ := HK.out.out P1.out j y hy
    rcases hml with ⟨rfl, _⟩ | ⟨g, c, cs, rfl, hbl, _⟩
    · cases hb
    · simp [Value.ownBlock] at hb; subst hb; exact hpT.out g ⟨cs, hbl⟩)
  have L1' : Hid (L1 (w1.setCell ⟨p, 2, none⟩ (.bool false)) B ct F 0) := fun j x hx => by
    obtain ⟨n, hn⟩ := H1.out.out P1.out j x hx
    exact ⟨n, hn.chg C1.out (fun b hb => hpT.out b (hn.blk b hb).2)⟩
  have G1 : Hid (Chg (SQ w B mo) w (w1.setCell ⟨p, 2, none⟩ (.bool false))) := SQ.step (Chg.of_out P1.out) C1.out (fun b hb _ => by rw [hb]; exact (H.out.out P1.out).sq p (.inl rfl)) (fun b hb => .inl (by rw [Hmo.out]; exact hb))
  clear d2 f2 c2 CU C1 hpT P1 H HK H1
  generalize w1.setCell ⟨p, 2, none⟩ (.bool false) = w2 at *
  go_wp2
  go_loopw [2] (fun kv wr => ∃ i : Nat, kv = .int .i64 i ∧ i ≤ F.length ∧ Hid (Shf wr B p ct tt (.slice af F.length cf) wa (.slice ak K.length ck) (.slice am M.length cm) F W K M) ∧ Hid (Kp wr K M) ∧ Hid (L1 wr B ct F i) ∧ Hid (Chg (SQ w B mo) w wr)) (fun kv _ => F.length - (intOf kv).toNat)
  case atStart => exact ⟨0, rfl, by omega, S1, K1, L1', G1⟩
  case round =>
    clear S1 K1 L1' G1
    obtain ⟨i, rfl, hi, HS, HK, HL, HG⟩ := hrel
    have c3 : wr.cell? ⟨p, 3, none⟩ = some (.slice af F.length cf) := by rw [cell_atL HS.out.st]; rfl
    have c0 : wr.cell? ⟨p, 0, none⟩ = some (.int .i64 ct) := by rw [cell_atL HS.out.st]; rfl
    by_cases hlt : i < F.length
    · have hltI : (i : Int) < F.length := by omega
      have hct2 : 0 ≤ ct + (i : Int) := by omega
      have hct3 : ct + (i : Int) ≤ 2000 := by omega
      obtain ⟨m, hm⟩ : ∃ m, m = 1000003 * (ct + (i : Int)) := ⟨_, rfl⟩
      have hm0 : 0 ≤ m := by omega
      have hm1 : m ≤ 10000000000 := by omega
      obtain ⟨x, hx⟩ : ∃ x, F[i]? = some x := ⟨_, List.getElem?_eq_getElem hlt⟩
      obtain ⟨n, hfl⟩ := HL.out i x hx
      rw [if_neg (by omega), ← hm] at hfl
      obtain ⟨a, c, rfl⟩ := hfl.form
      have hn := hfl.1
      have Hx := hidOf hx
      have Hm := hidOf hm
      have HF := hidOf hfl
      clear hx hfl hm
      go_upto_region 5 with fail
      rw [← Hm.out]
      clear c3 c0
      go_wp2
      obtain ⟨w3, hw3⟩ : ∃ w3, w3 = wr := ⟨_, rfl⟩
      rw [← hw3] at HS HK HL HG HF
      have Hw3 := hidOf hw3
      clear hw3
      go_loopw [4] (fun kv wr => ∃ k : Nat, kv = .int .i64 k ∧ k ≤ n ∧ Hid (Shf wr B p ct tt (.slice af F.length cf) wa (.slice ak K.length ck) (.slice am M.length cm) F W K M) ∧ Hid (Kp wr K M) ∧ Hid (∀ (j : Nat) x, F[j]? = some x → ¬ j = i → ∃ n, FLk wr B x (1000003 * (ct + j)) n (if j < i then n else 0)) ∧ Hid (FLk wr B (.slice a n c) m n k) ∧ Hid (Chg (SQ w B mo) w wr)) (fun kv _ => n - (intOf kv).toNat)
      case atStart => exact ⟨0, rfl, by omega, by rw [← Hw3.out]; exact HS, by rw [← Hw3.out]; exact HK, by rw [← Hw3.out]; exact hidOf (fun j x hx _ => HL.out j x hx), by rw [← Hw3.out]; exact HF, by rw [← Hw3.out]; exact HG⟩
      case round =>
        clear HS HK HL HG HF Hw3
        obtain ⟨k, rfl, hk, HS, HK, HL, HF, HG⟩ := hrel
        obtain ⟨gf, haf, qf⟩ := own_get HS.out.fa_ Hx.out
        have c3 : wr.cell? ⟨p, 3, none⟩ = some (.slice (some ⟨gf, 0, none⟩) F.length cf) := by rw [cell_atL HS.out.st, ← haf]; rfl
        by_cases hkn : k < n
        · have hkI : (k : Int) < n := by omega
          obtain ⟨g, cs, ha, hgB, hbl, hcs, hnc, hmk⟩ : ∃ g cs, a = some ⟨g, 0, none⟩ ∧ B ≤ g ∧ BlT wr g cs ∧ cs.size = c * 3 ∧ n ≤ c ∧ Mk m k cs := by
            rcases HF.out.2.2 with ⟨_, h⟩ | ⟨g, c', cs, hv, h1, h2, h3, h4, h5⟩
            · omega
            · simp only [Value.slice.injEq] at hv
              obtain ⟨h6, _, h7⟩ := hv
              subst h7
              exact ⟨g, cs, h6, h1, h2, h3, h4, h5⟩
          subst ha
          have HBl := hidOf hbl
          have HMk := hidOf hmk
          have hgp : ¬ g = p := fun e => by
            have h3 : wr.heap[g]? = _ := hbl
            rw [e, HS.out.st] at h3; simp at h3
          have hgf : ¬ g = gf := fun e => own_kind HS.out.fa_ hbl (by decide) (by rw [haf, e]; rfl)
          have Hcs := hidOf hcs
          have Hfit : Hid (k * 3 + 3 ≤ cs.size) := by rw [hcs]; exact hidOf (by omega)
          have CMn : Hid (∀ wx, Calls Try.prog 36 #[.int .i64 (IntKind.i64.wrap (m + k))] wx fun e w' => e = .returned (.agg #[.int .i64 (m + k), .int .i64 77, .int .i64 (-(m + k))]) ∧ Out wx w') := fun wx => by
            rw [wrapI _ (by omega) (by omega)]
            exact mine_any _ (by omega) (by omega) wx
          clear hbl hmk hcs haf
          go_upto_region 8 with fail
          go_region_held3 (fun w' => w'.cell? ⟨p, 3, none⟩ = some (.slice (some ⟨gf, 0, none⟩) F.length cf) ∧ w'.cell? ⟨gf, i, none⟩ = some (.slice (some ⟨g, 0, none⟩) n c)) (first | with_reducible exact ⟨c3, qf⟩ | with_reducible exact ⟨e3, ef⟩ | go_keep) (first | (go_at_call 36; refine (CMn.out _).mono ?_; rintro e w4 ⟨rfl, h2⟩; have O4 := hidOf (Out.trans ((Out.refl wr).drewN _) h2); have e3 := cell_later O4.out c3; have ef := cell_later O4.out qf; have B4 := hidOf (HBl.out.out O4.out); obtain ⟨z0, y0⟩ := B4.out.cell (i := k * 3) (by have := Hfit.out; omega); obtain ⟨z1, y1⟩ := B4.out.cell (i := k * 3 + 1) (by have := Hfit.out; omega); obtain ⟨z2, y2⟩ := B4.out.cell (i := k * 3 + 2) (by have := Hfit.out; omega); have f0 := B4.out.frozen (k * 3); have f1 := B4.out.frozen (k * 3 + 1); have f2 := B4.out.frozen (k * 3 + 2); clear h2))
          have C5 : Hid (Chg (fun b => b = g) w4 (((w4.setCell ⟨g, k * 3, none⟩ (.int .i64 (m + k))).setCell ⟨g, k * 3 + 1, none⟩ (.int .i64 77)).setCell ⟨g, k * 3 + 2, none⟩ (.int .i64 (-(m + k))))) := chg4g (S := fun b => b = g) (g := g) (Chg.refl _ w4) rfl _ _ _ _
          have B5 := hidOf (B4.out.set4 k (m + k))
          go_wp2
          go_roundw
          case rel =>
            refine ⟨k + 1, by simp, by omega, ?_, ?_, ?_, ?_, ?_⟩
            · exact (HS.out.out O4.out).tok C5.out (fun b hb _ => ⟨cs, by rw [hb]; exact B4.out⟩)
            · exact (HK.out.out O4.out).chg C5.out (fun j y b hy hb e => HA.out i j _ y Hx.out hy g rfl (by rw [hb, e]))
            · intro j y hy hji
              obtain ⟨n', h'⟩ := HL.out j y hy hji
              exact ⟨n', (h'.out O4.out).chg C5.out (fun b hb e => HD.out i j _ y Hx.out hy (fun e => hji e.symm) g rfl (by rw [hb, e]))⟩
            · exact ⟨hn, by omega, .inr ⟨g, c, _, rfl, hgB, B5.out, by rw [set4_size]; exact Hcs.out, hnc, set4_mk Hfit.out HMk.out⟩⟩
            · exact SQ.step (ma1 := mo) (HG.out.then_out O4.out) C5.out (fun x hx _ => by rw [hx]; exact SQ.tok hgB B4.out) (fun b hb => .inl hb)
          case measure => simp [intOf]; omega
        · have hkI : ¬ (k : Int) < n := by omega
          obtain rfl : k = n := by omega
          go_wp2
          go_roundw
          case rel => exact ⟨i + 1, by simp, by omega, HS, HK, hidOf (fun j x hx => by
            by_cases hji : j = i
            · subst hji
              rw [Hx.out] at hx
              cases hx
              exact ⟨k, by rw [if_pos (by omega), ← Hm.out]; exact HF.out⟩
            · obtain ⟨n', h'⟩ := HL.out j x hx hji
              refine ⟨n', ?_⟩
              by_cases hlt' : j < i
              · rw [if_pos hlt'] at h'; rw [if_pos (by omega)]; exact h'
              · rw [if_neg hlt'] at h'; rw [if_neg (by omega)]; exact h'), HG⟩
          case measure => simp [intOf]; omega
    · have hltI : ¬ (i : Int) < F.length := by omega
      obtain rfl : i = F.length := by omega
      have HL3 : Hid (L3 wr B ct F K 0) := fun j x hx _ => by
        obtain ⟨n, hn⟩ := HL.out j x hx
        rw [if_pos (List.getElem?_eq_some_iff.1 hx).1] at hn
        exact ⟨⟨n, hn.1, hn.ml⟩, fun b hb => (hn.blk b hb).1, fun l y hy b hb => HA.out j l x y hx hy b hb⟩
      go_wp2
      clear c3 c0
      obtain ⟨w3, hw3⟩ : ∃ w3, w3 = wr := ⟨_, rfl⟩
      rw [← hw3] at HS HK HL3 HG
      have Hw3 := hidOf hw3
      clear hw3 HL
      go_loopw [5] (fun kv wr => ∃ (i : Nat) (ak am : Option Addr) (ck cm : Nat) (K1 : List Value) (M1 : List Int), kv = .int .i64 i ∧ i ≤ F.length ∧ K1.length = K.length + 4 * i ∧ M1.length = K1.length ∧ Hid (Shf wr B p ct tt (.slice af F.length cf) wa (.slice ak K1.length ck) (.slice am M1.length cm) F W K1 M1) ∧ Hid (Kp wr K1 M1) ∧ Hid (L3 wr B ct F K1 i) ∧ Hid (Chg (SQ w B mo) w wr) ∧ Hid (∀ b, (Value.slice am M1.length cm).ownBlock = some b → mo.ownBlock = some b ∨ w.heap.size ≤ b)) (fun kv _ => F.length - (intOf kv).toNat)
      case atStart => exact ⟨0, ak, am, ck, cm, K, M, rfl, by omega, by omega, HKM.out, by rw [← Hw3.out]; exact HS, by rw [← Hw3.out]; exact HK, by rw [← Hw3.out]; exact HL3, by rw [← Hw3.out]; exact HG, hidOf (fun b hb => .inl (by rw [Hmo.out]; exact hb))⟩
      case round =>
        clear HS HK HL3 HG Hw3
        obtain ⟨i, ak, am, ck, cm, K1, M1, rfl, hi, hK1, hM1, HS, HK, HL, HG, HMA⟩ := hrel
        have hK1b : K1.length ≤ 200 := by omega
        have hM1b : M1.length ≤ 200 := by omega
        have HK1 := hidOf hK1
        have HM1 := hidOf hM1
        clear hK1 hM1
        have c3 : wr.cell? ⟨p, 3, none⟩ = some (.slice af F.length cf) := by rw [cell_atL HS.out.st]; rfl
        have c0 : wr.cell? ⟨p, 0, none⟩ = some (.int .i64 ct) := by rw [cell_atL HS.out.st]; rfl
        by_cases hlt : i < F.length
        · have hltI : (i : Int) < F.length := by omega
          have hct2 : 0 ≤ ct + (i : Int) := by omega
          have hct3 : ct + (i : Int) ≤ 2000 := by omega
          obtain ⟨m, hm⟩ : ∃ m, m = 1000003 * (ct + (i : Int)) := ⟨_, rfl⟩
          have hm0 : 0 ≤ m := by omega
          have hm1 : m ≤ 10000000000 := by omega
          obtain ⟨x, hx⟩ : ∃ x, F[i]? = some x := ⟨_, List.getElem?_eq_getElem hlt⟩
          obtain ⟨⟨n, hn, hml⟩, hbB, hbK⟩ := HL.out i x hx (Nat.le_refl _)
          rw [← hm] at hml
          obtain ⟨a, c, rfl⟩ := hml.form
          obtain ⟨gf, haf, qf⟩ := own_get HS.out.fa_ hx
          obtain ⟨K3, hK3⟩ : ∃ K3 : Nat, (K3 : Int) = tt + 70 := ⟨(tt + 70).toNat, by omega⟩
          have Hx := hidOf hx
          have Hm := hidOf hm
          have HML := hidOf hml
          have HbB := hidOf hbB
          have HbK := hidOf hbK
          have HK3 := hidOf hK3
          obtain ⟨ob, hob⟩ : ∃ ob, ob = (Value.slice a n c).ownBlock := ⟨_, rfl⟩
          have Hob := hidOf hob
          have Hobt : Hid (∀ b, ob = some b → ∃ cs, BlT wr b cs) := fun b hb => by
            rw [hob] at hb
            rcases hml with ⟨hv, _⟩ | ⟨g, c', cs, hv, hbl, _⟩
            · rw [hv] at hb; cases hb
            · rw [hv] at hb; simp [Value.ownBlock] at hb; subst hb; exact ⟨cs, hbl⟩
          have C1 : Hid (∀ wx (k : Nat), k ≤ 500000000 → Mild m ob wr wx → Calls Try.prog 48 #[.slice a n c, .int .i64 m, .int .i64 k] wx fun e w' => ∃ v', e = .returned v' ∧ ML w' v' m (n + k) ∧ Mild m ob wr w' ∧ Mild m ob wx w' ∧ (∀ b, v'.ownBlock = some b → ob = some b ∨ wr.heap.size ≤ b)) := fun wx k hk hmi => by
            refine (grown_any wx (.slice a n c) m n k (hml.mild hmi) hm0 (by omega) (by omega)).mono ?_
            rintro e w' ⟨v', he, h1, h2, h3⟩
            rw [← hob] at h2 h3
            refine ⟨v', he, h1, hmi.trans h2, h2, fun b hb => ?_⟩
            rcases h3 b hb with h | h
            · exact .inl h
            · have := hmi.chg.size; right; omega
          subst haf
          clear hx hml hbB hbK hm hob hK3
          go_upto_region 13 with fail
          rw [← Hm.out]
          go_upto_region 14 with fail
          clear c0 c3 qf
          have c5 : wr.drew.cell? ⟨p, 5, none⟩ = some (.slice ak K1.length ck) := by rw [cell_atL (show wr.drew.heap[p]? = _ from HS.out.st)]; rfl
          have c1 : wr.drew.cell? ⟨p, 1, none⟩ = some (.int .i64 tt) := by rw [cell_atL (show wr.drew.heap[p]? = _ from HS.out.st)]; rfl
          have M0 : Hid (Mild m ob wr wr.drew) := Mild.of_out (Out.refl wr).drew
          have Cc : Hid (∀ wx, Mild m ob wr wx → Calls Try.prog 48 #[.slice a n c, .int .i64 m, .int .i64 (IntKind.i64.wrap (tt + 70))] wx fun e w' => ∃ v', e = .returned v' ∧ ML w' v' m (n + K3) ∧ Mild m ob wr w' ∧ Mild m ob wx w' ∧ (∀ b, v'.ownBlock = some b → ob = some b ∨ wr.heap.size ≤ b)) := fun wx hmi => by
            have := C1.out wx K3 (by have := HK3.out; omega) hmi
            rw [HK3.out, ← wrapI (tt + 70) (by omega) (by omega)] at this
            exact this
          have Ca : Hid (∀ wx, Mild m ob wr wx → Calls Try.prog 48 #[.slice a n c, .int .i64 m, .int .i64 1] wx fun e w' => ∃ v', e = .returned v' ∧ ML w' v' m (n + 1) ∧ Mild m ob wr w' ∧ Mild m ob wx w' ∧ (∀ b, v'.ownBlock = some b → ob = some b ∨ wr.heap.size ≤ b)) := fun wx hmi => C1.out wx 1 (by omega) hmi
          have Cb : Hid (∀ wx, Mild m ob wr wx → Calls Try.prog 48 #[.slice a n c, .int .i64 m, .int .i64 2] wx fun e w' => ∃ v', e = .returned v' ∧ ML w' v' m (n + 2) ∧ Mild m ob wr w' ∧ Mild m ob wx w' ∧ (∀ b, v'.ownBlock = some b → ob = some b ∨ wr.heap.size ≤ b)) := fun wx hmi => C1.out wx 2 (by omega) hmi
          have HT : Hid (∀ wx, Mild m ob wr wx → Shf wx B p ct tt (.slice (some ⟨gf, 0, none⟩) F.length cf) wa (.slice ak K1.length ck) (.slice am M1.length cm) F W K1 M1) := fun wx hmi => HS.out.tok hmi.chg (fun b hb _ => Hobt.out b hb)
          have HC5 : Hid (∀ wx, Mild m ob wr wx → wx.cell? ⟨p, 5, none⟩ = some (.slice ak K1.length ck) ∧ wx.cell? ⟨p, 1, none⟩ = some (.int .i64 tt)) := fun wx hmi => by
            have h := HT.out wx hmi
            exact ⟨by rw [cell_atL h.st]; rfl, by rw [cell_atL h.st]; rfl⟩
          clear C1
          obtain ⟨i30, hi30, hy0, hy1, hy2⟩ := info_parts infoSl
          go_cut [7] (fun s7 wx => s7 = .slice a n c ∧ R14 wr B p ct tt (.slice (some ⟨gf, 0, none⟩) F.length cf) wa (.slice ak K1.length ck) (.slice am M1.length cm) F W K1 M1 m ob n K3 (.slice a n c) wx)
          case first =>
            clear HD HA HKM HK HL HG Hx Hm HML HbB HbK HK3 Hob Hobt HK1 HM1 hltI hct2 hct3 hm0 hm1 hn hi hlt hM1b hF hK hct0 hct1 htt0 htt1
            go_region_law (first | (go_simp; go_at_call 48; refine (Cc.out w6 M6.out).mono ?_; rintro e w7 ⟨v7, rfl, ml7, mi7, sz7, bl7⟩; (try dsimp only); obtain ⟨a7, c7, rfl⟩ := ml7.form; have L7 := hidOf ml7; have M7 := hidOf mi7; have B7 := hidOf bl7; obtain ⟨d57, d17⟩ := HC5.out w7 mi7; have d57a : ∀ O, (w7.alloc O).cell? ⟨p, 5, none⟩ = some (.slice ak K1.length ck) := fun O => cell_later ((Out.refl w7).alloc O) d57; have H67 := hidOf sz7; clear ml7 mi7 bl7 sz7) | (go_simp; go_at_call 48; refine (Cb.out w5 M5.out).mono ?_; rintro e w6 ⟨v6, rfl, ml6, mi6, sz6, bl6⟩; (try dsimp only); obtain ⟨a6, c6, rfl⟩ := ml6.form; have L6 := hidOf ml6; have M6 := hidOf mi6; have B6 := hidOf bl6; obtain ⟨d56, d16⟩ := HC5.out w6 mi6; have H56 := hidOf sz6; clear ml6 mi6 bl6 sz6) | (go_simp; go_at_call 48; refine (Ca.out wr.drew M0.out).mono ?_; rintro e w5 ⟨v5, rfl, ml5, mi5, sz5, bl5⟩; (try dsimp only); obtain ⟨a5, c55, rfl⟩ := ml5.form; have L5 := hidOf ml5; have M5 := hidOf mi5; have B5 := hidOf bl5; obtain ⟨d55, d15⟩ := HC5.out w5 mi5; clear ml5 mi5 bl5 sz5) | (refine step_append_lies _ rfl (.tmp 88) (.tmp 104) 38 rfl B 22 i30 _ 1 24 Try.underlying38 hi30 hy0 hy1 hy2 rfl (by decide) (.slice ak K1.length ck) K1.length K1 rfl (owns_out' (HT.out w7 M7.out).ka_ ((Out.refl w7).alloc _)) ⟨w7.heap.size, 0, none⟩ 4 4 [.slice a n c, .slice a5 (n + 1) c55, .slice a6 (n + 2) c6, .slice a7 (n + K3) c7] rfl rfl (news_new w7 _ _ _ rfl) (by intro u hu; simp at hu; rcases hu with rfl | rfl | rfl | rfl <;> rfl) (by decide) (by unfold maxLen; omega) (by omega) (by have := (HT.out w7 M7.out).lt; have := HS.out.bp; rw [size_alloc]; omega) _ rfl ?_; intro g8 cap8 w8 hown8 hgrow8 hg8 hlt8; have hp8 : w8.heap[p]? = _ := (hgrow8.block p (by have := (HT.out w7 M7.out).lt; rw [size_alloc]; omega) (fun e => (HT.out w7 M7.out).notp.2.2.1 e.symm)).trans (((Out.refl w7).alloc _).block p (HT.out w7 M7.out).lt |>.trans (HT.out w7 M7.out).st); have d58 : w8.cell? ⟨p, 5, none⟩ = some (.slice ak K1.length ck) := (by rw [cell_atL hp8]; rfl); have f58 := frozen_atL hp8 5; have Hp8 := hidOf hp8; have W8 := hidOf hown8; have G8 := hidOf hgrow8; have Hg8 := hidOf hg8; clear hown8 hgrow8 hg8 hlt8 hp8))
            all_goals
              go_wp2
              go_meet
              exact ⟨rfl, w7, _, _, _, _, _, M7.out, (L5.out.mild H56.out).mild H67.out, L6.out.mild H67.out, L7.out, (fun b hb => by rcases hb with h | h | h; exact B5.out b h; exact B6.out b h; exact B7.out b h), (after14 (HT.out w7 M7.out) _ _ _ _ W8.out G8.out Hg8.out).1, (after14 (HT.out w7 M7.out) _ _ _ _ W8.out G8.out Hg8.out).2⟩
          case rest =>
            obtain ⟨rfl, w7, v5, v6, v7, ak7, ck7, m7, l5, l6, l7, b7, s7, g7⟩ := hcut
            have M7 := hidOf m7
            have L5 := hidOf l5
            have L6 := hidOf l6
            have L7 := hidOf l7
            have B7 := hidOf b7
            have G7 := hidOf g7
            have S7 := hidOf s7
            have d6 : wc.cell? ⟨p, 6, none⟩ = some (.slice am M1.length cm) := by rw [cell_atL s7.st]; rfl
            have d6a : ∀ O, (wc.alloc O).cell? ⟨p, 6, none⟩ = some (.slice am M1.length cm) := fun O => cell_later ((Out.refl wc).alloc O) d6
            obtain ⟨i3, hi3, hz0, hz1, hz2⟩ := info_parts infoI
            have SOB : Hid (∀ b, SO p (.slice ak K1.length ck) (.slice am M1.length cm) b → SQ w7 B (.slice am M1.length cm) b) := fun b hb => (HT.out w7 m7).sq b (by
              rcases hb with hb | hb | hb
              · exact .inl hb
              · exact .inr (.inr (.inr (.inl hb)))
              · exact .inr (.inr (.inr (.inr hb))))
            have SOC : Hid (∀ b, SO p (.slice ak7 (K1.length + 4) ck7) (.slice am M1.length cm) b → SQ wc B (.slice am M1.length cm) b) := fun b hb => s7.sq b (by
              rcases hb with hb | hb | hb
              · exact .inl hb
              · exact .inr (.inr (.inr (.inl hb)))
              · exact .inr (.inr (.inr (.inr hb))))
            clear m7 l5 l6 l7 b7 s7 g7 c5 c1 Ca Cb Cc HC5
            go_wp2_with (at_builtin; refine wpList_append_lies _ rfl (.tmp 112) (.tmp 117) 39 rfl B 3 i3 _ 1 8 Try.underlying39 hi3 hz0 hz1 hz2 rfl (by decide) (.slice am M1.length cm) M1.length (M1.map (Value.int .i64)) rfl (owns_out' S7.out.ma_ ((Out.refl wc).alloc _)) ⟨wc.heap.size, 0, none⟩ 4 4 [.int .i64 m, .int .i64 m, .int .i64 m, .int .i64 m] rfl rfl (news_new wc _ _ _ rfl) (by intro u hu; simp at hu; rw [hu]; rfl) (by decide) (by unfold maxLen; omega) (by omega) (by have := S7.out.lt; have := S7.out.bp; rw [size_alloc]; omega) _ rfl ?_; intro g9 c9 w9 hown' hgrow' hg9 _; have B9 := hidOf hg9; have hp9 : w9.heap[p]? = _ := (hgrow'.block p (by have := S7.out.lt; rw [size_alloc]; omega) (fun e => S7.out.notp.2.2.2 e.symm)).trans (((Out.refl wc).alloc _).block p S7.out.lt |>.trans S7.out.st); have d69 : w9.cell? ⟨p, 6, none⟩ = some (.slice am M1.length cm) := (by rw [cell_atL hp9]; rfl); have f69 := frozen_atL hp9 6; have W9 := hidOf hown'; have G9 := hidOf hgrow'; clear hown' hgrow' hp9 hg9)
            have F15 := after15 (N := [m, m, m, m]) S7.out _ _ W9.out G9.out
            have FF := fin15 (HT.out w7 M7.out) S7.out Hx.out Hob.out Hm.out hm0 hm1 hn (by have := HK3.out; omega) HM1.out HK.out HL.out HD.out HML.out M7.out L5.out L6.out L7.out B7.out G7.out F15.2
            have E15 := hidOf F15
            have EF := hidOf FF
            have hl1 : (K1 ++ [Value.slice a n c, v5, v6, v7]).length = K1.length + 4 := by simp
            have hl2 : (M1 ++ [m, m, m, m]).length = M1.length + 4 := by simp
            clear F15 FF
            have G71 := SQ.step (SQ.step (ma1 := mo) HG.out M7.out.chg (fun b hb _ => by obtain ⟨cs, hcs⟩ := Hobt.out b hb; exact SQ.tok (HbB.out b (by rw [← Hob.out]; exact hb)) hcs) (fun b hb => .inl hb)) G7.out (fun b hb _ => SOB.out b hb) HMA.out
            have NG1 := hidOf (SQ.step G71 E15.out.2 (fun b hb _ => SOC.out b hb) HMA.out)
            have NG2 : Hid (∀ b, (Value.slice (some ⟨g9, 0, none⟩) (M1.length + 4) c9).ownBlock = some b → mo.ownBlock = some b ∨ w.heap.size ≤ b) := fun b hb => by
              simp [Value.ownBlock] at hb
              subst hb
              rcases B9.out with h9 | h9
              · exact HMA.out _ h9
              · have := G71.size
                rw [size_alloc] at h9
                right; omega
            clear G71
            go_roundw
            case rel => exact ⟨i + 1, ak7, some ⟨g9, 0, none⟩, ck7, c9, K1 ++ [.slice a n c, v5, v6, v7], M1 ++ [m, m, m, m], by simp, by omega, by have := HK1.out; rw [hl1]; omega, by have := HM1.out; rw [hl1, hl2]; omega, by rw [hl1, hl2]; exact hidOf E15.out.1, hidOf EF.out.1, hidOf EF.out.2, NG1, by rw [hl2]; exact NG2⟩
            case measure => simp [intOf]; omega
        · have hltI : ¬ (i : Int) < F.length := by omega
          obtain rfl : i = F.length := by omega
          have c4 : wr.cell? ⟨p, 4, none⟩ = some wa := by rw [cell_atL HS.out.st]; rfl
          have f0 := frozen_atL HS.out.st 0
          have f3 := frozen_atL HS.out.st 3
          have f4 := frozen_atL HS.out.st 4
          have hwr : IntKind.i64.wrap (ct + (F.length : Int)) = ct + F.length := wrapI _ (by omega) (by omega)
          go_upto_region 16 with fail
          go_region_law (fail)
          all_goals
            go_wp2
            go_end0
            have S1 := Shf.store (w := wr.drew) HS.out.st HS.out.bp 0 (.int .i64 (ct + F.length)) rfl HS.out.fa_ HS.out.wa_ HS.out.ka_ HS.out.ma_ HS.out.fw HS.out.fk HS.out.wk
            have S2 := Shf.store S1.st S1.bp 3 (.slice none 0 0) (F' := []) rfl (World.ownsRow_nil _ _ _ _) S1.wa_ S1.ka_ S1.ma_ (fun b hb => by cases hb) (fun b hb => by cases hb) S1.wk
            have S3 := Shf.store S2.st S2.bp 4 (.slice none 0 0) (W' := []) rfl S2.fa_ (World.ownsRow_nil _ _ _ _) S2.ka_ S2.ma_ (fun b hb => by cases hb) S2.fk (fun b hb => by cases hb)
            have C3 : Chg (fun b => b = p) wr.drew (((wr.drew.setCell ⟨p, 0, none⟩ (.int .i64 (ct + F.length))).setCell ⟨p, 3, none⟩ (.slice none 0 0)).setCell ⟨p, 4, none⟩ (.slice none 0 0)) := ((Chg.setCell (S := fun b => b = p) (Chg.refl _ wr.drew) (p := ⟨p, 0, none⟩) rfl _).setCell (p := ⟨p, 3, none⟩) rfl _).setCell (p := ⟨p, 4, none⟩) rfl _
            refine ⟨⟨_, rfl⟩, _, _, K1, M1, S3, ?_, HK1.out, HM1.out, SQ.step (HG.out.drew) C3 (fun b hb _ => by rw [hb]; exact (HS.out.out (Out.refl wr).drew).sq p (.inl rfl)) HMA.out, HMA.out⟩
            exact (HK.out.out ((Out.refl wr).drew)).tok C3 (fun b hb => HS.out.so b (.inl hb))
theorem writeC : WriteC := fun w B p ct tt fa wa ka ma F W K M h hl hp hF hk hK hKM h1 hd ha hct0 hct1 htt0 htt1 => shelfWrite_any w B p ct tt fa wa ka ma F W K M h hl hp hF hk hK hKM h1 hd ha hct0 hct1 htt0 htt1
end Go.Proofs.Ytoobdcjkhphlcaa
