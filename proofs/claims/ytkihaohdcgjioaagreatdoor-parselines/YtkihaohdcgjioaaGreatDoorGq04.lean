import Derived.Test.YtkihaohdcgjioaaGreatDoorGq03
namespace Go.Proofs.YtkihaohdcgjioaaGreatDoor
open Go.RowKit
set_option linter.unusedVariables false
set_option linter.unusedSimpArgs false
theorem StA.take {w : World} {a : Option Addr} {Y : List (Stm × Value × Value)} (h : StA w a Y) (n : Nat) : StA w a (Y.take n) := by
  rcases h with h | ⟨g, off, e, h⟩
  · exact .inl (by rw [h]; simp)
  · refine .inr ⟨g, off, e, fun k y hy => h k y ?_⟩
    rw [List.getElem?_take] at hy
    by_cases hk : k < n
    · rw [if_pos hk] at hy; exact hy
    · rw [if_neg hk] at hy; cases hy
set_option maxRecDepth 20000 in
set_option maxHeartbeats 4000000 in
theorem parseLines_walk (w : World) (hE : Lx.LEnv w) (hP : PEnv w) (a b : Option Addr) (cap capb : Nat) (l m : List UInt8) (hr : Lx.RestAt w.heap.size w a l) (hrb : Lx.RestAt w.heap.size w b m) (hcb : b = none → capb = 0) (hle : l.length + 1 + m.length ≤ 16777216) :
    Calls Tryz.prog 8 #[.slice a l.length cap, .slice b m.length capb] w fun e w' => e = .returned (.bool true) ∧ Out w w' := by
  have CA := hidOf (awake6_any w hE hP)
  have CN := hidOf num6_any
  have CC : Hid (∀ wx, Out w wx → Calls Tryz.prog 17 #[.slice a l.length cap] wx fun e w' => ∃ ad cp, e = .returned (.slice ad l.length cp) ∧ OwB6 wx.heap.size (.slice ad l.length cp) l w' ∧ Out wx w') := hidOf (fun wx o => (copy6_any wx a cap l (restAt_out hr o) (by omega)).mono (by
    rintro e w' ⟨v, he, hv, ho⟩
    obtain ⟨ad, cp, rfl⟩ := own_form hv
    exact ⟨ad, cp, he, hv, ho⟩))
  have CB : Hid (∀ wx, Out w wx → Calls Tryz.prog 17 #[.slice b m.length capb] wx fun e w' => ∃ ad cp, e = .returned (.slice ad m.length cp) ∧ m.length ≤ cp ∧ Lx.RestAt w'.heap.size w' ad m ∧ Out wx w') := hidOf (fun wx o => (copy6_any wx b capb m (restAt_out hrb o) (by omega)).mono (by
    rintro e w' ⟨v, he, hv, ho⟩
    obtain ⟨ad, cp, rfl, h1, h2⟩ := hv.rest
    exact ⟨ad, cp, he, h1, h2, ho⟩))
  obtain ⟨F, hF⟩ : ∃ F, F = l ++ [10] := ⟨_, rfl⟩
  have hFl : F.length = l.length + 1 := by rw [hF]; simp
  obtain ⟨X, hX⟩ : ∃ X, X = statsP F := ⟨_, rfl⟩
  obtain ⟨U, hU⟩ : ∃ U, U = statsP m := ⟨_, rfl⟩
  obtain ⟨Z, hZ⟩ : ∃ Z, Z = statsP (F ++ m) := ⟨_, rfl⟩
  obtain ⟨N, hN⟩ : ∃ N, N = lfs F := ⟨_, rfl⟩
  have CS : Hid (∀ wx ad cp (t : List UInt8), Out w wx → t.length ≤ cp → t.length ≤ 16777216 → Lx.RestAt wx.heap.size wx ad t → Calls Tryz.prog 15 #[.slice ad t.length cp] wx fun e w' => ∃ sa sc Y, e = .returned (.tuple #[.slice sa (statsP t).1.length sc, .int .i64 (statsP t).2.1, .int .i64 (statsP t).2.2]) ∧ (statsP t).1.length ≤ sc ∧ Y.map (fun y => y.1) = (statsP t).1 ∧ StA w' sa Y ∧ (∀ y ∈ Y, LsR w' y) ∧ Out wx w') := hidOf (fun wx ad cp t o h1 h2 h3 => stats_sl wx (hE.out o) (hP.out o) ad cp t h3 h1 (by omega))
  have CSF : Hid (∀ wx ad cp, Out w wx → l.length + 1 ≤ cp → Lx.RestAt wx.heap.size wx ad F → Calls Tryz.prog 15 #[.slice ad (l.length + 1) cp] wx fun e w' => ∃ sa sc Y, e = .returned (.tuple #[.slice sa X.1.length sc, .int .i64 X.2.1, .int .i64 X.2.2]) ∧ X.1.length ≤ sc ∧ Y.map (fun y => y.1) = X.1 ∧ StA w' sa Y ∧ (∀ y ∈ Y, LsR w' y) ∧ Out wx w') := hidOf (fun wx ad cp o h1 h3 => by
    have := CS.out wx ad cp F o (by omega) (by omega) h3
    rw [hFl, ← hX] at this
    exact this)
  have CSM : Hid (∀ wx ad cp, Out w wx → m.length ≤ cp → Lx.RestAt wx.heap.size wx ad m → Calls Tryz.prog 15 #[.slice ad m.length cp] wx fun e w' => ∃ sa sc Y, e = .returned (.tuple #[.slice sa U.1.length sc, .int .i64 U.2.1, .int .i64 U.2.2]) ∧ U.1.length ≤ sc ∧ Y.map (fun y => y.1) = U.1 ∧ StA w' sa Y ∧ (∀ y ∈ Y, LsR w' y) ∧ Out wx w') := hidOf (fun wx ad cp o h1 h3 => by
    have := CS.out wx ad cp m o (by omega) (by omega) h3
    rw [← hU] at this
    exact this)
  have CSZ : Hid (∀ wx ad cp, Out w wx → F.length + m.length ≤ cp → Lx.RestAt wx.heap.size wx ad (F ++ m) → Calls Tryz.prog 15 #[.slice ad (F.length + m.length) cp] wx fun e w' => ∃ sa sc Y, e = .returned (.tuple #[.slice sa Z.1.length sc, .int .i64 Z.2.1, .int .i64 Z.2.2]) ∧ Z.1.length ≤ sc ∧ Y.map (fun y => y.1) = Z.1 ∧ StA w' sa Y ∧ (∀ y ∈ Y, LsR w' y) ∧ Out wx w') := hidOf (fun wx ad cp o h1 h3 => by
    have := CS.out wx ad cp (F ++ m) o (by simp only [List.length_append]; omega) (by simp only [List.length_append]; omega) h3
    rw [← hZ, List.length_append] at this
    exact this)
  have CF : Hid (∀ wx g c, Out w wx → Lx.RestAt wx.heap.size wx (some ⟨g, 0, none⟩) F → Calls Tryz.prog 17 #[.slice (some ⟨g, 0, none⟩) (l.length + 1) c] wx fun e w' => ∃ ad cp, e = .returned (.slice ad F.length cp) ∧ OwB6 wx.heap.size (.slice ad F.length cp) F w' ∧ Out wx w') := hidOf (fun wx g c o h => by
    have := copy6_any wx (some ⟨g, 0, none⟩) c F h (by omega)
    rw [hFl] at this ⊢
    exact this.mono (by
      rintro e w' ⟨v, he, hv, ho⟩
      obtain ⟨ad, cp, rfl⟩ := own_form hv
      rw [hFl] at he hv
      exact ⟨ad, cp, he, hv, ho⟩))
  have HRb : Hid (∀ wx, Out w wx → Lx.RestAt wx.heap.size wx b m) := hidOf (fun wx o => restAt_out hrb o)
  obtain ⟨i0, hi, hz0, hz1, hz2⟩ := info_parts infoB6
  have hlt : ¬ (16777216 : Int) < l.length + 1 + m.length := by omega
  have hlen : F.length + m.length ≤ 100000000 := by omega
  have HP := hidOf (lines_P l m hle)
  rw [← hF, ← hX, ← hU, ← hZ, ← hN] at HP
  have hNb : N ≤ 16777216 := by rw [hN]; have := lfs_le F; omega
  have hUb : 0 ≤ U.2.1 ∧ U.2.1 ≤ 16777216 := by rw [hU]; exact stats_line m (by omega)
  have HUv : Hid (∀ s ∈ U.1, s.ws.length ≤ 1 ∧ s.ns.length ≤ 3 ∧ 1 ≤ s.l ∧ s.l ≤ 16777216) := hidOf (by rw [hU]; exact stats_val m (by omega))
  have HXv : Hid (∀ s ∈ X.1, s.ws.length ≤ 1 ∧ s.ns.length ≤ 3 ∧ 1 ≤ s.l ∧ s.l ≤ 16777216) := hidOf (by rw [hX]; exact stats_val F (by omega))
  have hXl : X.1.length ≤ 33554433 := by rw [hX]; exact stats_len F
  have hUl : U.1.length ≤ 33554433 := by rw [hU]; exact stats_len m
  have HF := hidOf hF
  have HN := hidOf hN
  have HFl := hidOf hFl
  have hln : l.length + 1 ≤ 16777216 := by omega
  obtain ⟨n, hn⟩ : ∃ n, n = l.length := ⟨_, rfl⟩
  clear hX hU hZ hE hP hr hrb CS hF hN
  rw [← hn] at CC hlt hln ⊢
  rw [← hn] at CSF
  rw [← hn] at CF
  rw [← hn] at hFl
  have Hn := hidOf hn
  have HFn := hidOf hFl
  clear hn hFl
  go_enter Tryz.func8, Tryz.ntmps8
  go_upto_region 5 with (go_at_call 9; refine CA.out.mono ?_; rintro e w1 ⟨rfl, ho⟩; have O1 := hidOf ho; clear ho)
  go_upto_region 6 with (first | (go_at_call 17; refine (CC.out _ O1.out).mono ?_; rintro e w2 ⟨ad, cp, rfl, hv, ho⟩; have V2 := hidOf hv; have O2 := hidOf ho; have s2 : w1.heap.size ≤ w2.heap.size := ho.size; clear hv ho) | (at_builtin; refine wpList_append_own _ rfl (.tmp 29) (.tmp 30) 24 rfl w1.heap.size 5 i0 _ 1 1 Tryz.underlying24 hi hz0 hz1 hz2 rfl (by decide) (.slice ad n cp) n (Lib.byteCells l) rfl (by rw [Hn.out]; have := World.ownsRow.alloc V2.out (.cells #[.int .u8 10] 5); rw [Hn.out] at this; exact this) ⟨w2.heap.size, 0, none⟩ 1 1 [.int .u8 10] rfl rfl (news_new w2 _ _ _ rfl) (fun u hu => by rw [List.mem_singleton.1 hu]; rfl) (by unfold maxLen; omega) (by omega) (by rw [size_alloc]; omega) ?_; intro v3 w3 hown hgrow _; have O3 := hidOf (O1.out.trans (out_own6 rfl (World.ownsRow.alloc V2.out (.cells #[.int .u8 10] 5)) (O2.out.alloc _) hgrow)); clear hgrow; obtain ⟨g, c, rfl, hc, how, hcl⟩ := (show ∃ g c, v3 = .slice (some ⟨g, 0, none⟩) (n + 1) c ∧ n + 1 ≤ c ∧ OwB6 w1.heap.size (.slice (some ⟨g, 0, none⟩) (n + 1) c) F w3 ∧ ∀ k x, F[k]? = some x → w3.cell? ⟨g, k, none⟩ = some (.int .u8 (x.toNat : Int)) from by rw [HF.out, Hn.out]; exact first_own (by rw [Hn.out] at hown; exact hown)); have HOw := hidOf how; have HCl := hidOf hcl; clear hown how hcl))
  have HRf : Hid (∀ wx, Out w3 wx → Lx.RestAt wx.heap.size wx (some ⟨g, 0, none⟩) F) := hidOf (fun wx o => by
    obtain ⟨ad, cp, hv, _, hr⟩ := HOw.out.rest
    injection hv with h1 h2 h3
    subst h1
    exact restAt_out hr o)
  clear HOw V2 O2 s2
  go_upto_region 8 with fail
  go_loopw [6, 7] (fun lv iv wr => ∃ I : Nat, lv = .int .i64 ((lfs (F.take I) : Nat) : Int) ∧ iv = .int .i64 I ∧ I ≤ n + 1 ∧ wr = w3) (fun _ iv _ => n + 1 - (intOf iv).toNat)
  case atStart => exact ⟨0, rfl, rfl, by omega, rfl⟩
  case round =>
    obtain ⟨I, rfl, rfl, hI, rfl⟩ := hrel
    by_cases hIn : I < n + 1
    · have hltI : (I : Int) < n + 1 := by omega
      obtain ⟨x, hx⟩ : ∃ x, F[I]? = some x := ⟨_, List.getElem?_eq_getElem (by rw [HFn.out]; exact hIn)⟩
      have q : wr.cell? ⟨g, I, none⟩ = some (.int .u8 (x.toNat : Int)) := HCl.out I x hx
      have hstep := lfs_take hx
      have hle2 : lfs (F.take I) ≤ 16777216 := by have := lfs_le (F.take I); rw [List.length_take] at this; omega
      have hb := byte10 x
      clear hx
      generalize lfs (F.take I) = C at hstep hle2 ⊢
      cases hx10 : (x == 10) with
      | true =>
        rw [hx10] at hb hstep
        have hst : Hid (lfs (F.take (I + 1)) = C + 1) := hidOf (by rw [hstep]; rfl)
        clear hstep hx10
        go_wp2
        go_roundw
        case rel => exact ⟨I + 1, by rw [hst.out]; simp, by simp, by omega, trivial⟩
        case measure => simp [intOf]; omega
      | false =>
        rw [hx10] at hb hstep
        have hst : Hid (lfs (F.take (I + 1)) = C) := hidOf (by rw [hstep]; rfl)
        clear hstep hx10
        go_wp2
        go_roundw
        case rel => exact ⟨I + 1, by rw [hst.out], by simp, by omega, trivial⟩
        case measure => simp [intOf]; omega
    · have hltI : ¬ (I : Int) < n + 1 := by omega
      have hIe : I = n + 1 := by omega
      have hNe : lfs (F.take I) = N := by rw [HN.out, List.take_of_length_le (by rw [HFn.out]; omega)]
      rw [hNe]
      clear hNe
      subst hIe
      clear hI HCl hltI hIn
      go_upto_region 13 with (go_at_call 15; refine (CSF.out _ _ _ O3.out hc (HRf.out _ (Out.refl _))).mono ?_; rintro e w4 ⟨ax, cx, YX, rfl, hcx, hYX, hSX, hLX, ho⟩; have EX := hidOf hYX; have SX := hidOf hSX; have LX := hidOf hLX; have O4 := hidOf ho; clear hYX hSX hLX ho)
      have OW4 := hidOf (O3.out.trans O4.out)
      go_upto_region 14 with (first | (go_at_call 17; refine (CB.out _ OW4.out).mono ?_; rintro e w5 ⟨ad5, cp5, rfl, h1, h2, ho⟩; have P5 := hidOf ho; have O5 := hidOf (O4.out.trans ho); have T5 := hidOf (CSM.out _ ad5 cp5 (O3.out.trans O5.out) h1 h2); clear h1 h2 ho) | (go_at_call 15; refine T5.out.mono ?_; rintro e w6 ⟨ay, cy, YU, rfl, hcy, hYU, hSU, hLU, ho⟩; have EU := hidOf hYU; have SU := hidOf hSU; have LU := hidOf hLU; have P6 := hidOf (P5.out.trans ho); have O6 := hidOf (O5.out.trans ho); clear hYU hSU hLU ho))
      have OW6 := hidOf (O3.out.trans O6.out)
      go_upto_region 15 with (first | (go_at_call 17; refine (CF.out _ _ _ OW6.out (HRf.out _ O6.out)).mono ?_; rintro e w7 ⟨ad7, cp7, rfl, hv, ho⟩; have V7 := hidOf hv; have O7 := hidOf ho; clear hv ho) | (at_builtin; refine wp_app6 (w0 := w6) rfl (.tmp 60) (.tmp 61) rfl _ F rfl V7.out O7.out b capb m rfl (HRb.out _ (OW6.out.trans O7.out)) hcb hlen ?_; intro ad8 c8 w8 h1 h2 ho; have P8 := hidOf ho; have O8 := hidOf (O6.out.trans ho); have T8 := hidOf (CSZ.out _ ad8 c8 (O3.out.trans O8.out) h1 h2); clear h1 h2 ho) | (go_at_call 15; refine T8.out.mono ?_; rintro e w9 ⟨az, cz, YZ, rfl, hcz, hYZ, hSZ, hLZ, ho⟩; have EZ := hidOf hYZ; have SZ := hidOf hSZ; have LZ := hidOf hLZ; have O9 := hidOf (O8.out.trans ho); have P9 := hidOf (P8.out.trans ho); clear hYZ hSZ hLZ ho))
      have OE := hidOf (O3.out.trans O9.out)
      have SX9 := hidOf (SX.out.out (P6.out.trans P9.out))
      have LX9 : Hid (∀ y ∈ YX, LsR w9 y) := hidOf (fun y hy => (LX.out y hy).out (P6.out.trans P9.out))
      have SU9 := hidOf (SU.out.out P9.out)
      have LU9 : Hid (∀ y ∈ YU, LsR w9 y) := hidOf (fun y hy => (LU.out y hy).out P9.out)
      clear SX LX SU LU P6 P9 P8 P5 O4 O5 O6 O7 O8 O9 OW4 OW6 T5 T8 V7 O3 O1 CA CC CB CF CSF CSM CSZ HRb HRf HF HFl HFn Hn HN
      by_cases h1 : X.2.2 = 0
      · rw [h1]
        by_cases h2 : U.2.2 = 0
        · have hZ3 := HP.out.2.2 h1 h2
          rw [h2]
          clear HP
          subst hZ3
          have hZl : (X.1 ++ U.1.map (shS (N : Int))).length = X.1.length + U.1.length := by simp
          simp only at EZ hcz ⊢
          rw [hZl] at hcz ⊢
          have CSS : Hid (∀ wx, Out w9 wx → Calls Tryz.prog 19 #[.slice az X.1.length cz, .slice ax X.1.length cx] wx fun e w' => e = .returned (.bool true) ∧ Out wx w') := hidOf (fun wx o => by
            have eZ : (YZ.take X.1.length).map (fun y => y.1) = X.1 := by rw [List.map_take, EZ.out]; simp
            have hl : (YZ.take X.1.length).length = X.1.length := by have := congrArg List.length eZ; simpa using this
            have := sameSts_any wx az ax cz cx (YZ.take X.1.length) YX (by rw [eZ, EX.out]) ((SZ.out.take _).out o) (SX9.out.out o) (fun y hy => (LZ.out y (List.mem_of_mem_take hy)).out o) (fun y hy => (LX9.out y hy).out o) (fun y hy => by
              have hm : y.1 ∈ X.1 := by rw [← eZ]; exact List.mem_map.2 ⟨y, hy, rfl⟩
              obtain ⟨a1, a2, _⟩ := HXv.out _ hm
              omega) (by omega)
            rw [hl] at this
            exact this)
          have hzI : (X.1.length : Int) + U.1.length ≤ cz := by omega
          have LP : Hid (∀ az' : Option Addr, az' = az → True) := hidOf (fun _ _ => trivial)
          clear LP
          cases az with
          | none =>
            have hY0 : YZ = [] := by
              rcases SZ.out with h | ⟨g, off, e, _⟩
              · exact h
              · cases e
            have h00 : (X.1 ++ U.1.map (shS (N : Int))) = [] := by rw [← EZ.out, hY0]; rfl
            have hx0 : X.1.length = 0 := by rw [(List.append_eq_nil_iff.1 h00).1]; rfl
            have hu0 : U.1.length = 0 := by have := congrArg List.length h00; simp at this; rw [this.2]; rfl
            rw [hx0, hu0] at hcz hzI
            rw [hx0] at CSS
            rw [hx0, hu0]
            clear hZl EZ SZ LZ EX EU HXv HUv SX9 LX9 SU9 LU9 hXl hUl hY0 h00 hx0 hu0
            go_upto_region 21 with (first | (go_at_call 14; refine (CN.out _ _).mono ?_; rintro e wn ⟨rfl, hwn⟩; subst hwn) | (go_at_call 19; refine (CSS.out _ (Out.refl _)).mono ?_; rintro e wA ⟨rfl, ho⟩; have OA := hidOf ho; clear ho))
            go_upto_region 22 with fail
            go_loopw [17] (fun iv wr => ∃ I : Nat, iv = .int .i64 I ∧ I ≤ 0 ∧ wr = wA) (fun iv _ => 0 - (intOf iv).toNat)
            case atStart => exact ⟨0, rfl, by omega, rfl⟩
            case round =>
              obtain ⟨I, rfl, hI, rfl⟩ := hrel
              have hltI : ¬ (I : Int) < 0 := by omega
              go_wp2
              go_ret
              exact ⟨rfl, OE.out.trans OA.out⟩
          | some ad =>
            go_upto_region 21 with (first | (go_at_call 14; refine (CN.out _ _).mono ?_; rintro e wn ⟨rfl, hwn⟩; subst hwn) | (go_at_call 19; refine (CSS.out _ (Out.refl _)).mono ?_; rintro e wA ⟨rfl, ho⟩; have OA := hidOf ho; clear ho))
            go_upto_region 22 with fail
            go_loopw [17] (fun iv wr => ∃ I : Nat, iv = .int .i64 I ∧ I ≤ U.1.length ∧ Hid (Out w9 wr)) (fun iv _ => U.1.length - (intOf iv).toNat)
            case atStart => exact ⟨0, rfl, by omega, OA⟩
            case round =>
              clear OA CSS
              obtain ⟨I, rfl, hI, OR⟩ := hrel
              by_cases hIn : I < U.1.length
              · have hltI : (I : Int) < U.1.length := by omega
                have h0 : (0 : Int) ≤ I := by omega
                have hul : YU.length = U.1.length := by have := congrArg List.length EU.out; simpa using this
                have hzl : YZ.length = X.1.length + U.1.length := by have := congrArg List.length EZ.out; simpa using this
                obtain ⟨y, hy⟩ : ∃ y, YU[I]? = some y := ⟨_, List.getElem?_eq_getElem (by omega)⟩
                obtain ⟨z, hz⟩ : ∃ z, YZ[X.1.length + I]? = some z := ⟨_, List.getElem?_eq_getElem (by omega)⟩
                have hyu : U.1[I]? = some y.1 := by rw [← EU.out, List.getElem?_map, hy]; rfl
                have hzy : z.1 = shS (N : Int) y.1 := by
                  have e1 : (YZ.map (fun y => y.1))[X.1.length + I]? = some z.1 := by rw [List.getElem?_map, hz]; rfl
                  rw [EZ.out, List.getElem?_append_right (by omega), show X.1.length + I - X.1.length = I by omega, List.getElem?_map, hyu] at e1
                  exact (Option.some.inj e1).symm
                obtain ⟨hv1, hv2, hv3, hv4⟩ := HUv.out y.1 (List.mem_of_getElem? hyu)
                obtain ⟨g1, off1, rfl, h1⟩ := SU9.out.get hy
                obtain ⟨g2, off2, had, h2⟩ := SZ.out.get hz
                injection had with had
                subst had
                obtain ⟨aw, cw, an, cn, e1, e2, r1, r2, _⟩ := LU9.out y (List.mem_of_getElem? hy)
                obtain ⟨aw2, cw2, an2, cn2, e3, e4, r3, r4, _⟩ := LZ.out z (List.mem_of_getElem? hz)
                obtain ⟨x, wv, nv⟩ := y
                obtain ⟨x2, wv2, nv2⟩ := z
                simp only at hzy h1 h2 e1 e2 e3 e4 r1 r2 r3 r4 hv1 hv2 hv3 hv4
                subst hzy e1 e2 e3 e4
                have CS : Hid (∀ wx, Out w9 wx → Calls Tryz.prog 16 #[.agg #[.int .i64 x.k, .string ⟨x.nm.toArray⟩, .slice aw2 x.ws.length cw2, .slice an2 x.ns.length cn2, .int .i64 x.o, .int .i64 x.d, .int .i64 x.s, .int .i64 x.f, .int .i64 x.i, .string ⟨x.tg.toArray⟩, .int .i64 (x.l + (N : Int))], .agg #[.int .i64 x.k, .string ⟨x.nm.toArray⟩, .slice aw x.ws.length cw, .slice an x.ns.length cn, .int .i64 x.o, .int .i64 x.d, .int .i64 x.s, .int .i64 x.f, .int .i64 x.i, .string ⟨x.tg.toArray⟩, .int .i64 (x.l + (N : Int))]] wx fun e w' => e = .returned (.bool true) ∧ Out wx w') := hidOf (fun wx o => sameSt_any (shS (N : Int) x) aw2 aw an2 an cw2 cw cn2 cn wx (r3.out o) (r1.out o) (r4.out o) (r2.out o) (by show x.ws.length ≤ _; omega) (by show x.ns.length ≤ _; omega))
                obtain ⟨nw, hnw⟩ : ∃ n, n = x.ws.length := ⟨_, rfl⟩
                obtain ⟨nn, hnn⟩ : ∃ n, n = x.ns.length := ⟨_, rfl⟩
                obtain ⟨xk, xnm, xws, xns, xo, xd, xs, xf, xi, xtg, xl⟩ := x
                simp only at CS hnw hnn hv3 hv4
                have HY : Hid (∀ wx, Out w9 wx → wx.cell? ⟨g1, off1 + I * 11, none⟩ = some (.int .i64 xk) ∧ wx.cell? ⟨g1, off1 + I * 11 + 1, none⟩ = some (.string ⟨xnm.toArray⟩) ∧ wx.cell? ⟨g1, off1 + I * 11 + 2, none⟩ = some (.slice aw nw cw) ∧ wx.cell? ⟨g1, off1 + I * 11 + 3, none⟩ = some (.slice an nn cn) ∧ wx.cell? ⟨g1, off1 + I * 11 + 4, none⟩ = some (.int .i64 xo) ∧ wx.cell? ⟨g1, off1 + I * 11 + 5, none⟩ = some (.int .i64 xd) ∧ wx.cell? ⟨g1, off1 + I * 11 + 6, none⟩ = some (.int .i64 xs) ∧ wx.cell? ⟨g1, off1 + I * 11 + 7, none⟩ = some (.int .i64 xf) ∧ wx.cell? ⟨g1, off1 + I * 11 + 8, none⟩ = some (.int .i64 xi) ∧ wx.cell? ⟨g1, off1 + I * 11 + 9, none⟩ = some (.string ⟨xtg.toArray⟩) ∧ wx.cell? ⟨g1, off1 + I * 11 + 10, none⟩ = some (.int .i64 xl)) := hidOf (by rw [hnw, hnn]; exact (fun wx o => ⟨cell_later o (h1 0 _ rfl), cell_later o (h1 1 _ rfl), cell_later o (h1 2 _ rfl), cell_later o (h1 3 _ rfl), cell_later o (h1 4 _ rfl), cell_later o (h1 5 _ rfl), cell_later o (h1 6 _ rfl), cell_later o (h1 7 _ rfl), cell_later o (h1 8 _ rfl), cell_later o (h1 9 _ rfl), cell_later o (h1 10 _ rfl)⟩))
                have HZ : Hid (∀ wx, Out w9 wx → wx.cell? ⟨g2, off2 + (X.1.length + I) * 11, none⟩ = some (.int .i64 xk) ∧ wx.cell? ⟨g2, off2 + (X.1.length + I) * 11 + 1, none⟩ = some (.string ⟨xnm.toArray⟩) ∧ wx.cell? ⟨g2, off2 + (X.1.length + I) * 11 + 2, none⟩ = some (.slice aw2 nw cw2) ∧ wx.cell? ⟨g2, off2 + (X.1.length + I) * 11 + 3, none⟩ = some (.slice an2 nn cn2) ∧ wx.cell? ⟨g2, off2 + (X.1.length + I) * 11 + 4, none⟩ = some (.int .i64 xo) ∧ wx.cell? ⟨g2, off2 + (X.1.length + I) * 11 + 5, none⟩ = some (.int .i64 xd) ∧ wx.cell? ⟨g2, off2 + (X.1.length + I) * 11 + 6, none⟩ = some (.int .i64 xs) ∧ wx.cell? ⟨g2, off2 + (X.1.length + I) * 11 + 7, none⟩ = some (.int .i64 xf) ∧ wx.cell? ⟨g2, off2 + (X.1.length + I) * 11 + 8, none⟩ = some (.int .i64 xi) ∧ wx.cell? ⟨g2, off2 + (X.1.length + I) * 11 + 9, none⟩ = some (.string ⟨xtg.toArray⟩) ∧ wx.cell? ⟨g2, off2 + (X.1.length + I) * 11 + 10, none⟩ = some (.int .i64 (xl + (N : Int)))) := hidOf (by rw [hnw, hnn]; exact (fun wx o => ⟨cell_later o (h2 0 _ rfl), cell_later o (h2 1 _ rfl), cell_later o (h2 2 _ rfl), cell_later o (h2 3 _ rfl), cell_later o (h2 4 _ rfl), cell_later o (h2 5 _ rfl), cell_later o (h2 6 _ rfl), cell_later o (h2 7 _ rfl), cell_later o (h2 8 _ rfl), cell_later o (h2 9 _ rfl), cell_later o (h2 10 _ rfl)⟩))
                rw [← hnw, ← hnn] at CS
                clear hnw hnn h1 h2 r1 r2 r3 r4 hy hz hyu hul hzl hv1 hv2
                obtain ⟨q0, q1, q2, q3, q4, q5, q6, q7, q8, q9, q10⟩ := HY.out wr OR.out
                go_upto_region 25 with fail
                obtain ⟨p, hp⟩ : ∃ p, p = wr.heap.size := ⟨_, rfl⟩
                obtain ⟨wB, hwB⟩ : ∃ wB, wB = wr.alloc (.cells #[.int .i64 xk, .string ⟨xnm.toArray⟩, .slice aw nw cw, .slice an nn cn, .int .i64 xo, .int .i64 xd, .int .i64 xs, .int .i64 xf, .int .i64 xi, .string ⟨xtg.toArray⟩, .int .i64 xl] 60) := ⟨_, rfl⟩
                have bB : wB.heap[p]? = some (.cells #[.int .i64 xk, .string ⟨xnm.toArray⟩, .slice aw nw cw, .slice an nn cn, .int .i64 xo, .int .i64 xd, .int .i64 xs, .int .i64 xf, .int .i64 xi, .string ⟨xtg.toArray⟩, .int .i64 xl] 60 (0, 0)) := by rw [hwB, hp]; exact heap_alloc_new wr _
                have OB : Hid (Out wr wB) := hidOf (by rw [hwB]; exact (Out.refl wr).alloc _)
                rw [← hwB, ← hp]
                have m10 : wB.cell? ⟨p, 10, none⟩ = some (.int .i64 xl) := by rw [cell_atL bB]; rfl
                have f10 : wB.frozen? ⟨p, 10, none⟩ = false := by simp [World.frozen?, bB]
                have Hp := hidOf hp
                have BB := hidOf bB
                clear hwB hp bB q0 q1 q2 q3 q4 q5 q6 q7 q8 q9 q10
                go_upto_region 26 with fail
                obtain ⟨wC, hwC⟩ : ∃ wC, wC = wB.setCell ⟨p, 10, none⟩ (.int .i64 (xl + (N : Int))) := ⟨_, rfl⟩
                have b3 : wC.heap[p]? = some (.cells #[.int .i64 xk, .string ⟨xnm.toArray⟩, .slice aw nw cw, .slice an nn cn, .int .i64 xo, .int .i64 xd, .int .i64 xs, .int .i64 xf, .int .i64 xi, .string ⟨xtg.toArray⟩, .int .i64 (xl + (N : Int))] 60 (0, 0)) := by rw [hwC, set_atL BB.out]; rfl
                have OC : Hid (Out wr wC) := hidOf (by
                  rw [hwC]
                  exact Chg.out (S := fun k => k = p) (Chg.setCell (S := fun k => k = p) (Chg.refl _ wB) (p := ⟨p, 10, none⟩) rfl _) OB.out (fun k hk => by have := Hp.out; omega))
                rw [← hwC]
                have HK : Hid (∀ wx, Out wC wx → wx.cell? ⟨g2, off2 + (X.1.length + I) * 11, none⟩ = some (.int .i64 xk) ∧ wx.cell? ⟨g2, off2 + (X.1.length + I) * 11 + 1, none⟩ = some (.string ⟨xnm.toArray⟩) ∧ wx.cell? ⟨g2, off2 + (X.1.length + I) * 11 + 2, none⟩ = some (.slice aw2 nw cw2) ∧ wx.cell? ⟨g2, off2 + (X.1.length + I) * 11 + 3, none⟩ = some (.slice an2 nn cn2) ∧ wx.cell? ⟨g2, off2 + (X.1.length + I) * 11 + 4, none⟩ = some (.int .i64 xo) ∧ wx.cell? ⟨g2, off2 + (X.1.length + I) * 11 + 5, none⟩ = some (.int .i64 xd) ∧ wx.cell? ⟨g2, off2 + (X.1.length + I) * 11 + 6, none⟩ = some (.int .i64 xs) ∧ wx.cell? ⟨g2, off2 + (X.1.length + I) * 11 + 7, none⟩ = some (.int .i64 xf) ∧ wx.cell? ⟨g2, off2 + (X.1.length + I) * 11 + 8, none⟩ = some (.int .i64 xi) ∧ wx.cell? ⟨g2, off2 + (X.1.length + I) * 11 + 9, none⟩ = some (.string ⟨xtg.toArray⟩) ∧ wx.cell? ⟨g2, off2 + (X.1.length + I) * 11 + 10, none⟩ = some (.int .i64 (xl + (N : Int))) ∧ wx.cell? ⟨p, 0, none⟩ = some (.int .i64 xk) ∧ wx.cell? ⟨p, 1, none⟩ = some (.string ⟨xnm.toArray⟩) ∧ wx.cell? ⟨p, 2, none⟩ = some (.slice aw nw cw) ∧ wx.cell? ⟨p, 3, none⟩ = some (.slice an nn cn) ∧ wx.cell? ⟨p, 4, none⟩ = some (.int .i64 xo) ∧ wx.cell? ⟨p, 5, none⟩ = some (.int .i64 xd) ∧ wx.cell? ⟨p, 6, none⟩ = some (.int .i64 xs) ∧ wx.cell? ⟨p, 7, none⟩ = some (.int .i64 xf) ∧ wx.cell? ⟨p, 8, none⟩ = some (.int .i64 xi) ∧ wx.cell? ⟨p, 9, none⟩ = some (.string ⟨xtg.toArray⟩) ∧ wx.cell? ⟨p, 10, none⟩ = some (.int .i64 (xl + (N : Int)))) := hidOf (fun wx o => by
                  obtain ⟨r0, r1, r2, r3, r4, r5, r6, r7, r8, r9, r10⟩ := HZ.out wx ((OR.out.trans OC.out).trans o)
                  exact ⟨r0, r1, r2, r3, r4, r5, r6, r7, r8, r9, r10, cell_later o (by rw [cell_atL b3]; rfl), cell_later o (by rw [cell_atL b3]; rfl), cell_later o (by rw [cell_atL b3]; rfl), cell_later o (by rw [cell_atL b3]; rfl), cell_later o (by rw [cell_atL b3]; rfl), cell_later o (by rw [cell_atL b3]; rfl), cell_later o (by rw [cell_atL b3]; rfl), cell_later o (by rw [cell_atL b3]; rfl), cell_later o (by rw [cell_atL b3]; rfl), cell_later o (by rw [cell_atL b3]; rfl), cell_later o (by rw [cell_atL b3]; rfl)⟩)
                have OD := hidOf ((Out.refl wC).drew)
                have OWC := hidOf (OR.out.trans OC.out)
                have hwr : IntKind.i64.wrap ((X.1.length : Int) + (I : Int)) = (X.1.length : Int) + (I : Int) := by rw [IntKind.wrap_i64]; omega
                have hi1 : (0 : Int) ≤ (X.1.length : Int) + (I : Int) := by omega
                have hi2 : (X.1.length : Int) + (I : Int) < (X.1.length : Int) + (U.1.length : Int) := by omega
                have htn : ((X.1.length : Int) + (I : Int)).toNat = X.1.length + I := by omega
                clear hwC m10 f10 b3 BB HZ HY OB
                go_region_held3 (fun wx => wx.cell? ⟨g2, off2 + (X.1.length + I) * 11, none⟩ = some (.int .i64 xk) ∧ wx.cell? ⟨g2, off2 + (X.1.length + I) * 11 + 1, none⟩ = some (.string ⟨xnm.toArray⟩) ∧ wx.cell? ⟨g2, off2 + (X.1.length + I) * 11 + 2, none⟩ = some (.slice aw2 nw cw2) ∧ wx.cell? ⟨g2, off2 + (X.1.length + I) * 11 + 3, none⟩ = some (.slice an2 nn cn2) ∧ wx.cell? ⟨g2, off2 + (X.1.length + I) * 11 + 4, none⟩ = some (.int .i64 xo) ∧ wx.cell? ⟨g2, off2 + (X.1.length + I) * 11 + 5, none⟩ = some (.int .i64 xd) ∧ wx.cell? ⟨g2, off2 + (X.1.length + I) * 11 + 6, none⟩ = some (.int .i64 xs) ∧ wx.cell? ⟨g2, off2 + (X.1.length + I) * 11 + 7, none⟩ = some (.int .i64 xf) ∧ wx.cell? ⟨g2, off2 + (X.1.length + I) * 11 + 8, none⟩ = some (.int .i64 xi) ∧ wx.cell? ⟨g2, off2 + (X.1.length + I) * 11 + 9, none⟩ = some (.string ⟨xtg.toArray⟩) ∧ wx.cell? ⟨g2, off2 + (X.1.length + I) * 11 + 10, none⟩ = some (.int .i64 (xl + (N : Int))) ∧ wx.cell? ⟨p, 0, none⟩ = some (.int .i64 xk) ∧ wx.cell? ⟨p, 1, none⟩ = some (.string ⟨xnm.toArray⟩) ∧ wx.cell? ⟨p, 2, none⟩ = some (.slice aw nw cw) ∧ wx.cell? ⟨p, 3, none⟩ = some (.slice an nn cn) ∧ wx.cell? ⟨p, 4, none⟩ = some (.int .i64 xo) ∧ wx.cell? ⟨p, 5, none⟩ = some (.int .i64 xd) ∧ wx.cell? ⟨p, 6, none⟩ = some (.int .i64 xs) ∧ wx.cell? ⟨p, 7, none⟩ = some (.int .i64 xf) ∧ wx.cell? ⟨p, 8, none⟩ = some (.int .i64 xi) ∧ wx.cell? ⟨p, 9, none⟩ = some (.string ⟨xtg.toArray⟩) ∧ wx.cell? ⟨p, 10, none⟩ = some (.int .i64 (xl + (N : Int)))) (first | with_reducible exact HK.out _ (Hid.out (by assumption)) | fail) (first | (go_at_call 16; refine (CS.out _ (OWC.out.trans OD.out)).mono ?_; rintro e w1 ⟨rfl, hO1⟩; have HO1 := hidOf (OD.out.trans hO1); clear hO1) | fail)
                go_wp2
                go_roundw
                case rel => exact ⟨I + 1, by simp, by omega, hidOf (OWC.out.trans HO1.out)⟩
                case measure => simp [intOf]; omega
              · have hltI : ¬ (I : Int) < U.1.length := by omega
                go_wp2
                go_ret
                exact ⟨rfl, OE.out.trans OR.out⟩
        · have hZ2 := HP.out.2.1 h1 h2
          have h2b : (U.2.2 != 0) = true := by simpa using h2
          clear HP
          subst hZ2
          simp only [List.length_nil]
          go_wp2_with (go_at_call 14; refine (CN.out _ _).mono ?_; rintro e wn ⟨rfl, hwn⟩; subst hwn)
          go_ret
          exact ⟨by first | rfl | simp, OE.out⟩
      · obtain ⟨hZ1, hX0⟩ := HP.out.1 h1
        have h1b : (X.2.2 != 0) = true := by simpa using h1
        clear HP
        subst hZ1
        have hl0 : Z.1.length = 0 := by rw [hX0]; rfl
        rw [hl0]
        go_wp2_with (go_at_call 14; refine (CN.out _ _).mono ?_; rintro e wn ⟨rfl, hwn⟩; subst hwn)
        go_ret
        exact ⟨by first | rfl | simp, OE.out⟩
end Go.Proofs.YtkihaohdcgjioaaGreatDoor
