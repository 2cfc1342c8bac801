import Derived.Test.YtlfcjbeldnkkoaaGb47
namespace Go.Proofs.Ytlfcjbeldnkkoaa
open Go.RowKit
set_option linter.unusedVariables false
set_option linter.unusedSimpArgs false
set_option maxRecDepth 20000 in
set_option maxHeartbeats 8000000 in
theorem named9_good (w : World) (g off c : Nat) (b : List UInt8) (hg : g < w.heap.size) (hb : BAt w g off b) (hc : b.length ≤ c) (hl : b.length ≤ 1000000000000) (T k : Nat) (E : List En) (nb : En) (r : Rdg b T k E nb) (hk : HdOk b T k) (B : Nat) (a : Option Addr) (ca : Nat) (K : Nat) (hKk : k = K + 2) (hS : OwSp B (.slice a (K + 1) ca) (spsE E) w) (hSl : (spsE E).length = K + 1) (hSc : K + 1 ≤ ca) (B0 sz : Nat) (hB0 : nb.bg = (B0 : Int)) (hE1 : nb.en = ((B0 + sz : Nat) : Int)) (N : List (List UInt8)) (hN : (rdP ((b.drop B0).take sz)).1 = some N) :
    Calls Try.prog 37 #[.slice (some ⟨g, off, none⟩) b.length c, .slice a (K + 1) ca] w fun e w' => NmE w b E B0 (B0 + sz) (K + 1) e w' := by
  obtain ⟨j0, ji, jz0, jz1, jz2⟩ := info_parts infoStr
  have k18 := r.k18
  have hnb := r.all nb (List.mem_of_getElem? r.last)
  have hE1b : B0 + sz ≤ b.length := by have := hnb.en; have := r.hk; omega
  have hcB : ¬ c = B0 := by have := hnb.en; have := r.hk; omega
  have hlastS : (spsE E)[K]? = some (B0, sz) := by
    unfold spsE
    rw [List.getElem?_map, List.getElem?_drop, show 1 + K = E.length - 1 by rw [r.len]; omega, r.last]
    simp [spE, hB0, hE1]
    omega
  obtain ⟨ga, rfl, q0, q1⟩ := OwSp.cells hS hlastS
  have hsub : B0 + sz - B0 = sz := by omega
  have hlsl : (((b.drop B0).take sz).length) = sz := by rw [List.length_take, List.length_drop]; omega
  have HB := hidOf hb
  have Hr := hidOf r
  have Hlsl := hidOf hlsl
  have HKk := hidOf hKk
  have Hsub := hidOf hsub
  have hKc : (K : Int) + 1 ≤ ca := by omega
  have hK18 : (K : Int) ≤ 16 := by omega
  have hE1I : (B0 : Int) + sz ≤ c := by omega
  have hE1J : (B0 : Int) + sz ≤ b.length := by omega
  have hlI : (b.length : Int) ≤ 1000000000000 := by omega
  have hs0 : (0 : Int) ≤ sz := by omega
  have hb0 : (0 : Int) ≤ B0 := by omega
  have CR : Hid (∀ wx, Out w wx → Calls Try.prog 64 #[.slice (some ⟨g, off + B0, none⟩) sz (c - B0)] wx fun e w' => RREnd wx ((b.drop B0).take sz) e w') := hidOf (fun wx o => by
    have h := rread_any (some ⟨g, off + B0, none⟩) (c - B0) ((b.drop B0).take sz) wx (((hb.out hg o).cut B0 sz).rest (Nat.lt_of_lt_of_le hg o.size)) (by rw [hlsl]; omega) (by rw [hlsl]; omega)
    rw [hlsl] at h
    exact h)
  have C40 : Hid (∀ wx, Out w wx → Calls Try.prog 38 #[.slice (some ⟨g, off, none⟩) b.length c, .int .i64 40, .int .i64 8] wx fun e w' => e = .returned (.int .i64 (T : Int)) ∧ w' = wx) := hidOf (fun wx o => by
    have h := at9_any wx g off c b (hb.out hg o) hc hl 40 8 (by omega) (by have := r.hk; have := r.hT; omega)
    rw [hk.t] at h
    exact h)
  have C4 : Hid (∀ wx, Out w wx → ∀ row : Nat, row + 64 ≤ b.length → Calls Try.prog 38 #[.slice (some ⟨g, off, none⟩) b.length c, .int .i64 (row : Int), .int .i64 4] wx fun e w' => e = .returned (.int .i64 (fB b row 4 : Nat)) ∧ w' = wx) := hidOf (fun wx o row hr => by
    have h := at9_any wx g off c b (hb.out hg o) hc hl row 4 (by omega) (by omega)
    rw [atP4] at h
    exact h)
  have O1 := hidOf ((Out.refl w).alloc (spO (B0, sz)))
  have hTI : (T : Int) ≤ 1000000000000 := by have := r.hk; omega
  have hT0 : (0 : Int) ≤ T := by omega
  clear hb r hk hS hlsl hlastS hnb hB0 hE1 hsub hKk k18
  obtain ⟨hby, hnd, hnok⟩ := rdP_inv hN
  have CR2 : Hid (∀ wx, Out w wx → Calls Try.prog 64 #[.slice (some ⟨g, off + B0, none⟩) sz (c - B0)] wx fun e w' => ∃ an cn, e = .returned (.tuple #[.agg #[.slice an N.length cn], .int .i64 0, .int .i64 0]) ∧ RT w' an N ∧ N.length ≤ cn ∧ Out wx w') := hidOf (fun wx o => (CR.out wx o).mono (fun e w' h => by
    obtain ⟨ho, ⟨hn, _⟩ | ⟨N', a, c, hs, he, hw⟩⟩ := h
    · rw [hN] at hn; cases hn
    · rw [hN] at hs; cases hs
      obtain ⟨h1, h2⟩ := hw.rt
      exact ⟨a, c, he, h1, h2, ho⟩))
  have HN := hidOf hN
  have HNok := hidOf hnok
  have Hsz : Hid (szF 1 N = sz) := hidOf (by have h := congrArg List.length hby; rw [Hlsl.out, byP_len] at h; exact h.symm)
  have HszT : Hid (∀ j, szF 1 (N.take j) ≤ szF 1 N) := hidOf (fun j => by
    by_cases hj : j < N.length
    · have := sz_lt N j N.length hj (Nat.le_refl _); rw [List.take_length] at this; omega
    · rw [List.take_of_length_le (by omega)]; exact Nat.le_refl _)
  have HszN : Hid (szF 1 N ≤ 1000000000000) := hidOf (by have := Hsz.out; omega)
  have hNl : N.length ≤ 1000000000000 := by have := szF_ge N 1; have := Hsz.out; omega
  have hNlI : (N.length : Int) ≤ 1000000000000 := by omega
  clear CR hN hby hnd hnok
  go_enter Try.func37, Try.ntmps37
  go_upto_region 2 with fail
  have c60 : (w.alloc (spO (B0, sz))).cell? ⟨w.heap.size, 0, none⟩ = some (.int .i64 (B0 : Int)) := by unfold spO; rw [cell_fresh _ _ _ _ _ rfl]; rfl
  have c61 : (w.alloc (spO (B0, sz))).cell? ⟨w.heap.size, 1, none⟩ = some (.int .i64 (sz : Int)) := by unfold spO; rw [cell_fresh _ _ _ _ _ rfl]; rfl
  show Code.wp _ _ _ _ (w.alloc (spO (B0, sz)))
  have h6 : w.heap.size < (w.alloc (spO (B0, sz))).heap.size := by rw [size_alloc]; omega
  generalize w.alloc (spO (B0, sz)) = w1 at *
  obtain ⟨q6, hq6⟩ : ∃ q, q = w.heap.size := ⟨_, rfl⟩
  rw [← hq6] at c60 c61 h6 ⊢
  clear hq6
  go_upto_region 3 with (go_at_call 64; refine (CR2.out w1 O1.out).mono ?_; rintro e w2 ⟨an, cn, rfl, hrt, hcn, ho⟩; have O2 := hidOf ho; have RT2 := hidOf hrt; have d60 := cell_later ho c60; clear ho hrt)
  have O3 : Hid (Out w (w2.alloc (.cells #[.slice an N.length cn] 119))) := hidOf ((O1.out.trans O2.out).alloc _)
  have HNr : Hid (RT (w2.alloc (.cells #[.slice an N.length cn] 119)) an N) := hidOf (RT2.out.out ((Out.refl w2).alloc _))
  have b7 : (w2.alloc (.cells #[.slice an N.length cn] 119)).cell? ⟨w2.heap.size, 0, none⟩ = some (.slice an N.length cn) := by rw [cell_fresh _ _ _ _ _ rfl]; rfl
  have b6 := cell_later ((Out.refl w2).alloc (.cells #[.slice an N.length cn] 119)) d60
  have hcnI : (N.length : Int) ≤ cn := by omega
  generalize w2.alloc (.cells #[.slice an N.length cn] 119) = w3 at *
  generalize w2.heap.size = q7 at *
  clear CR2 c60 c61 d60 O1 O2 RT2
  go_wp2_with (go_at_call 38; refine (C40.out _ O3.out).mono ?_; rintro e w5 ⟨rfl, hw⟩; have hw := hw.symm; subst hw)
  clear C40
  go_loopw [10, 11, 12, 13, 14] (fun rv ov mv nv iv wr => ∃ (i met nx rw : Nat) (D : List En) (ao : Option Addr) (co : Nat), rv = .int .i64 rw ∧ ov = .slice ao i co ∧ mv = .int .i64 met ∧ nv = .int .i64 nx ∧ iv = .int .i64 i ∧ i ≤ K + 1 ∧ met ≤ N.length ∧ Hid (rw = T + 64 * i) ∧ Hid (nx = szF 1 (N.take met)) ∧ Hid (D.length = i) ∧ Hid (OwS w3.heap.size (.slice ao i co) (D.map En.nm) wr) ∧ Hid (Out w3 wr) ∧ Hid (nmG N 1 (E.drop 1) = (D ++ (nmG N nx (E.drop (1 + i))).1, (nmG N nx (E.drop (1 + i))).2))) (fun _ _ _ _ iv _ => K + 1 - (intOf iv).toNat)
  case atStart => exact ⟨0, 0, 1, T, [], none, 0, rfl, rfl, rfl, rfl, rfl, by omega, by omega, hidOf (by omega), hidOf (by simp [szF]), hidOf rfl, hidOf (World.ownsRow_nil _ _ _ _), hidOf (Out.refl _), hidOf (by simp)⟩
  case round =>
    obtain ⟨i, met, nx, rw, D, ao, co, rfl, rfl, rfl, rfl, rfl, hi, hmN, Hrw, Hnx, HDl, HD, HO, HG⟩ := hrel
    have hi0 : (0 : Int) ≤ i := by omega
    have hm0 : (0 : Int) ≤ met := by omega
    have d7 := cell_later HO.out b7
    have d6 := cell_later HO.out b6
    by_cases hlt : i < K + 1
    · have hltI : (i : Int) < (K : Int) + 1 := by omega
      obtain ⟨e, he⟩ : ∃ e, E[1 + i]? = some e := ⟨_, List.getElem?_eq_getElem (by rw [Hr.out.len]; have := HKk.out; omega)⟩
      have Hdc : Hid (E.drop (1 + i) = e :: E.drop (1 + (i + 1))) := hidOf (drop_cons he)
      have Hdn : Hid (i = K → E.drop (1 + (i + 1)) = []) := hidOf (fun h => List.drop_eq_nil_of_le (by rw [Hr.out.len]; have := HKk.out; omega))
      obtain ⟨hr, hhr⟩ : ∃ hr, hr = fB b (rw + 64) 4 := ⟨_, rfl⟩
      have Hna : Hid (e.na = (hr : Nat) ∧ e.pl = ((rw + 64 : Nat) : Int)) := hidOf (by
        obtain ⟨h1, h2⟩ := Hr.out.na he
        rw [h1, h2, hhr, show T + 64 * (1 + i) = rw + 64 by have := Hrw.out; omega]
        exact ⟨rfl, rfl⟩)
      have K4 : Hid (∀ wx, Out w3 wx → Calls Try.prog 38 #[.slice (some ⟨g, off, none⟩) b.length c, .int .i64 ((rw : Int) + 64), .int .i64 4] wx fun e w' => e = .returned (.int .i64 (hr : Int)) ∧ w' = wx) := hidOf (fun wx o => by
        have h := C4.out wx (O3.out.trans o) (rw + 64) (by have := Hrw.out; have := Hr.out.hk; have := HKk.out; omega)
        rw [Int.natCast_add, ← hhr] at h
        exact h)
      have hrwI : (rw : Int) ≤ 1000000000000 := by have := Hrw.out; have := Hr.out.hk; have := HKk.out; omega
      have hrw0 : (0 : Int) ≤ rw := by omega
      have hnxl : nx ≤ 1000000000000 := by rw [Hnx.out]; exact Nat.le_trans (HszT.out met) HszN.out
      have hnxI : (nx : Int) ≤ 1000000000000 := by omega
      clear he hhr
      by_cases hA : hr = nx ∧ met < N.length
      · obtain ⟨hA1, hA2⟩ := hA
        obtain rfl : nx = hr := hA1.symm
        obtain ⟨y, hy⟩ : ∃ y, N[met]? = some y := ⟨_, List.getElem?_eq_getElem hA2⟩
        have hyl : y.length ≤ 64 := by have h := HNok.out y (List.mem_of_getElem? hy); unfold nameOk at h; simp at h; exact h.1.2
        obtain ⟨gn, offn, rfl, dy⟩ := StrAt.get (HNr.out.out HO.out) hy
        have hys : (⟨y.toArray⟩ : ByteArray).size = y.length := mk_size y
        have hA2I : (met : Int) < N.length := by omega
        have hylI : (y.length : Int) ≤ 64 := by omega
        obtain ⟨NX2, hNX2⟩ : ∃ z, z = nx + y.length + 1 := ⟨_, rfl⟩
        have Hnx2 : Hid (NX2 = szF 1 (N.take (met + 1))) := hidOf (by rw [take_sz N hy, ← Hnx.out, hNX2])
        have Hnx2I : Hid ((NX2 : Int) = (nx : Int) + y.length + 1) := hidOf (by omega)
        clear hy hA1 hNX2
        go_wp2_with (go_at_call 38; refine (K4.out _ HO.out).mono ?_; rintro e w5 ⟨rfl, hw⟩; have hw := hw.symm; subst hw)
        clear dy K4
        obtain ⟨wo, rfl⟩ : ∃ wo, wo = wr := ⟨_, rfl⟩
        go_loopw [16, 17, 18] (fun fv sv kv wr => ∃ (kk fr : Nat) (nm : List UInt8), fv = .int .i64 fr ∧ sv = .string ⟨nm.toArray⟩ ∧ kv = .int .i64 kk ∧ kk ≤ (met + 1) ∧ Hid (fr = szF 1 (N.take kk)) ∧ Hid ((nm = [] ∧ ∀ j, j < kk → ¬ nx = szF 1 (N.take j)) ∨ (∃ k0, kk = k0 + 1 ∧ nx = szF 1 (N.take k0) ∧ N[k0]? = some nm)) ∧ wr = wo) (fun _ _ kv _ => (met + 1) - (intOf kv).toNat)
        case atStart => exact ⟨0, 1, [], rfl, rfl, rfl, by omega, hidOf (by simp [szF]), hidOf (.inl ⟨rfl, fun j hj => by omega⟩), rfl⟩
        case round =>
          obtain ⟨kk, fr, nm, rfl, rfl, rfl, hkm, Hfr, Hor, hww⟩ := hrel
          have hww := hww.symm
          subst hww
          have hkk0 : (0 : Int) ≤ kk := by omega
          rcases Hor.out with ⟨hnm, hno⟩ | ⟨k0, rfl, hp, hx0⟩
          · subst hnm
            clear Hor
            by_cases hkl : kk < (met + 1)
            · have hklI : (kk : Int) < (met : Int) + 1 := by omega
              obtain ⟨y, hy⟩ : ∃ y, N[kk]? = some y := ⟨_, List.getElem?_eq_getElem (by omega)⟩
              have hyl : y.length ≤ 64 := by have h := HNok.out y (List.mem_of_getElem? hy); unfold nameOk at h; simp at h; exact h.1.2
              obtain ⟨gn, offn, hga, dy⟩ := StrAt.get (HNr.out.out HO.out) hy
              first | subst hga | (simp only [Option.some.injEq, Addr.mk.injEq] at hga; obtain ⟨rfl, rfl, _⟩ := hga)
              have hys : (⟨y.toArray⟩ : ByteArray).size = y.length := mk_size y
              have hkN : (kk : Int) < N.length := by omega
              have hfl : fr ≤ 1000000000000 := by rw [Hfr.out]; exact Nat.le_trans (HszT.out kk) HszN.out
              have hflI : (fr : Int) ≤ 1000000000000 := by omega
              have hylI : (y.length : Int) ≤ 64 := by omega
              have Hfr2 : Hid (fr + y.length + 1 = szF 1 (N.take (kk + 1))) := hidOf (by rw [take_sz N hy, ← Hfr.out])
              by_cases hfh : fr = nx
              · have Hf2 := Hfr
                rw [hfh] at Hf2 Hfr2 hflI ⊢
                clear hfl Hfr
                have hno2 := hidOf hno
                clear hno
                subst hfh
                go_wp2
                refine ⟨⟨kk + 1, fr + y.length + 1, y, by first | rfl | (congr 1; omega), rfl, by simp, by omega, Hfr2, hidOf (.inr ⟨kk, rfl, Hf2.out, hy⟩), trivial⟩, by simp [intOf] <;> omega⟩
              · have hfhI : ((fr : Int) == (nx : Int)) = false := by rw [beq_eq_false_iff_ne]; omega
                have Hno2 : Hid (∀ j, j < kk + 1 → ¬ nx = szF 1 (N.take j)) := hidOf (fun j hj h => by
                  by_cases ej : j = kk
                  · subst ej; exact hfh (by rw [Hfr.out, h])
                  · exact hno j (by omega) h)
                clear hno hfh hy
                go_wp2
                exact ⟨⟨kk + 1, fr + y.length + 1, [], by first | rfl | (congr 1; omega), rfl, by simp, by omega, Hfr2, hidOf (.inl ⟨rfl, Hno2.out⟩), trivial⟩, by simp [intOf] <;> omega⟩
            · have hklI : ¬ (kk : Int) < (met : Int) + 1 := by omega
              exfalso
              exact hno met (by omega) Hnx.out
          · clear Hor
            have Hp := hidOf hp
            have Hx0 := hidOf hx0
            clear hp hx0
            by_cases hkl : k0 + 1 < (met + 1)
            · have hklI : (k0 : Int) + 1 < (met : Int) + 1 := by omega
              exact absurd (sz_inj (by omega) hmN (by rw [← Hp.out]; exact Hnx.out)) (by omega : ¬ k0 = met)
            · have hklI : ¬ (k0 : Int) + 1 < (met : Int) + 1 := by omega
              have hnok := HNok.out nm (List.mem_of_getElem? Hx0.out)
              have hne : ¬ nm = [] := fun e => by rw [e] at hnok; simp [nameOk] at hnok
              have hnl : nm.length ≤ 64 := by unfold nameOk at hnok; simp at hnok; exact hnok.1.2
              have hn1 : (nm == []) = false := by rw [beq_eq_false_iff_ne]; exact hne
              have hn2 : nm.isEmpty = false := by cases nm with | nil => exact absurd rfl hne | cons => rfl
              have hk0 : met = k0 := (sz_inj (by omega) hmN (by rw [← Hp.out]; exact Hnx.out)).symm
              subst hk0
              have HG2 : Hid (¬ (E.drop (1 + (i + 1)) = [] ∧ nm ≠ shN) → nmG N 1 (E.drop 1) = ((D ++ [{ e with nm := nm }]) ++ (nmG N NX2 (E.drop (1 + (i + 1)))).1, (nmG N NX2 (E.drop (1 + (i + 1)))).2)) := hidOf (fun hl => by
                rw [HG.out, Hdc.out, Hnx.out, nmG_new Hx0.out (by rw [Hna.out.1, Hnx.out]) hl, Hnx2.out]
                simp)
              by_cases hsh : nm = shN
              · subst hsh
                have hsl : (shN.length : Int) = 9 := rfl
                by_cases hlast : i = K
                · obtain rfl : i = K := hlast
                  have HG3 := hidOf (HG2.out (fun h => h.2 rfl))
                  clear HG2 HG hn1 hne hnok
                  go_upto_region 27 with fail
                  go_wp2_with (at_builtin; go_loud (refine wpList_append_own _ rfl (.tmp 119) (.tmp 121) 85 rfl w3.heap.size 9 j0 _ 1 16 Try.underlying85 ji jz0 jz1 jz2 rfl (by decide) (.slice ao i co) i ((D.map En.nm).map strV) rfl (World.ownsRow.alloc (by have h := HD.out; unfold OwS at h; rw [List.length_map, HDl.out] at h; exact h) _) ⟨wo.heap.size, 0, none⟩ 1 1 [strV shN] rfl rfl (news_new wo _ _ _ rfl) (fun u hu => by rw [List.mem_singleton.1 hu]; rfl) (by unfold maxLen; omega) (by omega) (by rw [size_alloc]; have := HO.out.size; omega) ?_); intro v4 w4 hown4 hgrow4 _; have HO4 := hidOf hown4; have CH4 := hidOf (grow9 (show (wo.alloc _).grownBy w4 (Value.slice ao i co).ownBlock from hgrow4)); clear hgrow4; obtain ⟨a4, c4, rfl⟩ := own_form hown4; clear hown4)
                  refine ⟨⟨i + 1, met + 1, NX2, rw + 64, D ++ [{ e with nm := shN }], a4, c4, by first | rfl | simp, rfl, by first | rfl | simp, by first | rfl | (congr 1; have := Hnx2I.out; omega), by simp, by omega, by omega, hidOf (by have := Hrw.out; omega), Hnx2, hidOf (by rw [List.length_append, HDl.out]; rfl), hidOf ?_, hidOf (Chg.out CH4.out HO.out (fun k hk => (World.ownsRow.lt HD.out k hk).1)), HG3⟩, by simp [intOf] <;> omega⟩
                  have h := HO4.out
                  unfold OwS
                  rw [List.map_append, List.map_append, List.length_append, List.length_map, HDl.out]
                  exact h
                · have hlb : ((i : Int) == (K : Int)) = false := by rw [beq_eq_false_iff_ne]; omega
                  have HG3 := hidOf (HG2.out (fun h => h.2 rfl))
                  clear HG2 HG hn1 hne hnok
                  go_upto_region 27 with fail
                  go_wp2_with (at_builtin; go_loud (refine wpList_append_own _ rfl (.tmp 119) (.tmp 121) 85 rfl w3.heap.size 9 j0 _ 1 16 Try.underlying85 ji jz0 jz1 jz2 rfl (by decide) (.slice ao i co) i ((D.map En.nm).map strV) rfl (World.ownsRow.alloc (by have h := HD.out; unfold OwS at h; rw [List.length_map, HDl.out] at h; exact h) _) ⟨wo.heap.size, 0, none⟩ 1 1 [strV shN] rfl rfl (news_new wo _ _ _ rfl) (fun u hu => by rw [List.mem_singleton.1 hu]; rfl) (by unfold maxLen; omega) (by omega) (by rw [size_alloc]; have := HO.out.size; omega) ?_); intro v4 w4 hown4 hgrow4 _; have HO4 := hidOf hown4; have CH4 := hidOf (grow9 (show (wo.alloc _).grownBy w4 (Value.slice ao i co).ownBlock from hgrow4)); clear hgrow4; obtain ⟨a4, c4, rfl⟩ := own_form hown4; clear hown4)
                  refine ⟨⟨i + 1, met + 1, NX2, rw + 64, D ++ [{ e with nm := shN }], a4, c4, by first | rfl | simp, rfl, by first | rfl | simp, by first | rfl | (congr 1; have := Hnx2I.out; omega), by simp, by omega, by omega, hidOf (by have := Hrw.out; omega), Hnx2, hidOf (by rw [List.length_append, HDl.out]; rfl), hidOf ?_, hidOf (Chg.out CH4.out HO.out (fun k hk => (World.ownsRow.lt HD.out k hk).1)), HG3⟩, by simp [intOf] <;> omega⟩
                  have h := HO4.out
                  unfold OwS
                  rw [List.map_append, List.map_append, List.length_append, List.length_map, HDl.out]
                  exact h
              · have hst : (nm == [46, 115, 104, 115, 116, 114, 116, 97, 98]) = false := by rw [beq_eq_false_iff_ne]; exact hsh
                by_cases hlast : i = K
                · have HT := hidOf (tn_fault (E := E) HN.out (by rw [HG.out]; show (nmG N nx (E.drop (1 + i))).2.2 = _; rw [Hdc.out, Hdn.out hlast]; exact nmG_last Hx0.out (by rw [Hna.out.1, Hp.out]) hsh))
                  rw [Hna.out.2] at HT
                  clear HG2 HG
                  subst hlast
                  go_wp2
                  go_ret2
                  exact NmE.bad (O3.out.trans HO.out) (by rw [HT.out]; first | done | (congr 1 <;> (have := Hrw.out; omega)))
                · have hlb : ((i : Int) == (K : Int)) = false := by rw [beq_eq_false_iff_ne]; omega
                  have HG3 := hidOf (HG2.out (fun h => hlast (by have := congrArg List.length h.1; rw [List.length_drop, Hr.out.len] at this; simp at this; have := HKk.out; omega)))
                  clear HG2 HG hn1 hne hnok
                  go_upto_region 27 with fail
                  go_wp2_with (at_builtin; go_loud (refine wpList_append_own _ rfl (.tmp 119) (.tmp 121) 85 rfl w3.heap.size 9 j0 _ 1 16 Try.underlying85 ji jz0 jz1 jz2 rfl (by decide) (.slice ao i co) i ((D.map En.nm).map strV) rfl (World.ownsRow.alloc (by have h := HD.out; unfold OwS at h; rw [List.length_map, HDl.out] at h; exact h) _) ⟨wo.heap.size, 0, none⟩ 1 1 [strV nm] rfl rfl (news_new wo _ _ _ rfl) (fun u hu => by rw [List.mem_singleton.1 hu]; rfl) (by unfold maxLen; omega) (by omega) (by rw [size_alloc]; have := HO.out.size; omega) ?_); intro v4 w4 hown4 hgrow4 _; have HO4 := hidOf hown4; have CH4 := hidOf (grow9 (show (wo.alloc _).grownBy w4 (Value.slice ao i co).ownBlock from hgrow4)); clear hgrow4; obtain ⟨a4, c4, rfl⟩ := own_form hown4; clear hown4)
                  refine ⟨⟨i + 1, met + 1, NX2, rw + 64, D ++ [{ e with nm := nm }], a4, c4, by first | rfl | simp, rfl, by first | rfl | simp, by first | rfl | (congr 1; have := Hnx2I.out; omega), by simp, by omega, by omega, hidOf (by have := Hrw.out; omega), Hnx2, hidOf (by rw [List.length_append, HDl.out]; rfl), hidOf ?_, hidOf (Chg.out CH4.out HO.out (fun k hk => (World.ownsRow.lt HD.out k hk).1)), HG3⟩, by simp [intOf] <;> omega⟩
                  have h := HO4.out
                  unfold OwS
                  rw [List.map_append, List.map_append, List.length_append, List.length_map, HDl.out]
                  exact h
      · have HnotA : Hid (hr = nx → ¬ met < N.length) := hidOf (fun h1 h2 => hA ⟨h1, h2⟩)
        have Hnx2I : Hid ((nx : Int) = (nx : Int)) := hidOf rfl
        have Hnx2 := Hnx
        by_cases hB : hr = nx
        · have hmL : ¬ (met : Int) < N.length := by have := HnotA.out hB; omega
          clear hA
          obtain rfl : hr = nx := hB
          go_wp2_with (go_at_call 38; refine (K4.out _ HO.out).mono ?_; rintro e w5 ⟨rfl, hw⟩; have hw := hw.symm; subst hw)
          clear K4
          obtain ⟨wo, rfl⟩ : ∃ wo, wo = wr := ⟨_, rfl⟩
          go_loopw [16, 17, 18] (fun fv sv kv wr => ∃ (kk fr : Nat) (nm : List UInt8), fv = .int .i64 fr ∧ sv = .string ⟨nm.toArray⟩ ∧ kv = .int .i64 kk ∧ kk ≤ met ∧ Hid (fr = szF 1 (N.take kk)) ∧ Hid ((nm = [] ∧ ∀ j, j < kk → ¬ hr = szF 1 (N.take j)) ∨ (∃ k0, kk = k0 + 1 ∧ hr = szF 1 (N.take k0) ∧ N[k0]? = some nm)) ∧ wr = wo) (fun _ _ kv _ => met - (intOf kv).toNat)
          case atStart => exact ⟨0, 1, [], rfl, rfl, rfl, by omega, hidOf (by simp [szF]), hidOf (.inl ⟨rfl, fun j hj => by omega⟩), rfl⟩
          case round =>
            obtain ⟨kk, fr, nm, rfl, rfl, rfl, hkm, Hfr, Hor, hww⟩ := hrel
            have hww := hww.symm
            subst hww
            have hkk0 : (0 : Int) ≤ kk := by omega
            rcases Hor.out with ⟨hnm, hno⟩ | ⟨k0, rfl, hp, hx0⟩
            · subst hnm
              clear Hor
              by_cases hkl : kk < met
              · have hklI : (kk : Int) < (met : Int) := by omega
                obtain ⟨y, hy⟩ : ∃ y, N[kk]? = some y := ⟨_, List.getElem?_eq_getElem (by omega)⟩
                have hyl : y.length ≤ 64 := by have h := HNok.out y (List.mem_of_getElem? hy); unfold nameOk at h; simp at h; exact h.1.2
                obtain ⟨gn, offn, hga, dy⟩ := StrAt.get (HNr.out.out HO.out) hy
                first | subst hga | (simp only [Option.some.injEq, Addr.mk.injEq] at hga; obtain ⟨rfl, rfl, _⟩ := hga)
                have hys : (⟨y.toArray⟩ : ByteArray).size = y.length := mk_size y
                have hkN : (kk : Int) < N.length := by omega
                have hfl : fr ≤ 1000000000000 := by rw [Hfr.out]; exact Nat.le_trans (HszT.out kk) HszN.out
                have hflI : (fr : Int) ≤ 1000000000000 := by omega
                have hylI : (y.length : Int) ≤ 64 := by omega
                have Hfr2 : Hid (fr + y.length + 1 = szF 1 (N.take (kk + 1))) := hidOf (by rw [take_sz N hy, ← Hfr.out])
                by_cases hfh : fr = hr
                · have Hf2 := Hfr
                  rw [hfh] at Hf2 Hfr2 hflI ⊢
                  clear hfl Hfr
                  have hno2 := hidOf hno
                  clear hno
                  subst hfh
                  go_wp2
                  refine ⟨⟨kk + 1, fr + y.length + 1, y, by first | rfl | (congr 1; omega), rfl, by simp, by omega, Hfr2, hidOf (.inr ⟨kk, rfl, Hf2.out, hy⟩), trivial⟩, by simp [intOf] <;> omega⟩
                · have hfhI : ((fr : Int) == (hr : Int)) = false := by rw [beq_eq_false_iff_ne]; omega
                  have Hno2 : Hid (∀ j, j < kk + 1 → ¬ hr = szF 1 (N.take j)) := hidOf (fun j hj h => by
                    by_cases ej : j = kk
                    · subst ej; exact hfh (by rw [Hfr.out, h])
                    · exact hno j (by omega) h)
                  clear hno hfh hy
                  go_wp2
                  exact ⟨⟨kk + 1, fr + y.length + 1, [], by first | rfl | (congr 1; omega), rfl, by simp, by omega, Hfr2, hidOf (.inl ⟨rfl, Hno2.out⟩), trivial⟩, by simp [intOf] <;> omega⟩
              · have hklI : ¬ (kk : Int) < (met : Int) := by omega
                obtain rfl : kk = met := by omega
                have HT := hidOf (tn_fault (E := E) HN.out (by rw [HG.out]; show (nmG N hr (E.drop (1 + i))).2.2 = _; rw [Hdc.out, Hnx.out]; exact nmG_out hmN (fun j hj h => hno j hj (by rw [Hna.out.1] at h; omega)) (fun h => HnotA.out (by first | trivial | (rw [Hna.out.1] at h; rw [Hnx.out]; omega)))))
                rw [Hna.out.2] at HT
                clear hno
                go_wp2
                go_ret2
                exact NmE.bad (O3.out.trans HO.out) (by rw [HT.out]; first | done | (congr 1 <;> (have := Hrw.out; omega)))
            · clear Hor
              have Hp := hidOf hp
              have Hx0 := hidOf hx0
              clear hp hx0
              by_cases hkl : k0 + 1 < met
              · have hklI : (k0 : Int) + 1 < (met : Int) := by omega
                have hnok := HNok.out nm (List.mem_of_getElem? Hx0.out)
                have hne : ¬ nm = [] := fun e => by rw [e] at hnok; simp [nameOk] at hnok
                have hnl : nm.length ≤ 64 := by unfold nameOk at hnok; simp at hnok; exact hnok.1.2
                have hn1 : (nm == []) = false := by rw [beq_eq_false_iff_ne]; exact hne
                have hn2 : nm.isEmpty = false := by cases nm with | nil => exact absurd rfl hne | cons => rfl
                have HG2 : Hid (¬ (E.drop (1 + (i + 1)) = [] ∧ nm ≠ shN) → nmG N 1 (E.drop 1) = ((D ++ [{ e with nm := nm }]) ++ (nmG N hr (E.drop (1 + (i + 1)))).1, (nmG N hr (E.drop (1 + (i + 1)))).2)) := hidOf (fun hl => by
                  rw [HG.out, Hdc.out, Hnx.out, nmG_in hmN (by omega) Hx0.out (by rw [Hna.out.1, Hp.out]) hl, ← Hnx.out]
                  simp)
                by_cases hsh : nm = shN
                · subst hsh
                  have hsl : (shN.length : Int) = 9 := rfl
                  by_cases hlast : i = K
                  · obtain rfl : i = K := hlast
                    have HG3 := hidOf (HG2.out (fun h => h.2 rfl))
                    clear HG2 HG hn1 hne hnok
                    go_upto_region 27 with fail
                    go_wp2_with (at_builtin; go_loud (refine wpList_append_own _ rfl (.tmp 119) (.tmp 121) 85 rfl w3.heap.size 9 j0 _ 1 16 Try.underlying85 ji jz0 jz1 jz2 rfl (by decide) (.slice ao i co) i ((D.map En.nm).map strV) rfl (World.ownsRow.alloc (by have h := HD.out; unfold OwS at h; rw [List.length_map, HDl.out] at h; exact h) _) ⟨wo.heap.size, 0, none⟩ 1 1 [strV shN] rfl rfl (news_new wo _ _ _ rfl) (fun u hu => by rw [List.mem_singleton.1 hu]; rfl) (by unfold maxLen; omega) (by omega) (by rw [size_alloc]; have := HO.out.size; omega) ?_); intro v4 w4 hown4 hgrow4 _; have HO4 := hidOf hown4; have CH4 := hidOf (grow9 (show (wo.alloc _).grownBy w4 (Value.slice ao i co).ownBlock from hgrow4)); clear hgrow4; obtain ⟨a4, c4, rfl⟩ := own_form hown4; clear hown4)
                    refine ⟨⟨i + 1, met, hr, rw + 64, D ++ [{ e with nm := shN }], a4, c4, by first | rfl | simp, rfl, by first | rfl | simp, by first | rfl | (congr 1; have := Hnx2I.out; omega), by simp, by omega, by omega, hidOf (by have := Hrw.out; omega), Hnx2, hidOf (by rw [List.length_append, HDl.out]; rfl), hidOf ?_, hidOf (Chg.out CH4.out HO.out (fun k hk => (World.ownsRow.lt HD.out k hk).1)), HG3⟩, by simp [intOf] <;> omega⟩
                    have h := HO4.out
                    unfold OwS
                    rw [List.map_append, List.map_append, List.length_append, List.length_map, HDl.out]
                    exact h
                  · have hlb : ((i : Int) == (K : Int)) = false := by rw [beq_eq_false_iff_ne]; omega
                    have HG3 := hidOf (HG2.out (fun h => h.2 rfl))
                    clear HG2 HG hn1 hne hnok
                    go_upto_region 27 with fail
                    go_wp2_with (at_builtin; go_loud (refine wpList_append_own _ rfl (.tmp 119) (.tmp 121) 85 rfl w3.heap.size 9 j0 _ 1 16 Try.underlying85 ji jz0 jz1 jz2 rfl (by decide) (.slice ao i co) i ((D.map En.nm).map strV) rfl (World.ownsRow.alloc (by have h := HD.out; unfold OwS at h; rw [List.length_map, HDl.out] at h; exact h) _) ⟨wo.heap.size, 0, none⟩ 1 1 [strV shN] rfl rfl (news_new wo _ _ _ rfl) (fun u hu => by rw [List.mem_singleton.1 hu]; rfl) (by unfold maxLen; omega) (by omega) (by rw [size_alloc]; have := HO.out.size; omega) ?_); intro v4 w4 hown4 hgrow4 _; have HO4 := hidOf hown4; have CH4 := hidOf (grow9 (show (wo.alloc _).grownBy w4 (Value.slice ao i co).ownBlock from hgrow4)); clear hgrow4; obtain ⟨a4, c4, rfl⟩ := own_form hown4; clear hown4)
                    refine ⟨⟨i + 1, met, hr, rw + 64, D ++ [{ e with nm := shN }], a4, c4, by first | rfl | simp, rfl, by first | rfl | simp, by first | rfl | (congr 1; have := Hnx2I.out; omega), by simp, by omega, by omega, hidOf (by have := Hrw.out; omega), Hnx2, hidOf (by rw [List.length_append, HDl.out]; rfl), hidOf ?_, hidOf (Chg.out CH4.out HO.out (fun k hk => (World.ownsRow.lt HD.out k hk).1)), HG3⟩, by simp [intOf] <;> omega⟩
                    have h := HO4.out
                    unfold OwS
                    rw [List.map_append, List.map_append, List.length_append, List.length_map, HDl.out]
                    exact h
                · have hst : (nm == [46, 115, 104, 115, 116, 114, 116, 97, 98]) = false := by rw [beq_eq_false_iff_ne]; exact hsh
                  by_cases hlast : i = K
                  · have HT := hidOf (tn_fault (E := E) HN.out (by rw [HG.out]; show (nmG N hr (E.drop (1 + i))).2.2 = _; rw [Hdc.out, Hdn.out hlast]; exact nmG_last Hx0.out (by rw [Hna.out.1, Hp.out]) hsh))
                    rw [Hna.out.2] at HT
                    clear HG2 HG
                    subst hlast
                    go_wp2
                    go_ret2
                    exact NmE.bad (O3.out.trans HO.out) (by rw [HT.out]; first | done | (congr 1 <;> (have := Hrw.out; omega)))
                  · have hlb : ((i : Int) == (K : Int)) = false := by rw [beq_eq_false_iff_ne]; omega
                    have HG3 := hidOf (HG2.out (fun h => hlast (by have := congrArg List.length h.1; rw [List.length_drop, Hr.out.len] at this; simp at this; have := HKk.out; omega)))
                    clear HG2 HG hn1 hne hnok
                    go_upto_region 27 with fail
                    go_wp2_with (at_builtin; go_loud (refine wpList_append_own _ rfl (.tmp 119) (.tmp 121) 85 rfl w3.heap.size 9 j0 _ 1 16 Try.underlying85 ji jz0 jz1 jz2 rfl (by decide) (.slice ao i co) i ((D.map En.nm).map strV) rfl (World.ownsRow.alloc (by have h := HD.out; unfold OwS at h; rw [List.length_map, HDl.out] at h; exact h) _) ⟨wo.heap.size, 0, none⟩ 1 1 [strV nm] rfl rfl (news_new wo _ _ _ rfl) (fun u hu => by rw [List.mem_singleton.1 hu]; rfl) (by unfold maxLen; omega) (by omega) (by rw [size_alloc]; have := HO.out.size; omega) ?_); intro v4 w4 hown4 hgrow4 _; have HO4 := hidOf hown4; have CH4 := hidOf (grow9 (show (wo.alloc _).grownBy w4 (Value.slice ao i co).ownBlock from hgrow4)); clear hgrow4; obtain ⟨a4, c4, rfl⟩ := own_form hown4; clear hown4)
                    refine ⟨⟨i + 1, met, hr, rw + 64, D ++ [{ e with nm := nm }], a4, c4, by first | rfl | simp, rfl, by first | rfl | simp, by first | rfl | (congr 1; have := Hnx2I.out; omega), by simp, by omega, by omega, hidOf (by have := Hrw.out; omega), Hnx2, hidOf (by rw [List.length_append, HDl.out]; rfl), hidOf ?_, hidOf (Chg.out CH4.out HO.out (fun k hk => (World.ownsRow.lt HD.out k hk).1)), HG3⟩, by simp [intOf] <;> omega⟩
                    have h := HO4.out
                    unfold OwS
                    rw [List.map_append, List.map_append, List.length_append, List.length_map, HDl.out]
                    exact h
              · have hklI : ¬ (k0 : Int) + 1 < (met : Int) := by omega
                have hnok := HNok.out nm (List.mem_of_getElem? Hx0.out)
                have hne : ¬ nm = [] := fun e => by rw [e] at hnok; simp [nameOk] at hnok
                have hnl : nm.length ≤ 64 := by unfold nameOk at hnok; simp at hnok; exact hnok.1.2
                have hn1 : (nm == []) = false := by rw [beq_eq_false_iff_ne]; exact hne
                have hn2 : nm.isEmpty = false := by cases nm with | nil => exact absurd rfl hne | cons => rfl
                have HG2 : Hid (¬ (E.drop (1 + (i + 1)) = [] ∧ nm ≠ shN) → nmG N 1 (E.drop 1) = ((D ++ [{ e with nm := nm }]) ++ (nmG N hr (E.drop (1 + (i + 1)))).1, (nmG N hr (E.drop (1 + (i + 1)))).2)) := hidOf (fun hl => by
                  rw [HG.out, Hdc.out, Hnx.out, nmG_in hmN (by omega) Hx0.out (by rw [Hna.out.1, Hp.out]) hl, ← Hnx.out]
                  simp)
                by_cases hsh : nm = shN
                · subst hsh
                  have hsl : (shN.length : Int) = 9 := rfl
                  by_cases hlast : i = K
                  · obtain rfl : i = K := hlast
                    have HG3 := hidOf (HG2.out (fun h => h.2 rfl))
                    clear HG2 HG hn1 hne hnok
                    go_upto_region 27 with fail
                    go_wp2_with (at_builtin; go_loud (refine wpList_append_own _ rfl (.tmp 119) (.tmp 121) 85 rfl w3.heap.size 9 j0 _ 1 16 Try.underlying85 ji jz0 jz1 jz2 rfl (by decide) (.slice ao i co) i ((D.map En.nm).map strV) rfl (World.ownsRow.alloc (by have h := HD.out; unfold OwS at h; rw [List.length_map, HDl.out] at h; exact h) _) ⟨wo.heap.size, 0, none⟩ 1 1 [strV shN] rfl rfl (news_new wo _ _ _ rfl) (fun u hu => by rw [List.mem_singleton.1 hu]; rfl) (by unfold maxLen; omega) (by omega) (by rw [size_alloc]; have := HO.out.size; omega) ?_); intro v4 w4 hown4 hgrow4 _; have HO4 := hidOf hown4; have CH4 := hidOf (grow9 (show (wo.alloc _).grownBy w4 (Value.slice ao i co).ownBlock from hgrow4)); clear hgrow4; obtain ⟨a4, c4, rfl⟩ := own_form hown4; clear hown4)
                    refine ⟨⟨i + 1, met, hr, rw + 64, D ++ [{ e with nm := shN }], a4, c4, by first | rfl | simp, rfl, by first | rfl | simp, by first | rfl | (congr 1; have := Hnx2I.out; omega), by simp, by omega, by omega, hidOf (by have := Hrw.out; omega), Hnx2, hidOf (by rw [List.length_append, HDl.out]; rfl), hidOf ?_, hidOf (Chg.out CH4.out HO.out (fun k hk => (World.ownsRow.lt HD.out k hk).1)), HG3⟩, by simp [intOf] <;> omega⟩
                    have h := HO4.out
                    unfold OwS
                    rw [List.map_append, List.map_append, List.length_append, List.length_map, HDl.out]
                    exact h
                  · have hlb : ((i : Int) == (K : Int)) = false := by rw [beq_eq_false_iff_ne]; omega
                    have HG3 := hidOf (HG2.out (fun h => h.2 rfl))
                    clear HG2 HG hn1 hne hnok
                    go_upto_region 27 with fail
                    go_wp2_with (at_builtin; go_loud (refine wpList_append_own _ rfl (.tmp 119) (.tmp 121) 85 rfl w3.heap.size 9 j0 _ 1 16 Try.underlying85 ji jz0 jz1 jz2 rfl (by decide) (.slice ao i co) i ((D.map En.nm).map strV) rfl (World.ownsRow.alloc (by have h := HD.out; unfold OwS at h; rw [List.length_map, HDl.out] at h; exact h) _) ⟨wo.heap.size, 0, none⟩ 1 1 [strV shN] rfl rfl (news_new wo _ _ _ rfl) (fun u hu => by rw [List.mem_singleton.1 hu]; rfl) (by unfold maxLen; omega) (by omega) (by rw [size_alloc]; have := HO.out.size; omega) ?_); intro v4 w4 hown4 hgrow4 _; have HO4 := hidOf hown4; have CH4 := hidOf (grow9 (show (wo.alloc _).grownBy w4 (Value.slice ao i co).ownBlock from hgrow4)); clear hgrow4; obtain ⟨a4, c4, rfl⟩ := own_form hown4; clear hown4)
                    refine ⟨⟨i + 1, met, hr, rw + 64, D ++ [{ e with nm := shN }], a4, c4, by first | rfl | simp, rfl, by first | rfl | simp, by first | rfl | (congr 1; have := Hnx2I.out; omega), by simp, by omega, by omega, hidOf (by have := Hrw.out; omega), Hnx2, hidOf (by rw [List.length_append, HDl.out]; rfl), hidOf ?_, hidOf (Chg.out CH4.out HO.out (fun k hk => (World.ownsRow.lt HD.out k hk).1)), HG3⟩, by simp [intOf] <;> omega⟩
                    have h := HO4.out
                    unfold OwS
                    rw [List.map_append, List.map_append, List.length_append, List.length_map, HDl.out]
                    exact h
                · have hst : (nm == [46, 115, 104, 115, 116, 114, 116, 97, 98]) = false := by rw [beq_eq_false_iff_ne]; exact hsh
                  by_cases hlast : i = K
                  · have HT := hidOf (tn_fault (E := E) HN.out (by rw [HG.out]; show (nmG N hr (E.drop (1 + i))).2.2 = _; rw [Hdc.out, Hdn.out hlast]; exact nmG_last Hx0.out (by rw [Hna.out.1, Hp.out]) hsh))
                    rw [Hna.out.2] at HT
                    clear HG2 HG
                    subst hlast
                    go_wp2
                    go_ret2
                    exact NmE.bad (O3.out.trans HO.out) (by rw [HT.out]; first | done | (congr 1 <;> (have := Hrw.out; omega)))
                  · have hlb : ((i : Int) == (K : Int)) = false := by rw [beq_eq_false_iff_ne]; omega
                    have HG3 := hidOf (HG2.out (fun h => hlast (by have := congrArg List.length h.1; rw [List.length_drop, Hr.out.len] at this; simp at this; have := HKk.out; omega)))
                    clear HG2 HG hn1 hne hnok
                    go_upto_region 27 with fail
                    go_wp2_with (at_builtin; go_loud (refine wpList_append_own _ rfl (.tmp 119) (.tmp 121) 85 rfl w3.heap.size 9 j0 _ 1 16 Try.underlying85 ji jz0 jz1 jz2 rfl (by decide) (.slice ao i co) i ((D.map En.nm).map strV) rfl (World.ownsRow.alloc (by have h := HD.out; unfold OwS at h; rw [List.length_map, HDl.out] at h; exact h) _) ⟨wo.heap.size, 0, none⟩ 1 1 [strV nm] rfl rfl (news_new wo _ _ _ rfl) (fun u hu => by rw [List.mem_singleton.1 hu]; rfl) (by unfold maxLen; omega) (by omega) (by rw [size_alloc]; have := HO.out.size; omega) ?_); intro v4 w4 hown4 hgrow4 _; have HO4 := hidOf hown4; have CH4 := hidOf (grow9 (show (wo.alloc _).grownBy w4 (Value.slice ao i co).ownBlock from hgrow4)); clear hgrow4; obtain ⟨a4, c4, rfl⟩ := own_form hown4; clear hown4)
                    refine ⟨⟨i + 1, met, hr, rw + 64, D ++ [{ e with nm := nm }], a4, c4, by first | rfl | simp, rfl, by first | rfl | simp, by first | rfl | (congr 1; have := Hnx2I.out; omega), by simp, by omega, by omega, hidOf (by have := Hrw.out; omega), Hnx2, hidOf (by rw [List.length_append, HDl.out]; rfl), hidOf ?_, hidOf (Chg.out CH4.out HO.out (fun k hk => (World.ownsRow.lt HD.out k hk).1)), HG3⟩, by simp [intOf] <;> omega⟩
                    have h := HO4.out
                    unfold OwS
                    rw [List.map_append, List.map_append, List.length_append, List.length_map, HDl.out]
                    exact h
        · have hBb : ((hr : Int) == (nx : Int)) = false := by rw [beq_eq_false_iff_ne]; omega
          clear hA hB
          go_wp2_with (go_at_call 38; refine (K4.out _ HO.out).mono ?_; rintro e w5 ⟨rfl, hw⟩; have hw := hw.symm; subst hw)
          clear K4
          obtain ⟨wo, rfl⟩ : ∃ wo, wo = wr := ⟨_, rfl⟩
          go_loopw [16, 17, 18] (fun fv sv kv wr => ∃ (kk fr : Nat) (nm : List UInt8), fv = .int .i64 fr ∧ sv = .string ⟨nm.toArray⟩ ∧ kv = .int .i64 kk ∧ kk ≤ met ∧ Hid (fr = szF 1 (N.take kk)) ∧ Hid ((nm = [] ∧ ∀ j, j < kk → ¬ hr = szF 1 (N.take j)) ∨ (∃ k0, kk = k0 + 1 ∧ hr = szF 1 (N.take k0) ∧ N[k0]? = some nm)) ∧ wr = wo) (fun _ _ kv _ => met - (intOf kv).toNat)
          case atStart => exact ⟨0, 1, [], rfl, rfl, rfl, by omega, hidOf (by simp [szF]), hidOf (.inl ⟨rfl, fun j hj => by omega⟩), rfl⟩
          case round =>
            obtain ⟨kk, fr, nm, rfl, rfl, rfl, hkm, Hfr, Hor, hww⟩ := hrel
            have hww := hww.symm
            subst hww
            have hkk0 : (0 : Int) ≤ kk := by omega
            rcases Hor.out with ⟨hnm, hno⟩ | ⟨k0, rfl, hp, hx0⟩
            · subst hnm
              clear Hor
              by_cases hkl : kk < met
              · have hklI : (kk : Int) < (met : Int) := by omega
                obtain ⟨y, hy⟩ : ∃ y, N[kk]? = some y := ⟨_, List.getElem?_eq_getElem (by omega)⟩
                have hyl : y.length ≤ 64 := by have h := HNok.out y (List.mem_of_getElem? hy); unfold nameOk at h; simp at h; exact h.1.2
                obtain ⟨gn, offn, hga, dy⟩ := StrAt.get (HNr.out.out HO.out) hy
                first | subst hga | (simp only [Option.some.injEq, Addr.mk.injEq] at hga; obtain ⟨rfl, rfl, _⟩ := hga)
                have hys : (⟨y.toArray⟩ : ByteArray).size = y.length := mk_size y
                have hkN : (kk : Int) < N.length := by omega
                have hfl : fr ≤ 1000000000000 := by rw [Hfr.out]; exact Nat.le_trans (HszT.out kk) HszN.out
                have hflI : (fr : Int) ≤ 1000000000000 := by omega
                have hylI : (y.length : Int) ≤ 64 := by omega
                have Hfr2 : Hid (fr + y.length + 1 = szF 1 (N.take (kk + 1))) := hidOf (by rw [take_sz N hy, ← Hfr.out])
                by_cases hfh : fr = hr
                · have Hf2 := Hfr
                  rw [hfh] at Hf2 Hfr2 hflI ⊢
                  clear hfl Hfr
                  have hno2 := hidOf hno
                  clear hno
                  subst hfh
                  go_wp2
                  refine ⟨⟨kk + 1, fr + y.length + 1, y, by first | rfl | (congr 1; omega), rfl, by simp, by omega, Hfr2, hidOf (.inr ⟨kk, rfl, Hf2.out, hy⟩), trivial⟩, by simp [intOf] <;> omega⟩
                · have hfhI : ((fr : Int) == (hr : Int)) = false := by rw [beq_eq_false_iff_ne]; omega
                  have Hno2 : Hid (∀ j, j < kk + 1 → ¬ hr = szF 1 (N.take j)) := hidOf (fun j hj h => by
                    by_cases ej : j = kk
                    · subst ej; exact hfh (by rw [Hfr.out, h])
                    · exact hno j (by omega) h)
                  clear hno hfh hy
                  go_wp2
                  exact ⟨⟨kk + 1, fr + y.length + 1, [], by first | rfl | (congr 1; omega), rfl, by simp, by omega, Hfr2, hidOf (.inl ⟨rfl, Hno2.out⟩), trivial⟩, by simp [intOf] <;> omega⟩
              · have hklI : ¬ (kk : Int) < (met : Int) := by omega
                obtain rfl : kk = met := by omega
                have HT := hidOf (tn_fault (E := E) HN.out (by rw [HG.out]; show (nmG N nx (E.drop (1 + i))).2.2 = _; rw [Hdc.out, Hnx.out]; exact nmG_out hmN (fun j hj h => hno j hj (by rw [Hna.out.1] at h; omega)) (fun h => HnotA.out (by first | trivial | (rw [Hna.out.1] at h; rw [Hnx.out]; omega)))))
                rw [Hna.out.2] at HT
                clear hno
                go_wp2
                go_ret2
                exact NmE.bad (O3.out.trans HO.out) (by rw [HT.out]; first | done | (congr 1 <;> (have := Hrw.out; omega)))
            · clear Hor
              have Hp := hidOf hp
              have Hx0 := hidOf hx0
              clear hp hx0
              by_cases hkl : k0 + 1 < met
              · have hklI : (k0 : Int) + 1 < (met : Int) := by omega
                have hnok := HNok.out nm (List.mem_of_getElem? Hx0.out)
                have hne : ¬ nm = [] := fun e => by rw [e] at hnok; simp [nameOk] at hnok
                have hnl : nm.length ≤ 64 := by unfold nameOk at hnok; simp at hnok; exact hnok.1.2
                have hn1 : (nm == []) = false := by rw [beq_eq_false_iff_ne]; exact hne
                have hn2 : nm.isEmpty = false := by cases nm with | nil => exact absurd rfl hne | cons => rfl
                have HG2 : Hid (¬ (E.drop (1 + (i + 1)) = [] ∧ nm ≠ shN) → nmG N 1 (E.drop 1) = ((D ++ [{ e with nm := nm }]) ++ (nmG N nx (E.drop (1 + (i + 1)))).1, (nmG N nx (E.drop (1 + (i + 1)))).2)) := hidOf (fun hl => by
                  rw [HG.out, Hdc.out, Hnx.out, nmG_in hmN (by omega) Hx0.out (by rw [Hna.out.1, Hp.out]) hl, ← Hnx.out]
                  simp)
                by_cases hsh : nm = shN
                · subst hsh
                  have hsl : (shN.length : Int) = 9 := rfl
                  by_cases hlast : i = K
                  · obtain rfl : i = K := hlast
                    have HG3 := hidOf (HG2.out (fun h => h.2 rfl))
                    clear HG2 HG hn1 hne hnok
                    go_upto_region 27 with fail
                    go_wp2_with (at_builtin; go_loud (refine wpList_append_own _ rfl (.tmp 119) (.tmp 121) 85 rfl w3.heap.size 9 j0 _ 1 16 Try.underlying85 ji jz0 jz1 jz2 rfl (by decide) (.slice ao i co) i ((D.map En.nm).map strV) rfl (World.ownsRow.alloc (by have h := HD.out; unfold OwS at h; rw [List.length_map, HDl.out] at h; exact h) _) ⟨wo.heap.size, 0, none⟩ 1 1 [strV shN] rfl rfl (news_new wo _ _ _ rfl) (fun u hu => by rw [List.mem_singleton.1 hu]; rfl) (by unfold maxLen; omega) (by omega) (by rw [size_alloc]; have := HO.out.size; omega) ?_); intro v4 w4 hown4 hgrow4 _; have HO4 := hidOf hown4; have CH4 := hidOf (grow9 (show (wo.alloc _).grownBy w4 (Value.slice ao i co).ownBlock from hgrow4)); clear hgrow4; obtain ⟨a4, c4, rfl⟩ := own_form hown4; clear hown4)
                    refine ⟨⟨i + 1, met, nx, rw + 64, D ++ [{ e with nm := shN }], a4, c4, by first | rfl | simp, rfl, by first | rfl | simp, by first | rfl | (congr 1; have := Hnx2I.out; omega), by simp, by omega, by omega, hidOf (by have := Hrw.out; omega), Hnx2, hidOf (by rw [List.length_append, HDl.out]; rfl), hidOf ?_, hidOf (Chg.out CH4.out HO.out (fun k hk => (World.ownsRow.lt HD.out k hk).1)), HG3⟩, by simp [intOf] <;> omega⟩
                    have h := HO4.out
                    unfold OwS
                    rw [List.map_append, List.map_append, List.length_append, List.length_map, HDl.out]
                    exact h
                  · have hlb : ((i : Int) == (K : Int)) = false := by rw [beq_eq_false_iff_ne]; omega
                    have HG3 := hidOf (HG2.out (fun h => h.2 rfl))
                    clear HG2 HG hn1 hne hnok
                    go_upto_region 27 with fail
                    go_wp2_with (at_builtin; go_loud (refine wpList_append_own _ rfl (.tmp 119) (.tmp 121) 85 rfl w3.heap.size 9 j0 _ 1 16 Try.underlying85 ji jz0 jz1 jz2 rfl (by decide) (.slice ao i co) i ((D.map En.nm).map strV) rfl (World.ownsRow.alloc (by have h := HD.out; unfold OwS at h; rw [List.length_map, HDl.out] at h; exact h) _) ⟨wo.heap.size, 0, none⟩ 1 1 [strV shN] rfl rfl (news_new wo _ _ _ rfl) (fun u hu => by rw [List.mem_singleton.1 hu]; rfl) (by unfold maxLen; omega) (by omega) (by rw [size_alloc]; have := HO.out.size; omega) ?_); intro v4 w4 hown4 hgrow4 _; have HO4 := hidOf hown4; have CH4 := hidOf (grow9 (show (wo.alloc _).grownBy w4 (Value.slice ao i co).ownBlock from hgrow4)); clear hgrow4; obtain ⟨a4, c4, rfl⟩ := own_form hown4; clear hown4)
                    refine ⟨⟨i + 1, met, nx, rw + 64, D ++ [{ e with nm := shN }], a4, c4, by first | rfl | simp, rfl, by first | rfl | simp, by first | rfl | (congr 1; have := Hnx2I.out; omega), by simp, by omega, by omega, hidOf (by have := Hrw.out; omega), Hnx2, hidOf (by rw [List.length_append, HDl.out]; rfl), hidOf ?_, hidOf (Chg.out CH4.out HO.out (fun k hk => (World.ownsRow.lt HD.out k hk).1)), HG3⟩, by simp [intOf] <;> omega⟩
                    have h := HO4.out
                    unfold OwS
                    rw [List.map_append, List.map_append, List.length_append, List.length_map, HDl.out]
                    exact h
                · have hst : (nm == [46, 115, 104, 115, 116, 114, 116, 97, 98]) = false := by rw [beq_eq_false_iff_ne]; exact hsh
                  by_cases hlast : i = K
                  · have HT := hidOf (tn_fault (E := E) HN.out (by rw [HG.out]; show (nmG N nx (E.drop (1 + i))).2.2 = _; rw [Hdc.out, Hdn.out hlast]; exact nmG_last Hx0.out (by rw [Hna.out.1, Hp.out]) hsh))
                    rw [Hna.out.2] at HT
                    clear HG2 HG
                    subst hlast
                    go_wp2
                    go_ret2
                    exact NmE.bad (O3.out.trans HO.out) (by rw [HT.out]; first | done | (congr 1 <;> (have := Hrw.out; omega)))
                  · have hlb : ((i : Int) == (K : Int)) = false := by rw [beq_eq_false_iff_ne]; omega
                    have HG3 := hidOf (HG2.out (fun h => hlast (by have := congrArg List.length h.1; rw [List.length_drop, Hr.out.len] at this; simp at this; have := HKk.out; omega)))
                    clear HG2 HG hn1 hne hnok
                    go_upto_region 27 with fail
                    go_wp2_with (at_builtin; go_loud (refine wpList_append_own _ rfl (.tmp 119) (.tmp 121) 85 rfl w3.heap.size 9 j0 _ 1 16 Try.underlying85 ji jz0 jz1 jz2 rfl (by decide) (.slice ao i co) i ((D.map En.nm).map strV) rfl (World.ownsRow.alloc (by have h := HD.out; unfold OwS at h; rw [List.length_map, HDl.out] at h; exact h) _) ⟨wo.heap.size, 0, none⟩ 1 1 [strV nm] rfl rfl (news_new wo _ _ _ rfl) (fun u hu => by rw [List.mem_singleton.1 hu]; rfl) (by unfold maxLen; omega) (by omega) (by rw [size_alloc]; have := HO.out.size; omega) ?_); intro v4 w4 hown4 hgrow4 _; have HO4 := hidOf hown4; have CH4 := hidOf (grow9 (show (wo.alloc _).grownBy w4 (Value.slice ao i co).ownBlock from hgrow4)); clear hgrow4; obtain ⟨a4, c4, rfl⟩ := own_form hown4; clear hown4)
                    refine ⟨⟨i + 1, met, nx, rw + 64, D ++ [{ e with nm := nm }], a4, c4, by first | rfl | simp, rfl, by first | rfl | simp, by first | rfl | (congr 1; have := Hnx2I.out; omega), by simp, by omega, by omega, hidOf (by have := Hrw.out; omega), Hnx2, hidOf (by rw [List.length_append, HDl.out]; rfl), hidOf ?_, hidOf (Chg.out CH4.out HO.out (fun k hk => (World.ownsRow.lt HD.out k hk).1)), HG3⟩, by simp [intOf] <;> omega⟩
                    have h := HO4.out
                    unfold OwS
                    rw [List.map_append, List.map_append, List.length_append, List.length_map, HDl.out]
                    exact h
              · have hklI : ¬ (k0 : Int) + 1 < (met : Int) := by omega
                have hnok := HNok.out nm (List.mem_of_getElem? Hx0.out)
                have hne : ¬ nm = [] := fun e => by rw [e] at hnok; simp [nameOk] at hnok
                have hnl : nm.length ≤ 64 := by unfold nameOk at hnok; simp at hnok; exact hnok.1.2
                have hn1 : (nm == []) = false := by rw [beq_eq_false_iff_ne]; exact hne
                have hn2 : nm.isEmpty = false := by cases nm with | nil => exact absurd rfl hne | cons => rfl
                have HG2 : Hid (¬ (E.drop (1 + (i + 1)) = [] ∧ nm ≠ shN) → nmG N 1 (E.drop 1) = ((D ++ [{ e with nm := nm }]) ++ (nmG N nx (E.drop (1 + (i + 1)))).1, (nmG N nx (E.drop (1 + (i + 1)))).2)) := hidOf (fun hl => by
                  rw [HG.out, Hdc.out, Hnx.out, nmG_in hmN (by omega) Hx0.out (by rw [Hna.out.1, Hp.out]) hl, ← Hnx.out]
                  simp)
                by_cases hsh : nm = shN
                · subst hsh
                  have hsl : (shN.length : Int) = 9 := rfl
                  by_cases hlast : i = K
                  · obtain rfl : i = K := hlast
                    have HG3 := hidOf (HG2.out (fun h => h.2 rfl))
                    clear HG2 HG hn1 hne hnok
                    go_upto_region 27 with fail
                    go_wp2_with (at_builtin; go_loud (refine wpList_append_own _ rfl (.tmp 119) (.tmp 121) 85 rfl w3.heap.size 9 j0 _ 1 16 Try.underlying85 ji jz0 jz1 jz2 rfl (by decide) (.slice ao i co) i ((D.map En.nm).map strV) rfl (World.ownsRow.alloc (by have h := HD.out; unfold OwS at h; rw [List.length_map, HDl.out] at h; exact h) _) ⟨wo.heap.size, 0, none⟩ 1 1 [strV shN] rfl rfl (news_new wo _ _ _ rfl) (fun u hu => by rw [List.mem_singleton.1 hu]; rfl) (by unfold maxLen; omega) (by omega) (by rw [size_alloc]; have := HO.out.size; omega) ?_); intro v4 w4 hown4 hgrow4 _; have HO4 := hidOf hown4; have CH4 := hidOf (grow9 (show (wo.alloc _).grownBy w4 (Value.slice ao i co).ownBlock from hgrow4)); clear hgrow4; obtain ⟨a4, c4, rfl⟩ := own_form hown4; clear hown4)
                    refine ⟨⟨i + 1, met, nx, rw + 64, D ++ [{ e with nm := shN }], a4, c4, by first | rfl | simp, rfl, by first | rfl | simp, by first | rfl | (congr 1; have := Hnx2I.out; omega), by simp, by omega, by omega, hidOf (by have := Hrw.out; omega), Hnx2, hidOf (by rw [List.length_append, HDl.out]; rfl), hidOf ?_, hidOf (Chg.out CH4.out HO.out (fun k hk => (World.ownsRow.lt HD.out k hk).1)), HG3⟩, by simp [intOf] <;> omega⟩
                    have h := HO4.out
                    unfold OwS
                    rw [List.map_append, List.map_append, List.length_append, List.length_map, HDl.out]
                    exact h
                  · have hlb : ((i : Int) == (K : Int)) = false := by rw [beq_eq_false_iff_ne]; omega
                    have HG3 := hidOf (HG2.out (fun h => h.2 rfl))
                    clear HG2 HG hn1 hne hnok
                    go_upto_region 27 with fail
                    go_wp2_with (at_builtin; go_loud (refine wpList_append_own _ rfl (.tmp 119) (.tmp 121) 85 rfl w3.heap.size 9 j0 _ 1 16 Try.underlying85 ji jz0 jz1 jz2 rfl (by decide) (.slice ao i co) i ((D.map En.nm).map strV) rfl (World.ownsRow.alloc (by have h := HD.out; unfold OwS at h; rw [List.length_map, HDl.out] at h; exact h) _) ⟨wo.heap.size, 0, none⟩ 1 1 [strV shN] rfl rfl (news_new wo _ _ _ rfl) (fun u hu => by rw [List.mem_singleton.1 hu]; rfl) (by unfold maxLen; omega) (by omega) (by rw [size_alloc]; have := HO.out.size; omega) ?_); intro v4 w4 hown4 hgrow4 _; have HO4 := hidOf hown4; have CH4 := hidOf (grow9 (show (wo.alloc _).grownBy w4 (Value.slice ao i co).ownBlock from hgrow4)); clear hgrow4; obtain ⟨a4, c4, rfl⟩ := own_form hown4; clear hown4)
                    refine ⟨⟨i + 1, met, nx, rw + 64, D ++ [{ e with nm := shN }], a4, c4, by first | rfl | simp, rfl, by first | rfl | simp, by first | rfl | (congr 1; have := Hnx2I.out; omega), by simp, by omega, by omega, hidOf (by have := Hrw.out; omega), Hnx2, hidOf (by rw [List.length_append, HDl.out]; rfl), hidOf ?_, hidOf (Chg.out CH4.out HO.out (fun k hk => (World.ownsRow.lt HD.out k hk).1)), HG3⟩, by simp [intOf] <;> omega⟩
                    have h := HO4.out
                    unfold OwS
                    rw [List.map_append, List.map_append, List.length_append, List.length_map, HDl.out]
                    exact h
                · have hst : (nm == [46, 115, 104, 115, 116, 114, 116, 97, 98]) = false := by rw [beq_eq_false_iff_ne]; exact hsh
                  by_cases hlast : i = K
                  · have HT := hidOf (tn_fault (E := E) HN.out (by rw [HG.out]; show (nmG N nx (E.drop (1 + i))).2.2 = _; rw [Hdc.out, Hdn.out hlast]; exact nmG_last Hx0.out (by rw [Hna.out.1, Hp.out]) hsh))
                    rw [Hna.out.2] at HT
                    clear HG2 HG
                    subst hlast
                    go_wp2
                    go_ret2
                    exact NmE.bad (O3.out.trans HO.out) (by rw [HT.out]; first | done | (congr 1 <;> (have := Hrw.out; omega)))
                  · have hlb : ((i : Int) == (K : Int)) = false := by rw [beq_eq_false_iff_ne]; omega
                    have HG3 := hidOf (HG2.out (fun h => hlast (by have := congrArg List.length h.1; rw [List.length_drop, Hr.out.len] at this; simp at this; have := HKk.out; omega)))
                    clear HG2 HG hn1 hne hnok
                    go_upto_region 27 with fail
                    go_wp2_with (at_builtin; go_loud (refine wpList_append_own _ rfl (.tmp 119) (.tmp 121) 85 rfl w3.heap.size 9 j0 _ 1 16 Try.underlying85 ji jz0 jz1 jz2 rfl (by decide) (.slice ao i co) i ((D.map En.nm).map strV) rfl (World.ownsRow.alloc (by have h := HD.out; unfold OwS at h; rw [List.length_map, HDl.out] at h; exact h) _) ⟨wo.heap.size, 0, none⟩ 1 1 [strV nm] rfl rfl (news_new wo _ _ _ rfl) (fun u hu => by rw [List.mem_singleton.1 hu]; rfl) (by unfold maxLen; omega) (by omega) (by rw [size_alloc]; have := HO.out.size; omega) ?_); intro v4 w4 hown4 hgrow4 _; have HO4 := hidOf hown4; have CH4 := hidOf (grow9 (show (wo.alloc _).grownBy w4 (Value.slice ao i co).ownBlock from hgrow4)); clear hgrow4; obtain ⟨a4, c4, rfl⟩ := own_form hown4; clear hown4)
                    refine ⟨⟨i + 1, met, nx, rw + 64, D ++ [{ e with nm := nm }], a4, c4, by first | rfl | simp, rfl, by first | rfl | simp, by first | rfl | (congr 1; have := Hnx2I.out; omega), by simp, by omega, by omega, hidOf (by have := Hrw.out; omega), Hnx2, hidOf (by rw [List.length_append, HDl.out]; rfl), hidOf ?_, hidOf (Chg.out CH4.out HO.out (fun k hk => (World.ownsRow.lt HD.out k hk).1)), HG3⟩, by simp [intOf] <;> omega⟩
                    have h := HO4.out
                    unfold OwS
                    rw [List.map_append, List.map_append, List.length_append, List.length_map, HDl.out]
                    exact h
    · have hltI : ¬ (i : Int) < (K : Int) + 1 := by omega
      obtain rfl : i = K + 1 := by omega
      have Hend : Hid (nmG N 1 (E.drop 1) = (D, nx, none)) := hidOf (by
        rw [HG.out, List.drop_eq_nil_of_le (show E.length ≤ 1 + (K + 1) by rw [Hr.out.len]; have := HKk.out; omega)]
        simp [nmG])
      have hTe := tn_end (E := E) HN.out (by rw [Hend.out])
      rw [Hend.out] at hTe
      simp only at hTe
      have HTe := hidOf hTe
      have hnxl : nx ≤ 1000000000000 := by rw [Hnx.out]; exact Nat.le_trans (HszT.out met) HszN.out
      have hnxI : (nx : Int) ≤ 1000000000000 := by omega
      have hnx0 : (0 : Int) ≤ nx := by omega
      clear hTe HG
      by_cases hml : met < N.length
      · have hmlI : (met : Int) < N.length := by omega
        have HTe2 : Hid (tnR b E B0 (B0 + sz) = ((B0 : Int) + (nx : Nat), true, E.take 1 ++ D)) := hidOf (by
          rw [HTe.out, decide_eq_true]
          have := sz_lt N met N.length hml (Nat.le_refl _)
          rw [List.take_length, Hsz.out, ← Hnx.out] at this
          omega)
        go_upto_region 29 with fail
        go_quiet (fail)
        go_wp2
        go_ret2
        exact NmE.bad ((O3.out.trans HO.out).drewN _) (by rw [HTe2.out])
      · have hmlI : ¬ (met : Int) < N.length := by omega
        have HTe2 : Hid (tnR b E B0 (B0 + sz) = ((B0 : Int) + (nx : Nat), false, E.take 1 ++ D)) := hidOf (by
          rw [HTe.out, decide_eq_false]
          have h1 := Hnx.out
          rw [List.take_of_length_le (by omega), Hsz.out] at h1
          omega)
        go_wp2
        go_ret2
        have hdr : (E.take 1 ++ D).drop 1 = D := by
          rw [List.drop_append_of_le_length (by rw [List.length_take, Hr.out.len]; have := HKk.out; omega)]
          simp
        refine ⟨O3.out.trans HO.out, .inr ?_⟩
        rw [HTe2.out]
        refine ⟨rfl, ao, co, rfl, ?_, ?_⟩
        · show OwS w.heap.size _ (((E.take 1 ++ D).drop 1).map En.nm) wr
          rw [hdr]
          exact own_base HD.out O3.out.size
        · show ((E.take 1 ++ D).drop 1).length = K + 1
          rw [hdr]; exact HDl.out
end Go.Proofs.Ytlfcjbeldnkkoaa
