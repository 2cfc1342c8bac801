import Derived.Test.YtlfcjbeldnkkoaaGb21
namespace Go.Proofs.Ytlfcjbeldnkkoaa
open Go.RowKit
set_option linter.unusedVariables false
set_option linter.unusedSimpArgs false
theorem fnz_zero (l : List UInt8) : ∀ (k a : Nat), (∀ j, a ≤ j → j < a + k → l[j]? = some 0) → fnz l k a = none
  | 0, _, _ => rfl
  | k + 1, a, h => by
    have h0 := h a (Nat.le_refl _) (by omega)
    rw [fnz, if_pos (by simp [List.getD, h0])]
    exact fnz_zero l k (a + 1) (fun j h1 h2 => h j (by omega) (by omega))
/-- padding and data of what was written -/
theorem body_back (b : List UInt8) : ∀ (S : List Sec) (Z : List Int) (place : Nat) (P rest : List UInt8), S.length = Z.length → b = bodF P S ++ rest → padF b ((enM place P.length S Z).map noNm) = none ∧ (enM place P.length S Z).map (secE b) = S
  | [], [], _, _, _, _, _ => ⟨rfl, rfl⟩
  | [], z :: Z, _, _, _, h, _ => by simp at h
  | s :: S, [], _, _, _, h, _ => by simp at h
  | s :: S, z :: Z, place, P, rest, hl, hb => by
    have hb2 : b = bodF (padB (P ++ s.d)) S ++ rest := hb
    obtain ⟨i1, i2⟩ := body_back b S Z (place + 64) (padB (P ++ s.d)) rest (by simpa using hl) hb2
    obtain ⟨D, hD⟩ := bodF_pre S (padB (P ++ s.d))
    obtain ⟨z0, hz1, hz2⟩ := padB_pre (P ++ s.d)
    rw [padB_len, List.length_append] at i1 i2
    rw [List.length_append] at hz2
    have hb3 : b = P ++ (s.d ++ (List.replicate z0 0 ++ (D ++ rest))) := by rw [hb2, hD, hz1]; simp
    have hen : ((P.length : Int) + s.d.length).toNat = P.length + s.d.length := by omega
    refine ⟨?_, ?_⟩
    · simp only [enM, List.map_cons, padF, noNm]
      rw [hen]
      have : fnz b (up8 (P.length + s.d.length) - (P.length + s.d.length)) (P.length + s.d.length) = none := by
        refine fnz_zero b _ _ fun j h1 h2 => ?_
        rw [hb3, List.getElem?_append_right (by omega), List.getElem?_append_right (by omega), List.getElem?_append_left (by rw [List.length_replicate]; omega), List.getElem?_replicate, if_pos (by omega)]
      rw [this]
      exact i1
    · simp only [enM, List.map_cons]
      rw [i2]
      congr 1
      unfold secE
      simp only [hen, Int.toNat_natCast]
      rw [Nat.add_sub_cancel_left]
      have : (b.drop P.length).take s.d.length = s.d := by
        rw [hb3, List.drop_left, List.take_left]
      rw [this]
theorem enM_nm : ∀ (S : List Sec) (Z : List Int) (place begin : Nat), S.length = Z.length → (enM place begin S Z).map En.nm = S.map Sec.nm ∧ (enM place begin S Z).map En.na = Z
  | [], [], _, _, _ => ⟨rfl, rfl⟩
  | [], z :: Z, _, _, h => by simp at h
  | s :: S, [], _, _, h => by simp at h
  | s :: S, z :: Z, place, begin, h => by
    obtain ⟨h1, h2⟩ := enM_nm S Z (place + 64) (up8 (begin + s.d.length)) (by simpa using h)
    simp [enM, h1, h2]
/-- the names of what was written -/
theorem nmG_back (N : List (List UInt8)) : ∀ (M : List En) (K : List (List UInt8)), (∀ x ∈ K ++ M.map En.nm, nameOk x = true) → N = namesF (K ++ M.map En.nm) → (∀ e ∈ M, e.na = (plF 1 N e.nm : Nat)) → (∀ e, M.getLast? = some e → e.nm = shN) → nmG N (szF 1 (namesF K)) (M.map noNm) = (M, szF 1 N, none)
  | [], K, _, hN, _, _ => by simp [nmG, hN]
  | e :: M, K, hok, hN, hz, hl => by
    have hz1 := hz e (by simp)
    have hKM : K ++ (e :: M).map En.nm = (K ++ [e.nm]) ++ M.map En.nm := by simp
    have hmem : e.nm ∈ N := by rw [hN]; exact (namesF_ok _ hok).2.2.1 _ (by simp)
    obtain ⟨_, _, _, _, hat⟩ := place_bytes hmem
    rw [hKM] at hN hok
    have ih := nmG_back N M (K ++ [e.nm]) hok hN (fun e' he' => hz e' (by simp [he'])) (fun e' he' => hl e' (by
      cases M with
      | nil => cases he'
      | cons a r => rw [List.getLast?_cons_cons]; exact he'))
    have hna : (noNm e).na = (plF 1 N e.nm : Nat) := hz1
    have hKok : ∀ x ∈ K, nameOk x = true := fun x hx => hok x (by simp [hx])
    have hnext : (if (noNm e).na = (szF 1 (namesF K) : Int) then szF 1 (namesF K) + e.nm.length + 1 else szF 1 (namesF K)) = szF 1 (namesF (K ++ [e.nm])) ∧ ¬ ((szF 1 (namesF K) : Int) < (noNm e).na) := by
      rw [hna]
      by_cases hx : e.nm ∈ namesF K
      · have hp : plF 1 N e.nm = plF 1 (namesF K) e.nm := by rw [hN, List.append_assoc]; exact namesF_pl K _ hx
        obtain ⟨k, hk, hpk⟩ := plF_at (namesF K) 1 e.nm hx
        have hlt := szF_lt (N := namesF K) (List.getElem?_eq_some_iff.1 hk).1 hk
        rw [List.take_length] at hlt
        rw [if_neg (by omega), namesF_snoc, addN, if_pos hx]
        exact ⟨rfl, by omega⟩
      · have hp : plF 1 N e.nm = szF 1 (namesF K) := by
          rw [hN, namesF_pl (K ++ [e.nm]) _ (by rw [namesF_snoc]; exact addN_mem _ _), namesF_snoc, addN, if_neg hx]
          exact plF_new hx
        rw [if_pos (by omega), namesF_snoc, addN, if_neg hx, szF_snoc]
        exact ⟨rfl, by omega⟩
    have hc : ¬ ((szF 1 (namesF K) : Int) < (noNm e).na ∨ (M.map noNm = [] ∧ e.nm ≠ shN)) := by
      rintro (h | ⟨h, h2⟩)
      · exact hnext.2 h
      · have : M = [] := by simpa using h
        subst this
        exact h2 (hl e rfl)
    rw [List.map_cons, nmG]
    have hat' : atF 1 N (noNm e).na = some e.nm := by rw [hna]; exact hat
    simp only [hat', if_neg hc]
    rw [hnext.1, ih]
    rfl
theorem badP_not {s : Sec} (h : badP s = false) : 0 ≤ s.ty ∧ 0 ≤ s.fl ∧ 0 ≤ s.li ∧ 0 ≤ s.inf ∧ 0 ≤ s.al ∧ 0 ≤ s.es ∧ s.ty ≤ 4294967295 ∧ s.li ≤ 4294967295 ∧ s.inf ≤ 4294967295 := by
  simp only [badP, decide_eq_false_iff_not] at h
  omega
theorem endF_mod : ∀ (S : List Sec) (p : Nat), p % 8 = 0 → endF p S % 8 = 0
  | [], p, h => h
  | s :: S, p, _ => endF_mod S _ (by unfold up8; omega)
/-- the sections' numbers are ints -/
def I64 (s : Sec) : Prop := s.fl ≤ 9223372036854775807 ∧ s.al ≤ 9223372036854775807 ∧ s.es ≤ 9223372036854775807
theorem flt_take (l : List UInt8) (n : Nat) : ∀ (L : List Fd) (p : Nat), p + widF L ≤ n → fltF (l.take n) p L = fltF l p L
  | [], _, _ => rfl
  | f :: r, p, h => by
    rw [widF_cons] at h
    have e : ((l.take n).drop p).take f.w = (l.drop p).take f.w := by
      rw [List.drop_take, List.take_take, Nat.min_eq_left (by omega)]
    rw [fltF, fltF, e, flt_take l n r (p + f.w) (by omega)]
theorem back_P (ss : List Sec) (hok : writeOk ss = true) (h64 : ∀ s ∈ ss, I64 s) (hs : sumD ss ≤ 100000000000) : rdEl (writeB ss) = (some ss, 0, 0) := by
  simp only [writeOk, Bool.and_eq_true, decide_eq_true_eq, Bool.not_eq_true', List.any_eq_false, List.all_eq_true] at hok
  obtain ⟨⟨h16, hbad⟩, hnm⟩ := hok
  have hshN : nameOk shN = true := by decide
  have hnok : ∀ x ∈ nmsS ss, nameOk x = true := by
    intro x hx
    simp only [nmsS, List.mem_append, List.mem_map, List.mem_singleton] at hx
    rcases hx with ⟨s, hs, rfl⟩ | rfl
    · exact hnm s hs
    · exact hshN
  obtain ⟨hd1, hd2, hd3, hd4⟩ := namesF_ok (nmsS ss) hnok
  have hnl : (nmsS ss).length = ss.length + 1 := by simp [nmsS]
  rw [hnl] at hd4
  have htl : (tabD ss).length = szF 1 (namesF (nmsS ss)) := byP_len _
  have hal : (allS ss).length = ss.length + 1 := by simp [allS]
  have hpl : (plsS ss).length = ss.length + 1 := by simp [plsS, nmsS]
  obtain ⟨T, hT⟩ : ∃ T, T = endF 64 (allS ss) := ⟨_, rfl⟩
  have hsum : sumD (allS ss) = sumD ss + (tabD ss).length := by simp [allS, sumD, tabS]
  have hT1 := endF_le (allS ss) 64
  rw [← hT, hsum, hal] at hT1
  have hTm : T % 8 = 0 := by rw [hT]; exact endF_mod _ _ (by omega)
  obtain ⟨n, hn⟩ : ∃ n, n = ss.length := ⟨_, rfl⟩
  obtain ⟨H, hH⟩ : ∃ H, H = layB (headF (jw2 (endF 64 (allS ss))) (jw2 (ss.length + 2)) (jw2 (ss.length + 1))) := ⟨_, rfl⟩
  have hHl : H.length = 64 := by rw [hH, layB_len, headF_wid]
  obtain ⟨b, hb⟩ : ∃ b, b = writeB ss := ⟨_, rfl⟩
  have hb1 : b = bodF H (allS ss) ++ tblF (zRw :: rowsF 64 (allS ss) (plsS ss)) := by rw [hb, hH]; rfl
  have hBl : (bodF H (allS ss)).length = T := by rw [bodF_len, hHl, hT]
  have hbl : b.length = T + 64 * (n + 2) := by
    rw [hb1, List.length_append, hBl, tblF_len, List.length_cons, rowsF_len _ _ _ (by rw [hal, hpl]), hal]
    omega
  rw [← hb]
  obtain ⟨D, hD⟩ := bodF_pre (allS ss) H
  have hbH : b.take 64 = H := by rw [hb1, hD, List.append_assoc, ← hHl, List.take_left]
  -- the head
  have hcnt : cntP b = n + 2 := by
    have e : (b.drop 60).take 2 = (H.drop 60).take 2 := by rw [← hbH, List.drop_take, List.take_take]; rfl
    unfold cntP
    rw [e, hH]
    unfold headF
    rw [layB_app, layB_app, layB_app, layB_bw, layB_bw]
    have hl60 : (hdA ++ layB [⟨8, (jw2 (endF 64 (allS ss))).1, (jw2 (endF 64 (allS ss))).2⟩] ++ hdB).length = 60 := by rw [List.length_append, List.length_append, layB_len]; rfl
    rw [← hl60, List.drop_left]
    have e2 : layB [⟨2, (jw2 ((ss.length : Int) + 2)).1, (jw2 ((ss.length : Int) + 2)).2⟩, ⟨2, (jw2 ((ss.length : Int) + 1)).1, (jw2 ((ss.length : Int) + 1)).2⟩] = leB (jw ((ss.length : Int) + 2)) 2 ++ layB [⟨2, (jw2 ((ss.length : Int) + 1)).1, (jw2 ((ss.length : Int) + 1)).2⟩] := rfl
    rw [e2]
    have hl2 := leB_len 2 (jw ((ss.length : Int) + 2))
    rw [List.take_append_of_le_length (by omega), List.take_of_length_le (by omega), nm_le]
    have : jw ((ss.length : Int) + 2) = ss.length + 2 := by unfold jw; omega
    rw [this]
    omega
  have htp : tpP b = T := by unfold tpP; rw [hbl, hcnt]; omega
  have h2 : hdFlt b = none := by
    have hw : widF (hfP b) = 64 := by unfold hfP; exact headF_wid _ _ _
    unfold hdFlt
    rw [← flt_take b 64 (hfP b) 0 (by omega), hbH, hH]
    have hts : tsP b = jw2 T := by unfold tsP; rw [htp, if_pos ⟨by omega, by omega⟩]; rfl
    have F : Fits (headF (jw2 (endF 64 (allS ss))) (jw2 (ss.length + 2)) (jw2 (ss.length + 1))) (hfP b) := by
      unfold hfP
      rw [hts, hcnt, ← hT]
      unfold headF
      have q8 := p8
      have hjT : jw (T : Int) = T := jw_nat _ (by omega)
      have hj2 : jw ((ss.length : Int) + 2) = ss.length + 2 := by unfold jw; omega
      have hj1 : jw ((ss.length : Int) + 1) = ss.length + 1 := by unfold jw; omega
      have hj3 : jw (((n + 2 : Nat) : Int) - 1) = ss.length + 1 := by unfold jw; omega
      refine fits_app _ _ _ _ (fits_app _ _ _ _ (fits_app _ _ _ _ (fits_bw _) ?_) (fits_bw _)) ?_
      · exact ⟨rfl, by show jw (T : Int) < 256 ^ 8; omega, Nat.le_refl _, Nat.le_refl _, trivial⟩
      · refine ⟨rfl, by show jw ((ss.length : Int) + 2) < 256 ^ 2; omega, by show 2 ≤ jw ((ss.length : Int) + 2); omega, by show jw ((ss.length : Int) + 2) ≤ 18; omega, rfl, by show jw ((ss.length : Int) + 1) < 256 ^ 2; omega, ?_, ?_, trivial⟩
        · show jw (((n + 2 : Nat) : Int) - 1) ≤ jw ((ss.length : Int) + 1); omega
        · show jw ((ss.length : Int) + 1) ≤ jw (((n + 2 : Nat) : Int) - 1); omega
    have := flt_lay _ _ [] [] F
    rwa [List.nil_append, List.append_nil] at this
  -- the entries
  have hdT : b.drop T = layB zRw.fds ++ tblF (rowsF 64 (allS ss) (plsS ss)) := by rw [hb1, ← hBl, List.drop_left]; rfl
  have hz64 := fds_lay_len zRw
  have hdT2 : b.drop (T + 64) = tblF (rowsF 64 (allS ss) (plsS ss)) := by rw [← List.drop_drop, hdT, ← hz64, List.drop_left]
  have hc0 : (b.drop T).take 64 = layB zRw.fds := by rw [hdT, List.take_append_of_le_length (by omega), List.take_of_length_le (by omega)]
  have hf0 : fltF ((b.drop T).take 64) 0 (rowW T b.length T 64).fds = none := by
    rw [hc0, rowW, if_pos rfl]; decide
  have hm0 : fldI ((b.drop T).take 64) 32 8 = 0 := by
    have h0 : nmB (((layB zRw.fds).drop 32).take 8) = 0 := by decide
    rw [hc0, fld_small _ 32 8 (by omega) (by omega), h0]; rfl
  have hnum : ∀ (i : Nat) s z, (allS ss)[i]? = some s → (plsS ss)[i]? = some z → NumOk s z := by
    intro i s z h1 h2
    have hz : 0 ≤ z ∧ z ≤ 4294967295 := by
      have := List.mem_of_getElem? h2
      simp only [plsS, List.mem_map] at this
      obtain ⟨x, hx, rfl⟩ := this
      obtain ⟨k, hk, hp⟩ := plF_at (namesF (nmsS ss)) 1 x (hd3 x hx)
      have := szF_take (namesF (nmsS ss)) k
      omega
    have hm := List.mem_of_getElem? h1
    simp only [allS, List.mem_append, List.mem_singleton] at hm
    rcases hm with hm | rfl
    · obtain ⟨a1, a2, a3, a4, a5, a6, a7, a8, a9⟩ := badP_not (by simpa using hbad s hm)
      obtain ⟨c1, c2, c3⟩ := h64 s hm
      exact ⟨⟨a1, a7⟩, ⟨a2, c1⟩, ⟨a3, a8⟩, ⟨a4, a9⟩, ⟨a5, c2⟩, ⟨a6, c3⟩, hz⟩
    · exact ⟨by simp [tabS], by simp [tabS], by simp [tabS], by simp [tabS], by simp [tabS], by simp [tabS], hz⟩
  have htk := tk_rows b T (by omega) (allS ss) (plsS ss) (T + 64) 64 [enP ((b.drop T).take 64) T ((64 : Nat) : Int)] (by omega) (by rw [hal]; omega) hdT2 (by rw [hal, hpl]) hT.symm hnum (by
    intro s hs
    have : s = tabS ss := by simpa [allS] using hs.symm
    subst this
    exact ⟨rfl, rfl, rfl, rfl, rfl, rfl⟩)
  have htk2 : tkF b T (n + 2) T 64 [] = (enP ((b.drop T).take 64) T ((64 : Nat) : Int) :: (enM (T + 64) 64 (allS ss) (plsS ss)).map noNm, none) := by
    rw [show n + 2 = (allS ss).length + 1 by rw [hal]; omega, tk_none hf0, hm0]
    exact htk
  obtain ⟨e0, he0⟩ : ∃ e0, e0 = enP ((b.drop T).take 64) T ((64 : Nat) : Int) := ⟨_, rfl⟩
  have he0n : e0.en = 64 := by rw [he0]; show ((64 : Nat) : Int) + fldI _ 32 8 = 64; rw [hm0]; rfl
  rw [← he0] at htk2
  obtain ⟨M, hM⟩ : ∃ M, M = enM (T + 64) 64 (allS ss) (plsS ss) := ⟨_, rfl⟩
  rw [← hM] at htk2
  obtain ⟨bp, bs⟩ := body_back b (allS ss) (plsS ss) (T + 64) H _ (by rw [hal, hpl]) hb1
  rw [hHl, ← hM] at bp bs
  obtain ⟨mn, mz⟩ := enM_nm (allS ss) (plsS ss) (T + 64) 64 (by rw [hal, hpl])
  rw [← hM] at mn mz
  have hMl : M.length = n + 1 := by rw [hM, enM_len _ _ _ _ (by rw [hal, hpl]), hal, hn]
  have hnmM : M.map En.nm = nmsS ss := by rw [mn]; simp [allS, nmsS, tabS]
  obtain ⟨M1, q, hMq⟩ : ∃ M1 q, M = M1 ++ [q] := by
    rcases list_cases M with h | h
    · rw [h] at hMl; simp at hMl
    · exact h
  have hM1l : M1.length = n := by rw [hMq] at hMl; simp at hMl; exact hMl
  have hsec : M1.map (secE b) = ss ∧ secE b q = tabS ss := by
    rw [hMq, List.map_append, allS] at bs
    have := List.append_inj bs (by rw [List.length_map, hM1l, hn])
    exact ⟨this.1, by simpa using this.2⟩
  have hrg : 64 ≤ b.length ∧ True := ⟨by omega, trivial⟩
  obtain ⟨T', k', E', nb, r⟩ := rdg_of hrg.1 (by omega) h2 (by rw [htp, hcnt, Int.toNat_natCast, htk2])
  have hT' : T' = T := by have := r.tp; rw [htp] at this; omega
  have hk' : k' = n + 2 := by have := r.cnt; omega
  subst hT' hk'
  have hE' : E' = e0 :: M.map noNm := by have := r.tk; rw [htk2] at this; exact (congrArg Prod.fst this).symm
  have hnb : nb = noNm q := by
    have := r.last
    rw [hE', hMq, List.map_append] at this
    have h3 : (e0 :: (M1.map noNm ++ [noNm q]))[(e0 :: (M1.map noNm ++ [noNm q])).length - 1]? = some (noNm q) := by simp
    simp only [List.map_cons, List.map_nil] at this
    rw [h3] at this
    exact (Option.some.inj this).symm
  have hpad : padF b E' = none := by
    rw [hE', padF, he0n]
    exact bp
  have hqd : (b.drop nb.bg.toNat).take (nb.en.toNat - nb.bg.toNat) = tabD ss := by
    rw [hnb]
    exact congrArg Sec.d hsec.2
  have hrd : (rdP (tabD ss)).1 = some (namesF (nmsS ss)) := by unfold tabD; rw [read_back hd1 hd2]
  have hg := nmG_back (namesF (nmsS ss)) M [] (by rw [List.nil_append, hnmM]; exact hnok) (by rw [List.nil_append, hnmM]) (by
    intro e he
    obtain ⟨i, hi⟩ := List.getElem?_of_mem he
    have h1 : (M.map En.na)[i]? = some e.na := by rw [List.getElem?_map, hi]; rfl
    have h2 : (M.map En.nm)[i]? = some e.nm := by rw [List.getElem?_map, hi]; rfl
    rw [mz, plsS, ← hnmM, List.getElem?_map, h2] at h1
    rw [hnmM] at h1
    exact (Option.some.inj h1).symm) (by
    intro e he
    have : q = e := by rw [hMq] at he; simpa using he
    rw [← this]
    exact congrArg Sec.nm hsec.2)
  rw [show szF 1 (namesF []) = 1 from rfl] at hg
  have htn : tnR b E' nb.bg.toNat nb.en.toNat = (((nb.bg.toNat : Nat) : Int) + ((szF 1 (namesF (nmsS ss)) : Nat) : Int), false, e0 :: M) := by
    have hdrop : E'.drop 1 = M.map noNm := by rw [hE']; rfl
    have htake : E'.take 1 = [e0] := by rw [hE']; rfl
    have hlen : (tabD ss).length ≤ nb.en.toNat - nb.bg.toNat := by rw [← hqd, List.length_take]; omega
    unfold tnR
    rw [hqd]
    simp only [hrd, hdrop, hg, htake]
    have hdec : decide (nb.bg.toNat + szF 1 (namesF (nmsS ss)) < nb.en.toNat) = false := by
      rw [decide_eq_false_iff_not]
      have h5 := congrArg List.length hqd
      have hall := r.all nb (List.mem_of_getElem? r.last)
      have a1 := hall.be
      have a2 := hall.en
      have a3 := hall.bg
      rw [List.length_take, List.length_drop] at h5
      omega
    simp only [List.singleton_append]
    rw [hdec]
  rw [rdEl_ok h2 r hpad (by rw [htn]), htn]
  show (some ((M.take (n + 2 - 2)).map (secE b)), (0 : Int), (0 : Int)) = _
  rw [show n + 2 - 2 = M1.length by omega, hMq, List.take_left, hsec.1]
end Go.Proofs.Ytlfcjbeldnkkoaa
