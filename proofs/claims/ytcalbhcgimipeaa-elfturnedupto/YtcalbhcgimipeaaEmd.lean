import Derived.Test.YtcalbhcgimipeaaEmc
namespace Go.Proofs.Ytcalbhcgimipeaa
open Go.RowKit
set_option linter.unusedVariables false
set_option linter.unusedSimpArgs false
/-- what Read took, in order -/
structure Took (b : List UInt8) (T k : Nat) (E : List En) (nb : En) (S : List Sec) : Prop where
  hd : hdFlt b = none
  rg : Rdg b T k E nb
  pad : padF b E = none
  nm : (tnR b E nb.bg.toNat nb.en.toNat).2.1 = false
  eq : S = (((tnR b E nb.bg.toNat nb.en.toNat).2.2.drop 1).take (k - 2)).map (secE b)
theorem took_of {b : List UInt8} {S : List Sec} {p e : Int} (hb : b.length ≤ 1000000000000) (h : rdEl b = (some S, p, e)) : ∃ T k E nb, Took b T k E nb S := by
  by_cases h0 : b.length < 64
  · rw [rdEl_short h0] at h; cases h
  · cases h1 : hdFlt b with
    | some a => rw [rdEl_head (by omega) h1] at h; cases h
    | none =>
      cases h2 : (tkF b (tpP b).toNat (cntP b) (tpP b).toNat 64 []).2 with
      | some a => rw [rdEl_tk (by omega) h1 h2] at h; cases h
      | none =>
        obtain ⟨T, k, E, nb, r⟩ := rdg_of (by omega) hb h1 h2
        cases h3 : padF b E with
        | some a => rw [rdEl_pad h1 r h3] at h; cases h
        | none =>
          cases h4 : (tnR b E nb.bg.toNat nb.en.toNat).2.1 with
          | true => rw [rdEl_nm h1 r h3 h4] at h; cases h
          | false =>
            rw [rdEl_ok h1 r h3 h4] at h
            exact ⟨T, k, E, nb, h1, r, h3, h4, by have := congrArg Prod.fst h; simpa using this.symm⟩
theorem tnR_ok {b : List UInt8} {E : List En} {B0 E1 : Nat} (h : (tnR b E B0 E1).2.1 = false) : ∃ N, (rdP ((b.drop B0).take (E1 - B0))).1 = some N ∧ (nmG N 1 (E.drop 1)).2.2 = none ∧ E1 ≤ B0 + (nmG N 1 (E.drop 1)).2.1 ∧ (tnR b E B0 E1).2.2 = E.take 1 ++ (nmG N 1 (E.drop 1)).1 := by
  unfold tnR at h ⊢
  split at h
  · cases h
  · rename_i N hN
    split at h
    · cases h
    · rename_i h4
      refine ⟨N, hN, h4, ?_, ?_⟩
      · simp only [decide_eq_false_iff_not] at h
        omega
      · simp only [h4]
theorem map_but_last {Q R : List En} {q nb : En} (h : Q.map noNm = R.map noNm) (hq : Q.getLast? = some q) (hr : R.getLast? = some nb) : noNm q = noNm nb := by
  have h1 : (Q.map noNm).getLast? = some (noNm q) := by rw [List.getLast?_map, hq]; rfl
  have h2 : (R.map noNm).getLast? = some (noNm nb) := by rw [List.getLast?_map, hr]; rfl
  rw [h, h2] at h1
  exact (Option.some.inj h1).symm
theorem form_P {b : List UInt8} {T k : Nat} {E : List En} {nb : En} {S : List Sec} (hb : b.length ≤ 1000000000000) (t : Took b T k E nb S) : writeOk S = true ∧ writeB S = b := by
  have r := t.rg
  have hk := r.hk
  have hk2 := r.k2
  obtain ⟨N, n1, n2, n3, n4⟩ := tnR_ok t.nm
  have hlen := r.len
  -- the first entry, and the others
  obtain ⟨k1, rfl⟩ : ∃ k1, k = k1 + 1 := ⟨k - 1, by omega⟩
  obtain ⟨m0, R, f0, fm0, fle, hE, hT⟩ := r.ok
  have hw0 : rowW T b.length T 64 = zRw := by unfold rowW; rw [if_pos rfl]
  rw [hw0] at f0
  have hc0 := chunk_len (l := b) (place := T) (by omega)
  have hm0 : m0 = 0 := by
    obtain ⟨_, _, _, _, _, h5, _⟩ := flt_fds f0
    have h1 := jw_fld ((b.drop T).take 64) 32 8 (by omega)
    rw [fm0] at h1
    have h6 : nmB ((((b.drop T).take 64).drop 32).take 8) ≤ 0 := h5.2
    rw [← h1, jw_nat m0 (by omega)] at h6
    omega
  subst hm0
  have hu : up8 (64 + 0) = 64 := rfl
  rw [hu] at hT
  have hd1 : E.drop 1 = R := by rw [hE]; rfl
  rw [hd1] at n2 n3 n4
  generalize hQ : (nmG N 1 R).1 = Q at *
  have hbut : Q.map noNm = R.map noNm := by rw [← hQ]; exact nmG_but N R 1
  have hRl := tk_len b T _ _ _ R hT
  have hQl := but_len hbut
  obtain ⟨hdat, hnd, hnok⟩ := rdP_inv n1
  -- the last entry
  have hRlast : R.getLast? = some nb := by
    have := r.last
    rw [hE] at this
    rw [List.getLast?_eq_getElem?]
    rw [List.length_cons, Nat.add_sub_cancel] at this
    rw [show R.length = (R.length - 1) + 1 by omega, List.getElem?_cons_succ] at this
    exact this
  obtain ⟨Q1, q, hQq⟩ : ∃ Q1 q, Q = Q1 ++ [q] := by
    rcases list_cases Q with h | h
    · rw [h] at hQl; simp at hQl; omega
    · exact h
  have hqlast : Q.getLast? = some q := by rw [hQq]; simp
  have hqn := noNm_eq (map_but_last hbut hqlast hRlast)
  have hok := r.all nb (by rw [hE]; exact List.mem_cons_of_mem _ (List.mem_of_getLast? hRlast))
  have hqd : (secE b q).d = (b.drop nb.bg.toNat).take (nb.en.toNat - nb.bg.toNat) := by rw [hqn]; rfl
  -- the names
  have hsz : szF 1 N ≤ (nmG N 1 R).2.1 := by
    have h1 := congrArg List.length hdat
    rw [byP_len, List.length_take, List.length_drop] at h1
    omega
  obtain ⟨hn1, hn2, hn3⟩ := nmG_all hnd n2 hsz
  rw [hQ] at hn1 hn2 hn3
  have hqs := hn3 q hqlast
  -- the sections
  have hS : S = Q1.map (secE b) := by
    rw [t.eq, n4, hE, show k1 + 1 - 2 = Q1.length by rw [hQq] at hQl; simp at hQl; omega]
    rw [show ((enP ((b.drop T).take 64) (T : Int) ((64 : Nat) : Int) :: R).take 1 ++ Q).drop 1 = Q by simp]
    rw [hQq, List.take_left]
  have hnms : nmsS S = Q.map En.nm := by rw [hS, hQq, nmsS, List.map_map, List.map_append]; simp only [List.map_cons, List.map_nil, hqs]; rfl
  have hnmN : namesF (nmsS S) = N := by rw [hnms]; exact hn1
  have htab : secE b q = tabS S := by
    obtain ⟨e1, e2, e3, e4, e5, e6⟩ := last_sec b T k1 (T + 64) 64 R Q (by omega) (by omega) hT hbut q hqlast
    have e7 : (secE b q).nm = shN := hqs
    have e8 : (secE b q).d = tabD S := by rw [hqd, hdat, tabD, hnmN]
    generalize secE b q = s at *
    cases s
    simp only [tabS] at *
    subst e1 e2 e3 e4 e5 e6 e7 e8
    rfl
  have hall : allS S = Q.map (secE b) := by rw [allS, hS, ← hS, ← htab, hS, hQq, List.map_append]; rfl
  have hpls : plsS S = Q.map En.na := by
    unfold plsS
    rw [hnmN, hnms, List.map_map]
    apply List.map_congr_left
    intro e he
    exact (hn2 e he).2
  obtain ⟨r1, r2⟩ := rows_P b T (by omega) r.h8 k1 (T + 64) 64 R Q (by omega) (by omega) hT hbut
  have r2 := r2 (by omega)
  have hp2 : padF b R = none := by
    have hp := t.pad
    rw [hE, padF] at hp
    have : (enP ((b.drop T).take 64) (T : Int) ((64 : Nat) : Int)).en.toNat = 64 := by
      show (((64 : Nat) : Int) + fldI _ 32 8).toNat = 64
      rw [fm0]; rfl
    rw [this] at hp
    exact hp
  have hbody := body_P b T (by omega) r.h8 k1 (T + 64) 64 R Q (by have := r.hT; omega) hT hp2 hbut
  obtain ⟨_, _, _, _, hhead⟩ := hd_facts (by omega) t.hd
  have hSl : S.length + 1 = k1 := by rw [hS, List.length_map]; rw [hQq] at hQl; simp at hQl; omega
  refine ⟨?_, ?_⟩
  · simp only [writeOk, Bool.and_eq_true, decide_eq_true_eq, Bool.not_eq_true', List.any_eq_false, List.all_eq_true]
    have := r.k18
    refine ⟨⟨by omega, ?_⟩, ?_⟩
    · intro s hs
      rw [hS] at hs
      obtain ⟨e, he, rfl⟩ := List.mem_map.1 hs
      obtain ⟨i, hi⟩ := List.getElem?_of_mem he
      have hil := (List.getElem?_eq_some_iff.1 hi).1
      have := mid_ok b T k1 (T + 64) 64 R Q (by omega) (by omega) hT hbut i e (by rw [hQq] at hQl; simp at hQl; omega) (by rw [hQq, List.getElem?_append_left hil]; exact hi)
      rw [this]
      simp
    · intro s hs
      rw [hS] at hs
      obtain ⟨e, he, rfl⟩ := List.mem_map.1 hs
      exact hnok _ (hn2 e (by rw [hQq]; simp [he])).1
  · have e1 : layB (headF (jw2 (endF 64 (allS S))) (jw2 (S.length + 2)) (jw2 (S.length + 1))) = b.take 64 := by
      rw [hhead, hall, r2, r.tp, r.cnt]
      have h1 : ((k1 + 1 : Nat) : Int) = (S.length : Int) + 2 := by omega
      have h2 : ((k1 + 1 : Nat) : Int) - 1 = (S.length : Int) + 1 := by omega
      rw [h2, h1]
    unfold writeB
    rw [e1, hall, hpls, hbody, r2]
    show b.take T ++ (layB zRw.fds ++ tblF (rowsF 64 (Q.map (secE b)) (Q.map En.na))) = b
    rw [r1, zero_lay hc0 f0, ← drop_chunk, List.take_append_drop]
end Go.Proofs.Ytcalbhcgimipeaa
