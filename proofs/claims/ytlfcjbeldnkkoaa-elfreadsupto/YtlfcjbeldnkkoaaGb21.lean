import Derived.Test.YtlfcjbeldnkkoaaGb20
namespace Go.Proofs.Ytlfcjbeldnkkoaa
open Go.RowKit
set_option linter.unusedVariables false
set_option linter.unusedSimpArgs false
theorem nm8 (c : List UInt8) (o n : Nat) (hn : n ≤ 8) : nmB ((c.drop o).take n) < 18446744073709551616 := by
  have h := nmB_lt ((c.drop o).take n)
  have h4 : 256 ^ ((c.drop o).take n).length ≤ 256 ^ 8 := Nat.pow_le_pow_right (by omega) (by rw [List.length_take]; omega)
  have h5 : (256 : Nat) ^ 8 = 18446744073709551616 := by decide
  omega
theorem jw_wrap64 (n : Nat) (h : n < 18446744073709551616) : jw (wrap64 (n : Int)) = n := by
  unfold jw wrap64
  first | omega | (rw [IntKind.wrap_i64]; omega) | (simp; omega)
theorem jw_fld (c : List UInt8) (o n : Nat) (hn : n ≤ 8) : jw (fldI c o n) = nmB ((c.drop o).take n) := jw_wrap64 _ (nm8 c o n hn)
theorem fld_small (c : List UInt8) (o n : Nat) (hn : n ≤ 8) (h : nmB ((c.drop o).take n) ≤ 9223372036854775807) : fldI c o n = nmB ((c.drop o).take n) := by
  unfold fldI wrap64
  first | omega | (rw [IntKind.wrap_i64]; omega) | (simp; omega)
theorem row_p {T n place begin : Nat} (h : ¬ place = T) : (rowW T n place begin).p = jw2 begin := by
  unfold rowW
  rw [if_neg h]
  split <;> rfl
theorem chunk_len {l : List UInt8} {place : Nat} (h : place + 64 ≤ l.length) : ((l.drop place).take 64).length = 64 := by rw [List.length_take, List.length_drop]; omega
/-- a right row, laid -/
theorem row_lay {c : List UInt8} {T n place begin : Nat} (hc : c.length = 64) (hp : ¬ place = T) (h : fltF c 0 (rowW T n place begin).fds = none) (s : Sec) (z : Int) (hz : z = fldI c 0 4) (hs : s.ty = fldI c 4 4 ∧ s.fl = fldI c 8 8 ∧ s.li = fldI c 40 4 ∧ s.inf = fldI c 44 4 ∧ s.al = fldI c 48 8 ∧ s.es = fldI c 56 8) (hd : (s.d.length : Int) = fldI c 32 8) : layB (rowP s z begin).fds = c := by
  obtain ⟨_, _, _, h3, h4, _⟩ := flt_fds h
  rw [row_p hp] at h4
  have h4' : jw begin = nmB ((c.drop 24).take 8) := by have := h4.1; have := h4.2; simp only [jw2] at *; omega
  have E : Exact c 0 (rowP s z begin).fds := by
    obtain ⟨a1, a2, a3, a4, a5, a6⟩ := hs
    refine ⟨?_, ?_, ?_, ?_, ?_, ?_, ?_, ?_, ?_, ?_, trivial⟩
    · show jw z = _; rw [hz]; exact jw_fld c 0 4 (by omega)
    · show jw s.ty = _; rw [a1]; exact jw_fld c 4 4 (by omega)
    · show jw s.fl = _; rw [a2]; exact jw_fld c 8 8 (by omega)
    · exact h3.symm
    · exact h4'
    · show jw s.d.length = _; rw [hd]; exact jw_fld c 32 8 (by omega)
    · show jw s.li = _; rw [a3]; exact jw_fld c 40 4 (by omega)
    · show jw s.inf = _; rw [a4]; exact jw_fld c 44 4 (by omega)
    · show jw s.al = _; rw [a5]; exact jw_fld c 48 8 (by omega)
    · show jw s.es = _; rw [a6]; exact jw_fld c 56 8 (by omega)
  have := layB_exact c _ 0 (by rw [fds_wid]; omega) E
  rw [this, fds_wid, List.drop_zero, ← hc, List.take_length]
theorem zero_lay {c : List UInt8} (hc : c.length = 64) (h : fltF c 0 zRw.fds = none) : layB zRw.fds = c := by
  have E : Exact c 0 zRw.fds := exact_of_flt c _ 0 (by intro f hf; simp [Rw.fds, zRw] at hf; rcases hf with rfl | rfl | rfl | rfl <;> rfl) h
  have := layB_exact c _ 0 (by rw [fds_wid]; omega) E
  rw [this, fds_wid, List.drop_zero, ← hc, List.take_length]
theorem drop_chunk (l : List UInt8) (p : Nat) : l.drop p = (l.drop p).take 64 ++ l.drop (p + 64) := by
  rw [← List.drop_drop, List.take_append_drop]
/-- an entry, but for its name -/
theorem but_cons {e : En} {Q R : List En} (h : Q.map noNm = (e :: R).map noNm) : ∃ q Q', Q = q :: Q' ∧ noNm q = noNm e ∧ Q'.map noNm = R.map noNm := by
  cases Q with
  | nil => cases h
  | cons q Q' =>
    simp only [List.map_cons, List.cons.injEq] at h
    exact ⟨q, Q', rfl, h.1, h.2⟩
theorem noNm_eq {q e : En} (h : noNm q = noNm e) : q = { e with nm := q.nm } := by
  cases q; cases e
  simp only [noNm, En.mk.injEq] at h
  simp only [En.mk.injEq]
  simp_all
theorem last_up {c : List UInt8} {T begin m : Nat} (hT : T ≤ 1000000000000) (hT8 : T % 8 = 0) (h : fltF c 0 (rowL T begin).fds = none) (hm : fldI c 32 8 = m) (hle : begin + m ≤ T) : up8 (begin + m) = T := by
  obtain ⟨_, _, _, _, _, h5, _⟩ := flt_fds h
  have h1 := jw_fld c 32 8 (by omega)
  rw [hm] at h1
  have h2 : jw (m : Int) = m := jw_nat m (by omega)
  have h3 : jw (max ((T : Int) - begin - 7) 0) ≤ m := by
    have := h5.1
    rw [← h1, h2] at this
    exact this
  have h4 : jw (max ((T : Int) - begin - 7) 0) = T - begin - 7 := by
    unfold jw
    omega
  unfold up8
  omega
theorem rows_P (l : List UInt8) (T : Nat) (hT : T ≤ 1000000000000) (hT8 : T % 8 = 0) : ∀ (k place begin : Nat) (R Q : List En), T < place → place + 64 * k = l.length → TkOk l T k place begin R → Q.map noNm = R.map noNm → tblF (rowsF begin (Q.map (secE l)) (Q.map En.na)) = l.drop place ∧ (1 ≤ k → endF begin (Q.map (secE l)) = T)
  | 0, place, begin, R, Q, _, hk, h, hq => by
    have h : R = [] := h
    subst h
    have : Q = [] := by simpa using hq
    subst this
    refine ⟨?_, by omega⟩
    rw [List.drop_of_length_le (by omega)]
    rfl
  | k + 1, place, begin, R, Q, hp, hk, ⟨m, R', hf, hm, hle, hR, h2⟩, hq => by
    subst hR
    obtain ⟨q, Q', rfl, hq1, hq2⟩ := but_cons hq
    have hqe := noNm_eq hq1
    have hbg : q.bg = begin := by rw [hqe]; rfl
    have hen : q.en = (begin : Int) + m := by rw [hqe]; show (begin : Int) + fldI _ 32 8 = _; rw [hm]
    have hdl : (secE l q).d.length = m := by
      show ((l.drop q.bg.toNat).take (q.en.toNat - q.bg.toNat)).length = m
      rw [List.length_take, List.length_drop, hbg, hen]
      omega
    have hc := chunk_len (l := l) (place := place) (by omega)
    have hlay := row_lay hc (by omega) hf (secE l q) q.na (by rw [hqe]; rfl) ⟨by rw [hqe]; rfl, by rw [hqe]; rfl, by rw [hqe]; rfl, by rw [hqe]; rfl, by rw [hqe]; rfl, by rw [hqe]; rfl⟩ (by rw [hdl, hm])
    obtain ⟨i1, i2⟩ := rows_P l T hT hT8 k (place + 64) (up8 (begin + m)) R' Q' (by omega) (by omega) h2 hq2
    refine ⟨?_, fun _ => ?_⟩
    · show tblF (rowP (secE l q) q.na begin :: rowsF (up8 (begin + (secE l q).d.length)) (Q'.map (secE l)) (Q'.map En.na)) = _
      rw [hdl]
      show layB (rowP (secE l q) q.na begin).fds ++ tblF _ = _
      rw [hlay, i1, ← drop_chunk]
    · show endF (up8 (begin + (secE l q).d.length)) (Q'.map (secE l)) = T
      rw [hdl]
      cases k with
      | zero =>
        have h2' : R' = [] := h2
        subst h2'
        have : Q' = [] := by simpa using hq2
        subst this
        show up8 (begin + m) = T
        have hw : rowW T l.length place begin = rowL T begin := by unfold rowW; rw [if_neg (by omega), if_pos (by omega)]
        rw [hw] at hf
        exact last_up hT hT8 hf hm hle
      | succ k => exact i2 (by omega)
theorem fnz_none (l : List UInt8) : ∀ (k a : Nat), a + k ≤ l.length → fnz l k a = none → (l.drop a).take k = List.replicate k 0
  | 0, a, _, _ => by simp
  | k + 1, a, hl, h => by
    unfold fnz at h
    split at h
    · rename_i h0
      have ih := fnz_none l k (a + 1) (by omega) h
      have ha : a < l.length := by omega
      rw [List.drop_eq_getElem_cons ha, List.take_succ_cons, ih, List.replicate_succ]
      congr 1
      simpa [List.getD, List.getElem?_eq_getElem ha] using h0
    · cases h
theorem body_P (l : List UInt8) (T : Nat) (hT : T ≤ l.length) (hT8 : T % 8 = 0) : ∀ (k place begin : Nat) (R Q : List En), begin ≤ T → TkOk l T k place begin R → padF l R = none → Q.map noNm = R.map noNm → bodF (l.take begin) (Q.map (secE l)) = l.take (endF begin (Q.map (secE l)))
  | 0, place, begin, R, Q, _, h, _, hq => by
    have h : R = [] := h
    subst h
    have : Q = [] := by simpa using hq
    subst this
    rfl
  | k + 1, place, begin, R, Q, hb, ⟨m, R', hf, hm, hle, hR, h2⟩, hp, hq => by
    subst hR
    obtain ⟨q, Q', rfl, hq1, hq2⟩ := but_cons hq
    have hqe := noNm_eq hq1
    have hbg : q.bg = begin := by rw [hqe]; rfl
    have hen : q.en = (begin : Int) + m := by rw [hqe]; show (begin : Int) + fldI _ 32 8 = _; rw [hm]
    have hd : (secE l q).d = (l.drop begin).take m := by
      show (l.drop q.bg.toNat).take (q.en.toNat - q.bg.toNat) = _
      rw [hbg, hen]
      congr 1 <;> omega
    have hdl : (secE l q).d.length = m := by rw [hd, List.length_take, List.length_drop]; omega
    have hen2 : (enP ((l.drop place).take 64) place begin).en.toNat = begin + m := by
      show ((begin : Int) + fldI _ 32 8).toNat = _
      rw [hm]; omega
    have hu := up8_le hle hT8
    have hug := up8_ge (begin + m)
    rw [padF, hen2] at hp
    have hz : fnz l (up8 (begin + m) - (begin + m)) (begin + m) = none := by
      cases hf : fnz l (up8 (begin + m) - (begin + m)) (begin + m) with
      | none => rfl
      | some a => rw [hf] at hp; cases hp
    simp only [hz] at hp
    have hz2 := fnz_none l _ _ (by omega) hz
    have hpad : padB (l.take begin ++ (secE l q).d) = l.take (up8 (begin + m)) := by
      have e1 : l.take begin ++ (secE l q).d = l.take (begin + m) := by rw [hd, List.take_add]
      have e2 : (l.take (begin + m)).length = begin + m := by rw [List.length_take]; omega
      rw [e1, padB, e2, ← hz2]
      rw [← List.take_add]
      congr 1
      omega
    show bodF (padB (l.take begin ++ (secE l q).d)) (Q'.map (secE l)) = l.take (endF (up8 (begin + (secE l q).d.length)) (Q'.map (secE l)))
    rw [hpad, hdl]
    exact body_P l T hT hT8 k _ _ R' Q' hu h2 hp hq2
/-- the numbers of a section that was read may be -/
theorem mid_ok (l : List UInt8) (T : Nat) : ∀ (k place begin : Nat) (R Q : List En), T < place → place + 64 * k = l.length → TkOk l T k place begin R → Q.map noNm = R.map noNm → ∀ (i : Nat) (q : En), i + 1 < k → Q[i]? = some q → badP (secE l q) = false
  | 0, _, _, _, _, _, _, _, _, i, q, hi, _ => by omega
  | k + 1, place, begin, R, Q, hp, hk, ⟨m, R', hf, hm, hle, hR, h2⟩, hq, i, q, hi, hqi => by
    subst hR
    obtain ⟨q0, Q', rfl, hq1, hq2⟩ := but_cons hq
    cases i with
    | succ i => exact mid_ok l T k _ _ R' Q' (by omega) (by omega) h2 hq2 i q (by omega) (by simpa using hqi)
    | zero =>
      have : q0 = q := by simpa using hqi
      subst this
      have hqe := noNm_eq hq1
      have hw : rowW T l.length place begin = rowM T begin := by unfold rowW; rw [if_neg (by omega), if_neg (by omega)]
      rw [hw] at hf
      obtain ⟨b0, b1, b2, _, _, _, b6, b7, b8, b9⟩ := flt_fds hf
      generalize hcc : (l.drop place).take 64 = c at *
      have j1 : jw 4294967295 = 4294967295 := by decide
      have j2 : jw 9223372036854775807 = 9223372036854775807 := by decide
      simp only [In2, rowM, j1, j2] at b1 b2 b6 b7 b8 b9
      have e1 : (secE l q0).ty = nmB ((c.drop 4).take 4) := by rw [hqe]; exact fld_small c 4 4 (by omega) (by omega)
      have e2 : (secE l q0).fl = nmB ((c.drop 8).take 8) := by rw [hqe]; exact fld_small c 8 8 (by omega) (by omega)
      have e3 : (secE l q0).li = nmB ((c.drop 40).take 4) := by rw [hqe]; exact fld_small c 40 4 (by omega) (by omega)
      have e4 : (secE l q0).inf = nmB ((c.drop 44).take 4) := by rw [hqe]; exact fld_small c 44 4 (by omega) (by omega)
      have e5 : (secE l q0).al = nmB ((c.drop 48).take 8) := by rw [hqe]; exact fld_small c 48 8 (by omega) (by omega)
      have e6 : (secE l q0).es = nmB ((c.drop 56).take 8) := by rw [hqe]; exact fld_small c 56 8 (by omega) (by omega)
      simp only [badP, e1, e2, e3, e4, e5, e6, decide_eq_false_iff_not]
      omega
/-- the last one is the names' -/
theorem last_sec (l : List UInt8) (T : Nat) : ∀ (k place begin : Nat) (R Q : List En), T < place → place + 64 * k = l.length → TkOk l T k place begin R → Q.map noNm = R.map noNm → ∀ q, Q.getLast? = some q → (secE l q).ty = 3 ∧ (secE l q).fl = 0 ∧ (secE l q).li = 0 ∧ (secE l q).inf = 0 ∧ (secE l q).al = 1 ∧ (secE l q).es = 0
  | 0, _, _, R, Q, _, _, h, hq, q, hl => by
    have h : R = [] := h
    subst h
    have : Q = [] := by simpa using hq
    subst this
    cases hl
  | k + 1, place, begin, R, Q, hp, hk, ⟨m, R', hf, hm, hle, hR, h2⟩, hq, q, hl => by
    subst hR
    obtain ⟨q0, Q', rfl, hq1, hq2⟩ := but_cons hq
    cases k with
    | succ k =>
      refine last_sec l T (k + 1) _ _ R' Q' (by omega) (by omega) h2 hq2 q ?_
      cases Q' with
      | nil => have := but_len hq2; have := tk_len l T _ _ _ R' h2; simp at *; omega
      | cons a r => rw [List.getLast?_cons_cons] at hl; exact hl
    | zero =>
      have h2' : R' = [] := h2
      subst h2'
      have : Q' = [] := by simpa using hq2
      subst this
      have : q0 = q := by simpa using hl
      subst this
      have hqe := noNm_eq hq1
      have hw : rowW T l.length place begin = rowL T begin := by unfold rowW; rw [if_neg (by omega), if_pos (by omega)]
      rw [hw] at hf
      obtain ⟨b0, b1, b2, _, _, _, b6, b7, b8, b9⟩ := flt_fds hf
      generalize hcc : (l.drop place).take 64 = c at *
      have j1 : jw 1 = 1 := by decide
      have j2 : jw 3 = 3 := by decide
      simp only [In2, rowL, j1, j2] at b1 b2 b6 b7 b8 b9
      have e1 : (secE l q0).ty = nmB ((c.drop 4).take 4) := by rw [hqe]; exact fld_small c 4 4 (by omega) (by omega)
      have e2 : (secE l q0).fl = nmB ((c.drop 8).take 8) := by rw [hqe]; exact fld_small c 8 8 (by omega) (by omega)
      have e3 : (secE l q0).li = nmB ((c.drop 40).take 4) := by rw [hqe]; exact fld_small c 40 4 (by omega) (by omega)
      have e4 : (secE l q0).inf = nmB ((c.drop 44).take 4) := by rw [hqe]; exact fld_small c 44 4 (by omega) (by omega)
      have e5 : (secE l q0).al = nmB ((c.drop 48).take 8) := by rw [hqe]; exact fld_small c 48 8 (by omega) (by omega)
      have e6 : (secE l q0).es = nmB ((c.drop 56).take 8) := by rw [hqe]; exact fld_small c 56 8 (by omega) (by omega)
      refine ⟨?_, ?_, ?_, ?_, ?_, ?_⟩ <;> omega
end Go.Proofs.Ytlfcjbeldnkkoaa
namespace Go.Proofs.Ytlfcjbeldnkkoaa
open Go.RowKit
set_option linter.unusedVariables false
set_option linter.unusedSimpArgs false
/-- what Read took, in order -/
structure Took (b : List UInt8) (T k : Nat) (E : List En) (nb : En) (S : List Sec) : Prop where
  hd : hdFlt b = none
  rg : Rdg b T k E nb
  pad : padF b E = none
  nm : (tnR b E nb.bg.toNat nb.en.toNat).2.1 = false
  eq : S = (((tnR b E nb.bg.toNat nb.en.toNat).2.2.drop 1).take (k - 2)).map (secE b)
theorem took_of {b : List UInt8} {S : List Sec} {p e : Int} (hb : b.length ≤ 1000000000000) (h : rdEl b = (some S, p, e)) : ∃ T k E nb, Took b T k E nb S := by
  by_cases h0 : b.length < 64
  · rw [rdEl_short h0] at h; cases h
  · cases h1 : hdFlt b with
    | some a => rw [rdEl_head (by omega) h1] at h; cases h
    | none =>
      cases h2 : (tkF b (tpP b).toNat (cntP b) (tpP b).toNat 64 []).2 with
      | some a => rw [rdEl_tk (by omega) h1 h2] at h; cases h
      | none =>
        obtain ⟨T, k, E, nb, r⟩ := rdg_of (by omega) hb h1 h2
        cases h3 : padF b E with
        | some a => rw [rdEl_pad h1 r h3] at h; cases h
        | none =>
          cases h4 : (tnR b E nb.bg.toNat nb.en.toNat).2.1 with
          | true => rw [rdEl_nm h1 r h3 h4] at h; cases h
          | false =>
            rw [rdEl_ok h1 r h3 h4] at h
            exact ⟨T, k, E, nb, h1, r, h3, h4, by have := congrArg Prod.fst h; simpa using this.symm⟩
theorem tnR_ok {b : List UInt8} {E : List En} {B0 E1 : Nat} (h : (tnR b E B0 E1).2.1 = false) : ∃ N, (rdP ((b.drop B0).take (E1 - B0))).1 = some N ∧ (nmG N 1 (E.drop 1)).2.2 = none ∧ E1 ≤ B0 + (nmG N 1 (E.drop 1)).2.1 ∧ (tnR b E B0 E1).2.2 = E.take 1 ++ (nmG N 1 (E.drop 1)).1 := by
  unfold tnR at h ⊢
  split at h
  · cases h
  · rename_i N hN
    split at h
    · cases h
    · rename_i h4
      refine ⟨N, hN, h4, ?_, ?_⟩
      · simp only [decide_eq_false_iff_not] at h
        omega
      · simp only [h4]
theorem map_but_last {Q R : List En} {q nb : En} (h : Q.map noNm = R.map noNm) (hq : Q.getLast? = some q) (hr : R.getLast? = some nb) : noNm q = noNm nb := by
  have h1 : (Q.map noNm).getLast? = some (noNm q) := by rw [List.getLast?_map, hq]; rfl
  have h2 : (R.map noNm).getLast? = some (noNm nb) := by rw [List.getLast?_map, hr]; rfl
  rw [h, h2] at h1
  exact (Option.some.inj h1).symm
theorem form_P {b : List UInt8} {T k : Nat} {E : List En} {nb : En} {S : List Sec} (hb : b.length ≤ 1000000000000) (t : Took b T k E nb S) : writeOk S = true ∧ writeB S = b := by
  have r := t.rg
  have hk := r.hk
  have hk2 := r.k2
  obtain ⟨N, n1, n2, n3, n4⟩ := tnR_ok t.nm
  have hlen := r.len
  -- the first entry, and the others
  obtain ⟨k1, rfl⟩ : ∃ k1, k = k1 + 1 := ⟨k - 1, by omega⟩
  obtain ⟨m0, R, f0, fm0, fle, hE, hT⟩ := r.ok
  have hw0 : rowW T b.length T 64 = zRw := by unfold rowW; rw [if_pos rfl]
  rw [hw0] at f0
  have hc0 := chunk_len (l := b) (place := T) (by omega)
  have hm0 : m0 = 0 := by
    obtain ⟨_, _, _, _, _, h5, _⟩ := flt_fds f0
    have h1 := jw_fld ((b.drop T).take 64) 32 8 (by omega)
    rw [fm0] at h1
    have h6 : nmB ((((b.drop T).take 64).drop 32).take 8) ≤ 0 := h5.2
    rw [← h1, jw_nat m0 (by omega)] at h6
    omega
  subst hm0
  have hu : up8 (64 + 0) = 64 := rfl
  rw [hu] at hT
  have hd1 : E.drop 1 = R := by rw [hE]; rfl
  rw [hd1] at n2 n3 n4
  generalize hQ : (nmG N 1 R).1 = Q at *
  have hbut : Q.map noNm = R.map noNm := by rw [← hQ]; exact nmG_but N R 1
  have hRl := tk_len b T _ _ _ R hT
  have hQl := but_len hbut
  obtain ⟨hdat, hnd, hnok⟩ := rdP_inv n1
  -- the last entry
  have hRlast : R.getLast? = some nb := by
    have := r.last
    rw [hE] at this
    rw [List.getLast?_eq_getElem?]
    rw [List.length_cons, Nat.add_sub_cancel] at this
    rw [show R.length = (R.length - 1) + 1 by omega, List.getElem?_cons_succ] at this
    exact this
  obtain ⟨Q1, q, hQq⟩ : ∃ Q1 q, Q = Q1 ++ [q] := by
    rcases list_cases Q with h | h
    · rw [h] at hQl; simp at hQl; omega
    · exact h
  have hqlast : Q.getLast? = some q := by rw [hQq]; simp
  have hqn := noNm_eq (map_but_last hbut hqlast hRlast)
  have hok := r.all nb (by rw [hE]; exact List.mem_cons_of_mem _ (List.mem_of_getLast? hRlast))
  have hqd : (secE b q).d = (b.drop nb.bg.toNat).take (nb.en.toNat - nb.bg.toNat) := by rw [hqn]; rfl
  -- the names
  have hsz : szF 1 N ≤ (nmG N 1 R).2.1 := by
    have h1 := congrArg List.length hdat
    rw [byP_len, List.length_take, List.length_drop] at h1
    omega
  obtain ⟨hn1, hn2, hn3⟩ := nmG_all hnd n2 hsz
  rw [hQ] at hn1 hn2 hn3
  have hqs := hn3 q hqlast
  -- the sections
  have hS : S = Q1.map (secE b) := by
    rw [t.eq, n4, hE, show k1 + 1 - 2 = Q1.length by rw [hQq] at hQl; simp at hQl; omega]
    rw [show ((enP ((b.drop T).take 64) (T : Int) ((64 : Nat) : Int) :: R).take 1 ++ Q).drop 1 = Q by simp]
    rw [hQq, List.take_left]
  have hnms : nmsS S = Q.map En.nm := by rw [hS, hQq, nmsS, List.map_map, List.map_append]; simp only [List.map_cons, List.map_nil, hqs]; rfl
  have hnmN : namesF (nmsS S) = N := by rw [hnms]; exact hn1
  have htab : secE b q = tabS S := by
    obtain ⟨e1, e2, e3, e4, e5, e6⟩ := last_sec b T k1 (T + 64) 64 R Q (by omega) (by omega) hT hbut q hqlast
    have e7 : (secE b q).nm = shN := hqs
    have e8 : (secE b q).d = tabD S := by rw [hqd, hdat, tabD, hnmN]
    generalize secE b q = s at *
    cases s
    simp only [tabS] at *
    subst e1 e2 e3 e4 e5 e6 e7 e8
    rfl
  have hall : allS S = Q.map (secE b) := by rw [allS, hS, ← hS, ← htab, hS, hQq, List.map_append]; rfl
  have hpls : plsS S = Q.map En.na := by
    unfold plsS
    rw [hnmN, hnms, List.map_map]
    apply List.map_congr_left
    intro e he
    exact (hn2 e he).2
  obtain ⟨r1, r2⟩ := rows_P b T (by omega) r.h8 k1 (T + 64) 64 R Q (by omega) (by omega) hT hbut
  have r2 := r2 (by omega)
  have hp2 : padF b R = none := by
    have hp := t.pad
    rw [hE, padF] at hp
    have : (enP ((b.drop T).take 64) (T : Int) ((64 : Nat) : Int)).en.toNat = 64 := by
      show (((64 : Nat) : Int) + fldI _ 32 8).toNat = 64
      rw [fm0]; rfl
    rw [this] at hp
    exact hp
  have hbody := body_P b T (by omega) r.h8 k1 (T + 64) 64 R Q (by have := r.hT; omega) hT hp2 hbut
  obtain ⟨_, _, _, _, hhead⟩ := hd_facts (by omega) t.hd
  have hSl : S.length + 1 = k1 := by rw [hS, List.length_map]; rw [hQq] at hQl; simp at hQl; omega
  refine ⟨?_, ?_⟩
  · simp only [writeOk, Bool.and_eq_true, decide_eq_true_eq, Bool.not_eq_true', List.any_eq_false, List.all_eq_true]
    have := r.k18
    refine ⟨⟨by omega, ?_⟩, ?_⟩
    · intro s hs
      rw [hS] at hs
      obtain ⟨e, he, rfl⟩ := List.mem_map.1 hs
      obtain ⟨i, hi⟩ := List.getElem?_of_mem he
      have hil := (List.getElem?_eq_some_iff.1 hi).1
      have := mid_ok b T k1 (T + 64) 64 R Q (by omega) (by omega) hT hbut i e (by rw [hQq] at hQl; simp at hQl; omega) (by rw [hQq, List.getElem?_append_left hil]; exact hi)
      rw [this]
      simp
    · intro s hs
      rw [hS] at hs
      obtain ⟨e, he, rfl⟩ := List.mem_map.1 hs
      exact hnok _ (hn2 e (by rw [hQq]; simp [he])).1
  · have e1 : layB (headF (jw2 (endF 64 (allS S))) (jw2 (S.length + 2)) (jw2 (S.length + 1))) = b.take 64 := by
      rw [hhead, hall, r2, r.tp, r.cnt]
      have h1 : ((k1 + 1 : Nat) : Int) = (S.length : Int) + 2 := by omega
      have h2 : ((k1 + 1 : Nat) : Int) - 1 = (S.length : Int) + 1 := by omega
      rw [h2, h1]
    unfold writeB
    rw [e1, hall, hpls, hbody, r2]
    show b.take T ++ (layB zRw.fds ++ tblF (rowsF 64 (Q.map (secE b)) (Q.map En.na))) = b
    rw [r1, zero_lay hc0 f0, ← drop_chunk, List.take_append_drop]
end Go.Proofs.Ytlfcjbeldnkkoaa
namespace Go.Proofs.Ytlfcjbeldnkkoaa
open Go.RowKit
set_option linter.unusedVariables false
set_option linter.unusedSimpArgs false
def Fits : List Fd → List Fd → Prop
  | [], [] => True
  | f :: r, f' :: r' => f'.w = f.w ∧ f.lo < 256 ^ f.w ∧ f'.lo ≤ f.lo ∧ f.lo ≤ f'.hi ∧ Fits r r'
  | _, _ => False
theorem flt_lay : ∀ (L L' : List Fd) (pre rest : List UInt8), Fits L L' → fltF (pre ++ layB L ++ rest) pre.length L' = none
  | [], [], _, _, _ => rfl
  | [], f' :: r', _, _, h => h.elim
  | f :: r, [], _, _, h => h.elim
  | f :: r, f' :: r', pre, rest, ⟨h1, h2, h3, h4, h5⟩ => by
    have e1 : ((pre ++ layB (f :: r) ++ rest).drop pre.length).take f'.w = leB f.lo f.w := by
      rw [h1, layB_cons, List.append_assoc, List.drop_left, List.append_assoc]
      have := leB_len f.w f.lo
      rw [List.take_append_of_le_length (by omega), List.take_of_length_le (by omega)]
    rw [fltF, e1, nm_le, Nat.mod_eq_of_lt h2, if_neg (by omega)]
    have ih := flt_lay r r' (pre ++ leB f.lo f.w) rest h5
    rw [show (pre ++ leB f.lo f.w).length = pre.length + f'.w from by rw [List.length_append, leB_len, h1]] at ih
    rw [layB_cons, ← List.append_assoc pre]
    exact ih
theorem fits_app : ∀ (A A' B B' : List Fd), Fits A A' → Fits B B' → Fits (A ++ B) (A' ++ B')
  | [], [], _, _, _, h => h
  | [], f' :: r', _, _, h, _ => h.elim
  | f :: r, [], _, _, h, _ => h.elim
  | f :: r, f' :: r', B, B', ⟨h1, h2, h3, h4, h5⟩, hB => ⟨h1, h2, h3, h4, fits_app r r' B B' h5 hB⟩
theorem fits_bw : ∀ l : List UInt8, Fits (bwF l) (bwF l)
  | [] => trivial
  | b :: r => ⟨rfl, by have := b.toNat_lt; show b.toNat < 256 ^ 1; omega, Nat.le_refl _, Nat.le_refl _, fits_bw r⟩
theorem padB_pre (O : List UInt8) : ∃ Z, padB O = O ++ List.replicate Z 0 ∧ O.length + Z = up8 O.length := ⟨up8 O.length - O.length, rfl, by have := up8_ge O.length; omega⟩
theorem bodF_pre : ∀ (L : List Sec) (P : List UInt8), ∃ D, bodF P L = P ++ D
  | [], P => ⟨[], by simp [bodF]⟩
  | s :: r, P => by
    obtain ⟨D, hD⟩ := bodF_pre r (padB (P ++ s.d))
    refine ⟨s.d ++ (List.replicate (up8 (P ++ s.d).length - (P ++ s.d).length) 0 ++ D), ?_⟩
    show bodF (padB (P ++ s.d)) r = _
    rw [hD, padB]
    simp
/-- the entries, with their names -/
def enM : Nat → Nat → List Sec → List Int → List En
  | place, begin, s :: S, z :: Z => ⟨place, s.nm, s.ty, s.fl, s.li, s.inf, s.al, s.es, z, begin, (begin : Int) + s.d.length⟩ :: enM (place + 64) (up8 (begin + s.d.length)) S Z
  | _, _, _, _ => []
theorem enM_len : ∀ (S : List Sec) (Z : List Int) (place begin : Nat), S.length = Z.length → (enM place begin S Z).length = S.length
  | [], [], _, _, _ => rfl
  | [], z :: Z, _, _, h => by simp at h
  | s :: S, [], _, _, h => by simp at h
  | s :: S, z :: Z, place, begin, h => by simp only [enM, List.length_cons]; rw [enM_len S Z _ _ (by simpa using h)]
/-- a section's numbers, and its name's place -/
structure NumOk (s : Sec) (z : Int) : Prop where
  ty : 0 ≤ s.ty ∧ s.ty ≤ 4294967295
  fl : 0 ≤ s.fl ∧ s.fl ≤ 9223372036854775807
  li : 0 ≤ s.li ∧ s.li ≤ 4294967295
  inf : 0 ≤ s.inf ∧ s.inf ≤ 4294967295
  al : 0 ≤ s.al ∧ s.al ≤ 9223372036854775807
  es : 0 ≤ s.es ∧ s.es ≤ 9223372036854775807
  z : 0 ≤ z ∧ z ≤ 4294967295
theorem jw_pos (x : Int) (h : 0 ≤ x) (h2 : x ≤ 9223372036854775807) : (jw x : Int) = x := by unfold jw; omega
theorem p4 : (256 : Nat) ^ 4 = 4294967296 := by decide
theorem p8 : (256 : Nat) ^ 8 = 18446744073709551616 := by decide
theorem fits_row {s : Sec} {z : Int} {begin T : Nat} (h : NumOk s z) (hT : T ≤ 1000000000000) (hle : begin + s.d.length ≤ T) (r : Rw) (hn : r.n = (0, jw 4294967295)) (hk : r.k = jw2 s.ty ∨ r.k = (0, jw 4294967295)) (hf : r.f = jw2 s.fl ∨ r.f = (0, jw 9223372036854775807)) (hp : r.p = jw2 begin) (hs : r.s.1 ≤ s.d.length ∧ s.d.length ≤ r.s.2) (hl : r.l = jw2 s.li ∨ r.l = (0, jw 4294967295)) (hi : r.i = jw2 s.inf ∨ r.i = (0, jw 4294967295)) (ha : r.a = jw2 s.al ∨ r.a = (0, jw 9223372036854775807)) (he : r.e = jw2 s.es ∨ r.e = (0, jw 9223372036854775807)) : Fits (rowP s z begin).fds r.fds := by
  have q4 := p4
  have q8 := p8
  have j1 : jw 4294967295 = 4294967295 := by decide
  have j2 : jw 9223372036854775807 = 9223372036854775807 := by decide
  have g := jw_pos
  have hdl : jw (s.d.length : Int) = s.d.length := jw_nat _ (by omega)
  have hbl : jw (begin : Int) = begin := jw_nat _ (by omega)
  have m4 : ∀ x : Int, 0 ≤ x ∧ x ≤ 4294967295 → jw x < 256 ^ 4 ∧ jw x ≤ jw 4294967295 := fun x hx => by have := g x hx.1 (by omega); omega
  have m8 : ∀ x : Int, 0 ≤ x ∧ x ≤ 9223372036854775807 → jw x < 256 ^ 8 ∧ jw x ≤ jw 9223372036854775807 := fun x hx => by have := g x hx.1 (by omega); omega
  have o : ∀ (b : Nat × Nat) (x : Int) (t : Nat), jw x ≤ t → (b = jw2 x ∨ b = (0, t)) → b.1 ≤ jw x ∧ jw x ≤ b.2 := by
    intro b x t hx hb
    rcases hb with rfl | rfl
    · exact ⟨Nat.le_refl _, Nat.le_refl _⟩
    · exact ⟨Nat.zero_le _, hx⟩
  refine ⟨rfl, (m4 z h.z).1, by rw [hn]; exact Nat.zero_le _, by rw [hn]; exact (m4 z h.z).2, ?_⟩
  have o1 := o r.k s.ty _ (m4 _ h.ty).2 hk
  refine ⟨rfl, (m4 _ h.ty).1, o1.1, o1.2, ?_⟩
  have o2 := o r.f s.fl _ (m8 _ h.fl).2 hf
  refine ⟨rfl, (m8 _ h.fl).1, o2.1, o2.2, ?_⟩
  refine ⟨rfl, by decide, Nat.le_refl _, Nat.le_refl _, ?_⟩
  refine ⟨rfl, by show jw (begin : Int) < 256 ^ 8; omega, by rw [hp]; exact Nat.le_refl _, by rw [hp]; exact Nat.le_refl _, ?_⟩
  refine ⟨rfl, by show jw (s.d.length : Int) < 256 ^ 8; omega, by show r.s.1 ≤ jw (s.d.length : Int); omega, by show jw (s.d.length : Int) ≤ r.s.2; omega, ?_⟩
  have o3 := o r.l s.li _ (m4 _ h.li).2 hl
  refine ⟨rfl, (m4 _ h.li).1, o3.1, o3.2, ?_⟩
  have o4 := o r.i s.inf _ (m4 _ h.inf).2 hi
  refine ⟨rfl, (m4 _ h.inf).1, o4.1, o4.2, ?_⟩
  have o5 := o r.a s.al _ (m8 _ h.al).2 ha
  refine ⟨rfl, (m8 _ h.al).1, o5.1, o5.2, ?_⟩
  have o6 := o r.e s.es _ (m8 _ h.es).2 he
  exact ⟨rfl, (m8 _ h.es).1, o6.1, o6.2, trivial⟩
/-- what stands in a row that was laid -/
theorem row_read {s : Sec} {z : Int} {begin T : Nat} (h : NumOk s z) (hT : T ≤ 1000000000000) (hle : begin + s.d.length ≤ T) (place : Int) : enP (layB (rowP s z begin).fds) place begin = noNm ⟨place, s.nm, s.ty, s.fl, s.li, s.inf, s.al, s.es, z, begin, (begin : Int) + s.d.length⟩ := by
  have hdl : jw (s.d.length : Int) = s.d.length := jw_nat _ (by omega)
  have F : Fits (rowP s z begin).fds { rowP s z begin with n := (0, jw 4294967295) }.fds := fits_row h hT hle _ rfl (.inl rfl) (.inl rfl) rfl ⟨by show jw (s.d.length : Int) ≤ _; omega, by show _ ≤ jw (s.d.length : Int); omega⟩ (.inl rfl) (.inl rfl) (.inl rfl) (.inl rfl)
  have q4 := p4
  have gz := jw_pos z h.z.1 (by have := h.z.2; omega)
  have F2 : Fits (rowP s z begin).fds (rowP s z begin).fds := ⟨rfl, F.2.1, Nat.le_refl _, Nat.le_refl _, F.2.2.2.2⟩
  have hn := flt_lay _ _ [] [] F2
  rw [List.nil_append, List.append_nil] at hn
  obtain ⟨b0, b1, b2, _, _, b5, b6, b7, b8, b9⟩ := flt_fds hn
  generalize layB (rowP s z begin).fds = c at *
  simp only [In2, rowP, jw2] at b0 b1 b2 b5 b6 b7 b8 b9
  have v : ∀ (o n : Nat) (x : Int), n ≤ 8 → 0 ≤ x → x ≤ 9223372036854775807 → (jw x ≤ nmB ((c.drop o).take n) ∧ nmB ((c.drop o).take n) ≤ jw x) → fldI c o n = x := by
    intro o n x hn h0 h1 hh
    have g := jw_pos x h0 h1
    rw [fld_small c o n hn (by omega)]
    omega
  have h1 := h.ty; have h2 := h.fl; have h3 := h.li; have h4 := h.inf; have h5 := h.al; have h6 := h.es; have h7 := h.z
  simp only [enP, noNm]
  rw [v 4 4 s.ty (by omega) (by omega) (by omega) b1, v 8 8 s.fl (by omega) (by omega) (by omega) b2, v 40 4 s.li (by omega) (by omega) (by omega) b6, v 44 4 s.inf (by omega) (by omega) (by omega) b7, v 48 8 s.al (by omega) (by omega) (by omega) b8, v 56 8 s.es (by omega) (by omega) (by omega) b9, v 0 4 z (by omega) (by omega) (by omega) b0, v 32 8 (s.d.length : Int) (by omega) (by omega) (by omega) b5]
theorem endF_ge (S : List Sec) (p : Nat) : p ≤ endF p S := (endF_le S p).1
theorem tblF_cons (r : Rw) (R : List Rw) : tblF (r :: R) = layB r.fds ++ tblF R := rfl
theorem fds_lay_len (r : Rw) : (layB r.fds).length = 64 := by rw [layB_len, fds_wid]
theorem tk_rows (b : List UInt8) (T : Nat) (hT : T ≤ 1000000000000) : ∀ (S : List Sec) (Z : List Int) (place begin : Nat) (E : List En), T < place → place + 64 * S.length = b.length → b.drop place = tblF (rowsF begin S Z) → S.length = Z.length → endF begin S = T → (∀ (i : Nat) s z, S[i]? = some s → Z[i]? = some z → NumOk s z) → (∀ s, S.getLast? = some s → s.ty = 3 ∧ s.fl = 0 ∧ s.li = 0 ∧ s.inf = 0 ∧ s.al = 1 ∧ s.es = 0) → tkF b T S.length place begin E = (E ++ (enM place begin S Z).map noNm, none)
  | [], [], place, begin, E, _, _, _, _, _, _, _ => by simp [tkF, enM]
  | [], z :: Z, _, _, _, _, _, _, h, _, _, _ => by simp at h
  | s :: S, [], _, _, _, _, _, _, h, _, _, _ => by simp at h
  | s :: S, z :: Z, place, begin, E, hp, hl, hd, hz, he, hn, hlast => by
    have hrow : rowsF begin (s :: S) (z :: Z) = rowP s z begin :: rowsF (up8 (begin + s.d.length)) S Z := rfl
    rw [hrow, tblF_cons] at hd
    have hc : (b.drop place).take 64 = layB (rowP s z begin).fds := by
      have := fds_lay_len (rowP s z begin)
      rw [hd, List.take_append_of_le_length (by omega), List.take_of_length_le (by omega)]
    have hd2 : b.drop (place + 64) = tblF (rowsF (up8 (begin + s.d.length)) S Z) := by
      rw [← List.drop_drop, hd, ← fds_lay_len (rowP s z begin), List.drop_left]
    have he2 : endF (up8 (begin + s.d.length)) S = T := he
    have hge := endF_ge S (up8 (begin + s.d.length))
    have hug := up8_ge (begin + s.d.length)
    have hle : begin + s.d.length ≤ T := by omega
    have hnum := hn 0 s z rfl rfl
    have hf : fltF ((b.drop place).take 64) 0 (rowW T b.length place begin).fds = none := by
      rw [hc]
      have hj : jw ((T : Int) - begin) = T - begin := by unfold jw; omega
      have F : Fits (rowP s z begin).fds (rowW T b.length place begin).fds := by
        unfold rowW
        rw [if_neg (by omega)]
        by_cases hq : place + 64 = b.length
        · rw [if_pos hq]
          have hS : S = [] := List.length_eq_zero_iff.1 (by rw [List.length_cons] at hl; omega)
          subst hS
          obtain ⟨g1, g2, g3, g4, g5, g6⟩ := hlast s rfl
          have he3 : up8 (begin + s.d.length) = T := he2
          have hj2 : jw (max ((T : Int) - begin - 7) 0) = T - begin - 7 := by unfold jw; omega
          refine fits_row hnum hT hle _ rfl (.inl ?_) (.inl ?_) rfl ⟨?_, ?_⟩ (.inl ?_) (.inl ?_) (.inl ?_) (.inl ?_)
          · rw [g1]; rfl
          · rw [g2]; rfl
          · show jw (max ((T : Int) - begin - 7) 0) ≤ _; rw [hj2]; omega
          · show _ ≤ jw ((T : Int) - begin); rw [hj]; omega
          · rw [g3]; rfl
          · rw [g4]; rfl
          · rw [g5]; rfl
          · rw [g6]; rfl
        · rw [if_neg hq]
          refine fits_row hnum hT hle _ rfl (.inr rfl) (.inr rfl) rfl ⟨Nat.zero_le _, ?_⟩ (.inr rfl) (.inr rfl) (.inr rfl) (.inr rfl)
          show _ ≤ jw ((T : Int) - begin); rw [hj]; omega
      have := flt_lay _ _ [] [] F
      rwa [List.nil_append, List.append_nil] at this
    have hr := row_read hnum hT hle (place : Int)
    have hsz : fldI ((b.drop place).take 64) 32 8 = (s.d.length : Int) := by
      rw [hc]
      exact Int.add_left_cancel (congrArg En.en hr)
    rw [List.length_cons, tk_none hf, hsz, Int.toNat_natCast, hc, hr]
    rw [tk_rows b T hT S Z (place + 64) (up8 (begin + s.d.length)) _ (by omega) (by rw [List.length_cons] at hl; omega) hd2 (by simpa using hz) he2 (fun i s' z' h1 h2 => hn (i + 1) s' z' (by simpa using h1) (by simpa using h2)) (fun s' hs' => hlast s' (by cases S with | nil => cases hs' | cons a r => rw [List.getLast?_cons_cons]; exact hs'))]
    simp only [enM, List.map_cons, List.append_assoc, List.singleton_append]
end Go.Proofs.Ytlfcjbeldnkkoaa
