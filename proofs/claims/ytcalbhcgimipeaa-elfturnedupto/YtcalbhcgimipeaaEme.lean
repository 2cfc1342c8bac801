import Derived.Test.YtcalbhcgimipeaaEmd
namespace Go.Proofs.Ytcalbhcgimipeaa
open Go.RowKit
set_option linter.unusedVariables false
set_option linter.unusedSimpArgs false
def Fits : List Fd → List Fd → Prop
  | [], [] => True
  | f :: r, f' :: r' => f'.w = f.w ∧ f.lo < 256 ^ f.w ∧ f'.lo ≤ f.lo ∧ f.lo ≤ f'.hi ∧ Fits r r'
  | _, _ => False
theorem flt_lay : ∀ (L L' : List Fd) (pre rest : List UInt8), Fits L L' → fltF (pre ++ layB L ++ rest) pre.length L' = none
  | [], [], _, _, _ => rfl
  | [], f' :: r', _, _, h => h.elim
  | f :: r, [], _, _, h => h.elim
  | f :: r, f' :: r', pre, rest, ⟨h1, h2, h3, h4, h5⟩ => by
    have e1 : ((pre ++ layB (f :: r) ++ rest).drop pre.length).take f'.w = leB f.lo f.w := by
      rw [h1, layB_cons, List.append_assoc, List.drop_left, List.append_assoc]
      have := leB_len f.w f.lo
      rw [List.take_append_of_le_length (by omega), List.take_of_length_le (by omega)]
    rw [fltF, e1, nm_le, Nat.mod_eq_of_lt h2, if_neg (by omega)]
    have ih := flt_lay r r' (pre ++ leB f.lo f.w) rest h5
    rw [show (pre ++ leB f.lo f.w).length = pre.length + f'.w from by rw [List.length_append, leB_len, h1]] at ih
    rw [layB_cons, ← List.append_assoc pre]
    exact ih
theorem fits_app : ∀ (A A' B B' : List Fd), Fits A A' → Fits B B' → Fits (A ++ B) (A' ++ B')
  | [], [], _, _, _, h => h
  | [], f' :: r', _, _, h, _ => h.elim
  | f :: r, [], _, _, h, _ => h.elim
  | f :: r, f' :: r', B, B', ⟨h1, h2, h3, h4, h5⟩, hB => ⟨h1, h2, h3, h4, fits_app r r' B B' h5 hB⟩
theorem fits_bw : ∀ l : List UInt8, Fits (bwF l) (bwF l)
  | [] => trivial
  | b :: r => ⟨rfl, by have := b.toNat_lt; show b.toNat < 256 ^ 1; omega, Nat.le_refl _, Nat.le_refl _, fits_bw r⟩
theorem padB_pre (O : List UInt8) : ∃ Z, padB O = O ++ List.replicate Z 0 ∧ O.length + Z = up8 O.length := ⟨up8 O.length - O.length, rfl, by have := up8_ge O.length; omega⟩
theorem bodF_pre : ∀ (L : List Sec) (P : List UInt8), ∃ D, bodF P L = P ++ D
  | [], P => ⟨[], by simp [bodF]⟩
  | s :: r, P => by
    obtain ⟨D, hD⟩ := bodF_pre r (padB (P ++ s.d))
    refine ⟨s.d ++ (List.replicate (up8 (P ++ s.d).length - (P ++ s.d).length) 0 ++ D), ?_⟩
    show bodF (padB (P ++ s.d)) r = _
    rw [hD, padB]
    simp
/-- the entries, with their names -/
def enM : Nat → Nat → List Sec → List Int → List En
  | place, begin, s :: S, z :: Z => ⟨place, s.nm, s.ty, s.fl, s.li, s.inf, s.al, s.es, z, begin, (begin : Int) + s.d.length⟩ :: enM (place + 64) (up8 (begin + s.d.length)) S Z
  | _, _, _, _ => []
theorem enM_len : ∀ (S : List Sec) (Z : List Int) (place begin : Nat), S.length = Z.length → (enM place begin S Z).length = S.length
  | [], [], _, _, _ => rfl
  | [], z :: Z, _, _, h => by simp at h
  | s :: S, [], _, _, h => by simp at h
  | s :: S, z :: Z, place, begin, h => by simp only [enM, List.length_cons]; rw [enM_len S Z _ _ (by simpa using h)]
/-- a section's numbers, and its name's place -/
structure NumOk (s : Sec) (z : Int) : Prop where
  ty : 0 ≤ s.ty ∧ s.ty ≤ 4294967295
  fl : 0 ≤ s.fl ∧ s.fl ≤ 9223372036854775807
  li : 0 ≤ s.li ∧ s.li ≤ 4294967295
  inf : 0 ≤ s.inf ∧ s.inf ≤ 4294967295
  al : 0 ≤ s.al ∧ s.al ≤ 9223372036854775807
  es : 0 ≤ s.es ∧ s.es ≤ 9223372036854775807
  z : 0 ≤ z ∧ z ≤ 4294967295
theorem jw_pos (x : Int) (h : 0 ≤ x) (h2 : x ≤ 9223372036854775807) : (jw x : Int) = x := by unfold jw; omega
theorem p4 : (256 : Nat) ^ 4 = 4294967296 := by decide
theorem p8 : (256 : Nat) ^ 8 = 18446744073709551616 := by decide
theorem fits_row {s : Sec} {z : Int} {begin T : Nat} (h : NumOk s z) (hT : T ≤ 1000000000000) (hle : begin + s.d.length ≤ T) (r : Rw) (hn : r.n = (0, jw 4294967295)) (hk : r.k = jw2 s.ty ∨ r.k = (0, jw 4294967295)) (hf : r.f = jw2 s.fl ∨ r.f = (0, jw 9223372036854775807)) (hp : r.p = jw2 begin) (hs : r.s.1 ≤ s.d.length ∧ s.d.length ≤ r.s.2) (hl : r.l = jw2 s.li ∨ r.l = (0, jw 4294967295)) (hi : r.i = jw2 s.inf ∨ r.i = (0, jw 4294967295)) (ha : r.a = jw2 s.al ∨ r.a = (0, jw 9223372036854775807)) (he : r.e = jw2 s.es ∨ r.e = (0, jw 9223372036854775807)) : Fits (rowP s z begin).fds r.fds := by
  have q4 := p4
  have q8 := p8
  have j1 : jw 4294967295 = 4294967295 := by decide
  have j2 : jw 9223372036854775807 = 9223372036854775807 := by decide
  have g := jw_pos
  have hdl : jw (s.d.length : Int) = s.d.length := jw_nat _ (by omega)
  have hbl : jw (begin : Int) = begin := jw_nat _ (by omega)
  have m4 : ∀ x : Int, 0 ≤ x ∧ x ≤ 4294967295 → jw x < 256 ^ 4 ∧ jw x ≤ jw 4294967295 := fun x hx => by have := g x hx.1 (by omega); omega
  have m8 : ∀ x : Int, 0 ≤ x ∧ x ≤ 9223372036854775807 → jw x < 256 ^ 8 ∧ jw x ≤ jw 9223372036854775807 := fun x hx => by have := g x hx.1 (by omega); omega
  have o : ∀ (b : Nat × Nat) (x : Int) (t : Nat), jw x ≤ t → (b = jw2 x ∨ b = (0, t)) → b.1 ≤ jw x ∧ jw x ≤ b.2 := by
    intro b x t hx hb
    rcases hb with rfl | rfl
    · exact ⟨Nat.le_refl _, Nat.le_refl _⟩
    · exact ⟨Nat.zero_le _, hx⟩
  refine ⟨rfl, (m4 z h.z).1, by rw [hn]; exact Nat.zero_le _, by rw [hn]; exact (m4 z h.z).2, ?_⟩
  have o1 := o r.k s.ty _ (m4 _ h.ty).2 hk
  refine ⟨rfl, (m4 _ h.ty).1, o1.1, o1.2, ?_⟩
  have o2 := o r.f s.fl _ (m8 _ h.fl).2 hf
  refine ⟨rfl, (m8 _ h.fl).1, o2.1, o2.2, ?_⟩
  refine ⟨rfl, by decide, Nat.le_refl _, Nat.le_refl _, ?_⟩
  refine ⟨rfl, by show jw (begin : Int) < 256 ^ 8; omega, by rw [hp]; exact Nat.le_refl _, by rw [hp]; exact Nat.le_refl _, ?_⟩
  refine ⟨rfl, by show jw (s.d.length : Int) < 256 ^ 8; omega, by show r.s.1 ≤ jw (s.d.length : Int); omega, by show jw (s.d.length : Int) ≤ r.s.2; omega, ?_⟩
  have o3 := o r.l s.li _ (m4 _ h.li).2 hl
  refine ⟨rfl, (m4 _ h.li).1, o3.1, o3.2, ?_⟩
  have o4 := o r.i s.inf _ (m4 _ h.inf).2 hi
  refine ⟨rfl, (m4 _ h.inf).1, o4.1, o4.2, ?_⟩
  have o5 := o r.a s.al _ (m8 _ h.al).2 ha
  refine ⟨rfl, (m8 _ h.al).1, o5.1, o5.2, ?_⟩
  have o6 := o r.e s.es _ (m8 _ h.es).2 he
  exact ⟨rfl, (m8 _ h.es).1, o6.1, o6.2, trivial⟩
/-- what stands in a row that was laid -/
theorem row_read {s : Sec} {z : Int} {begin T : Nat} (h : NumOk s z) (hT : T ≤ 1000000000000) (hle : begin + s.d.length ≤ T) (place : Int) : enP (layB (rowP s z begin).fds) place begin = noNm ⟨place, s.nm, s.ty, s.fl, s.li, s.inf, s.al, s.es, z, begin, (begin : Int) + s.d.length⟩ := by
  have hdl : jw (s.d.length : Int) = s.d.length := jw_nat _ (by omega)
  have F : Fits (rowP s z begin).fds { rowP s z begin with n := (0, jw 4294967295) }.fds := fits_row h hT hle _ rfl (.inl rfl) (.inl rfl) rfl ⟨by show jw (s.d.length : Int) ≤ _; omega, by show _ ≤ jw (s.d.length : Int); omega⟩ (.inl rfl) (.inl rfl) (.inl rfl) (.inl rfl)
  have q4 := p4
  have gz := jw_pos z h.z.1 (by have := h.z.2; omega)
  have F2 : Fits (rowP s z begin).fds (rowP s z begin).fds := ⟨rfl, F.2.1, Nat.le_refl _, Nat.le_refl _, F.2.2.2.2⟩
  have hn := flt_lay _ _ [] [] F2
  rw [List.nil_append, List.append_nil] at hn
  obtain ⟨b0, b1, b2, _, _, b5, b6, b7, b8, b9⟩ := flt_fds hn
  generalize layB (rowP s z begin).fds = c at *
  simp only [In2, rowP, jw2] at b0 b1 b2 b5 b6 b7 b8 b9
  have v : ∀ (o n : Nat) (x : Int), n ≤ 8 → 0 ≤ x → x ≤ 9223372036854775807 → (jw x ≤ nmB ((c.drop o).take n) ∧ nmB ((c.drop o).take n) ≤ jw x) → fldI c o n = x := by
    intro o n x hn h0 h1 hh
    have g := jw_pos x h0 h1
    rw [fld_small c o n hn (by omega)]
    omega
  have h1 := h.ty; have h2 := h.fl; have h3 := h.li; have h4 := h.inf; have h5 := h.al; have h6 := h.es; have h7 := h.z
  simp only [enP, noNm]
  rw [v 4 4 s.ty (by omega) (by omega) (by omega) b1, v 8 8 s.fl (by omega) (by omega) (by omega) b2, v 40 4 s.li (by omega) (by omega) (by omega) b6, v 44 4 s.inf (by omega) (by omega) (by omega) b7, v 48 8 s.al (by omega) (by omega) (by omega) b8, v 56 8 s.es (by omega) (by omega) (by omega) b9, v 0 4 z (by omega) (by omega) (by omega) b0, v 32 8 (s.d.length : Int) (by omega) (by omega) (by omega) b5]
theorem endF_ge (S : List Sec) (p : Nat) : p ≤ endF p S := (endF_le S p).1
theorem tblF_cons (r : Rw) (R : List Rw) : tblF (r :: R) = layB r.fds ++ tblF R := rfl
theorem fds_lay_len (r : Rw) : (layB r.fds).length = 64 := by rw [layB_len, fds_wid]
theorem tk_rows (b : List UInt8) (T : Nat) (hT : T ≤ 1000000000000) : ∀ (S : List Sec) (Z : List Int) (place begin : Nat) (E : List En), T < place → place + 64 * S.length = b.length → b.drop place = tblF (rowsF begin S Z) → S.length = Z.length → endF begin S = T → (∀ (i : Nat) s z, S[i]? = some s → Z[i]? = some z → NumOk s z) → (∀ s, S.getLast? = some s → s.ty = 3 ∧ s.fl = 0 ∧ s.li = 0 ∧ s.inf = 0 ∧ s.al = 1 ∧ s.es = 0) → tkF b T S.length place begin E = (E ++ (enM place begin S Z).map noNm, none)
  | [], [], place, begin, E, _, _, _, _, _, _, _ => by simp [tkF, enM]
  | [], z :: Z, _, _, _, _, _, _, h, _, _, _ => by simp at h
  | s :: S, [], _, _, _, _, _, _, h, _, _, _ => by simp at h
  | s :: S, z :: Z, place, begin, E, hp, hl, hd, hz, he, hn, hlast => by
    have hrow : rowsF begin (s :: S) (z :: Z) = rowP s z begin :: rowsF (up8 (begin + s.d.length)) S Z := rfl
    rw [hrow, tblF_cons] at hd
    have hc : (b.drop place).take 64 = layB (rowP s z begin).fds := by
      have := fds_lay_len (rowP s z begin)
      rw [hd, List.take_append_of_le_length (by omega), List.take_of_length_le (by omega)]
    have hd2 : b.drop (place + 64) = tblF (rowsF (up8 (begin + s.d.length)) S Z) := by
      rw [← List.drop_drop, hd, ← fds_lay_len (rowP s z begin), List.drop_left]
    have he2 : endF (up8 (begin + s.d.length)) S = T := he
    have hge := endF_ge S (up8 (begin + s.d.length))
    have hug := up8_ge (begin + s.d.length)
    have hle : begin + s.d.length ≤ T := by omega
    have hnum := hn 0 s z rfl rfl
    have hf : fltF ((b.drop place).take 64) 0 (rowW T b.length place begin).fds = none := by
      rw [hc]
      have hj : jw ((T : Int) - begin) = T - begin := by unfold jw; omega
      have F : Fits (rowP s z begin).fds (rowW T b.length place begin).fds := by
        unfold rowW
        rw [if_neg (by omega)]
        by_cases hq : place + 64 = b.length
        · rw [if_pos hq]
          have hS : S = [] := List.length_eq_zero_iff.1 (by rw [List.length_cons] at hl; omega)
          subst hS
          obtain ⟨g1, g2, g3, g4, g5, g6⟩ := hlast s rfl
          have he3 : up8 (begin + s.d.length) = T := he2
          have hj2 : jw (max ((T : Int) - begin - 7) 0) = T - begin - 7 := by unfold jw; omega
          refine fits_row hnum hT hle _ rfl (.inl ?_) (.inl ?_) rfl ⟨?_, ?_⟩ (.inl ?_) (.inl ?_) (.inl ?_) (.inl ?_)
          · rw [g1]; rfl
          · rw [g2]; rfl
          · show jw (max ((T : Int) - begin - 7) 0) ≤ _; rw [hj2]; omega
          · show _ ≤ jw ((T : Int) - begin); rw [hj]; omega
          · rw [g3]; rfl
          · rw [g4]; rfl
          · rw [g5]; rfl
          · rw [g6]; rfl
        · rw [if_neg hq]
          refine fits_row hnum hT hle _ rfl (.inr rfl) (.inr rfl) rfl ⟨Nat.zero_le _, ?_⟩ (.inr rfl) (.inr rfl) (.inr rfl) (.inr rfl)
          show _ ≤ jw ((T : Int) - begin); rw [hj]; omega
      have := flt_lay _ _ [] [] F
      rwa [List.nil_append, List.append_nil] at this
    have hr := row_read hnum hT hle (place : Int)
    have hsz : fldI ((b.drop place).take 64) 32 8 = (s.d.length : Int) := by
      rw [hc]
      exact Int.add_left_cancel (congrArg En.en hr)
    rw [List.length_cons, tk_none hf, hsz, Int.toNat_natCast, hc, hr]
    rw [tk_rows b T hT S Z (place + 64) (up8 (begin + s.d.length)) _ (by omega) (by rw [List.length_cons] at hl; omega) hd2 (by simpa using hz) he2 (fun i s' z' h1 h2 => hn (i + 1) s' z' (by simpa using h1) (by simpa using h2)) (fun s' hs' => hlast s' (by cases S with | nil => cases hs' | cons a r => rw [List.getLast?_cons_cons]; exact hs'))]
    simp only [enM, List.map_cons, List.append_assoc, List.singleton_append]
end Go.Proofs.Ytcalbhcgimipeaa
