import Derived.Test.YtcalbhcgimipeaaEly
namespace Go.Proofs.Ytcalbhcgimipeaa
open Go.RowKit
set_option linter.unusedVariables false
set_option linter.unusedSimpArgs false
def In2 (b : Nat × Nat) (n : Nat) : Prop := b.1 ≤ n ∧ n ≤ b.2
/-- what a row's fields hold, if it is right -/
theorem flt_fds {l : List UInt8} {r : Rw} (h : fltF l 0 r.fds = none) : In2 r.n (nmB ((l.drop 0).take 4)) ∧ In2 r.k (nmB ((l.drop 4).take 4)) ∧ In2 r.f (nmB ((l.drop 8).take 8)) ∧ nmB ((l.drop 16).take 8) = 0 ∧ In2 r.p (nmB ((l.drop 24).take 8)) ∧ In2 r.s (nmB ((l.drop 32).take 8)) ∧ In2 r.l (nmB ((l.drop 40).take 4)) ∧ In2 r.i (nmB ((l.drop 44).take 4)) ∧ In2 r.a (nmB ((l.drop 48).take 8)) ∧ In2 r.e (nmB ((l.drop 56).take 8)) := by
  have g := fun i f hf => flt_get l r.fds i 0 f h hf
  refine ⟨g 0 ⟨4, r.n.1, r.n.2⟩ rfl, g 1 ⟨4, r.k.1, r.k.2⟩ rfl, g 2 ⟨8, r.f.1, r.f.2⟩ rfl, ?_, g 4 ⟨8, r.p.1, r.p.2⟩ rfl, g 5 ⟨8, r.s.1, r.s.2⟩ rfl, g 6 ⟨4, r.l.1, r.l.2⟩ rfl, g 7 ⟨4, r.i.1, r.i.2⟩ rfl, g 8 ⟨8, r.a.1, r.a.2⟩ rfl, g 9 ⟨8, r.e.1, r.e.2⟩ rfl⟩
  have := g 3 ⟨8, 0, 0⟩ rfl
  exact Nat.le_zero.1 this.2
/-- fields that say just what stands there -/
def Exact (l : List UInt8) : Nat → List Fd → Prop
  | _, [] => True
  | p, f :: r => f.lo = nmB ((l.drop p).take f.w) ∧ Exact l (p + f.w) r
theorem layB_cons (f : Fd) (r : List Fd) : layB (f :: r) = leB f.lo f.w ++ layB r := rfl
theorem widF_cons (f : Fd) (r : List Fd) : widF (f :: r) = f.w + widF r := by simp [widF]
theorem widF_app (A B : List Fd) : widF (A ++ B) = widF A + widF B := by simp [widF]
theorem take_add {α : Type} (l : List α) (p a b : Nat) : (l.drop p).take (a + b) = (l.drop p).take a ++ (l.drop (p + a)).take b := by
  rw [List.take_add, List.drop_drop]
theorem le_at (l : List UInt8) (p w : Nat) (h : p + w ≤ l.length) : leB (nmB ((l.drop p).take w)) w = (l.drop p).take w := by
  have h1 : ((l.drop p).take w).length = w := by rw [List.length_take, List.length_drop]; omega
  have := le_nm ((l.drop p).take w)
  rwa [h1] at this
theorem layB_exact (l : List UInt8) : ∀ (L : List Fd) (p : Nat), p + widF L ≤ l.length → Exact l p L → layB L = (l.drop p).take (widF L)
  | [], p, _, _ => by simp [layB, widF]
  | f :: r, p, h, he => by
    rw [widF_cons] at h
    rw [layB_cons, widF_cons, take_add, he.1, le_at l p f.w (by omega), layB_exact l r (p + f.w) (by omega) he.2]
theorem exact_app (l : List UInt8) : ∀ (A B : List Fd) (p : Nat), Exact l p A → Exact l (p + widF A) B → Exact l p (A ++ B)
  | [], B, p, _, h => by simpa [widF] using h
  | f :: r, B, p, h, h2 => ⟨h.1, exact_app l r B (p + f.w) h.2 (by rw [widF_cons, ← Nat.add_assoc] at h2; exact h2)⟩
theorem flt_app (l : List UInt8) : ∀ (A B : List Fd) (p : Nat), fltF l p (A ++ B) = none → fltF l p A = none ∧ fltF l (p + widF A) B = none
  | [], B, p, h => ⟨rfl, by simpa [widF] using h⟩
  | f :: r, B, p, h => by
    rw [List.cons_append, fltF] at h
    split at h
    · cases h
    · rename_i hn
      have := flt_app l r B (p + f.w) h
      refine ⟨by rw [fltF, if_neg hn]; exact this.1, ?_⟩
      rw [widF_cons, ← Nat.add_assoc]; exact this.2
theorem exact_of_flt (l : List UInt8) : ∀ (L : List Fd) (p : Nat), (∀ f ∈ L, f.lo = f.hi) → fltF l p L = none → Exact l p L
  | [], _, _, _ => trivial
  | f :: r, p, he, h => by
    rw [fltF] at h
    split at h
    · cases h
    · rename_i hn
      have h1 := he f (by simp)
      exact ⟨by omega, exact_of_flt l r _ (fun g hg => he g (by simp [hg])) h⟩
/-- the head -/
theorem hd_facts {b : List UInt8} (hl : 64 ≤ b.length) (h : hdFlt b = none) : 64 ≤ tpP b ∧ tpP b % 8 = 0 ∧ 2 ≤ cntP b ∧ cntP b ≤ 18 ∧ b.take 64 = layB (headF (jw2 (tpP b)) (jw2 (cntP b)) (jw2 ((cntP b : Int) - 1))) := by
  unfold hdFlt hfP headF at h
  obtain ⟨h1, h2⟩ := flt_app b _ _ 0 h
  obtain ⟨h3, h4⟩ := flt_app b _ _ 0 h1
  obtain ⟨h5, h6⟩ := flt_app b _ _ 0 h3
  rw [show 0 + widF (bwF hdA) = 40 from by rw [bwF_wid]; rfl] at h6
  have w2 : 0 + widF (bwF hdA ++ [⟨8, (tsP b).1, (tsP b).2⟩] ++ bwF hdB) = 60 := by rw [widF_app, widF_app, bwF_wid, bwF_wid]; rfl
  rw [w2] at h2
  have ht : 64 ≤ tpP b ∧ tpP b % 8 = 0 := by
    by_cases hg : 64 ≤ tpP b ∧ tpP b % 8 = 0
    · exact hg
    · exfalso
      rw [tsP, if_neg hg] at h6
      simp only [fltF] at h6
      split at h6
      · cases h6
      · omega
  have hts : tsP b = jw2 (tpP b) := by rw [tsP, if_pos ht]; rfl
  have hc : 2 ≤ cntP b ∧ cntP b ≤ 18 := by
    have h2' := h2
    simp only [fltF] at h2'
    split at h2'
    · cases h2'
    · unfold cntP; omega
  refine ⟨ht.1, ht.2, hc.1, hc.2, ?_⟩
  have hbw : ∀ l : List UInt8, ∀ f ∈ bwF l, f.lo = f.hi := by
    intro l f hf
    simp [bwF] at hf
    obtain ⟨x, _, rfl⟩ := hf
    rfl
  have E : Exact b 0 (headF (jw2 (tpP b)) (jw2 (cntP b)) (jw2 ((cntP b : Int) - 1))) := by
    unfold headF
    refine exact_app b _ _ 0 ?_ ?_
    · rw [hts] at h1
      refine exact_of_flt b _ 0 ?_ h1
      intro f hf
      simp only [List.mem_append, List.mem_cons, List.not_mem_nil, or_false] at hf
      rcases hf with (hf | hf) | hf
      · exact hbw _ f hf
      · rw [hf]; rfl
      · exact hbw _ f hf
    · rw [hts] at w2
      rw [w2]
      have hcj : jw (cntP b : Int) = cntP b := jw_nat _ (by omega)
      refine ⟨hcj, ?_, trivial⟩
      have h7 := h2
      rw [fltF] at h7
      split at h7
      · cases h7
      · rw [fltF] at h7
        split at h7
        · cases h7
        · show jw ((cntP b : Int) - 1) = _
          simp only at *
          omega
  have := layB_exact b _ 0 (by rw [headF_wid]; omega) E
  rw [headF_wid] at this
  rw [this]; rfl
/-- entries that were taken -/
def TkOk (l : List UInt8) (T : Nat) : Nat → Nat → Nat → List En → Prop
  | 0, _, _, R => R = []
  | k + 1, place, begin, R => ∃ (m : Nat) (R' : List En), fltF ((l.drop place).take 64) 0 (rowW T l.length place begin).fds = none ∧ fldI ((l.drop place).take 64) 32 8 = m ∧ begin + m ≤ T ∧ R = enP ((l.drop place).take 64) place begin :: R' ∧ TkOk l T k (place + 64) (up8 (begin + m)) R'
theorem up8_le {n T : Nat} (h : n ≤ T) (hT : T % 8 = 0) : up8 n ≤ T := by unfold up8; omega
theorem tkF_ok (l : List UInt8) (T : Nat) (hT : T ≤ 1000000000000) (hT8 : T % 8 = 0) : ∀ (k place begin : Nat) (E : List En), begin ≤ T → (tkF l T k place begin E).2 = none → ∃ R, (tkF l T k place begin E).1 = E ++ R ∧ TkOk l T k place begin R
  | 0, _, _, E, _, _ => ⟨[], by simp [tkF], rfl⟩
  | k + 1, place, begin, E, hb, h => by
    cases hf : fltF ((l.drop place).take 64) 0 (rowW T l.length place begin).fds with
    | some a => rw [tk_some hf] at h; cases h
    | none =>
      obtain ⟨m, hm, hle⟩ := rd_of hT hb hf
      rw [tk_none hf, hm.eq, Int.toNat_natCast] at h ⊢
      obtain ⟨R, h1, h2⟩ := tkF_ok l T hT hT8 k (place + 64) (up8 (begin + m)) _ (up8_le hle hT8) h
      exact ⟨enP ((l.drop place).take 64) place begin :: R, by rw [h1]; simp, m, R, hf, hm.eq, hle, rfl, h2⟩
theorem tk_len (l : List UInt8) (T : Nat) : ∀ (k place begin : Nat) (R : List En), TkOk l T k place begin R → R.length = k
  | 0, _, _, R, h => by have h : R = [] := h; rw [h]; rfl
  | k + 1, place, begin, R, ⟨m, R', _, _, _, h, h2⟩ => by rw [h, List.length_cons, tk_len l T k _ _ R' h2]
/-- an entry's bounds -/
structure EnOk (T : Nat) (e : En) : Prop where
  na0 : 0 ≤ e.na
  na1 : e.na ≤ 4294967295
  bg : 0 ≤ e.bg
  be : e.bg ≤ e.en
  en : e.en ≤ T
  up : up8 e.en.toNat ≤ T
theorem fld4 (l : List UInt8) (o : Nat) : 0 ≤ fldI l o 4 ∧ fldI l o 4 ≤ 4294967295 := by
  have h := nmB_lt ((l.drop o).take 4)
  have h4 : 256 ^ ((l.drop o).take 4).length ≤ 256 ^ 4 := Nat.pow_le_pow_right (by omega) (by rw [List.length_take]; omega)
  have h5 : (256 : Nat) ^ 4 = 4294967296 := by decide
  unfold fldI
  rw [wrap64_small _ (by omega)]
  omega
theorem tk_ok (l : List UInt8) (T : Nat) (hT8 : T % 8 = 0) : ∀ (k place begin : Nat) (R : List En), TkOk l T k place begin R → ∀ e ∈ R, EnOk T e
  | 0, _, _, R, h, e, he => by have h : R = [] := h; rw [h] at he; cases he
  | k + 1, place, begin, R, ⟨m, R', _, hm, hle, h, h2⟩, e, he => by
    rw [h] at he
    rcases List.mem_cons.1 he with he | he
    · have h4 := fld4 ((l.drop place).take 64) 0
      have he2 : e.en = (begin : Int) + m := by rw [he]; show (begin : Int) + fldI _ 32 8 = _; rw [hm]
      have hb2 : e.bg = begin := by rw [he]; rfl
      have hn2 : e.na = fldI ((l.drop place).take 64) 0 4 := by rw [he]; rfl
      refine ⟨by omega, by omega, by omega, by omega, by omega, ?_⟩
      have : e.en.toNat = begin + m := by omega
      rw [this]; exact up8_le hle hT8
    · exact tk_ok l T hT8 k _ _ R' h2 e he
/-- without its name -/
def noNm (e : En) : En := { e with nm := [] }
theorem nmG_but (N : List (List UInt8)) : ∀ (R : List En) (b : Nat), (nmG N b R).1.map noNm = R.map noNm
  | [], b => rfl
  | e :: r, b => by
    unfold nmG
    split
    · rfl
    · split
      · rfl
      · simp only [List.map_cons, nmG_but N r]
        rfl
theorem noNm_ok {T : Nat} {e e' : En} (h : noNm e = noNm e') (hk : EnOk T e') : EnOk T e := by
  have h1 : (noNm e).na = (noNm e').na := by rw [h]
  have h2 : (noNm e).bg = (noNm e').bg := by rw [h]
  have h3 : (noNm e).en = (noNm e').en := by rw [h]
  simp only [noNm] at h1 h2 h3
  exact ⟨by rw [h1]; exact hk.na0, by rw [h1]; exact hk.na1, by rw [h2]; exact hk.bg, by rw [h2, h3]; exact hk.be, by rw [h3]; exact hk.en, by rw [h3]; exact hk.up⟩
theorem but_ok {T : Nat} {A B : List En} (h : A.map noNm = B.map noNm) (hk : ∀ e ∈ B, EnOk T e) : ∀ e ∈ A, EnOk T e := by
  intro e he
  have : noNm e ∈ B.map noNm := by rw [← h]; exact List.mem_map_of_mem he
  obtain ⟨e', he', hee⟩ := List.mem_map.1 this
  exact noNm_ok hee.symm (hk e' he')
theorem but_len {A B : List En} (h : A.map noNm = B.map noNm) : A.length = B.length := by
  have := congrArg List.length h
  simpa using this
/-- the last one -/
def lastE (E : List En) : En := (E[E.length - 1]?).getD ⟨0, [], 0, 0, 0, 0, 0, 0, 0, 0, 0⟩
/-- what Read answers -/
def rdEl (b : List UInt8) : Option (List Sec) × Int × Int :=
  if b.length < 64 then (none, b.length, 90) else
  match hdFlt b with
  | some a => (none, (a : Nat), 91)
  | none => match (tkF b (tpP b).toNat (cntP b) (tpP b).toNat 64 []).2 with
    | some a => (none, (a : Nat), 92)
    | none => match padF b (tkF b (tpP b).toNat (cntP b) (tpP b).toNat 64 []).1 with
      | some a => (none, (a : Nat), 93)
      | none => if (tnR b (tkF b (tpP b).toNat (cntP b) (tpP b).toNat 64 []).1 (lastE (tkF b (tpP b).toNat (cntP b) (tpP b).toNat 64 []).1).bg.toNat (lastE (tkF b (tpP b).toNat (cntP b) (tpP b).toNat 64 []).1).en.toNat).2.1 then (none, (tnR b (tkF b (tpP b).toNat (cntP b) (tpP b).toNat 64 []).1 (lastE (tkF b (tpP b).toNat (cntP b) (tpP b).toNat 64 []).1).bg.toNat (lastE (tkF b (tpP b).toNat (cntP b) (tpP b).toNat 64 []).1).en.toNat).1, 92)
        else (some ((((tnR b (tkF b (tpP b).toNat (cntP b) (tpP b).toNat 64 []).1 (lastE (tkF b (tpP b).toNat (cntP b) (tpP b).toNat 64 []).1).bg.toNat (lastE (tkF b (tpP b).toNat (cntP b) (tpP b).toNat 64 []).1).en.toNat).2.2.drop 1).take (cntP b - 2)).map (secE b)), 0, 0)
/-- what Read goes through -/
structure Rdg (b : List UInt8) (T k : Nat) (E : List En) (nb : En) : Prop where
  hT : 64 ≤ T
  h8 : T % 8 = 0
  hk : T + 64 * k = b.length
  k2 : 2 ≤ k
  k18 : k ≤ 18
  tp : tpP b = T
  cnt : cntP b = k
  tk : tkF b T k T 64 [] = (E, none)
  ok : TkOk b T k T 64 E
  len : E.length = k
  all : ∀ e ∈ E, EnOk T e
  last : E[E.length - 1]? = some nb
theorem rdg_of {b : List UInt8} (hl : 64 ≤ b.length) (hb : b.length ≤ 1000000000000) (h : hdFlt b = none) (h2 : (tkF b (tpP b).toNat (cntP b) (tpP b).toNat 64 []).2 = none) : ∃ T k E nb, Rdg b T k E nb := by
  obtain ⟨a1, a2, a3, a4, _⟩ := hd_facts hl h
  obtain ⟨T, hT⟩ : ∃ T : Nat, tpP b = T := ⟨(tpP b).toNat, by omega⟩
  have hk : T + 64 * cntP b = b.length := by unfold tpP at hT; omega
  rw [hT, Int.toNat_natCast] at h2
  obtain ⟨R, h3, h4⟩ := tkF_ok b T (by omega) (by omega) (cntP b) T 64 [] (by omega) h2
  have hlen := tk_len b T _ _ _ R h4
  rw [List.nil_append] at h3
  refine ⟨T, cntP b, R, R[R.length - 1]'(by omega), by omega, by omega, hk, a3, a4, hT, rfl, Prod.ext h3 h2, h4, hlen, tk_ok b T (by omega) _ _ _ R h4, List.getElem?_eq_getElem _⟩
theorem rdEl_short {b : List UInt8} (h : b.length < 64) : rdEl b = (none, (b.length : Int), 90) := by rw [rdEl, if_pos h]
theorem rdEl_head {b : List UInt8} {a : Nat} (h : 64 ≤ b.length) (h1 : hdFlt b = some a) : rdEl b = (none, (a : Int), 91) := by rw [rdEl, if_neg (by omega), h1]
theorem rdEl_tk {b : List UInt8} {a : Nat} (h : 64 ≤ b.length) (h1 : hdFlt b = none) (h2 : (tkF b (tpP b).toNat (cntP b) (tpP b).toNat 64 []).2 = some a) : rdEl b = (none, (a : Int), 92) := by rw [rdEl, if_neg (by omega), h1]; simp only [h2]
theorem rdEl_pad {b : List UInt8} {a T k : Nat} {E : List En} {nb : En} (h1 : hdFlt b = none) (r : Rdg b T k E nb) (h2 : padF b E = some a) : rdEl b = (none, (a : Int), 93) := by
  have := r.hk; have := r.k2
  rw [rdEl, if_neg (by omega), h1]
  simp only [r.tp, r.cnt, Int.toNat_natCast, r.tk, h2]
theorem last_of {b : List UInt8} {T k : Nat} {E : List En} {nb : En} (r : Rdg b T k E nb) : lastE E = nb := by rw [lastE, r.last]; rfl
theorem rdEl_nm {b : List UInt8} {T k : Nat} {E : List En} {nb : En} (h1 : hdFlt b = none) (r : Rdg b T k E nb) (h2 : padF b E = none) (h3 : (tnR b E nb.bg.toNat nb.en.toNat).2.1 = true) : rdEl b = (none, (tnR b E nb.bg.toNat nb.en.toNat).1, 92) := by
  have := r.hk; have := r.k2
  rw [rdEl, if_neg (by omega), h1]
  simp only [r.tp, r.cnt, Int.toNat_natCast, r.tk, h2, last_of r, h3, if_true]
theorem rdEl_ok {b : List UInt8} {T k : Nat} {E : List En} {nb : En} (h1 : hdFlt b = none) (r : Rdg b T k E nb) (h2 : padF b E = none) (h3 : (tnR b E nb.bg.toNat nb.en.toNat).2.1 = false) : rdEl b = (some ((((tnR b E nb.bg.toNat nb.en.toNat).2.2.drop 1).take (k - 2)).map (secE b)), 0, 0) := by
  have := r.hk; have := r.k2
  rw [rdEl, if_neg (by omega), h1]
  simp only [r.tp, r.cnt, Int.toNat_natCast, r.tk, h2, last_of r, h3]
  rfl
theorem tnR_but {b : List UInt8} {E : List En} {B0 E1 : Nat} (h : (tnR b E B0 E1).2.1 = false) : (tnR b E B0 E1).2.2.map noNm = E.map noNm := by
  unfold tnR at h ⊢
  split at h
  · cases h
  · split at h
    · cases h
    · rename_i N hN _ h4
      simp only [hN, h4]
      rw [List.map_append, nmG_but, ← List.map_append, List.take_append_drop]
end Go.Proofs.Ytcalbhcgimipeaa
