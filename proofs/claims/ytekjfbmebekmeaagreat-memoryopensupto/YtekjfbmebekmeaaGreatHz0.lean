import Derived.Test.YtekjfbmebekmeaaGreatMcv
import Derived.Test.YtekjfbmebekmeaaGreatMcu
namespace Go.Proofs.YtekjfbmebekmeaaGreat
open Go.RowKit
set_option linter.unusedVariables false
set_option linter.unusedSimpArgs false
/-- a region clashes with a space where it clashes with one of its regions -/
theorem clP_any {F E : List Rg} (h : SpOk F E) (f n : Nat) : clP F E f n = (F ++ E).any (fun x => cl1 x.f x.d.length f n) := by
  rw [Bool.eq_iff_iff, List.any_eq_true]
  unfold clP
  simp only [Bool.or_eq_true, List.any_eq_true, beq_iff_eq, Bool.and_eq_true, Bool.not_eq_true', beq_eq_false_iff_ne]
  constructor
  · rintro ((⟨x, hx, e⟩ | ⟨x, hx, e⟩) | ⟨hn, hm⟩)
    · exact ⟨x, List.mem_append_left _ hx, (cl1_iff ..).2 (.inl e)⟩
    · exact ⟨x, List.mem_append_right _ hx, (cl1_iff ..).2 (.inl e)⟩
    · rcases upF_hit h.sf (f + (n - 1)) with ⟨y, hy, hyF, hyl, hq1, hq2⟩ | ⟨hy, _⟩
      · rw [hy] at hm
        simp only [decide_eq_true_eq] at hm
        have hm2 := hm
        clear hq1 hq2
        have := h.fd y hyF
        refine ⟨y, List.mem_append_left _ hyF, (cl1_iff ..).2 ?_⟩
        omega
      · rw [hy] at hm; cases hm
  · rintro ⟨x, hx, hc⟩
    have hc := (cl1_iff ..).1 hc
    rcases List.mem_append.1 hx with hx | hx
    · rcases hc with e | ⟨c1, c2, c3⟩
      · exact .inl (.inl ⟨x, hx, e⟩)
      · refine .inr ⟨by omega, ?_⟩
        rcases upF_hit h.sf (f + (n - 1)) with ⟨y, hy, hyF, hyl, hq1, hyu⟩ | ⟨_, hno⟩
        · clear hq1
          rw [hy]
          have hxy := hyu x hx (by omega)
          have hyd := h.fd y hyF
          have hxd := h.fd x hx
          refine decide_eq_true ?_
          rcases c3 with ⟨c3, c4⟩ | ⟨c3, c4⟩
          · omega
          · by_cases he : x.f = y.f
            · have e := srt_one h.sf hx hyF he
              rw [← e]
              omega
            · have hap : x.f + x.d.length ≤ y.f := by
                obtain ⟨i, hi⟩ := List.getElem?_of_mem hx
                obtain ⟨j, hj⟩ := List.getElem?_of_mem hyF
                have hil := (List.getElem?_eq_some_iff.1 hi).1
                have hjl := (List.getElem?_eq_some_iff.1 hj).1
                have hix := (List.getElem?_eq_some_iff.1 hi).2
                have hjy := (List.getElem?_eq_some_iff.1 hj).2
                by_cases hij : i < j
                · have := (List.pairwise_iff_getElem.1 h.ap) i j hil hjl hij
                  rw [hix, hjy] at this
                  exact this
                · exfalso
                  have hne : i ≠ j := fun e => by
                    subst e
                    rw [hix] at hjy
                    exact he (by rw [hjy])
                  have := (List.pairwise_iff_getElem.1 h.ap) j i hjl hil (by omega)
                  rw [hix, hjy] at this
                  omega
              omega
        · have := hno x hx
          omega
    · rcases hc with e | ⟨c1, _, _⟩
      · exact .inl (.inr ⟨x, hx, e⟩)
      · rw [(h.ed x hx).1] at c1
        simp at c1
/-- a region that comes in, as a pair -/
def fdI (x : RI) : Nat × List UInt8 := (x.f, x.d)
theorem ins_perm {F F' : List Rg} {x : Rg} (h : InsP F x F') : F'.Perm (F ++ [x]) := h.perm.trans (List.perm_append_singleton x F).symm
/-- what has been put in is what stands in the space -/
theorem run_all {L : List RI} {F E : List Rg} (h : Run L F E) (hb : ∀ x ∈ L, x.f < 18446744073709551616) : SpOk F E ∧ ((F ++ E).map fdR).Perm (L.map fdI) := by
  induction h with
  | nil => exact ⟨SpOk.nil, List.Perm.refl _⟩
  | addE L F E E' r x h1 h2 h3 h4 h5 h6 ih =>
    obtain ⟨a1, a2⟩ := ih (fun y hy => hb y (List.mem_append_left _ hy))
    have hr := hb r (by simp)
    unfold noP at h2
    simp only [Bool.or_eq_false_iff, Bool.not_eq_false'] at h2
    refine ⟨a1.addE h6 (by rw [h4, h5]; exact h2.2) (h5.trans h3) (by rw [h4]; exact hr), ?_⟩
    rw [List.map_append, List.map_append]
    refine ((List.Perm.append_left _ ((ins_perm h6).map fdR))).trans ?_
    rw [List.map_append, ← List.append_assoc, ← List.map_append]
    refine (a2.append_right _).trans ?_
    simp [fdR, fdI, h4, h5]
  | addF L F E F' r x h1 h2 h3 h4 h5 h6 ih =>
    obtain ⟨a1, a2⟩ := ih (fun y hy => hb y (List.mem_append_left _ hy))
    have hr := hb r (by simp)
    unfold noP at h2
    simp only [Bool.or_eq_false_iff, Bool.not_eq_false'] at h2
    have hd : 0 < r.d.length := List.length_pos_iff.2 h3
    have hm : r.f + r.d.length ≤ 18446744073709551616 := by
      have h7 := h2.1
      unfold mayR at h7
      simp only [Bool.or_eq_true, beq_iff_eq, decide_eq_true_eq] at h7
      omega
    refine ⟨a1.addF h6 (by rw [h4, h5]; exact h2.2) (by rw [h5]; exact hd) (by rw [h4, h5]; exact hm), ?_⟩
    rw [List.map_append, List.map_append]
    refine ((List.Perm.append_right _ ((ins_perm h6).map fdR))).trans ?_
    rw [List.map_append, List.append_assoc]
    refine ((List.Perm.append_left _ List.perm_append_comm)).trans ?_
    rw [← List.append_assoc, ← List.map_append]
    refine (a2.append_right _).trans ?_
    simp [fdR, fdI, h4, h5]
/-- may a region be put behind those ahead, as the document asks it? -/
def noI (P : List RI) (r : RI) : Bool := !mayR r.f r.d.length || P.any (fun x => cl1 x.f x.d.length r.f r.d.length)
theorem noP_I {L : List RI} {F E : List Rg} (h : Run L F E) (hb : ∀ x ∈ L, x.f < 18446744073709551616) (r : RI) : noP F E r = noI L r := by
  obtain ⟨h1, h2⟩ := run_all h hb
  unfold noP noI
  rw [clP_any h1]
  congr 1
  have e1 : (F ++ E).any (fun x => cl1 x.f x.d.length r.f r.d.length) = ((F ++ E).map fdR).any (fun p => cl1 p.1 p.2.length r.f r.d.length) := by rw [List.any_map]; rfl
  have e2 : L.any (fun x => cl1 x.f x.d.length r.f r.d.length) = (L.map fdI).any (fun p => cl1 p.1 p.2.length r.f r.d.length) := by rw [List.any_map]; rfl
  rw [e1, e2]
  exact any_perm h2 _
/-- may all be put in, one behind the other? -/
def okI (L : List RI) : Prop := ∀ k r, L[k]? = some r → noI (L.take k) r = false
theorem run_ok {L : List RI} {F E : List Rg} (h : Run L F E) (hb : ∀ x ∈ L, x.f < 18446744073709551616) : okI L := by
  induction h with
  | nil => intro k r hk; simp at hk
  | addE L F E E' r x h1 h2 h3 h4 h5 h6 ih =>
    have hb' : ∀ x ∈ L, x.f < 18446744073709551616 := fun y hy => hb y (List.mem_append_left _ hy)
    intro k q hk
    by_cases hkl : k < L.length
    · rw [List.getElem?_append_left hkl] at hk
      rw [List.take_append_of_le_length (by omega)]
      exact ih hb' k q hk
    · have hk2 : k = L.length := by
        have := (List.getElem?_eq_some_iff.1 hk).1
        simp at this
        omega
      subst hk2
      simp at hk
      subst hk
      rw [List.take_left]
      rw [← noP_I h1 hb' r]
      exact h2
  | addF L F E F' r x h1 h2 h3 h4 h5 h6 ih =>
    have hb' : ∀ x ∈ L, x.f < 18446744073709551616 := fun y hy => hb y (List.mem_append_left _ hy)
    intro k q hk
    by_cases hkl : k < L.length
    · rw [List.getElem?_append_left hkl] at hk
      rw [List.take_append_of_le_length (by omega)]
      exact ih hb' k q hk
    · have hk2 : k = L.length := by
        have := (List.getElem?_eq_some_iff.1 hk).1
        simp at this
        omega
      subst hk2
      simp at hk
      subst hk
      rw [List.take_left]
      rw [← noP_I h1 hb' r]
      exact h2
/-- New fails just where the document's own does -/
theorem run_not {L : List RI} {F E : List Rg} {k : Nat} {r : RI} (hk : L[k]? = some r) (h : Run (L.take k) F E) (hb : ∀ x ∈ L, x.f < 18446744073709551616) (hno : noP F E r = true) : ¬ okI L := fun ho => by
  have h1 := ho k r hk
  rw [← noP_I h (fun x hx => hb x (List.mem_of_mem_take hx)) r, hno] at h1
  cases h1
end Go.Proofs.YtekjfbmebekmeaaGreat
namespace Go.Proofs.YtekjfbmebekmeaaGreat
open Go.RowKit
set_option linter.unusedVariables false
set_option linter.unusedSimpArgs false
/-- is a region above the last of the k that are told already? -/
def abv (S : List (Nat × List UInt8)) (k : Nat) (p : Nat × List UInt8) : Bool := k == 0 || match S[k - 1]? with | none => true | some q => decide (q.1 < p.1)
/-- the least so far of those that are above -/
def BestI (P : List (Nat × List UInt8)) (ab : Nat × List UInt8 → Bool) (i : Nat) (b : Int) : Prop :=
  (b = -1 ∧ ∀ (j : Nat) q, j < i → P[j]? = some q → ab q = false) ∨ ∃ (b' : Nat) (p : Nat × List UInt8), b = (b' : Int) ∧ b' < i ∧ P[b']? = some p ∧ ab p = true ∧ ∀ (j : Nat) q, j < i → P[j]? = some q → ab q = true → p.1 ≤ q.1
theorem BestI.zero (P : List (Nat × List UInt8)) (ab : Nat × List UInt8 → Bool) : BestI P ab 0 (-1) := .inl ⟨rfl, fun j q h => absurd h (Nat.not_lt_zero _)⟩
theorem lt_succ_or {j i : Nat} (h : j < i + 1) : j < i ∨ j = i := by omega
theorem BestI.pass {P : List (Nat × List UInt8)} {ab : Nat × List UInt8 → Bool} {i : Nat} {b : Int} (h : BestI P ab i b) {q : Nat × List UInt8} (hq : P[i]? = some q) (hn : ab q = false ∨ ∃ (b' : Nat) (p : Nat × List UInt8), b = (b' : Int) ∧ P[b']? = some p ∧ p.1 ≤ q.1) : BestI P ab (i + 1) b := by
  rcases h with ⟨hb, h1⟩ | ⟨b', p, hb, h1, h2, h3, h4⟩
  · rcases hn with hn | ⟨b2, p2, e, _⟩
    · refine .inl ⟨hb, fun j r hj hr => ?_⟩
      rcases lt_succ_or hj with hj | rfl
      · exact h1 j r hj hr
      · rw [hq] at hr; cases hr; exact hn
    · omega
  · refine .inr ⟨b', p, hb, by omega, h2, h3, fun j r hj hr ha => ?_⟩
    rcases lt_succ_or hj with hj | rfl
    · exact h4 j r hj hr ha
    · rw [hq] at hr; cases hr
      rcases hn with hn | ⟨b2, p2, e, e2, e3⟩
      · rw [hn] at ha; cases ha
      · have : b2 = b' := by omega
        subst this
        rw [h2] at e2; cases e2
        exact e3
theorem BestI.take_ {P : List (Nat × List UInt8)} {ab : Nat × List UInt8 → Bool} {i : Nat} {b : Int} (h : BestI P ab i b) {q : Nat × List UInt8} (hq : P[i]? = some q) (ha : ab q = true) (hl : b < 0 ∨ ∃ (b' : Nat) (p : Nat × List UInt8), b = (b' : Int) ∧ P[b']? = some p ∧ q.1 < p.1) : BestI P ab (i + 1) (i : Int) := by
  refine .inr ⟨i, q, rfl, by omega, hq, ha, fun j r hj hr har => ?_⟩
  rcases lt_succ_or hj with hj | rfl
  · rcases h with ⟨hb, h1⟩ | ⟨b', p, hb, h1, h2, h3, h4⟩
    · rw [h1 j r hj hr] at har; cases har
    · have h5 := h4 j r hj hr har
      rcases hl with hl | ⟨b2, p2, e, e2, e3⟩
      · omega
      · have : b2 = b' := by omega
        subst this
        rw [h2] at e2; cases e2
        omega
  · rw [hq] at hr; cases hr; exact Nat.le_refl _
/-- behind the whole list: the next of the sorted ones -/
theorem BestI.all {P S : List (Nat × List UInt8)} {k : Nat} {b : Int} (h : BestI P (abv S k) P.length b) (hp : P.Perm S) (hs : S.Pairwise (fun a b => a.1 < b.1)) (hk : k < S.length) : ∃ (b' : Nat) (p : Nat × List UInt8), b = (b' : Int) ∧ P[b']? = some p ∧ S[k]? = some p := by
  have hlt := List.pairwise_iff_getElem.1 hs
  have hSk : S[k]? = some S[k] := List.getElem?_eq_getElem hk
  have hak : abv S k S[k] = true := by
    unfold abv
    by_cases h0 : k = 0
    · simp [h0]
    · rw [List.getElem?_eq_getElem (show k - 1 < S.length by omega)]
      simp only [Bool.or_eq_true, decide_eq_true_eq]
      exact .inr (hlt (k - 1) k (by omega) hk (by omega))
  obtain ⟨j, hj⟩ := List.getElem?_of_mem (hp.mem_iff.2 (List.getElem_mem hk))
  have hjl := (List.getElem?_eq_some_iff.1 hj).1
  rcases h with ⟨_, h1⟩ | ⟨b', p, hb, h1, h2, h3, h4⟩
  · rw [h1 j _ hjl hj] at hak; cases hak
  · refine ⟨b', p, hb, h2, ?_⟩
    have hle := h4 j _ hjl hj hak
    obtain ⟨m, hm⟩ := List.getElem?_of_mem (hp.mem_iff.1 (List.mem_of_getElem? h2))
    obtain ⟨hml, hme⟩ := List.getElem?_eq_some_iff.1 hm
    have hmk : m = k := by
      rcases Nat.lt_trichotomy m k with hc | hc | hc
      · exfalso
        unfold abv at h3
        rw [List.getElem?_eq_getElem (show k - 1 < S.length by omega)] at h3
        simp only [Bool.or_eq_true, beq_iff_eq, decide_eq_true_eq] at h3
        rcases h3 with h3 | h3
        · omega
        · by_cases hc2 : m = k - 1
          · subst hc2
            rw [hme] at h3
            omega
          · have := hlt m (k - 1) hml (by omega) (by omega)
            rw [hme] at this
            omega
      · exact hc
      · exfalso
        have := hlt k m hk hml hc
        rw [hme] at this
        omega
    rw [← hmk]
    exact hm
end Go.Proofs.YtekjfbmebekmeaaGreat
namespace Go.Proofs.YtekjfbmebekmeaaGreat
open Go.RowKit
set_option linter.unusedVariables false
set_option linter.unusedSimpArgs false
/-- a region that may not be added to these -/
def noQ (P : List (Nat × List UInt8)) (f n : Nat) : Bool := !mayR f n || P.any (fun x => cl1 x.1 x.2.length f n)
theorem noI_Q (L : List RI) (r : RI) : noI L r = noQ (L.map fdI) r.f r.d.length := by
  simp [noI, noQ, List.any_map, fdI, Function.comp_def]
def okQ (P : List (Nat × List UInt8)) : Prop := ∀ (k : Nat) x, P[k]? = some x → noQ (P.take k) x.1 x.2.length = false
theorem okI_Q (L : List RI) : okI L ↔ okQ (L.map fdI) := by
  constructor
  · intro h k x hx
    rw [List.getElem?_map] at hx
    cases hz : L[k]? with
    | none => rw [hz] at hx; cases hx
    | some z =>
      rw [hz] at hx; cases hx
      rw [← List.map_take]
      exact (noI_Q _ _).symm.trans (h k z hz)
  · intro h k r hr
    rw [noI_Q, List.map_take]
    exact h k (fdI r) (by rw [List.getElem?_map, hr]; rfl)
theorem okQ_nil (P : List (Nat × List UInt8)) : okQ (P.take 0) := by
  intro k x hx; simp at hx
theorem okQ_step {P : List (Nat × List UInt8)} {k : Nat} {x : Nat × List UInt8} (h : okQ (P.take k)) (hx : P[k]? = some x) (hn : noQ (P.take k) x.1 x.2.length = false) : okQ (P.take (k + 1)) := by
  have hk : k < P.length := (List.getElem?_eq_some_iff.1 hx).1
  intro j y hy
  have hj : j < k + 1 := by have := (List.getElem?_eq_some_iff.1 hy).1; rw [List.length_take] at this; omega
  rw [List.getElem?_take, if_pos hj] at hy
  rw [List.take_take, Nat.min_eq_left (by omega)]
  by_cases hjk : j = k
  · subst hjk; rw [hx] at hy; cases hy; exact hn
  · have := h j y (by rw [List.getElem?_take, if_pos (by omega)]; exact hy)
    rw [List.take_take, Nat.min_eq_left (by omega)] at this
    exact this
theorem okQ_not {P : List (Nat × List UInt8)} {k : Nat} {x : Nat × List UInt8} (hx : P[k]? = some x) (hn : noQ (P.take k) x.1 x.2.length = true) : ¬ okQ P := fun h => by
  rw [h k x hx] at hn; cases hn
/-- the marks behind a list of so many places -/
def spU (i : Nat) : UInt8 := UInt8.ofNat ((201 - 3 * (i : Int)) % 256).toNat
def spB (k : Nat) : List UInt8 := (List.range (k + 70)).map spU
theorem spB_len (k : Nat) : (spB k).length = k + 70 := by simp [spB]
theorem spU_val (i : Nat) : ((spU i).toNat : Int) = (201 - 3 * (i : Int)) % 256 := by
  unfold spU
  rw [UInt8.toNat_ofNat']
  have h1 := Int.emod_nonneg (201 - 3 * (i : Int)) (by decide : (256 : Int) ≠ 0)
  have h2 := Int.emod_lt_of_pos (201 - 3 * (i : Int)) (by decide : (0 : Int) < 256)
  omega
/-- the marks behind the regions that are lent -/
def mkR (i : Nat) : Nat × List UInt8 := (i, [77])
end Go.Proofs.YtekjfbmebekmeaaGreat
