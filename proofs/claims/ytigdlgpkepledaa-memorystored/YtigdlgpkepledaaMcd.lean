import Derived.Test.YtigdlgpkepledaaMcc
namespace Go.Proofs.Ytigdlgpkepledaa
open Go.RowKit
set_option linter.unusedVariables false
set_option linter.unusedSimpArgs false
/-- two lists by rising first parts, of the same pairs, are one -/
theorem sorted_eq : ∀ (P Q : List (Nat × List UInt8)), P.Pairwise (fun a b => a.1 < b.1) → Q.Pairwise (fun a b => a.1 < b.1) → P.Perm Q → P = Q
  | [], Q, _, _, h => (List.nil_perm.1 h).symm
  | a :: P, [], _, _, h => by simpa using h.length_eq
  | a :: P, b :: Q, hp, hq, h => by
    obtain ⟨h1, h2⟩ := List.pairwise_cons.1 hp
    obtain ⟨h3, h4⟩ := List.pairwise_cons.1 hq
    have e : a = b := by
      rcases List.mem_cons.1 (h.mem_iff.1 (List.mem_cons_self)) with e | ha
      · exact e
      · rcases List.mem_cons.1 (h.mem_iff.2 (List.mem_cons_self)) with e | hb
        · exact e.symm
        · have := h1 b hb
          have := h3 a ha
          omega
    subst e
    rw [sorted_eq P Q h2 h4 (List.Perm.cons_inv h)]
theorem srt_fd {R : List Rg} (h : Srt R) : (R.map fdR).Pairwise (fun a b => a.1 < b.1) := List.pairwise_map.2 h
/-- one pair's bytes are others -/
def updP (f : Nat) (d : List UInt8) (p : Nat × List UInt8) : Nat × List UInt8 := if p.1 = f then (p.1, d) else p
theorem fd_upd (f : Nat) (d : List UInt8) (z : Rg) : fdR (updR f d z) = updP f d (fdR z) := by
  unfold updR updP fdR
  by_cases h : z.f = f <;> simp [h]
theorem heldP_fd (M : List Rg) (at_ k : Nat) : heldP M at_ k = (M.map fdR).any fun p => decide (k ≤ p.2.length) && decide (p.1 ≤ at_) && decide (at_ - p.1 ≤ p.2.length - k) := by
  unfold heldP
  rw [List.any_map]
  rfl
theorem any_perm {α : Type} {P Q : List α} (h : P.Perm Q) (f : α → Bool) : P.any f = Q.any f := by
  rw [Bool.eq_iff_iff, List.any_eq_true, List.any_eq_true]
  exact ⟨fun ⟨x, hx, hf⟩ => ⟨x, h.mem_iff.1 hx, hf⟩, fun ⟨x, hx, hf⟩ => ⟨x, h.mem_iff.2 hx, hf⟩⟩
theorem held_told {F E R : List Rg} (h : SpOk F E) (hp : (R.map fdR).Perm ((F ++ E).map fdR)) (at_ k : Nat) (hk : 0 < k) : heldP R at_ k = (acP F at_ k).isSome := by
  rw [heldP_fd, any_perm hp, ← heldP_fd]
  exact held_acP h (fun x => by simp) at_ k hk
/-- a told region with a byte is a filled one -/
theorem told_fill {F E R : List Rg} (h : SpOk F E) (hp : (R.map fdR).Perm ((F ++ E).map fdR)) {z : Rg} (hz : z ∈ R) (hd : 0 < z.d.length) : ∃ u ∈ F, u.f = z.f ∧ u.d = z.d := by
  have h1 : fdR z ∈ (F ++ E).map fdR := hp.mem_iff.1 (List.mem_map.2 ⟨z, hz, rfl⟩)
  obtain ⟨u, hu, e⟩ := List.mem_map.1 h1
  simp only [fdR, Prod.mk.injEq] at e
  rcases List.mem_append.1 hu with hu | hu
  · exact ⟨u, hu, e.1, e.2⟩
  · have := (h.ed u hu).1
    rw [← e.2, this] at hd
    simp at hd
/-- a byte as the store has left it -/
def wantB (st : Option (Rg × Nat)) (at_ k x a : Nat) (b : UInt8) : UInt8 := match st with | none => b | some _ => if at_ ≤ a ∧ a - at_ < k then UInt8.ofNat (x / 2 ^ (8 * (a - at_)) % 256) else b
/-- the filled ones behind a store -/
def stoF (F : List Rg) (at_ k x : Nat) : List Rg := match acP F at_ k with | none => F | some (y, o) => F.map (updR y.f (layL y.d o (bysN x k)))
theorem stoF_ok {F E : List Rg} (h : SpOk F E) (at_ k x : Nat) : SpOk (stoF F at_ k x) E := by
  unfold stoF
  cases hacc : acP F at_ k with
  | none => exact h
  | some p =>
    obtain ⟨y, o⟩ := p
    obtain ⟨h1, h2, h3, h4⟩ := acP_some h.sf hacc
    refine h.upd y.f _ (fun z hz e => ?_)
    rw [srt_one h.sf hz h1 e]
    exact layL_len _ _ _ (by rw [bysN_len]; omega)
/-- what is told ahead of a store and behind it, region by region -/
theorem told_two {F E R1 R2 : List Rg} (h : SpOk F E) (at_ k x : Nat) (s1 : Srt R1) (s2 : Srt R2) (p1 : (R1.map fdR).Perm ((F ++ E).map fdR)) (p2 : (R2.map fdR).Perm ((stoF F at_ k x ++ E).map fdR)) :
    R1.length = R2.length ∧ ∀ (i : Nat) (z1 z2 : Rg), R1[i]? = some z1 → R2[i]? = some z2 → z1.f = z2.f ∧ z1.d.length = z2.d.length ∧ z1.f + z1.d.length ≤ 18446744073709551616 ∧ ∀ j b, z1.d[j]? = some b → z2.d[j]? = some (wantB (acP F at_ k) at_ k x (z1.f + j) b) ∧ LoadP (stoF F at_ k x) (z1.f + j) 1 = ((wantB (acP F at_ k) at_ k x (z1.f + j) b).toNat, 0) := by
  have key : ∀ (G : List Rg), SpOk G E → ∀ (z2 : Rg), (∃ u ∈ G, u.f = z2.f ∧ u.d = z2.d) → ∀ j (c : UInt8), z2.d[j]? = some c → LoadP G (z2.f + j) 1 = (c.toNat, 0) := fun G hG z2 ⟨u, hu, e1, e2⟩ j c hc => by
    have hj := (List.getElem?_eq_some_iff.1 hc).1
    rw [← e1, LoadP, acP_in hG hu (o := j) (n := 1) (by rw [e2]; exact hj) (by rw [e2]; omega)]
    simp only
    rw [e2]
    have e3 : (z2.d.drop j).take 1 = [c] := by
      obtain ⟨h1, h2⟩ := List.getElem?_eq_some_iff.1 hc
      rw [List.drop_eq_getElem_cons h1, h2]
      rfl
    rw [e3]
    simp [numL]
  have bnd : ∀ z1 ∈ R1, z1.f + z1.d.length ≤ 18446744073709551616 := fun z1 hz => by
    by_cases hd : 0 < z1.d.length
    · obtain ⟨u, hu, e1, e2⟩ := told_fill h p1 hz hd
      have := (h.fd u hu).2
      rw [e1, e2] at this
      exact this
    · have h1 : fdR z1 ∈ (F ++ E).map fdR := p1.mem_iff.1 (List.mem_map.2 ⟨z1, hz, rfl⟩)
      obtain ⟨u, hu, e⟩ := List.mem_map.1 h1
      simp only [fdR, Prod.mk.injEq] at e
      rcases List.mem_append.1 hu with hu | hu
      · have := (h.fd u hu).2; rw [e.1, e.2] at this; exact this
      · have := (h.ed u hu).2; rw [e.1] at this; omega
  have hok2 := stoF_ok h at_ k x
  unfold stoF at p2 hok2 ⊢
  cases hacc : acP F at_ k with
  | none =>
    rw [hacc] at p2 hok2
    simp only at p2 hok2 ⊢
    have he := sorted_eq _ _ (srt_fd s1) (srt_fd s2) (p1.trans p2.symm)
    have hl : R1.length = R2.length := by simpa using congrArg List.length he
    refine ⟨hl, fun i z1 z2 hz1 hz2 => ?_⟩
    have e : fdR z1 = fdR z2 := by
      have h1 : (R1.map fdR)[i]? = some (fdR z1) := by rw [List.getElem?_map, hz1]; rfl
      have h2 : (R2.map fdR)[i]? = some (fdR z2) := by rw [List.getElem?_map, hz2]; rfl
      rw [he, h2] at h1
      exact (Option.some.inj h1).symm
    simp only [fdR, Prod.mk.injEq] at e
    refine ⟨e.1, by rw [e.2], bnd z1 (List.mem_of_getElem? hz1), fun j b hb => ⟨by rw [← e.2]; exact hb, ?_⟩⟩
    exact key F h z1 (told_fill h p1 (List.mem_of_getElem? hz1) (Nat.lt_of_le_of_lt (Nat.zero_le _) (List.getElem?_eq_some_iff.1 hb).1)) j b hb
  | some p =>
    obtain ⟨y, o⟩ := p
    rw [hacc] at p2 hok2
    simp only at p2 hok2 ⊢
    obtain ⟨h1, h2, h3, h4⟩ := acP_some h.sf hacc
    have hll : (layL y.d o (bysN x k)).length = y.d.length := layL_len _ _ _ (by rw [bysN_len]; omega)
    have hmap : (F.map (updR y.f (layL y.d o (bysN x k))) ++ E).map fdR = ((F ++ E).map fdR).map (updP y.f (layL y.d o (bysN x k))) := by
      rw [List.map_append, List.map_append, List.map_append, List.map_map, List.map_map, List.map_map]
      congr 1
      · apply List.map_congr_left
        intro z _
        exact fd_upd _ _ z
      · apply List.map_congr_left
        intro z hz
        have := h.ne y h1 z hz
        show fdR z = updP y.f _ (fdR z)
        unfold updP
        rw [if_neg (show ¬ (fdR z).1 = y.f from fun e => this e.symm)]
    rw [hmap] at p2
    have hs : ((R1.map fdR).map (updP y.f (layL y.d o (bysN x k)))).Pairwise (fun a b => a.1 < b.1) := by
      rw [List.pairwise_map]
      exact (srt_fd s1).imp (fun {a b} hab => by
        have e1 : ∀ p, (updP y.f (layL y.d o (bysN x k)) p).1 = p.1 := fun p => by unfold updP; split <;> rfl
        rw [e1, e1]; exact hab)
    have he := sorted_eq _ _ hs (srt_fd s2) ((p1.map _).trans p2.symm)
    have hl : R1.length = R2.length := by simpa using congrArg List.length he
    refine ⟨hl, fun i z1 z2 hz1 hz2 => ?_⟩
    have e : updP y.f (layL y.d o (bysN x k)) (fdR z1) = fdR z2 := by
      have h1 : ((R1.map fdR).map (updP y.f (layL y.d o (bysN x k))))[i]? = some (updP y.f (layL y.d o (bysN x k)) (fdR z1)) := by rw [List.getElem?_map, List.getElem?_map, hz1]; rfl
      have h2 : (R2.map fdR)[i]? = some (fdR z2) := by rw [List.getElem?_map, hz2]; rfl
      rw [he, h2] at h1
      exact (Option.some.inj h1).symm
    have hz1m := List.mem_of_getElem? hz1
    by_cases hf : z1.f = y.f
    · have e2 : z2.f = z1.f ∧ z2.d = layL y.d o (bysN x k) := by
        simp only [updP, fdR, hf, if_true, Prod.mk.injEq] at e
        exact ⟨by rw [← e.1, hf], e.2.symm⟩
      have hdy : z1.d = y.d := by
        have h9 : fdR z1 ∈ (F ++ E).map fdR := p1.mem_iff.1 (List.mem_map.2 ⟨z1, hz1m, rfl⟩)
        obtain ⟨u, hu, e9⟩ := List.mem_map.1 h9
        simp only [fdR, Prod.mk.injEq] at e9
        rcases List.mem_append.1 hu with hu | hu
        · rw [← e9.2, srt_one h.sf hu h1 (e9.1.trans hf)]
        · exact absurd (e9.1.trans hf).symm (h.ne y h1 u hu)
      refine ⟨e2.1.symm, by rw [e2.2, hll, hdy], bnd z1 hz1m, fun j b hb => ?_⟩
      have hg : z2.d[j]? = some (wantB (some (y, o)) at_ k x (z1.f + j) b) := by
        rw [e2.2, layL_get _ _ _ (by rw [bysN_len]; omega), bysN_len]
        unfold wantB
        simp only
        by_cases hj : o ≤ j ∧ j < o + k
        · rw [if_pos hj, if_pos (by omega), bysN_get _ _ _ (by omega), show z1.f + j - at_ = j - o by omega]
        · rw [if_neg hj, if_neg (by omega), ← hdy]; exact hb
      refine ⟨hg, ?_⟩
      rw [← e2.1]
      exact key _ hok2 z2 ⟨updR y.f (layL y.d o (bysN x k)) y, List.mem_map.2 ⟨y, h1, rfl⟩, by rw [updR_f, e2.1, hf], by rw [e2.2]; simp [updR]⟩ j _ (by rw [e2.1]; exact hg)
    · have e2 : z2.f = z1.f ∧ z2.d = z1.d := by
        rw [show updP y.f (layL y.d o (bysN x k)) (fdR z1) = fdR z1 by unfold updP; rw [if_neg (show ¬ (fdR z1).1 = y.f from hf)]] at e
        simp only [fdR, Prod.mk.injEq] at e
        exact ⟨e.1.symm, e.2.symm⟩
      refine ⟨e2.1.symm, by rw [e2.2], bnd z1 hz1m, fun j b hb => ?_⟩
      have hjl := (List.getElem?_eq_some_iff.1 hb).1
      obtain ⟨u, hu, u1, u2⟩ := told_fill h p1 hz1m (by omega)
      have hno : ¬ (at_ ≤ z1.f + j ∧ z1.f + j - at_ < k) := fun ⟨q1, q2⟩ => by
        have a1 := acP_in h hu (o := j) (n := 1) (by rw [u2]; exact hjl) (by rw [u2]; omega)
        have a2 := acP_in h h1 (o := z1.f + j - y.f) (n := 1) (by omega) (by omega)
        rw [u1] at a1
        rw [show y.f + (z1.f + j - y.f) = z1.f + j by omega, a1] at a2
        simp only [Option.some.injEq, Prod.mk.injEq] at a2
        exact hf (by rw [← u1, a2.1])
      have hw : wantB (some (y, o)) at_ k x (z1.f + j) b = b := by unfold wantB; simp only; rw [if_neg hno]
      rw [hw]
      refine ⟨by rw [e2.2]; exact hb, ?_⟩
      rw [← e2.1]
      have hun : updR y.f (layL y.d o (bysN x k)) u = u := by unfold updR; rw [if_neg (by rw [u1]; exact hf)]
      exact key _ hok2 z2 ⟨u, List.mem_map.2 ⟨u, hu, hun⟩, by rw [u1, e2.1], by rw [u2, e2.2]⟩ j b (by rw [e2.2]; exact hb)
/-- what is loaded of a store -/
theorem load_back {F E : List Rg} (h : SpOk F E) (at_ k x : Nat) (hk : 0 < k) (hx : x < 2 ^ (8 * k)) : LoadP (stoF F at_ k x) at_ k = if (acP F at_ k).isSome then (x, 0) else (0, 200) := by
  unfold stoF
  cases hacc : acP F at_ k with
  | none => simp [LoadP, hacc]
  | some p =>
    obtain ⟨y, o⟩ := p
    simp only
    obtain ⟨h1, h2, h3, h4⟩ := acP_some h.sf hacc
    have hll : (layL y.d o (bysN x k)).length = y.d.length := layL_len _ _ _ (by rw [bysN_len]; omega)
    rw [LoadP, acP_upd h y.f _ (fun z hz e => by rw [srt_one h.sf hz h1 e]; exact hll), hacc]
    simp only [Option.map_some, Option.isSome_some, if_true]
    have e1 : (updR y.f (layL y.d o (bysN x k)) y).d = layL y.d o (bysN x k) := by simp [updR]
    rw [e1]
    have := layL_in y.d o (bysN x k) (by rw [bysN_len]; omega)
    rw [bysN_len] at this
    rw [this, numL_bys, Nat.mod_eq_of_lt hx]
end Go.Proofs.Ytigdlgpkepledaa
