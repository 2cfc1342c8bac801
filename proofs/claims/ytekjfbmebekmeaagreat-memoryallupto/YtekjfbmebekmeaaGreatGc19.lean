import Derived.Test.YtekjfbmebekmeaaGreatGc18
import Derived.Test.YtekjfbmebekmeaaGreatGc07
namespace Go.Proofs.YtekjfbmebekmeaaGreat
open Go.RowKit
set_option linter.unusedVariables false
set_option linter.unusedSimpArgs false
/-- two lists by rising first parts, of the same pairs, are one -/
theorem sorted_eq : ∀ (P Q : List (Nat × List UInt8)), P.Pairwise (fun a b => a.1 < b.1) → Q.Pairwise (fun a b => a.1 < b.1) → P.Perm Q → P = Q
  | [], Q, _, _, h => (List.nil_perm.1 h).symm
  | a :: P, [], _, _, h => by simpa using h.length_eq
  | a :: P, b :: Q, hp, hq, h => by
    obtain ⟨h1, h2⟩ := List.pairwise_cons.1 hp
    obtain ⟨h3, h4⟩ := List.pairwise_cons.1 hq
    have e : a = b := by
      rcases List.mem_cons.1 (h.mem_iff.1 (List.mem_cons_self)) with e | ha
      · exact e
      · rcases List.mem_cons.1 (h.mem_iff.2 (List.mem_cons_self)) with e | hb
        · exact e.symm
        · have := h1 b hb
          have := h3 a ha
          omega
    subst e
    rw [sorted_eq P Q h2 h4 (List.Perm.cons_inv h)]
theorem srt_fd {R : List Rg} (h : Srt R) : (R.map fdR).Pairwise (fun a b => a.1 < b.1) := List.pairwise_map.2 h
/-- one pair's bytes are others -/
def updP (f : Nat) (d : List UInt8) (p : Nat × List UInt8) : Nat × List UInt8 := if p.1 = f then (p.1, d) else p
theorem fd_upd (f : Nat) (d : List UInt8) (z : Rg) : fdR (updR f d z) = updP f d (fdR z) := by
  unfold updR updP fdR
  by_cases h : z.f = f <;> simp [h]
theorem any_perm {α : Type} {P Q : List α} (h : P.Perm Q) (f : α → Bool) : P.any f = Q.any f := by
  rw [Bool.eq_iff_iff, List.any_eq_true, List.any_eq_true]
  exact ⟨fun ⟨x, hx, hf⟩ => ⟨x, h.mem_iff.1 hx, hf⟩, fun ⟨x, hx, hf⟩ => ⟨x, h.mem_iff.2 hx, hf⟩⟩
end Go.Proofs.YtekjfbmebekmeaaGreat
namespace Go.Proofs.YtekjfbmebekmeaaGreat
open Go.RowKit
set_option linter.unusedVariables false
set_option linter.unusedSimpArgs false
/-- a region clashes with a space where it clashes with one of its regions -/
theorem clP_any {F E : List Rg} (h : SpOk F E) (f n : Nat) : clP F E f n = (F ++ E).any (fun x => cl1 x.f x.d.length f n) := by
  rw [Bool.eq_iff_iff, List.any_eq_true]
  unfold clP
  simp only [Bool.or_eq_true, List.any_eq_true, beq_iff_eq, Bool.and_eq_true, Bool.not_eq_true', beq_eq_false_iff_ne]
  constructor
  · rintro ((⟨x, hx, e⟩ | ⟨x, hx, e⟩) | ⟨hn, hm⟩)
    · exact ⟨x, List.mem_append_left _ hx, (cl1_iff ..).2 (.inl e)⟩
    · exact ⟨x, List.mem_append_right _ hx, (cl1_iff ..).2 (.inl e)⟩
    · rcases upF_hit h.sf (f + (n - 1)) with ⟨y, hy, hyF, hyl, hq1, hq2⟩ | ⟨hy, _⟩
      · rw [hy] at hm
        simp only [decide_eq_true_eq] at hm
        have hm2 := hm
        clear hq1 hq2
        have := h.fd y hyF
        refine ⟨y, List.mem_append_left _ hyF, (cl1_iff ..).2 ?_⟩
        omega
      · rw [hy] at hm; cases hm
  · rintro ⟨x, hx, hc⟩
    have hc := (cl1_iff ..).1 hc
    rcases List.mem_append.1 hx with hx | hx
    · rcases hc with e | ⟨c1, c2, c3⟩
      · exact .inl (.inl ⟨x, hx, e⟩)
      · refine .inr ⟨by omega, ?_⟩
        rcases upF_hit h.sf (f + (n - 1)) with ⟨y, hy, hyF, hyl, hq1, hyu⟩ | ⟨_, hno⟩
        · clear hq1
          rw [hy]
          have hxy := hyu x hx (by omega)
          have hyd := h.fd y hyF
          have hxd := h.fd x hx
          refine decide_eq_true ?_
          rcases c3 with ⟨c3, c4⟩ | ⟨c3, c4⟩
          · omega
          · by_cases he : x.f = y.f
            · have e := srt_one h.sf hx hyF he
              rw [← e]
              omega
            · have hap : x.f + x.d.length ≤ y.f := by
                obtain ⟨i, hi⟩ := List.getElem?_of_mem hx
                obtain ⟨j, hj⟩ := List.getElem?_of_mem hyF
                have hil := (List.getElem?_eq_some_iff.1 hi).1
                have hjl := (List.getElem?_eq_some_iff.1 hj).1
                have hix := (List.getElem?_eq_some_iff.1 hi).2
                have hjy := (List.getElem?_eq_some_iff.1 hj).2
                by_cases hij : i < j
                · have := (List.pairwise_iff_getElem.1 h.ap) i j hil hjl hij
                  rw [hix, hjy] at this
                  exact this
                · exfalso
                  have hne : i ≠ j := fun e => by
                    subst e
                    rw [hix] at hjy
                    exact he (by rw [hjy])
                  have := (List.pairwise_iff_getElem.1 h.ap) j i hjl hil (by omega)
                  rw [hix, hjy] at this
                  omega
              omega
        · have := hno x hx
          omega
    · rcases hc with e | ⟨c1, _, _⟩
      · exact .inl (.inr ⟨x, hx, e⟩)
      · rw [(h.ed x hx).1] at c1
        simp at c1
/-- a region that comes in, as a pair -/
def fdI (x : RI) : Nat × List UInt8 := (x.f, x.d)
theorem ins_perm {F F' : List Rg} {x : Rg} (h : InsP F x F') : F'.Perm (F ++ [x]) := h.perm.trans (List.perm_append_singleton x F).symm
/-- what has been put in is what stands in the space -/
theorem run_all {L : List RI} {F E : List Rg} (h : Run L F E) (hb : ∀ x ∈ L, x.f < 18446744073709551616) : SpOk F E ∧ ((F ++ E).map fdR).Perm (L.map fdI) := by
  induction h with
  | nil => exact ⟨SpOk.nil, List.Perm.refl _⟩
  | addE L F E E' r x h1 h2 h3 h4 h5 h6 ih =>
    obtain ⟨a1, a2⟩ := ih (fun y hy => hb y (List.mem_append_left _ hy))
    have hr := hb r (by simp)
    unfold noP at h2
    simp only [Bool.or_eq_false_iff, Bool.not_eq_false'] at h2
    refine ⟨a1.addE h6 (by rw [h4, h5]; exact h2.2) (h5.trans h3) (by rw [h4]; exact hr), ?_⟩
    rw [List.map_append, List.map_append]
    refine ((List.Perm.append_left _ ((ins_perm h6).map fdR))).trans ?_
    rw [List.map_append, ← List.append_assoc, ← List.map_append]
    refine (a2.append_right _).trans ?_
    simp [fdR, fdI, h4, h5]
  | addF L F E F' r x h1 h2 h3 h4 h5 h6 ih =>
    obtain ⟨a1, a2⟩ := ih (fun y hy => hb y (List.mem_append_left _ hy))
    have hr := hb r (by simp)
    unfold noP at h2
    simp only [Bool.or_eq_false_iff, Bool.not_eq_false'] at h2
    have hd : 0 < r.d.length := List.length_pos_iff.2 h3
    have hm : r.f + r.d.length ≤ 18446744073709551616 := by
      have h7 := h2.1
      unfold mayR at h7
      simp only [Bool.or_eq_true, beq_iff_eq, decide_eq_true_eq] at h7
      omega
    refine ⟨a1.addF h6 (by rw [h4, h5]; exact h2.2) (by rw [h5]; exact hd) (by rw [h4, h5]; exact hm), ?_⟩
    rw [List.map_append, List.map_append]
    refine ((List.Perm.append_right _ ((ins_perm h6).map fdR))).trans ?_
    rw [List.map_append, List.append_assoc]
    refine ((List.Perm.append_left _ List.perm_append_comm)).trans ?_
    rw [← List.append_assoc, ← List.map_append]
    refine (a2.append_right _).trans ?_
    simp [fdR, fdI, h4, h5]
/-- may a region be put behind those ahead, as the document asks it? -/
def noI (P : List RI) (r : RI) : Bool := !mayR r.f r.d.length || P.any (fun x => cl1 x.f x.d.length r.f r.d.length)
theorem noP_I {L : List RI} {F E : List Rg} (h : Run L F E) (hb : ∀ x ∈ L, x.f < 18446744073709551616) (r : RI) : noP F E r = noI L r := by
  obtain ⟨h1, h2⟩ := run_all h hb
  unfold noP noI
  rw [clP_any h1]
  congr 1
  have e1 : (F ++ E).any (fun x => cl1 x.f x.d.length r.f r.d.length) = ((F ++ E).map fdR).any (fun p => cl1 p.1 p.2.length r.f r.d.length) := by rw [List.any_map]; rfl
  have e2 : L.any (fun x => cl1 x.f x.d.length r.f r.d.length) = (L.map fdI).any (fun p => cl1 p.1 p.2.length r.f r.d.length) := by rw [List.any_map]; rfl
  rw [e1, e2]
  exact any_perm h2 _
/-- may all be put in, one behind the other? -/
def okI (L : List RI) : Prop := ∀ k r, L[k]? = some r → noI (L.take k) r = false
theorem run_ok {L : List RI} {F E : List Rg} (h : Run L F E) (hb : ∀ x ∈ L, x.f < 18446744073709551616) : okI L := by
  induction h with
  | nil => intro k r hk; simp at hk
  | addE L F E E' r x h1 h2 h3 h4 h5 h6 ih =>
    have hb' : ∀ x ∈ L, x.f < 18446744073709551616 := fun y hy => hb y (List.mem_append_left _ hy)
    intro k q hk
    by_cases hkl : k < L.length
    · rw [List.getElem?_append_left hkl] at hk
      rw [List.take_append_of_le_length (by omega)]
      exact ih hb' k q hk
    · have hk2 : k = L.length := by
        have := (List.getElem?_eq_some_iff.1 hk).1
        simp at this
        omega
      subst hk2
      simp at hk
      subst hk
      rw [List.take_left]
      rw [← noP_I h1 hb' r]
      exact h2
  | addF L F E F' r x h1 h2 h3 h4 h5 h6 ih =>
    have hb' : ∀ x ∈ L, x.f < 18446744073709551616 := fun y hy => hb y (List.mem_append_left _ hy)
    intro k q hk
    by_cases hkl : k < L.length
    · rw [List.getElem?_append_left hkl] at hk
      rw [List.take_append_of_le_length (by omega)]
      exact ih hb' k q hk
    · have hk2 : k = L.length := by
        have := (List.getElem?_eq_some_iff.1 hk).1
        simp at this
        omega
      subst hk2
      simp at hk
      subst hk
      rw [List.take_left]
      rw [← noP_I h1 hb' r]
      exact h2
/-- New fails just where the document's own does -/
theorem run_not {L : List RI} {F E : List Rg} {k : Nat} {r : RI} (hk : L[k]? = some r) (h : Run (L.take k) F E) (hb : ∀ x ∈ L, x.f < 18446744073709551616) (hno : noP F E r = true) : ¬ okI L := fun ho => by
  have h1 := ho k r hk
  rw [← noP_I h (fun x hx => hb x (List.mem_of_mem_take hx)) r, hno] at h1
  cases h1
end Go.Proofs.YtekjfbmebekmeaaGreat
namespace Go.Proofs.YtekjfbmebekmeaaGreat
open Go.RowKit
set_option linter.unusedVariables false
set_option linter.unusedSimpArgs false
/-- is a region above the last of the k that are told already? -/
def abv (S : List (Nat × List UInt8)) (k : Nat) (p : Nat × List UInt8) : Bool := k == 0 || match S[k - 1]? with | none => true | some q => decide (q.1 < p.1)
/-- the least so far of those that are above -/
def BestI (P : List (Nat × List UInt8)) (ab : Nat × List UInt8 → Bool) (i : Nat) (b : Int) : Prop :=
  (b = -1 ∧ ∀ (j : Nat) q, j < i → P[j]? = some q → ab q = false) ∨ ∃ (b' : Nat) (p : Nat × List UInt8), b = (b' : Int) ∧ b' < i ∧ P[b']? = some p ∧ ab p = true ∧ ∀ (j : Nat) q, j < i → P[j]? = some q → ab q = true → p.1 ≤ q.1
theorem BestI.zero (P : List (Nat × List UInt8)) (ab : Nat × List UInt8 → Bool) : BestI P ab 0 (-1) := .inl ⟨rfl, fun j q h => absurd h (Nat.not_lt_zero _)⟩
theorem lt_succ_or {j i : Nat} (h : j < i + 1) : j < i ∨ j = i := by omega
theorem BestI.pass {P : List (Nat × List UInt8)} {ab : Nat × List UInt8 → Bool} {i : Nat} {b : Int} (h : BestI P ab i b) {q : Nat × List UInt8} (hq : P[i]? = some q) (hn : ab q = false ∨ ∃ (b' : Nat) (p : Nat × List UInt8), b = (b' : Int) ∧ P[b']? = some p ∧ p.1 ≤ q.1) : BestI P ab (i + 1) b := by
  rcases h with ⟨hb, h1⟩ | ⟨b', p, hb, h1, h2, h3, h4⟩
  · rcases hn with hn | ⟨b2, p2, e, _⟩
    · refine .inl ⟨hb, fun j r hj hr => ?_⟩
      rcases lt_succ_or hj with hj | rfl
      · exact h1 j r hj hr
      · rw [hq] at hr; cases hr; exact hn
    · omega
  · refine .inr ⟨b', p, hb, by omega, h2, h3, fun j r hj hr ha => ?_⟩
    rcases lt_succ_or hj with hj | rfl
    · exact h4 j r hj hr ha
    · rw [hq] at hr; cases hr
      rcases hn with hn | ⟨b2, p2, e, e2, e3⟩
      · rw [hn] at ha; cases ha
      · have : b2 = b' := by omega
        subst this
        rw [h2] at e2; cases e2
        exact e3
theorem BestI.take_ {P : List (Nat × List UInt8)} {ab : Nat × List UInt8 → Bool} {i : Nat} {b : Int} (h : BestI P ab i b) {q : Nat × List UInt8} (hq : P[i]? = some q) (ha : ab q = true) (hl : b < 0 ∨ ∃ (b' : Nat) (p : Nat × List UInt8), b = (b' : Int) ∧ P[b']? = some p ∧ q.1 < p.1) : BestI P ab (i + 1) (i : Int) := by
  refine .inr ⟨i, q, rfl, by omega, hq, ha, fun j r hj hr har => ?_⟩
  rcases lt_succ_or hj with hj | rfl
  · rcases h with ⟨hb, h1⟩ | ⟨b', p, hb, h1, h2, h3, h4⟩
    · rw [h1 j r hj hr] at har; cases har
    · have h5 := h4 j r hj hr har
      rcases hl with hl | ⟨b2, p2, e, e2, e3⟩
      · omega
      · have : b2 = b' := by omega
        subst this
        rw [h2] at e2; cases e2
        omega
  · rw [hq] at hr; cases hr; exact Nat.le_refl _
/-- behind the whole list: the next of the sorted ones -/
theorem BestI.all {P S : List (Nat × List UInt8)} {k : Nat} {b : Int} (h : BestI P (abv S k) P.length b) (hp : P.Perm S) (hs : S.Pairwise (fun a b => a.1 < b.1)) (hk : k < S.length) : ∃ (b' : Nat) (p : Nat × List UInt8), b = (b' : Int) ∧ P[b']? = some p ∧ S[k]? = some p := by
  have hlt := List.pairwise_iff_getElem.1 hs
  have hSk : S[k]? = some S[k] := List.getElem?_eq_getElem hk
  have hak : abv S k S[k] = true := by
    unfold abv
    by_cases h0 : k = 0
    · simp [h0]
    · rw [List.getElem?_eq_getElem (show k - 1 < S.length by omega)]
      simp only [Bool.or_eq_true, decide_eq_true_eq]
      exact .inr (hlt (k - 1) k (by omega) hk (by omega))
  obtain ⟨j, hj⟩ := List.getElem?_of_mem (hp.mem_iff.2 (List.getElem_mem hk))
  have hjl := (List.getElem?_eq_some_iff.1 hj).1
  rcases h with ⟨_, h1⟩ | ⟨b', p, hb, h1, h2, h3, h4⟩
  · rw [h1 j _ hjl hj] at hak; cases hak
  · refine ⟨b', p, hb, h2, ?_⟩
    have hle := h4 j _ hjl hj hak
    obtain ⟨m, hm⟩ := List.getElem?_of_mem (hp.mem_iff.1 (List.mem_of_getElem? h2))
    obtain ⟨hml, hme⟩ := List.getElem?_eq_some_iff.1 hm
    have hmk : m = k := by
      rcases Nat.lt_trichotomy m k with hc | hc | hc
      · exfalso
        unfold abv at h3
        rw [List.getElem?_eq_getElem (show k - 1 < S.length by omega)] at h3
        simp only [Bool.or_eq_true, beq_iff_eq, decide_eq_true_eq] at h3
        rcases h3 with h3 | h3
        · omega
        · by_cases hc2 : m = k - 1
          · subst hc2
            rw [hme] at h3
            omega
          · have := hlt m (k - 1) hml (by omega) (by omega)
            rw [hme] at this
            omega
      · exact hc
      · exfalso
        have := hlt k m hk hml hc
        rw [hme] at this
        omega
    rw [← hmk]
    exact hm
end Go.Proofs.YtekjfbmebekmeaaGreat
namespace Go.Proofs.YtekjfbmebekmeaaGreat
open Go.RowKit
set_option linter.unusedVariables false
set_option linter.unusedSimpArgs false
/-- a list of the document's own: its row, its regions' bytes -/
structure RLs (B : Nat) (w : World) (a : Option Addr) (c n : Nat) (R : List Rg) : Prop where
  own : w.ownsRow B 36 2 (.slice a n c) n (rowG R)
  da : ∀ z ∈ R, DaI B w z
theorem RLs.out {B : Nat} {w w' : World} {a : Option Addr} {c n : Nat} {R : List Rg} (h : RLs B w a c n R) (o : Out w w') : RLs B w' a c n R := ⟨own_out h.own o, fun z hz => (h.da z hz).out o⟩
theorem RLs.chg {S : Nat → Prop} {B : Nat} {w w' : World} {a : Option Addr} {c n : Nat} {R : List Rg} (h : RLs B w a c n R) (o : Chg S w w') (hS : ∀ b, B ≤ b → ¬ S b) : RLs B w' a c n R := ⟨own_chg h.own o (fun b hb => hS b (h.own.lt b hb).1), fun z hz => (h.da z hz).chg o (fun b hb => hS b (DaI.blk (h.da z hz) hb).1)⟩
theorem RLs.base {B B' : Nat} {w : World} {a : Option Addr} {c n : Nat} {R : List Rg} (h : RLs B' w a c n R) (hb : B ≤ B') : RLs B w a c n R := ⟨own_base h.own hb, fun z hz => own_base (h.da z hz) hb⟩
/-- one region more behind a list -/
theorem RLs.push {B : Nat} {w : World} {a : Option Addr} {c k : Nat} {R : List Rg} (h : RLs B w a c k R) (hk : k < 4398046511104) (hB : B ≤ w.heap.size) (q : Nat) (x : Rg) (xa : Option Addr) (hxa : xa = x.a.map fun b => ⟨b, 0, none⟩) (b0 : w.cell? ⟨q, 0, none⟩ = some (.int .u64 (x.f : Nat))) (b1 : w.cell? ⟨q, 1, none⟩ = some (.slice xa x.d.length x.c)) (hx : DaI B w x) :
    ∃ a2 c2 w2, (∀ ty, (Builtin.append_ #[22, 22] ty #[.slice a k c, .slice (some ⟨q, 0, none⟩) 1 1]).run Tryz.prog w = .ok (.slice a2 (k + 1) c2) w2) ∧ RLs B w2 a2 c2 (k + 1) (R ++ [x]) ∧ Chg (fun b => (Value.slice a k c).ownBlock = some b) w w2 := by
  subst hxa
  obtain ⟨i0, hi0, hz0, hz1, hz2⟩ := info_parts infoR
  obtain ⟨v2, w2, hr2, hown2, hgr2, hnil2, _⟩ := run_append_own_at (P := Tryz.prog) w B 22 22 36 i0 _ 2 32 Tryz.underlying22 hi0 hz0 hz1 hz2 rfl (by decide) (.slice a k c) k (rowG R) h.own ⟨q, 0, none⟩ 1 1 [.int .u64 (x.f : Nat), .slice (x.a.map fun b => ⟨b, 0, none⟩) x.d.length x.c] rfl (fun j u hj => by rw [add_B, Nat.zero_add]; match j, hj with | 0, hj => cases hj; exact b0 | 1, hj => cases hj; exact b1) (by intro u hu; simp at hu; rcases hu with rfl | rfl <;> rfl) (by unfold maxLen; omega) (by omega) hB
  obtain ⟨a2, c2, rfl, _, _⟩ := own_slice hown2
  have hc2 : Chg (fun b => (Value.slice a k c).ownBlock = some b) w w2 := Chg.of_grown hgr2 (fun q hq => hq)
  have e1 : rowG R ++ [.int .u64 (x.f : Nat), .slice (x.a.map fun b => ⟨b, 0, none⟩) x.d.length x.c] = rowG (R ++ [x]) := by rw [rowG_app, rowG_cons, csG, daV]; rfl
  rw [e1] at hown2
  refine ⟨a2, c2, w2, fun ty => hr2, ⟨hown2, fun z hz => ?_⟩, hc2⟩
  have hz' : DaI B w z := by
    rcases List.mem_append.1 hz with hz | hz
    · exact h.da z hz
    · simp only [List.mem_cons, List.not_mem_nil, or_false] at hz
      subst hz; exact hx
  exact hz'.chg hc2 (fun b hb hq => own_two h.own hz' (by decide) hq (by simp [daV, hb, Value.ownBlock]))
end Go.Proofs.YtekjfbmebekmeaaGreat
