import Derived.Test.YthififblejbleaaGreatDoorHy31
namespace Go.Proofs.YthififblejbleaaGreatDoor
open Go.RowKit
set_option linter.unusedVariables false
set_option linter.unusedSimpArgs false
theorem g1_lt (l : List UInt8) (p : Nat) : g1 l p < 256 := by unfold g1; exact UInt8.toNat_lt _
theorem g4_lt (l : List UInt8) (p : Nat) : g4 l p < 4294967296 := by
  have := g1_lt l p; have := g1_lt l (p + 1); have := g1_lt l (p + 2); have := g1_lt l (p + 3); unfold g4; omega
theorem b1_of {l : List UInt8} {p : Nat} {v : Int} (h : v % 256 = g1 l p) : b1 v = l.getD p 0 := by
  unfold b1; rw [h]; show UInt8.ofNat (g1 l p) = _; unfold g1; simp
theorem drop_cons {l : List UInt8} {p : Nat} (h : p < l.length) : l.drop p = l.getD p 0 :: l.drop (p + 1) := by
  rw [List.drop_eq_getElem_cons h]; simp [List.getD, List.getElem?_eq_getElem h]
theorem b4_at {l : List UInt8} {p : Nat} {x : Int} (hp : p + 4 ≤ l.length) (h : x % 4294967296 = g4 l p) : l.drop p = b4 x ++ l.drop (p + 4) := by
  have a0 := g1_lt l p; have a1 := g1_lt l (p + 1); have a2 := g1_lt l (p + 2); have a3 := g1_lt l (p + 3)
  unfold g4 at h
  rw [drop_cons (show p < l.length by omega), drop_cons (show p + 1 < l.length by omega), drop_cons (show p + 1 + 1 < l.length by omega), drop_cons (show p + 1 + 1 + 1 < l.length by omega)]
  simp only [b4, List.cons_append, List.nil_append]
  rw [b1_of (l := l) (p := p) (by omega), b1_of (l := l) (p := p + 1) (by omega), b1_of (l := l) (p := p + 2) (by omega), b1_of (l := l) (p := p + 3) (by omega)]
theorem b4_atn {l : List UInt8} {p n : Nat} (hp : p + 4 ≤ l.length) (h : n = g4 l p) : l.drop p = b4 (n : Int) ++ l.drop (p + 4) := b4_at hp (by have := g4_lt l p; omega)
theorem fld_back (v : Int) (h0 : 0 ≤ v) (h1 : v < 4294967296) : (v % 256 + 256 * (v / 256 % 16) + 4096 * (v / 4096 % 16) + 65536 * sxP 32768 (v / 65536)) % 4294967296 = v := by
  unfold sxP; split <;> omega
theorem insR_i (l : List UInt8) (p : Nat) : (insR l p).i = sxP 2147483648 (g4 l (p + 4) : Int) := by simp only [insR]
theorem widR_i (l : List UInt8) (p : Nat) : (widR l p).i = (g4 l (p + 4) : Int) + 4294967296 * sxP 2147483648 (g4 l (p + 12) : Int) := by simp only [widR]
theorem ins_at {l : List UInt8} {p : Nat} (hp : p + 8 ≤ l.length) (hw : isW (insR l p).o = false) : l.drop p = insB (insR l p) ++ l.drop (p + 8) ∧ (-9223372036854775808 ≤ (insR l p).i ∧ (insR l p).i ≤ 9223372036854775807) := by
  have h1 := g4_lt l p; have h2 := g4_lt l (p + 4)
  have e1 : fldI (insR l p) % 4294967296 = g4 l p := by simp only [fldI, insR]; exact fld_back _ (by omega) (by omega)
  have e2 : (insR l p).i % 4294967296 = g4 l (p + 4) := by
    rw [insR_i]
    unfold sxP; split <;> omega
  refine ⟨?_, ?_⟩
  · rw [insB, hw]
    simp only [Bool.false_eq_true, if_false, List.append_nil, List.append_assoc]
    rw [b4_at (by omega) e1, b4_at (p := p + 4) (by omega) e2]
  · rw [insR_i]
    unfold sxP; split <;> omega
theorem wid_num {lo u h wi : Int} (hl0 : 0 ≤ lo) (hl1 : lo < 4294967296) (hi : wi = lo + 4294967296 * u) (hu : u % 4294967296 = h) (a : -2147483648 ≤ u) (b : u ≤ 2147483647) : wi % 4294967296 = lo ∧ wi / 4294967296 % 4294967296 = h ∧ -9223372036854775808 ≤ wi ∧ wi ≤ 9223372036854775807 := by
  have e1 : wi / 4294967296 = u := by omega
  refine ⟨by omega, by rw [e1]; exact hu, by omega, by omega⟩
theorem wid_at {l : List UInt8} {p : Nat} (hp : p + 16 ≤ l.length) (hw : isW (insR l p).o = true) (hz : g4 l (p + 8) = 0) : l.drop p = insB (widR l p) ++ l.drop (p + 16) ∧ (-9223372036854775808 ≤ (widR l p).i ∧ (widR l p).i ≤ 9223372036854775807) := by
  have h1 := g4_lt l p; have h2 := g4_lt l (p + 4); have h3 := g4_lt l (p + 12)
  have e1 : fldI (widR l p) % 4294967296 = g4 l p := by simp only [fldI, widR, insR]; exact fld_back _ (by omega) (by omega)
  have hi : (widR l p).i = (g4 l (p + 4) : Int) + 4294967296 * sxP 2147483648 (g4 l (p + 12) : Int) := widR_i l p
  obtain ⟨wi, hwi⟩ : ∃ wi, wi = (widR l p).i := ⟨_, rfl⟩
  obtain ⟨u, hu⟩ : ∃ u, u = sxP 2147483648 (g4 l (p + 12) : Int) := ⟨_, rfl⟩
  have hu1 : u % 4294967296 = g4 l (p + 12) ∧ -2147483648 ≤ u ∧ u ≤ 2147483647 := by rw [hu]; unfold sxP; split <;> omega
  rw [← hu, ← hwi] at hi
  have hw' : isW (widR l p).o = true := hw
  obtain ⟨e2, e4, r1, r2⟩ := wid_num (Int.natCast_nonneg _) (Int.ofNat_lt.2 h2) hi hu1.1 hu1.2.1 hu1.2.2
  have e3 : (0 : Int) % 4294967296 = g4 l (p + 4 + 4) := by rw [show p + 4 + 4 = p + 8 by omega, hz]; rfl
  have e4 : wi / 4294967296 % 4294967296 = g4 l (p + 4 + 4 + 4) := by rw [show p + 4 + 4 + 4 = p + 12 by omega]; exact e4
  rw [insB, hw', ← hwi]
  refine ⟨?_, r1, r2⟩
  simp only [if_true, List.append_assoc]
  rw [b4_at (by omega) e1, b4_at (p := p + 4) (by omega) e2, b4_at (p := p + 4 + 4) (by omega) e3, b4_at (p := p + 4 + 4 + 4) (by omega) e4]
theorem txt_forth (l : List UInt8) : ∀ (n j p : Nat) (T : List Ins), j ≤ n → p + 8 * j ≤ l.length → txR l j p = .ok T → l.drop p = txtB T ++ l.drop (p + 8 * j) ∧ slotsP T = j ∧ ∀ x ∈ T, -9223372036854775808 ≤ x.i ∧ x.i ≤ 9223372036854775807
  | n, 0, p, T, _, _, h => by
    simp only [txR, Except.ok.injEq] at h
    subst h; simp [txtB, slotsP]
  | n + 1, j + 1, p, T, hj, hp, h => by
    unfold txR at h
    cases hw : isW (insR l p).o
    · simp only [hw, Bool.false_eq_true, if_false] at h
      cases hr : txR l j (p + 8) with
      | error q => rw [hr] at h; cases h
      | ok R =>
        rw [hr] at h
        have h : insR l p :: R = T := by simpa [Except.map] using h
        obtain ⟨a, b, c⟩ := txt_forth l n j (p + 8) R (by omega) (by omega) hr
        obtain ⟨d, e⟩ := ins_at (by omega) hw
        subst h
        refine ⟨?_, by rw [slots_cons, hw, b]; simp; omega, fun x hx => ?_⟩
        · rw [d, a, show p + 8 + 8 * j = p + 8 * (j + 1) by omega]; simp [txtB]
        · rcases List.mem_cons.1 hx with rfl | hx
          · exact e
          · exact c x hx
    · simp only [hw, if_true] at h
      cases j with
      | zero => cases h
      | succ i =>
        simp only at h
        split at h
        · cases h
        · rename_i hz
          have hz : g4 l (p + 8) = 0 := by omega
          cases hr : txR l i (p + 16) with
          | error q => rw [hr] at h; cases h
          | ok R =>
            rw [hr] at h
            have h : widR l p :: R = T := by simpa [Except.map] using h
            obtain ⟨a, b, c⟩ := txt_forth l n i (p + 16) R (by omega) (by omega) hr
            obtain ⟨d, e⟩ := wid_at (by omega) hw hz
            subst h
            refine ⟨?_, by rw [slots_cons, show isW (widR l p).o = true from hw, b]; simp; omega, fun x hx => ?_⟩
            · rw [d, a, show p + 16 + 8 * i = p + 8 * (i + 1 + 1) by omega]; simp [txtB]
            · rcases List.mem_cons.1 hx with rfl | hx
              · exact e
              · exact c x hx
theorem nm_forth {N K : List (List UInt8)} {j nx pl ny : Nat} {x : List UInt8} (hd : N.Nodup) (hK : namesF K = N.take j) (hj : j ≤ N.length) (hnx : nx = szF 1 (N.take j)) (h : nmT N nx pl = some (x, ny)) :
    plF 1 N x = pl ∧ ∃ j', j' ≤ N.length ∧ namesF (K ++ [x]) = N.take j' ∧ ny = szF 1 (N.take j') := by
  unfold nmT at h
  split at h
  · cases h
  · rename_i hpl
    cases ha : atF 1 N pl with
    | none => rw [ha] at h; cases h
    | some y =>
      rw [ha] at h
      simp only [Option.some.injEq, Prod.mk.injEq] at h
      obtain ⟨rfl, h⟩ := h
      obtain ⟨k, hk, hp⟩ := atF_idx N 1 pl y ha
      have hp : pl = szF 1 (N.take k) := by omega
      have hkl : k < N.length := (List.getElem?_eq_some_iff.1 hk).1
      refine ⟨by rw [pl_of hd hk, hp], ?_⟩
      rw [namesF_snoc, hK]
      by_cases hkj : k < j
      · have hlt := szF_lt (N := N) hkj hk
        have hm : y ∈ N.take j := by rw [List.mem_take_iff_getElem]; exact ⟨k, by omega, (List.getElem?_eq_some_iff.1 hk).2⟩
        refine ⟨j, hj, by unfold addN; rw [if_pos hm], ?_⟩
        rw [if_neg (by omega)] at h; omega
      · have hle := szF_le (N := N) (show j ≤ k by omega)
        have hkj' : k = j := by
          by_cases e : k = j
          · exact e
          · exfalso
            obtain ⟨z, hz⟩ : ∃ z, N[j]? = some z := ⟨_, List.getElem?_eq_getElem (by omega)⟩
            have := szF_lt (N := N) (show j < k by omega) hz
            omega
        subst hkj'
        have hm : ¬ y ∈ N.take k := fun hm => by
          rw [List.mem_take_iff_getElem] at hm
          obtain ⟨i, hi, e⟩ := hm
          have := pl_of hd (k := i) (x := y) (by rw [List.getElem?_eq_getElem (by omega), e])
          rw [pl_of hd hk] at this
          exact absurd (idx_eq hk (List.getElem?_eq_some_iff.2 ⟨by omega, e⟩) this) (by omega)
        have ht : N.take (k + 1) = N.take k ++ [y] := take_snoc hk
        refine ⟨k + 1, by omega, by unfold addN; rw [if_neg hm, ht], ?_⟩
        rw [if_pos (by omega)] at h
        rw [ht, szF_snoc]; omega
theorem cntO_slots : ∀ (A : List Ins) (k : Nat), slotsP (A.take (cntO A k).1) = (cntO A k).2 ∧ (cntO A k).1 ≤ A.length
  | [], _ => by simp [cntO, slotsP]
  | x :: r, k => by
    unfold cntO
    split
    · simp [slotsP]
    · have ih := cntO_slots r (k - (if isW x.o then 2 else 1))
      constructor
      · simp only [List.take_succ_cons, slots_cons, ih.1]; omega
      · simp only [List.length_cons]; omega
theorem fns_forth (l : List UInt8) (T : List Ins) (N : List (List UInt8)) (hd : N.Nodup) : ∀ (n p fi sl nx : Nat) (K : List (List UInt8)) (j : Nat) (F : List Fn) (ny : Nat), fi ≤ T.length → p + 16 * n ≤ l.length →
    namesF K = N.take j → j ≤ N.length → nx = szF 1 (N.take j) → fnR l N T n p fi sl nx = .ok (F, ny) →
    l.drop p = fnsB T N sl F ++ l.drop (p + 16 * n) ∧ F.length = n ∧ ∃ j', j' ≤ N.length ∧ namesF (K ++ F.map Fn.nm) = N.take j' ∧ ny = szF 1 (N.take j')
  | 0, p, fi, sl, nx, K, j, F, ny, _, _, hK, hj, hnx, h => by
    simp only [fnR, Except.ok.injEq, Prod.mk.injEq] at h
    obtain ⟨rfl, rfl⟩ := h
    exact ⟨by simp [fnsB], rfl, j, hj, by simpa using hK, hnx⟩
  | n + 1, p, fi, sl, nx, K, j, F, ny, hfi, hp, hK, hj, hnx, h => by
    unfold fnR at h
    cases hnm : nmT N nx (g4 l p) with
    | none => rw [hnm] at h; cases h
    | some q =>
      obtain ⟨x, nx'⟩ := q
      rw [hnm] at h
      simp only at h
      split at h
      · cases h
      split at h
      · cases h
      rename_i h1 h2
      have h1 : g4 l (p + 8) = sl := by omega
      obtain ⟨c, t, hct⟩ : ∃ c t, cntO (T.drop fi) (g4 l (p + 12)) = (c, t) := ⟨_, _, rfl⟩
      have hsl := cntO_slots (T.drop fi) (g4 l (p + 12))
      rw [hct] at h h2 hsl
      simp only at h h2 hsl
      rw [List.length_drop] at hsl
      have h3 : t = g4 l (p + 12) := by omega
      cases hr : fnR l N T n (p + 16) (fi + c) (sl + g4 l (p + 12)) nx' with
      | error q => rw [hr] at h; cases h
      | ok R =>
        obtain ⟨R, nz⟩ := R
        rw [hr] at h
        simp only [Except.map, Except.ok.injEq, Prod.mk.injEq] at h
        obtain ⟨hF, rfl⟩ := h
        obtain ⟨hpl, j1, hj1, hK1, hn1⟩ := nm_forth hd hK hj hnx hnm
        obtain ⟨a, b, j2, hj2, hK2, hn2⟩ := fns_forth l T N hd n (p + 16) (fi + c) (sl + g4 l (p + 12)) nx' (K ++ [x]) j1 R nz (by omega) (by omega) hK1 hj1 hn1 hr
        subst hF
        refine ⟨?_, by simp [b], j2, hj2, by rw [← hK2]; simp, hn2⟩
        have hbod : bodP T ⟨x, (g4 l (p + 4) : Nat), (fi : Nat), (c : Nat)⟩ = (T.drop fi).take c := by simp [bodP]
        rw [fnsB, hbod, hsl.1, h3, fnRow]
        simp only [List.append_assoc]
        rw [b4_atn (by omega) hpl, b4_atn (p := p + 4) (by omega) rfl, b4_atn (p := p + 4 + 4) (n := sl) (by omega) (by rw [show p + 4 + 4 = p + 8 by omega]; omega), b4_atn (p := p + 4 + 4 + 4) (n := g4 l (p + 12)) (by omega) rfl, show p + 4 + 4 + 4 + 4 = p + 16 by omega, a, show p + 16 + 16 * n = p + 16 * (n + 1) by omega]
theorem tds_forth (l : List UInt8) (N : List (List UInt8)) (hd : N.Nodup) : ∀ (n p nx : Nat) (K : List (List UInt8)) (j : Nat) (F : List Td) (ny : Nat), p + 20 * n ≤ l.length →
    namesF K = N.take j → j ≤ N.length → nx = szF 1 (N.take j) → tdR l N n p nx = .ok (F, ny) →
    l.drop p = tdsB N F ++ l.drop (p + 20 * n) ∧ F.length = n ∧ ∃ j', j' ≤ N.length ∧ namesF (K ++ F.map Td.nm) = N.take j' ∧ ny = szF 1 (N.take j')
  | 0, p, nx, K, j, F, ny, _, hK, hj, hnx, h => by
    simp only [tdR, Except.ok.injEq, Prod.mk.injEq] at h
    obtain ⟨rfl, rfl⟩ := h
    exact ⟨by simp [tdsB], rfl, j, hj, by simpa using hK, hnx⟩
  | n + 1, p, nx, K, j, F, ny, hp, hK, hj, hnx, h => by
    unfold tdR at h
    cases hnm : nmT N nx (g4 l p) with
    | none => rw [hnm] at h; cases h
    | some q =>
      obtain ⟨x, nx'⟩ := q
      rw [hnm] at h
      simp only at h
      cases hr : tdR l N n (p + 20) nx' with
      | error q => rw [hr] at h; cases h
      | ok R =>
        obtain ⟨R, nz⟩ := R
        rw [hr] at h
        simp only [Except.map, Except.ok.injEq, Prod.mk.injEq] at h
        obtain ⟨hF, rfl⟩ := h
        obtain ⟨hpl, j1, hj1, hK1, hn1⟩ := nm_forth hd hK hj hnx hnm
        obtain ⟨a, b, j2, hj2, hK2, hn2⟩ := tds_forth l N hd n (p + 20) nx' (K ++ [x]) j1 R nz (by omega) hK1 hj1 hn1 hr
        subst hF
        refine ⟨?_, by simp [b], j2, hj2, by rw [← hK2]; simp, hn2⟩
        show _ = (tdRow N _ ++ tdsB N R) ++ _
        rw [tdRow]
        simp only [List.append_assoc]
        rw [b4_atn (by omega) hpl, b4_atn (p := p + 4) (by omega) rfl, b4_atn (p := p + 4 + 4) (n := g4 l (p + 8)) (by omega) rfl, b4_atn (p := p + 4 + 4 + 4) (n := g4 l (p + 12)) (by omega) rfl, b4_atn (p := p + 4 + 4 + 4 + 4) (n := g4 l (p + 16)) (by omega) rfl, show p + 4 + 4 + 4 + 4 + 4 = p + 20 by omega, a, show p + 20 + 20 * n = p + 20 * (n + 1) by omega]
theorem hd_none {l : List UInt8} (h : hdF l = none) : 28 ≤ l.length ∧ l.take 8 = opB ∧ sizP (g4 l 8) (g4 l 12) (g4 l 16) (g4 l 20) = l.length := by
  unfold hdF at h
  split at h
  · cases h
  rename_i h1
  split at h
  · cases h
  rename_i h2
  split at h
  · cases h
  rename_i h3
  refine ⟨by omega, ?_, by omega⟩
  have h4 := fstB_out h2
  apply List.ext_getElem
  · simp [opB]; omega
  · intro i hi hi'
    have h5 := h4 i (by simpa [opB] using hi')
    simp only [bne_eq_false_iff_eq, List.getD, List.getElem?_eq_getElem hi'] at h5
    rw [List.getElem?_eq_getElem (by simp at hi; omega)] at h5
    simpa using h5
theorem forth_I {l : List UInt8} {m : Img} (h : pasR l = .ok m) : wrB m = l ∧ ∀ x ∈ m.T, -9223372036854775808 ≤ x.i ∧ x.i ≤ 9223372036854775807 := by
  unfold pasR at h
  cases hh : hdF l with
  | some p => rw [hh] at h; cases h
  | none =>
    obtain ⟨hl, hop, hsz⟩ := hd_none hh
    rw [hh] at h
    simp only at h
    cases ht : txR l (g4 l 8) 28 with
    | error p => rw [ht] at h; cases h
    | ok T =>
      rw [ht] at h
      simp only at h
      obtain ⟨sN, pN, hrd⟩ : ∃ a b, rdP (l.drop (l.length - g4 l 20)) = (a, b) := ⟨_, _, rfl⟩
      rw [hrd] at h
      cases sN with
      | none => cases h
      | some N =>
        simp only at h
        unfold sizP at hsz
        obtain ⟨t1, t2, t3⟩ := txt_forth l (g4 l 8) (g4 l 8) 28 T (Nat.le_refl _) (by omega) ht
        obtain ⟨n1, n2, n3⟩ := rdP_inv (l := l.drop (l.length - g4 l 20)) (N := N) (by rw [hrd])
        have hbl : szF 1 N = g4 l 20 := by
          rw [← byP_len, ← n1, List.length_drop]; omega
        unfold enR at h
        cases hf : fnR l N T (g4 l 12) (28 + 8 * g4 l 8) 0 0 1 with
        | error p => rw [hf] at h; cases h
        | ok r =>
          obtain ⟨F, nx⟩ := r
          rw [hf] at h
          simp only at h
          obtain ⟨f1, f2, j1, hj1, hK1, hn1⟩ := fns_forth l T N n2 (g4 l 12) (28 + 8 * g4 l 8) 0 0 1 [] 0 F nx (Nat.zero_le _) (by omega) (by simp [namesF]) (Nat.zero_le _) (by simp [szF]) hf
          rw [List.nil_append] at hK1
          cases hdd : tdR l N (g4 l 16) (28 + 8 * g4 l 8 + 16 * g4 l 12) nx with
          | error p => rw [hdd] at h; cases h
          | ok r =>
            obtain ⟨D, ny⟩ := r
            rw [hdd] at h
            simp only at h
            obtain ⟨d1, d2, j2, hj2, hK2, hn2⟩ := tds_forth l N n2 (g4 l 16) (28 + 8 * g4 l 8 + 16 * g4 l 12) nx (F.map Fn.nm) j1 D ny (by omega) hK1 hj1 hn1 hdd
            split at h
            · cases h
            rename_i hny
            simp only [Except.ok.injEq] at h
            subst h
            have hall : namesF (F.map Fn.nm ++ D.map Td.nm) = N := by
              rw [hK2]
              by_cases e : j2 < N.length
              · exfalso
                obtain ⟨z, hz⟩ : ∃ z, N[j2]? = some z := ⟨_, List.getElem?_eq_getElem e⟩
                have := szF_lt (N := N) e hz
                rw [List.take_length] at this
                omega
              · exact List.take_of_length_le (by omega)
            refine ⟨?_, t3⟩
            have h8 : l.drop 8 = b4 (g4 l 8 : Nat) ++ (b4 (g4 l 12 : Nat) ++ (b4 (g4 l 16 : Nat) ++ (b4 (g4 l 20 : Nat) ++ (b4 (g4 l 24 : Nat) ++ l.drop 28)))) := by
              rw [b4_atn (p := 8) (n := g4 l 8) (by omega) rfl, b4_atn (p := 8 + 4) (n := g4 l 12) (by omega) rfl, b4_atn (p := 8 + 4 + 4) (n := g4 l 16) (by omega) rfl, b4_atn (p := 8 + 4 + 4 + 4) (n := g4 l 20) (by omega) rfl, b4_atn (p := 8 + 4 + 4 + 4 + 4) (n := g4 l 24) (by omega) rfl]
            have hl8 : l = opB ++ l.drop 8 := by rw [← hop, List.take_append_drop]
            have hs20 : l.drop (28 + 8 * g4 l 8 + 16 * g4 l 12 + 20 * g4 l 16) = byP N := by
              rw [← n1]; congr 1; omega
            show hdB (slotsP T) F.length D.length (byP (tabM ⟨T, F, D, g4 l 24⟩)).length (g4 l 24 : Nat) ++ (txtB T ++ (fnsB T (tabM ⟨T, F, D, g4 l 24⟩) 0 F ++ (tdsB (tabM ⟨T, F, D, g4 l 24⟩) D ++ byP (tabM ⟨T, F, D, g4 l 24⟩)))) = l
            have htab : tabM ⟨T, F, D, g4 l 24⟩ = N := hall
            rw [htab, byP_len, hbl, t2, f2, d2, ← hs20, ← d1, ← f1, ← t1, hdB]
            simp only [List.append_assoc]
            rw [← h8]
            exact hl8.symm
end Go.Proofs.YthififblejbleaaGreatDoor
