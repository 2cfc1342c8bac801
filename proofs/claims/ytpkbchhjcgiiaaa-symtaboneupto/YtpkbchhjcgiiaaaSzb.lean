import Derived.Test.YtpkbchhjcgiiaaaSza
namespace Go.Proofs.Ytpkbchhjcgiiaaa
open Go.RowKit
set_option linter.unusedVariables false
set_option linter.unusedSimpArgs false
/-- states from which all that follows is taken alike -/
def Eqv (p q : Rn) : Prop := p.r = q.r ∧ p.v = q.v ∧ (p.c = q.c ∨ (1 ≤ p.c ∧ 1 ≤ q.c ∧ ¬ p.r = 2))
theorem tk_parts {q q' : Rn} {k : Nat} {v : Int} (h : tkS q k v = some q') : ¬ (k : Int) < (upS q k).r ∧ foP k (upS q k) v = true ∧ q' = ⟨(upS q k).r, (upS q k).c + 1, v⟩ := by
  unfold tkS at h
  split at h
  · cases h
  · rename_i h1
    split at h
    · cases h
    · rename_i h2
      exact ⟨h1, by simpa using h2, (Option.some.inj h).symm⟩
theorem up_r {q : Rn} {k : Nat} (h : ¬ (k : Int) < (upS q k).r) : (upS q k).r = k := by
  unfold upS at h ⊢
  split at h
  · rename_i hr; rw [if_pos hr]
  · rename_i hr; rw [if_neg hr]; omega
theorem up_c {q : Rn} {k : Nat} (h : 0 ≤ q.c) : 0 ≤ (upS q k).c := by
  unfold upS
  split
  · exact Int.le_refl _
  · exact h
/-- one entry taken from two states: the states behind it -/
theorem tk_both {q1 q2 p1 p2 : Rn} {k : Nat} {v : Int} (h1 : tkS q1 k v = some p1) (h2 : tkS q2 k v = some p2) (c1 : 0 ≤ q1.c) (c2 : 0 ≤ q2.c) : Eqv p1 p2 := by
  obtain ⟨a1, b1, rfl⟩ := tk_parts h1
  obtain ⟨a2, b2, rfl⟩ := tk_parts h2
  have r1 := up_r a1
  have r2 := up_r a2
  have d1 := up_c (k := k) c1
  have d2 := up_c (k := k) c2
  refine ⟨by rw [r1, r2], rfl, ?_⟩
  by_cases hk : k = 2
  · subst hk
    have e1 : v = 16 * (upS q1 2).c := of_decide_eq_true b1
    have e2 : v = 16 * (upS q2 2).c := of_decide_eq_true b2
    exact .inl (by simp only; omega)
  · exact .inr ⟨by simp only; omega, by simp only; omega, by simp only; rw [r1]; omega⟩
theorem fo_other {k : Nat} (h2 : ¬ k = 2) (h4 : ¬ k = 4) (q : Rn) (n : Int) : foP k q n = (decide (q.c = 0) || decide (q.v < n)) := by
  unfold foP
  split
  · exact absurd rfl h2
  · exact absurd rfl h4
  · rfl
theorem tk_eqv {q1 q2 p1 : Rn} {k : Nat} {v : Int} (he : Eqv q1 q2) (h1 : tkS q1 k v = some p1) : ∃ p2, tkS q2 k v = some p2 ∧ Eqv p1 p2 := by
  obtain ⟨a1, b1, rfl⟩ := tk_parts h1
  obtain ⟨hr, hv, hc⟩ := he
  by_cases hlt : q1.r < k
  · have u1 : upS q1 k = ⟨k, 0, 0⟩ := if_pos hlt
    have u2 : upS q2 k = ⟨k, 0, 0⟩ := if_pos (by rw [← hr]; exact hlt)
    refine ⟨⟨(upS q2 k).r, (upS q2 k).c + 1, v⟩, ?_, ?_⟩
    · unfold tkS
      rw [u1] at a1 b1
      rw [u2, if_neg a1, if_neg (by rw [b1]; simp)]
    · rw [u1, u2]
      exact ⟨rfl, rfl, .inl rfl⟩
  · have u1 : upS q1 k = q1 := if_neg hlt
    have u2 : upS q2 k = q2 := if_neg (by rw [← hr]; exact hlt)
    rw [u1] at a1 b1
    have hrk : q1.r = k := by omega
    have hfo : foP k q2 v = true := by
      by_cases k2 : k = 2
      · subst k2
        have e1 : v = 16 * q1.c := of_decide_eq_true b1
        have : q1.c = q2.c := by rcases hc with h | ⟨_, _, h⟩; exact h; exact absurd hrk h
        exact decide_eq_true (by rw [← this]; exact e1)
      · by_cases k4 : k = 4
        · subst k4; rfl
        · rw [fo_other k2 k4] at b1 ⊢
          rcases hc with h | ⟨g1, g2, _⟩
          · rw [← h, ← hv]; exact b1
          · have e1 : decide (q1.c = 0) = false := decide_eq_false (by omega)
            rw [e1, Bool.false_or] at b1
            rw [← hv, b1, Bool.or_true]
    refine ⟨⟨(upS q2 k).r, (upS q2 k).c + 1, v⟩, ?_, ?_⟩
    · unfold tkS
      rw [u2, if_neg (by rw [← hr]; exact a1), if_neg (by rw [hfo]; simp)]
    · rw [u1, u2]
      refine ⟨hr, rfl, ?_⟩
      rcases hc with h | ⟨g1, g2, g3⟩
      · exact .inl (by simp only; omega)
      · exact .inr ⟨by simp only; omega, by simp only; omega, g3⟩
theorem te_dep {q1 p1 : Rn} {l : List UInt8} {s : Sy} {a : Nat} {e : Int} (h : teP q1 l = (some (s, p1), a, e)) : tkS q1 (fifP (nuB l 4 1)) (syB l).va = some p1 ∧ ∀ q2 p2, tkS q2 (fifP (nuB l 4 1)) (syB l).va = some p2 → teP q2 l = (some (s, p2), 0, 0) := by
  unfold teP at h
  split at h
  · cases h
  rename_i h0
  split at h
  · cases h
  rename_i h5
  split at h
  · cases h
  rename_i hf
  split at h
  · cases h
  rename_i q2 ht
  cases h
  refine ⟨ht, fun q2 p2 h2 => ?_⟩
  unfold teP
  rw [if_neg h0, if_neg h5]
  simp only [hf, h2]
theorem te_tk {q p : Rn} {l : List UInt8} {s : Sy} {a : Nat} {e : Int} (h : teP q l = (some (s, p), a, e)) (hq : 0 ≤ q.c) : 0 ≤ p.c := (tkS_c (te_dep h).1).2 hq
/-- from alike states all is taken alike -/
theorem run_eqv (b : List UInt8) (L : Nat) : ∀ (n p : Nat) (q1 q2 : Rn) (S1 S2 R : List Sy) (a e : Int), Eqv q1 q2 → rdG (stB b) L n p q1 S1 = (some R, a, e) → ∃ R', rdG (stB b) L n p q2 S2 = (some R', 0, 0)
  | 0, p, q1, q2, S1, S2, R, a, e, _, h => ⟨S2, by rw [rdG]⟩
  | n + 1, p, q1, q2, S1, S2, R, a, e, he, h => by
    rw [rdG] at h
    split at h
    · rename_i c1
      exact ⟨S2, by rw [rdG, if_pos c1]⟩
    · rename_i c1
      split at h
      · cases h
      · rename_i c2
        split at h
        · cases h
        · rename_i s q' k1 k2 hst
          obtain ⟨t1, t2⟩ := te_dep hst
          obtain ⟨p2, t3, t4⟩ := tk_eqv he t1
          obtain ⟨R', hR⟩ := run_eqv b L n (p + 24) q' p2 (S1 ++ [s]) (S2 ++ [s]) R a e t4 h
          exact ⟨R', by rw [rdG_step c2 (t2 q2 p2 t3)]; exact hR⟩
/-- behind an entry that was changed -/
theorem run_next (b b' : List UInt8) (L j : Nat) (n p : Nat) (q1 q2 : Rn) (S1 S2 R : List Sy) (a e : Int) (hp : p = 24 * j + 24) (hst : ∀ p q, p % 24 = 0 → ¬ p = 24 * j → stB b' p q = stB b p q) (hq1 : 0 ≤ q1.c) (hq2 : 0 ≤ q2.c)
    (h : rdG (stB b) L n p q1 S1 = (some R, a, e)) (pl er : Int) (h' : rdG (stB b') L n p q2 S2 = (none, pl, er)) : pl / 24 = j + 1 := by
  cases n with
  | zero => rw [rdG] at h'; cases h'
  | succ n =>
    rw [rdG] at h
    split at h
    · rename_i c1
      rw [rdG_end c1] at h'
      cases h'
    · rename_i c1
      split at h
      · cases h
      · rename_i c2
        split at h
        · cases h
        · rename_i s q' k1 k2 h1
          rw [rdG, if_neg c1, if_neg c2, hst p q2 (by omega) (by omega)] at h'
          split at h'
          · rename_i a2 e2 h2
            obtain ⟨t1, _⟩ := te_none h2
            cases h'
            omega
          · rename_i s2 q2' k3 k4 h2
            obtain ⟨t1, _⟩ := te_dep h1
            obtain ⟨t2, _⟩ := te_dep h2
            have he := tk_both t1 t2 hq1 hq2
            obtain ⟨R', hR⟩ := run_eqv b L n (p + 24) q' q2' (S1 ++ [s]) (S2 ++ [s2]) R a e he h
            have hsame : ∀ m p q S, 24 * j < p → p % 24 = 0 → rdG (stB b') L m p q S = rdG (stB b) L m p q S := by
              intro m
              induction m with
              | zero => intro p q S _ _; rw [rdG, rdG]
              | succ m ih =>
                intro p q S hp1 hp2
                rw [rdG, rdG, hst p q hp2 (by omega)]
                split
                · rfl
                · split
                  · rfl
                  · split
                    · rfl
                    · exact ih _ _ _ (by omega) (by omega)
            rw [hsame n (p + 24) q2' _ (by omega) (by omega), hR] at h'
            cases h'
theorem run_to (b b' : List UInt8) (L j : Nat) (hL : 24 * j < L) (hst : ∀ p q, p % 24 = 0 → ¬ p = 24 * j → stB b' p q = stB b p q) : ∀ (n p : Nat) (q : Rn) (S R : List Sy) (a e pl er : Int), p % 24 = 0 → p ≤ 24 * j → 0 ≤ q.c → rdG (stB b) L n p q S = (some R, a, e) → rdG (stB b') L n p q S = (none, pl, er) → pl / 24 = j ∨ pl / 24 = j + 1
  | 0, p, q, S, R, a, e, pl, er, _, _, _, _, h' => by rw [rdG] at h'; cases h'
  | n + 1, p, q, S, R, a, e, pl, er, hp, hpj, hq, h, h' => by
    rw [rdG] at h
    split at h
    · omega
    · rename_i c1
      split at h
      · cases h
      · rename_i c2
        split at h
        · cases h
        · rename_i s q' k1 k2 h1
          by_cases hpe : p = 24 * j
          · rw [rdG, if_neg c1, if_neg c2] at h'
            split at h'
            · rename_i a2 e2 h2
              obtain ⟨t1, _⟩ := te_none h2
              cases h'
              left; omega
            · rename_i s2 q2' k3 k4 h2
              right
              exact run_next b b' L j n (p + 24) q' q2' (S ++ [s]) (S ++ [s2]) R a e (by omega) hst (te_tk h1 hq) (te_tk h2 hq) h pl er h'
          · rw [rdG_step c2 ((hst p q hp hpe).trans h1)] at h'
            exact run_to b b' L j hL hst n (p + 24) q' (S ++ [s]) R a e pl er (by omega) (by omega) (te_tk h1 hq) h h'
theorem set_piece (b : List UInt8) (k : Nat) (t : UInt8) (p : Nat) (h : p + 24 ≤ k ∨ k < p) : ((b.set k t).drop p).take 24 = (b.drop p).take 24 := by
  apply List.ext_getElem?
  intro i
  rw [List.getElem?_take, List.getElem?_take]
  split
  · rename_i hi
    rw [List.getElem?_drop, List.getElem?_drop, List.getElem?_set_ne (by omega)]
  · rfl
theorem rd_no (b : List UInt8) (L : Nat) : ∀ (n p : Nat) (q : Rn) (S : List Sy) (pl er : Int), rdG (stB b) L n p q S = (none, pl, er) → 0 ≤ pl ∧ (er = 100 ∨ er = 101)
  | 0, p, q, S, pl, er, h => by rw [rdG] at h; cases h
  | n + 1, p, q, S, pl, er, h => by
    rw [rdG] at h
    split at h
    · cases h
    · split at h
      · cases h
        exact ⟨by omega, .inl rfl⟩
      · split at h
        · rename_i a2 e2 h2
          obtain ⟨t1, t2⟩ := te_none h2
          cases h
          exact ⟨by omega, t2⟩
        · exact rd_no b L n _ _ _ pl er h
/-- a byte changed -/
theorem chg_P {b : List UInt8} {L : List Sy} {a e : Int} (h : rdS b = (some L, a, e)) (k : Nat) (t : UInt8) (hk : k < b.length) (hne : ¬ b[k]? = some t) : (∀ M a' e', rdS (b.set k t) = (some M, a', e') → ¬ L = M ∧ a' = 0 ∧ e' = 0) ∧ ∀ pl er, rdS (b.set k t) = (none, pl, er) → 0 ≤ pl ∧ (er = 100 ∨ er = 101) ∧ (pl / 24 = (k : Int) / 24 ∨ pl / 24 = (k : Int) / 24 + 1) := by
  obtain ⟨h1, h2, h3, h4, h5, h6⟩ := one_P h
  have hset : (b.set k t)[k]? = some t := by rw [List.getElem?_set_self hk]
  have hneq : ¬ b.set k t = b := fun e => hne (by rw [← e]; exact hset)
  refine ⟨fun M a' e' hM => ?_, fun pl er hM => ?_⟩
  · obtain ⟨g1, g2, g3, _⟩ := one_P hM
    refine ⟨fun e => hneq ?_, g1, g2⟩
    rw [← e, h3] at g3
    simpa using g3.symm
  · have hlen : 24 ≤ b.length := by
      unfold fzP at h5
      split at h5
      · cases h5
      · omega
    have hbl : (b.set k t).length = b.length := List.length_set
    have hfb : fzB (b.take 24) 0 = none := by
      unfold fzP at h5
      rwa [if_neg (by omega)] at h5
    have hfp : fzP (b.set k t) = fzB ((b.set k t).take 24) 0 := by
      unfold fzP
      rw [if_neg (by omega)]
    have hbig : 24 ≤ k → (b.set k t).take 24 = b.take 24 := fun hk24 => by
      have := set_piece b k t 0 (by omega)
      simpa using this
    unfold rdS at hM
    split at hM
    · rename_i j hj
      rw [hfp] at hj
      have hj24 := fz_some _ _ _ hj
      rw [List.length_take] at hj24
      by_cases hk24 : 24 ≤ k
      · rw [hbig hk24, hfb] at hj
        cases hj
      · cases hM
        exact ⟨by omega, .inl rfl, .inl (by omega)⟩
    · rename_i hz
      have hN : rdG (stB (b.set k t)) b.length b.length 24 ⟨0, 0, 0⟩ [] = (none, pl, er) := by
        unfold rdF at hM
        rwa [hbl] at hM
      obtain ⟨n1, n2⟩ := rd_no _ _ _ _ _ _ _ _ hN
      refine ⟨n1, n2, ?_⟩
      by_cases hk24 : 24 ≤ k
      · have hst : ∀ p q, p % 24 = 0 → ¬ p = 24 * (k / 24) → stB (b.set k t) p q = stB b p q := fun p q hp1 hp2 => by
          unfold stB
          rw [set_piece b k t p (by omega)]
        have := run_to b (b.set k t) b.length (k / 24) (by omega) hst b.length 24 ⟨0, 0, 0⟩ [] L a e pl er rfl (by omega) (Int.le_refl _) h6 hN
        omega
      · exfalso
        rw [hfp] at hz
        have e1 := fz_none _ _ hz
        have e2 := fz_none _ _ hfb
        rw [List.length_take, hbl, Nat.min_eq_left hlen] at e1
        rw [List.length_take, Nat.min_eq_left hlen] at e2
        have e3 : ((b.set k t).take 24)[k]? = (b.take 24)[k]? := by rw [e1, e2]
        rw [List.getElem?_take_of_lt (by omega), List.getElem?_take_of_lt (by omega), hset] at e3
        exact hne e3.symm
end Go.Proofs.Ytpkbchhjcgiiaaa
