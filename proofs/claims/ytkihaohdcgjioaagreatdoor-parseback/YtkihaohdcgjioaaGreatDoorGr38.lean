import Derived.Test.YtkihaohdcgjioaaGreatDoorGr37
namespace Go.Proofs.YtkihaohdcgjioaaGreatDoor.Lx
open Go.RowKit
set_option linter.unusedVariables false
set_option linter.unusedSimpArgs false
theorem cap16_16 : ∀ k, k ≤ 16 → cap16 k ≤ 18446744073709551616 := by decide
theorem hexV_rng (l : List UInt8) : ∀ a : Int, 0 ≤ a → l.all hexU = true → 0 ≤ hexV a l ∧ hexV a l + 1 ≤ (a + 1) * cap16 l.length := by
  induction l with
  | nil => intro a h0 _; exact ⟨h0, by simp [hexV, cap16]⟩
  | cons b l ih =>
    intro a h0 h
    rw [List.all_cons, Bool.and_eq_true] at h
    have hr : 0 ≤ hexD (bI b) ∧ hexD (bI b) ≤ 15 := hexD_rng ⟨b.toNat, b.toNat_lt⟩ h.1
    have := ih (a * 16 + hexD (bI b)) (by omega) h.2
    refine ⟨this.1, Int.le_trans this.2 ?_⟩
    have hc : 0 ≤ cap16 l.length := Int.pow_nonneg (by decide)
    rw [List.length_cons, cap16_succ, show (a + 1) * (cap16 l.length * 16) = ((a + 1) * 16) * cap16 l.length from by rw [Int.mul_comm (cap16 l.length) 16, Int.mul_assoc]]
    exact Int.mul_le_mul_of_nonneg_right (by omega) hc
theorem val_rng (l : List UInt8) : 0 ≤ (valP l).1 ∧ (valP l).1 < 18446744073709551616 := by
  unfold valP
  split
  · split
    · rename_i h
      have h1 := hexV_rng (l.drop 2) 0 (by omega) h.2.2
      have h2 := cap16_16 (l.drop 2).length (by rw [List.length_drop]; omega)
      simp only at h1 ⊢
      omega
    · simp
  · split
    · simp
    · split
      · rename_i h; simp only; omega
      · simp
theorem take_run (l : List UInt8) : l.take (runN l) = l.takeWhile runU := by
  unfold runN
  induction l with
  | nil => rfl
  | cons c l ih =>
    rw [List.takeWhile_cons]
    split
    · rw [List.length_cons, List.take_succ_cons, ih]
    · rfl
theorem tw_allr (l : List UInt8) : (l.takeWhile runU).all runU = true := by
  induction l with
  | nil => rfl
  | cons c l ih =>
    rw [List.takeWhile_cons]
    split
    · rename_i h; rw [List.all_cons, h, ih]; rfl
    · rfl
theorem kind_dot : ∀ n : Fin 256, kindP (n.val : Int) = 5 → n.val = 46 := by decide +kernel
theorem kind_run {c : UInt8} (h : kindP (bI c) = 3 ∨ kindP (bI c) = 4 ∨ kindP (bI c) = 5) : runU c = true := by
  unfold runU; rw [runP_kind]; rcases h with h | h | h <;> simp [h]
theorem piece_may (c : UInt8) (r : List UInt8) (q : Int × List UInt8 × Int) (n : Nat) (h0 : (pieceP (c :: r)).1 = 0) (h : (pieceP (c :: r)).2.1 = some q) : mayP (mkT n q) = 0 ∧ 0 ≤ q.2.2 ∧ q.2.2 < 18446744073709551616 ∧ q.2.1.length ≤ 140737488355328 := by
  rw [piece_cons] at h h0
  by_cases k1 : kindP (bI c) = 1
  · rw [if_pos k1] at h; simp at h
  rw [if_neg k1] at h h0
  by_cases k2 : kindP (bI c) = 2
  · rw [if_pos k2] at h; simp at h
  rw [if_neg k2] at h h0
  by_cases k3 : kindP (bI c) = 3
  · rw [if_pos k3] at h h0
    simp only [Option.some.injEq] at h
    subst h
    have hl : runN (c :: r) ≤ 64 := by
      by_cases e : runN (c :: r) ≤ 64
      · exact e
      · rw [if_neg e] at h0; simp at h0
    have hc := kind_run (c := c) (.inl k3)
    have hlen : ((c :: r).take (runN (c :: r))).length ≤ 64 := by rw [List.length_take]; omega
    have hw : wordP ((c :: r).take (runN (c :: r))) = true := by
      unfold wordP
      rw [decide_eq_true hlen, take_run, tw_allr]
      simp [List.takeWhile_cons, hc, startP, k3]
    refine ⟨?_, by simp, by simp, by simp only; omega⟩
    simp [mayP, mkT, hw]
  rw [if_neg k3] at h h0
  by_cases k5 : kindP (bI c) = 5
  · rw [if_pos k5] at h h0
    simp only [Option.some.injEq] at h
    subst h
    have hst : startP r = true := by
      by_cases e : startP r = true
      · exact e
      · rw [if_neg e] at h0; simp at h0
    rw [if_pos hst] at h0
    have hl : runN (c :: r) ≤ 65 := by
      by_cases e : runN (c :: r) ≤ 65
      · exact e
      · rw [if_neg e] at h0; simp at h0
    have hc := kind_run (c := c) (.inr (.inr k5))
    have hc46 : c = 46 := UInt8.toNat_inj.1 (kind_dot ⟨c.toNat, c.toNat_lt⟩ k5)
    have ht : (c :: r).take (runN (c :: r)) = 46 :: r.takeWhile runU := by rw [take_run, List.takeWhile_cons, hc, hc46]; rfl
    have hlen : (46 :: r.takeWhile runU).length ≤ 65 := by rw [← ht, List.length_take]; omega
    rw [ht]
    have hp : Lib.hasPrefix (46 :: r.takeWhile runU) [46] = true := by simp [Lib.hasPrefix, List.isPrefixOf]
    have htr : Lib.trimPrefix (46 :: r.takeWhile runU) [46] = r.takeWhile runU := by unfold Lib.trimPrefix; rw [if_pos hp]; rfl
    have hw : wordP (r.takeWhile runU) = true := by
      cases r with
      | nil => simp [startP] at hst
      | cons d r' =>
        have hk : kindP (bI d) = 3 := by simpa [startP] using hst
        have hd := kind_run (c := d) (.inl hk)
        simp only [List.length_cons] at hlen
        have hl2 : ((d :: r').takeWhile runU).length ≤ 64 := by omega
        unfold wordP
        rw [decide_eq_true hl2, tw_allr]
        simp [List.takeWhile_cons, hd, startP, hk]
    have hdot : dotP (46 :: r.takeWhile runU) = true := by unfold dotP; rw [hp, htr, hw]; rfl
    refine ⟨?_, by simp, by simp, by simp only; omega⟩
    simp [mayP, mkT, hdot]
  rw [if_neg k5] at h h0
  by_cases k4 : kindP (bI c) = 4
  · rw [if_pos k4] at h
    simp only [Option.some.injEq] at h
    subst h
    have := val_rng ((c :: r).take (runN (c :: r)))
    refine ⟨?_, this.1, this.2, by simp⟩
    simp [mayP, mkT]
  rw [if_neg k4] at h h0
  by_cases k7 : kindP (bI c) = 7
  · rw [if_pos k7] at h
    simp only [Option.some.injEq] at h
    subst h
    refine ⟨?_, by simp, by simp, by simp⟩
    simp [mayP, mkT, markB, k7]
  rw [if_neg k7] at h; simp at h
theorem scan_may : ∀ (f : Nat) (l : List UInt8) (q : Int × List UInt8 × Int) (n : Nat), q ∈ (scanF f l).2 → mayP (mkT n q) = 0 ∧ 0 ≤ q.2.2 ∧ q.2.2 < 18446744073709551616 ∧ q.2.1.length ≤ 140737488355328
  | 0, _, q, n, h => by simp [scanF] at h
  | _ + 1, [], q, n, h => by simp [scanF] at h
  | f + 1, c :: r, q, n, h => by
    unfold scanF at h
    split at h
    · rename_i h0
      simp only [List.mem_append, Option.mem_toList] at h
      rcases h with h | h
      · exact piece_may c r q n h0 h
      · exact scan_may f _ q n h
    · simp at h
theorem line_may (l : List UInt8) (q : Int × List UInt8 × Int) (n : Nat) (h : q ∈ (lineP l).2) : mayP (mkT n q) = 0 ∧ 0 ≤ q.2.2 ∧ q.2.2 < 18446744073709551616 ∧ q.2.1.length ≤ 140737488355328 := by
  unfold lineP at h
  split at h
  · exact scan_may _ _ _ n h
  · simp at h
def Good : Bool → List Tk → Prop
  | _, [] => True
  | ok, x :: r => mayP x = 0 ∧ (x.k = 0 → r = [] ∧ ok = true) ∧ Good (decide (x.k = 5)) r
theorem good_un : ∀ (ts : List Tk) (ok : Bool) (s : WS), Good ok ts → (unF ok s ts).1 = 0 ∨ (unF ok s ts).1 = 51
  | [], ok, s, _ => .inl rfl
  | x :: r, ok, s, h => by
    obtain ⟨h1, h2, h3⟩ := h
    have e : unF ok s (x :: r) = (if mayP x = 0 then (if x.k = 0 ∧ ¬ (r = [] ∧ ok = true) then (52, s) else if x.k = 5 ∧ 1024 < s.line then (51, s) else unF (decide (x.k = 5)) (s.tok x) r) else (mayP x, s)) := rfl
    rw [e, if_pos h1, if_neg (fun h => h.2 (h2 h.1))]
    split
    · exact .inr rfl
    · exact good_un r _ _ h3
theorem good_raws (ln : Nat) (R : List Tk) : ∀ (X : List (Int × List UInt8 × Int)) (ok : Bool), (∀ q ∈ X, mayP (mkT ln q) = 0) → (∀ q ∈ X, q.1 = 1 ∨ q.1 = 2 ∨ q.1 = 3 ∨ q.1 = 4) → (∀ b, Good b R) → Good ok (X.map (mkT ln) ++ R)
  | [], ok, _, _, hR => hR ok
  | q :: X, ok, h, hk, hR => by
    have hq := hk q (by simp)
    refine ⟨h q (by simp), fun e => ?_, good_raws ln R X _ (fun q hq => h q (by simp [hq])) (fun q hq => hk q (by simp [hq])) hR⟩
    have e' : q.1 = 0 := e
    omega
theorem good_text : ∀ (f n : Nat) (l : List UInt8) (m : Nat) (T : List Tk), l.length ≤ f → textF f n l = (0, m, T) → Good true (T ++ [⟨0, [], 0, (m : Int)⟩]) ∧ NumsOk T
  | 0, n, l, m, T, hl, h => by
    simp [textF] at h
    obtain ⟨rfl, rfl⟩ := h
    exact ⟨⟨rfl, fun _ => ⟨rfl, rfl⟩, trivial⟩, fun x hx => by cases hx⟩
  | f + 1, n, [], m, T, hl, h => by
    simp [textF] at h
    obtain ⟨rfl, rfl⟩ := h
    exact ⟨⟨rfl, fun _ => ⟨rfl, rfl⟩, trivial⟩, fun x hx => by cases hx⟩
  | f + 1, n, c :: r, m, T, hl, h => by
    unfold textF at h
    by_cases hz : (lineP (cutL (c :: r)).1).1 = 0
    · rw [if_pos hz] at h
      simp only [Prod.mk.injEq] at h
      obtain ⟨h1, h2, h3⟩ := h
      have hc := (cutL_len (c :: r) (by simp)).2
      simp only [List.length_cons] at hl hc
      have ih := good_text f (n + 1) (cutL (c :: r)).2 m (textF f (n + 1) (cutL (c :: r)).2).2.2 (by omega) (by rw [← h1, ← h2])
      rw [← h3]
      constructor
      · rw [List.map_append, List.append_assoc, List.append_assoc]
        refine good_raws _ _ _ _ (fun q hq => (line_may _ q _ hq).1) (line_kind _) (fun b => And.intro rfl (And.intro (fun e => absurd (show (5 : Int) = 0 from e) (by decide)) ih.1))
      · intro x hx
        rw [List.mem_append, List.mem_map] at hx
        rcases hx with ⟨q, hq, rfl⟩ | hx
        · rw [List.mem_append] at hq
          rcases hq with hq | hq
          · exact (line_may _ q (n + 1) hq).2
          · simp at hq; subst hq; simp [mkT]
        · exact ih.2 x hx
    · rw [if_neg hz] at h
      simp only [Prod.mk.injEq] at h
      exact absurd h.1 hz
theorem forth_P (l : List UInt8) (h : (tokensP l).2.2 = 0) : (tokensP l).2.1 = 0 ∧ NumsOk (tokensP l).1 ∧ ((untokP (tokensP l).1).2 = 0 ∨ (untokP (tokensP l).1).2 = 51 ∨ (untokP (tokensP l).1).2 = 50) := by
  unfold tokensP at h ⊢
  by_cases hl : l.length ≤ 16777216
  · rw [if_pos hl] at h ⊢
    by_cases h0 : (textD 0 l).1 = 0
    · rw [if_pos h0] at h ⊢
      simp only
      obtain ⟨g1, g2⟩ := good_text l.length 0 l _ _ (Nat.le_refl _) (show textF l.length 0 l = (0, (textD 0 l).2.1, (textD 0 l).2.2) by rw [← h0]; rfl)
      refine ⟨trivial, fun x hx => ?_, ?_⟩
      · rw [List.mem_append] at hx
        rcases hx with hx | hx
        · exact g2 x hx
        · simp at hx; subst hx; simp
      · have hu := good_un _ true ⟨[], 0, 0⟩ g1
        have hlast : lastK ((textD 0 l).2.2 ++ [⟨0, [], 0, ((textD 0 l).2.1 : Int)⟩]) = some 0 := by simp [lastK]
        unfold untokP
        rcases hu with hu | hu
        · rw [if_pos hu, if_pos hlast]
          split
          · exact .inl rfl
          · exact .inr (.inr rfl)
        · rw [if_neg (by rw [hu]; decide)]
          exact .inr (.inl hu)
    · rw [if_neg h0] at h; exact absurd h h0
  · rw [if_neg hl] at h; simp at h
def isBl (b : UInt8) : Bool := b == 32 || b == 9 || b == 13
theorem bl_kind {b : UInt8} (h : isBl b = true) : kindP (bI b) = 1 ∧ runU b = false ∧ ¬ b = 10 := by
  simp only [isBl, Bool.or_eq_true, beq_iff_eq] at h
  rcases h with (rfl | rfl) | rfl <;> decide
theorem scan_bl (b : UInt8) (y : List UInt8) (h : isBl b = true) : scanD (b :: y) = scanD y := by
  have hp : pieceP (b :: y) = (0, none, 1) := by rw [piece_cons, if_pos (bl_kind h).1]
  rw [scanD_ok b y (by rw [hp]), hp]
  simp
theorem text_mem : ∀ (f n : Nat) (l : List UInt8) (m : Nat) (T : List Tk), l.length ≤ f → textF f n l = (0, m, T) → (∀ x ∈ T, mayP x = 0 ∧ (isPiece x ∨ x.k = 5)) ∧ (T = [] ∨ lastK T = some 5)
  | 0, n, l, m, T, hl, h => by
    simp [textF] at h
    obtain ⟨rfl, rfl⟩ := h
    exact ⟨fun x hx => absurd hx (by simp), .inl rfl⟩
  | f + 1, n, [], m, T, hl, h => by
    simp [textF] at h
    obtain ⟨rfl, rfl⟩ := h
    exact ⟨fun x hx => absurd hx (by simp), .inl rfl⟩
  | f + 1, n, c :: r, m, T, hl, h => by
    unfold textF at h
    by_cases hz : (lineP (cutL (c :: r)).1).1 = 0
    · rw [if_pos hz] at h
      simp only [Prod.mk.injEq] at h
      obtain ⟨h1, h2, h3⟩ := h
      have hc := (cutL_len (c :: r) (by simp)).2
      simp only [List.length_cons] at hl hc
      have ih := text_mem f (n + 1) (cutL (c :: r)).2 m (textF f (n + 1) (cutL (c :: r)).2).2.2 (by omega) (by rw [← h1, ← h2])
      rw [← h3]
      constructor
      · intro x hx
        rw [List.mem_append, List.mem_map] at hx
        rcases hx with ⟨q, hq, rfl⟩ | hx
        · rw [List.mem_append] at hq
          rcases hq with hq | hq
          · refine ⟨(line_may _ q (n + 1) hq).1, .inl ?_⟩
            have := line_kind _ q hq
            show q.1 = 1 ∨ q.1 = 2 ∨ q.1 = 4 ∨ q.1 = 3
            omega
          · simp at hq; subst hq
            exact ⟨rfl, .inr rfl⟩
        · exact ih.1 x hx
      · right
        rcases ih.2 with h0 | h0
        · rw [h0, List.append_nil, List.map_append]
          simp [lastK, mkT]
        · unfold lastK at h0 ⊢
          rw [List.getLast?_append]
          cases hg : (textF f (n + 1) (cutL (c :: r)).2).2.2.getLast? with
          | none => rw [hg] at h0; simp at h0
          | some y => rw [hg] at h0; simpa using h0
    · rw [if_neg hz] at h
      simp only [Prod.mk.injEq] at h
      exact absurd h.1 hz
end Go.Proofs.YtkihaohdcgjioaaGreatDoor.Lx
namespace Go.Proofs.YtkihaohdcgjioaaGreatDoor
open Go.RowKit
set_option linter.unusedVariables false
set_option linter.unusedSimpArgs false
def restN : Nat → List UInt8 → List UInt8
  | 0, l => l
  | n + 1, l => restN n (restP l)
def TE (l m : List UInt8) : Prop := ∀ n, tokP (restN n l) = tokP (restN n m)
theorem TE.tok {l m : List UInt8} (h : TE l m) : tokP l = tokP m := h 0
theorem TE.rest {l m : List UInt8} (h : TE l m) : TE (restP l) (restP m) := fun n => h (n + 1)
def ER (r q : RS) : Prop := ∃ x, q = { r with rest := x } ∧ TE r.rest x
theorem ER.mk {r : RS} {x : List UInt8} (h : TE r.rest x) : ER r { r with rest := x } := ⟨x, rfl, h⟩
theorem ER.next {r q : RS} (h : ER r q) : ER r.next q.next := by
  obtain ⟨x, rfl, h⟩ := h
  exact ⟨restP x, by simp only [RS.next]; rw [h.tok], h.rest⟩
theorem ER.set {r q : RS} (h : ER r q) (f : RS → RS) (hf : ∀ r x, f { r with rest := x } = { f r with rest := x }) (hr : ∀ r, (f r).rest = r.rest) : ER (f r) (f q) := by
  obtain ⟨x, rfl, h⟩ := h
  exact ⟨x, hf r x, by rw [hr]; exact h⟩
theorem ER.skip {r q : RS} (h : ER r q) (m : List UInt8) : ER (skipP m r).1 (skipP m q).1 ∧ (skipP m r).2 = (skipP m q).2 := by
  have ht : q.tok = r.tok := by obtain ⟨x, rfl, _⟩ := h; rfl
  unfold skipP
  rw [ht]
  split
  · exact ⟨h.next, rfl⟩
  · exact ⟨h, rfl⟩
theorem ER.mark {r q : RS} (h : ER r q) (m : List UInt8) : ER (markS m r) (markS m q) := by
  have h1 := h.skip m
  unfold markS
  rw [← h1.2]
  split
  · exact h1.1
  · exact h1.1.set (fun r => { r with wrong := true }) (fun _ _ => rfl) (fun _ => rfl)
theorem ER.reg {r q : RS} (h : ER r q) : ER (regS r).1 (regS q).1 ∧ (regS r).2 = (regS q).2 := by
  have hn := h.next
  obtain ⟨x, rfl, hx⟩ := h
  unfold regS
  simp only
  cases regN r.tok with
  | none => exact ⟨⟨x, rfl, hx⟩, rfl⟩
  | some k => exact ⟨hn, rfl⟩
theorem ER.sgn {r q : RS} (h : ER r q) : ER (sgnS r).1 (sgnS q).1 ∧ (sgnS r).2 = (sgnS q).2 := by
  have h1 := h.skip [45]
  unfold sgnS
  rw [← h1.2]
  split
  · exact ⟨h1.1, rfl⟩
  · exact ⟨(h1.1.skip [43]).1, rfl⟩
theorem ER.pgn {r q : RS} (h : ER r q) : ER (pgnS r).1 (pgnS q).1 ∧ (pgnS r).2 = (pgnS q).2 := by
  have h1 := h.skip [45]
  unfold pgnS
  rw [← h1.2]
  split
  · exact ⟨h1.1, rfl⟩
  · exact ⟨h1.1.mark [43], rfl⟩
theorem ER.num {r q : RS} (h : ER r q) (b : Bool) (half high : Int) : ER (numS b half high r) (numS b half high q) ∧ ∀ w, numV b w r = numV b w q := by
  have ht : q.tok = r.tok ∧ q.wrong = r.wrong ∧ q.outside = r.outside := by obtain ⟨x, rfl, _⟩ := h; exact ⟨rfl, rfl, rfl⟩
  constructor
  · unfold numS
    rw [ht.1, ht.2.2]
    have h1 : ER (RS.next { r with wrong := r.wrong || !(valP r.tok).2.2 }) (RS.next { q with wrong := q.wrong || !(valP r.tok).2.2 }) := by
      rw [ht.2.1]
      exact (h.set (fun p => { p with wrong := r.wrong || !(valP r.tok).2.2 }) (fun _ _ => rfl) (fun _ => rfl)).next
    exact h1.set (fun p => { p with outside := r.outside || ((valP r.tok).2.1 || decide ((if b then half else high) < (valP r.tok).1)) }) (fun _ _ => rfl) (fun _ => rfl)
  · intro w
    unfold numV
    rw [ht.1]
theorem ER.imm {r q : RS} (h : ER r q) : ER (immS r) (immS q) := by
  have ho : q.o = r.o := by obtain ⟨x, rfl, _⟩ := h; rfl
  have h1 := h.sgn
  unfold immS
  rw [ho, ← h1.2]
  split
  · have h2 := h1.1.num (sgnS r).2 9223372036854775808 18446744073709551615
    rw [← h2.2 64]
    exact h2.1.set (fun p => { p with i := numV (sgnS r).2 64 (sgnS r).1 }) (fun _ _ => rfl) (fun _ => rfl)
  · have h2 := h1.1.num (sgnS r).2 2147483648 4294967295
    rw [← h2.2 32]
    exact h2.1.set (fun p => { p with i := numV (sgnS r).2 32 (sgnS r).1 }) (fun _ _ => rfl) (fun _ => rfl)
theorem ER.place {r q : RS} (h : ER r q) : ER (placeS r).1 (placeS q).1 ∧ (placeS r).2 = (placeS q).2 := by
  have h1 := (h.mark [91]).reg
  have h2 := h1.1.pgn
  have h3 := h2.1.num (pgnS (regS (markS [91] r)).1).2 32768 32767
  unfold placeS
  rw [← h2.2, ← h1.2, ← h3.2 16]
  exact ⟨h3.1.mark [93], rfl⟩
theorem ER.name {r q : RS} (h : ER r q) : ER (nameS r) (nameS q) := by
  have ht : q.tok = r.tok ∧ q.wrong = r.wrong := by obtain ⟨x, rfl, _⟩ := h; exact ⟨rfl, rfl⟩
  unfold nameS
  rw [ht.1, ht.2]
  exact (h.set (fun p => { p with wrong := r.wrong || !nameP r.tok, tgt := r.tok }) (fun _ _ => rfl) (fun _ => rfl)).next
theorem ER.srcS {r q : RS} (h : ER r q) : ER (srcS r) (srcS q) := by
  have hi := h.imm
  have h1 := (h.set (fun p => { p with o := orB r.o }) (fun _ _ => rfl) (fun _ => rfl)).reg
  obtain ⟨x, rfl, hx⟩ := h
  unfold YtkihaohdcgjioaaGreatDoor.srcS
  simp only
  cases startP r.tok with
  | false => exact hi
  | true =>
    simp only [if_true] at h1 ⊢
    rw [← h1.2]
    exact h1.1.set (fun p => { p with s := (regS { r with o := orB r.o }).2 }) (fun _ _ => rfl) (fun _ => rfl)
theorem ER.helpS {r q : RS} (h : ER r q) : ER (helpS r) (helpS q) := by
  have hi := h.imm
  have h1 := (h.set (fun p => { p with s := 1, i := -1 }) (fun _ _ => rfl) (fun _ => rfl)).name
  obtain ⟨x, rfl, hx⟩ := h
  unfold YtkihaohdcgjioaaGreatDoor.helpS
  simp only
  cases startP r.tok with
  | false => exact hi
  | true => exact h1
theorem ER.opS {r q : RS} (h : ER r q) (c : Int) : ER (opS c r) (opS c q) := by
  unfold YtkihaohdcgjioaaGreatDoor.opS
  split
  · rw [← h.reg.2]; exact h.reg.1.set (fun p => { p with d := (regS r).2 }) (fun _ _ => rfl) (fun _ => rfl)
  split
  · rw [← h.reg.2]; exact h.reg.1.set (fun p => { p with s := (regS r).2 }) (fun _ _ => rfl) (fun _ => rfl)
  split
  · exact h.imm
  split
  · exact h.srcS
  split
  · rw [← h.place.2]; exact h.place.1.set (fun p => { p with s := (placeS r).2.1, f := (placeS r).2.2 }) (fun _ _ => rfl) (fun _ => rfl)
  split
  · rw [← h.place.2]; exact h.place.1.set (fun p => { p with d := (placeS r).2.1, f := (placeS r).2.2 }) (fun _ _ => rfl) (fun _ => rfl)
  split
  · exact h.name
  split
  · exact h.helpS
  · exact h
theorem ER.opdL {r q : RS} (h : ER r q) (t : Int × Int × Int) : ER (opdL t r) (opdL t q) := by
  unfold YtkihaohdcgjioaaGreatDoor.opdL
  split
  · exact h
  split
  · exact h.opS _
  split
  · exact ((h.opS _).mark _).opS _
  · exact ((((h.opS _).mark _).opS _).mark _).opS _
theorem ER.behind {r q : RS} (h : ER r q) (m : Mn) : ER (behindS m r) (behindS m q) := by
  have h1 : ER (YtkihaohdcgjioaaGreatDoor.opdL (tOf m.1 m.2.1 m.2.2.1) (RS.next { r with o := m.1, d := 0, s := m.2.1, f := m.2.2.1, i := m.2.2.2 })) (YtkihaohdcgjioaaGreatDoor.opdL (tOf m.1 m.2.1 m.2.2.1) (RS.next { q with o := m.1, d := 0, s := m.2.1, f := m.2.2.1, i := m.2.2.2 })) :=
    ((h.set (fun p => { p with o := m.1, d := 0, s := m.2.1, f := m.2.2.1, i := m.2.2.2 }) (fun _ _ => rfl) (fun _ => rfl)).next).opdL _
  unfold behindS opsS
  have ht : (YtkihaohdcgjioaaGreatDoor.opdL (tOf m.1 m.2.1 m.2.2.1) (RS.next { q with o := m.1, d := 0, s := m.2.1, f := m.2.2.1, i := m.2.2.2 })).tok = (YtkihaohdcgjioaaGreatDoor.opdL (tOf m.1 m.2.1 m.2.2.1) (RS.next { r with o := m.1, d := 0, s := m.2.1, f := m.2.2.1, i := m.2.2.2 })).tok ∧ (YtkihaohdcgjioaaGreatDoor.opdL (tOf m.1 m.2.1 m.2.2.1) (RS.next { q with o := m.1, d := 0, s := m.2.1, f := m.2.2.1, i := m.2.2.2 })).wrong = (YtkihaohdcgjioaaGreatDoor.opdL (tOf m.1 m.2.1 m.2.2.1) (RS.next { r with o := m.1, d := 0, s := m.2.1, f := m.2.2.1, i := m.2.2.2 })).wrong := by
    obtain ⟨x, e, _⟩ := h1
    rw [e]
    exact ⟨rfl, rfl⟩
  rw [ht.1, ht.2]
  exact h1.set (fun p => { p with wrong := (YtkihaohdcgjioaaGreatDoor.opdL (tOf m.1 m.2.1 m.2.2.1) (RS.next { r with o := m.1, d := 0, s := m.2.1, f := m.2.2.1, i := m.2.2.2 })).wrong || !(YtkihaohdcgjioaaGreatDoor.opdL (tOf m.1 m.2.1 m.2.2.1) (RS.next { r with o := m.1, d := 0, s := m.2.1, f := m.2.2.1, i := m.2.2.2 })).tok.isEmpty }) (fun _ _ => rfl) (fun _ => rfl)
theorem parse_TE {l m : List UInt8} (h : TE l m) : parseP l = parseP m := by
  have h0 : ER (newR l) (newR m) := ⟨restP m, by show (⟨restP m, tokP m, 0, 0, 0, 0, 0, [], false, false⟩ : RS) = ⟨restP m, tokP l, 0, 0, 0, 0, 0, [], false, false⟩; rw [h.tok], h.rest⟩
  have ht : (newR m).tok = (newR l).tok := by obtain ⟨x, e, _⟩ := h0; rw [e]
  unfold parseP
  rw [ht]
  cases meanOf (newR l).tok with
  | none => rfl
  | some k =>
    simp only
    obtain ⟨x, e, _⟩ := h0.behind k
    rw [e]
end Go.Proofs.YtkihaohdcgjioaaGreatDoor
