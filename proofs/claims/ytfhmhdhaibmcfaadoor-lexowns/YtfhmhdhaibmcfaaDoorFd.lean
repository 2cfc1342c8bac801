import Derived.Test.YtfhmhdhaibmcfaaDoorFb
namespace Go.Proofs.YtfhmhdhaibmcfaaDoor
open Go.RowKit
set_option linter.unusedVariables false
set_option linter.unusedSimpArgs false
theorem cap16_16 : ∀ k, k ≤ 16 → cap16 k ≤ 18446744073709551616 := by decide
theorem hexV_rng (l : List UInt8) : ∀ a : Int, 0 ≤ a → l.all hexU = true → 0 ≤ hexV a l ∧ hexV a l + 1 ≤ (a + 1) * cap16 l.length := by
  induction l with
  | nil => intro a h0 _; exact ⟨h0, by simp [hexV, cap16]⟩
  | cons b l ih =>
    intro a h0 h
    rw [List.all_cons, Bool.and_eq_true] at h
    have hr : 0 ≤ hexD (bI b) ∧ hexD (bI b) ≤ 15 := hexD_rng ⟨b.toNat, b.toNat_lt⟩ h.1
    have := ih (a * 16 + hexD (bI b)) (by omega) h.2
    refine ⟨this.1, Int.le_trans this.2 ?_⟩
    have hc : 0 ≤ cap16 l.length := Int.pow_nonneg (by decide)
    rw [List.length_cons, cap16_succ, show (a + 1) * (cap16 l.length * 16) = ((a + 1) * 16) * cap16 l.length from by rw [Int.mul_comm (cap16 l.length) 16, Int.mul_assoc]]
    exact Int.mul_le_mul_of_nonneg_right (by omega) hc
theorem val_rng (l : List UInt8) : 0 ≤ (valP l).1 ∧ (valP l).1 < 18446744073709551616 := by
  unfold valP
  split
  · split
    · rename_i h
      have h1 := hexV_rng (l.drop 2) 0 (by omega) h.2.2
      have h2 := cap16_16 (l.drop 2).length (by rw [List.length_drop]; omega)
      simp only at h1 ⊢
      omega
    · simp
  · split
    · simp
    · split
      · rename_i h; simp only; omega
      · simp
theorem take_run (l : List UInt8) : l.take (runN l) = l.takeWhile runU := by
  unfold runN
  induction l with
  | nil => rfl
  | cons c l ih =>
    rw [List.takeWhile_cons]
    split
    · rw [List.length_cons, List.take_succ_cons, ih]
    · rfl
theorem tw_allr (l : List UInt8) : (l.takeWhile runU).all runU = true := by
  induction l with
  | nil => rfl
  | cons c l ih =>
    rw [List.takeWhile_cons]
    split
    · rename_i h; rw [List.all_cons, h, ih]; rfl
    · rfl
theorem kind_dot : ∀ n : Fin 256, kindP (n.val : Int) = 5 → n.val = 46 := by decide +kernel
theorem kind_run {c : UInt8} (h : kindP (bI c) = 3 ∨ kindP (bI c) = 4 ∨ kindP (bI c) = 5) : runU c = true := by
  unfold runU; rw [runP_kind]; rcases h with h | h | h <;> simp [h]
/-- what is cut is a token that may be -/
theorem piece_may (c : UInt8) (r : List UInt8) (q : Int × List UInt8 × Int) (n : Nat) (h0 : (pieceP (c :: r)).1 = 0) (h : (pieceP (c :: r)).2.1 = some q) : mayP (mkT n q) = 0 ∧ 0 ≤ q.2.2 ∧ q.2.2 < 18446744073709551616 ∧ q.2.1.length ≤ 140737488355328 := by
  rw [piece_cons] at h h0
  by_cases k1 : kindP (bI c) = 1
  · rw [if_pos k1] at h; simp at h
  rw [if_neg k1] at h h0
  by_cases k2 : kindP (bI c) = 2
  · rw [if_pos k2] at h; simp at h
  rw [if_neg k2] at h h0
  by_cases k3 : kindP (bI c) = 3
  · rw [if_pos k3] at h h0
    simp only [Option.some.injEq] at h
    subst h
    have hl : runN (c :: r) ≤ 64 := by
      by_cases e : runN (c :: r) ≤ 64
      · exact e
      · rw [if_neg e] at h0; simp at h0
    have hc := kind_run (c := c) (.inl k3)
    have hlen : ((c :: r).take (runN (c :: r))).length ≤ 64 := by rw [List.length_take]; omega
    have hw : wordP ((c :: r).take (runN (c :: r))) = true := by
      unfold wordP
      rw [decide_eq_true hlen, take_run, tw_allr]
      simp [List.takeWhile_cons, hc, startP, k3]
    refine ⟨?_, by simp, by simp, by simp only; omega⟩
    simp [mayP, mkT, hw]
  rw [if_neg k3] at h h0
  by_cases k5 : kindP (bI c) = 5
  · rw [if_pos k5] at h h0
    simp only [Option.some.injEq] at h
    subst h
    have hst : startP r = true := by
      by_cases e : startP r = true
      · exact e
      · rw [if_neg e] at h0; simp at h0
    rw [if_pos hst] at h0
    have hl : runN (c :: r) ≤ 65 := by
      by_cases e : runN (c :: r) ≤ 65
      · exact e
      · rw [if_neg e] at h0; simp at h0
    have hc := kind_run (c := c) (.inr (.inr k5))
    have hc46 : c = 46 := UInt8.toNat_inj.1 (kind_dot ⟨c.toNat, c.toNat_lt⟩ k5)
    have ht : (c :: r).take (runN (c :: r)) = 46 :: r.takeWhile runU := by rw [take_run, List.takeWhile_cons, hc, hc46]; rfl
    have hlen : (46 :: r.takeWhile runU).length ≤ 65 := by rw [← ht, List.length_take]; omega
    rw [ht]
    have hp : Lib.hasPrefix (46 :: r.takeWhile runU) [46] = true := by simp [Lib.hasPrefix, List.isPrefixOf]
    have htr : Lib.trimPrefix (46 :: r.takeWhile runU) [46] = r.takeWhile runU := by unfold Lib.trimPrefix; rw [if_pos hp]; rfl
    have hw : wordP (r.takeWhile runU) = true := by
      cases r with
      | nil => simp [startP] at hst
      | cons d r' =>
        have hk : kindP (bI d) = 3 := by simpa [startP] using hst
        have hd := kind_run (c := d) (.inl hk)
        simp only [List.length_cons] at hlen
        have hl2 : ((d :: r').takeWhile runU).length ≤ 64 := by omega
        unfold wordP
        rw [decide_eq_true hl2, tw_allr]
        simp [List.takeWhile_cons, hd, startP, hk]
    have hdot : dotP (46 :: r.takeWhile runU) = true := by unfold dotP; rw [hp, htr, hw]; rfl
    refine ⟨?_, by simp, by simp, by simp only; omega⟩
    simp [mayP, mkT, hdot]
  rw [if_neg k5] at h h0
  by_cases k4 : kindP (bI c) = 4
  · rw [if_pos k4] at h
    simp only [Option.some.injEq] at h
    subst h
    have := val_rng ((c :: r).take (runN (c :: r)))
    refine ⟨?_, this.1, this.2, by simp⟩
    simp [mayP, mkT]
  rw [if_neg k4] at h h0
  by_cases k7 : kindP (bI c) = 7
  · rw [if_pos k7] at h
    simp only [Option.some.injEq] at h
    subst h
    refine ⟨?_, by simp, by simp, by simp⟩
    simp [mayP, mkT, markB, k7]
  rw [if_neg k7] at h; simp at h
theorem scan_may : ∀ (f : Nat) (l : List UInt8) (q : Int × List UInt8 × Int) (n : Nat), q ∈ (scanF f l).2 → mayP (mkT n q) = 0 ∧ 0 ≤ q.2.2 ∧ q.2.2 < 18446744073709551616 ∧ q.2.1.length ≤ 140737488355328
  | 0, _, q, n, h => by simp [scanF] at h
  | _ + 1, [], q, n, h => by simp [scanF] at h
  | f + 1, c :: r, q, n, h => by
    unfold scanF at h
    split at h
    · rename_i h0
      simp only [List.mem_append, Option.mem_toList] at h
      rcases h with h | h
      · exact piece_may c r q n h0 h
      · exact scan_may f _ q n h
    · simp at h
theorem line_may (l : List UInt8) (q : Int × List UInt8 × Int) (n : Nat) (h : q ∈ (lineP l).2) : mayP (mkT n q) = 0 ∧ 0 ≤ q.2.2 ∧ q.2.2 < 18446744073709551616 ∧ q.2.1.length ≤ 140737488355328 := by
  unfold lineP at h
  split at h
  · exact scan_may _ _ _ n h
  · simp at h
/-- a list that Untoken refuses for its lengths alone -/
def Good : Bool → List Tk → Prop
  | _, [] => True
  | ok, x :: r => mayP x = 0 ∧ (x.k = 0 → r = [] ∧ ok = true) ∧ Good (decide (x.k = 5)) r
theorem good_un : ∀ (ts : List Tk) (ok : Bool) (s : WS), Good ok ts → (unF ok s ts).1 = 0 ∨ (unF ok s ts).1 = 51
  | [], ok, s, _ => .inl rfl
  | x :: r, ok, s, h => by
    obtain ⟨h1, h2, h3⟩ := h
    have e : unF ok s (x :: r) = (if mayP x = 0 then (if x.k = 0 ∧ ¬ (r = [] ∧ ok = true) then (52, s) else if x.k = 5 ∧ 1024 < s.line then (51, s) else unF (decide (x.k = 5)) (s.tok x) r) else (mayP x, s)) := rfl
    rw [e, if_pos h1, if_neg (fun h => h.2 (h2 h.1))]
    split
    · exact .inr rfl
    · exact good_un r _ _ h3
theorem good_raws (ln : Nat) (R : List Tk) : ∀ (X : List (Int × List UInt8 × Int)) (ok : Bool), (∀ q ∈ X, mayP (mkT ln q) = 0) → (∀ q ∈ X, q.1 = 1 ∨ q.1 = 2 ∨ q.1 = 3 ∨ q.1 = 4) → (∀ b, Good b R) → Good ok (X.map (mkT ln) ++ R)
  | [], ok, _, _, hR => hR ok
  | q :: X, ok, h, hk, hR => by
    have hq := hk q (by simp)
    refine ⟨h q (by simp), fun e => ?_, good_raws ln R X _ (fun q hq => h q (by simp [hq])) (fun q hq => hk q (by simp [hq])) hR⟩
    have e' : q.1 = 0 := e
    omega
theorem good_text : ∀ (f n : Nat) (l : List UInt8) (m : Nat) (T : List Tk), l.length ≤ f → textF f n l = (0, m, T) → Good true (T ++ [⟨0, [], 0, (m : Int)⟩]) ∧ NumsOk T
  | 0, n, l, m, T, hl, h => by
    simp [textF] at h
    obtain ⟨rfl, rfl⟩ := h
    exact ⟨⟨rfl, fun _ => ⟨rfl, rfl⟩, trivial⟩, fun x hx => by cases hx⟩
  | f + 1, n, [], m, T, hl, h => by
    simp [textF] at h
    obtain ⟨rfl, rfl⟩ := h
    exact ⟨⟨rfl, fun _ => ⟨rfl, rfl⟩, trivial⟩, fun x hx => by cases hx⟩
  | f + 1, n, c :: r, m, T, hl, h => by
    unfold textF at h
    by_cases hz : (lineP (cutL (c :: r)).1).1 = 0
    · rw [if_pos hz] at h
      simp only [Prod.mk.injEq] at h
      obtain ⟨h1, h2, h3⟩ := h
      have hc := (cutL_len (c :: r) (by simp)).2
      simp only [List.length_cons] at hl hc
      have ih := good_text f (n + 1) (cutL (c :: r)).2 m (textF f (n + 1) (cutL (c :: r)).2).2.2 (by omega) (by rw [← h1, ← h2])
      rw [← h3]
      constructor
      · rw [List.map_append, List.append_assoc, List.append_assoc]
        refine good_raws _ _ _ _ (fun q hq => (line_may _ q _ hq).1) (line_kind _) (fun b => And.intro rfl (And.intro (fun e => absurd (show (5 : Int) = 0 from e) (by decide)) ih.1))
      · intro x hx
        rw [List.mem_append, List.mem_map] at hx
        rcases hx with ⟨q, hq, rfl⟩ | hx
        · rw [List.mem_append] at hq
          rcases hq with hq | hq
          · exact (line_may _ q (n + 1) hq).2
          · simp at hq; subst hq; simp [mkT]
        · exact ih.2 x hx
    · rw [if_neg hz] at h
      simp only [Prod.mk.injEq] at h
      exact absurd h.1 hz
theorem num_inj : ∀ (S T : List Tk) (ln : Nat), numP ln S = true → numP ln T = true → S.map Tk.raw = T.map Tk.raw → S = T
  | [], T, ln, h, _, _ => by simp [numP] at h
  | x :: S, [], ln, _, h, _ => by simp [numP] at h
  | x :: S, y :: T, ln, h1, h2, h => by
    simp only [List.map_cons, List.cons.injEq] at h
    obtain ⟨hxy, hST⟩ := h
    rw [num_cons] at h1 h2
    obtain ⟨xk, xt, xn, xl⟩ := x
    obtain ⟨yk, yt, yn, yl⟩ := y
    simp only [Tk.raw, Prod.mk.injEq] at hxy
    obtain ⟨rfl, rfl, rfl⟩ := hxy
    simp only at h1 h2
    by_cases k0 : xk = 0
    · rw [if_pos k0] at h1 h2
      simp only [Bool.and_eq_true, decide_eq_true_eq] at h1 h2
      rw [h1.1, h2.1, h1.2, h2.2]
    · rw [if_neg k0] at h1 h2
      by_cases e1 : xl = (ln : Int)
      · by_cases e2 : yl = (ln : Int)
        · rw [if_pos e1] at h1
          rw [if_pos e2] at h2
          rw [num_inj S T _ h1 h2 hST, e1, e2]
        · rw [if_neg e2] at h2; cases h2
      · rw [if_neg e1] at h1; cases h1
/-- P5.3, plain: Untoken of Tokens -/
theorem forth_P (l : List UInt8) (h : (tokensP l).2.2 = 0) : (tokensP l).2.1 = 0 ∧ NumsOk (tokensP l).1 ∧ ((untokP (tokensP l).1).2 = 0 ∨ (untokP (tokensP l).1).2 = 51 ∨ (untokP (tokensP l).1).2 = 50) := by
  unfold tokensP at h ⊢
  by_cases hl : l.length ≤ 16777216
  · rw [if_pos hl] at h ⊢
    by_cases h0 : (textD 0 l).1 = 0
    · rw [if_pos h0] at h ⊢
      simp only
      obtain ⟨g1, g2⟩ := good_text l.length 0 l _ _ (Nat.le_refl _) (show textF l.length 0 l = (0, (textD 0 l).2.1, (textD 0 l).2.2) by rw [← h0]; rfl)
      refine ⟨trivial, fun x hx => ?_, ?_⟩
      · rw [List.mem_append] at hx
        rcases hx with hx | hx
        · exact g2 x hx
        · simp at hx; subst hx; simp
      · have hu := good_un _ true ⟨[], 0, 0⟩ g1
        have hlast : lastK ((textD 0 l).2.2 ++ [⟨0, [], 0, ((textD 0 l).2.1 : Int)⟩]) = some 0 := by simp [lastK]
        unfold untokP
        rcases hu with hu | hu
        · rw [if_pos hu, if_pos hlast]
          split
          · exact .inl rfl
          · exact .inr (.inr rfl)
        · rw [if_neg (by rw [hu]; decide)]
          exact .inr (.inl hu)
    · rw [if_neg h0] at h; exact absurd h h0
  · rw [if_neg hl] at h; simp at h
theorem tok_bad (l : List UInt8) (h : ¬ (tokensP l).2.2 = 0) : (tokensP l).1 = [] := by
  unfold tokensP at h ⊢
  split
  · split
    · rename_i h1 h2
      rw [if_pos h1, if_pos h2] at h
      exact absurd rfl h
    · rfl
  · rfl
set_option maxHeartbeats 4000000 in
theorem lexText_walk (w : World) (hE : LEnv w) (a : Option Addr) (cap : Nat) (l : List UInt8) (hr : RestAt w.heap.size w a l) (hcap : l.length ≤ cap) (hll : l.length ≤ 140737488355328) :
    Calls Tryd.prog 7 #[.slice a l.length cap] w fun e w' => e = .returned (.bool true) ∧ Out w w' := by
  have C1 := hidOf (tokC w hE a cap l hr hcap hll)
  have CA : Hid (∀ wx, Out w wx → Calls Tryd.prog 11 #[] wx fun e w' => e = .returned (.bool true) ∧ Out wx w') := fun wx ho => awake_any wx (hE.out ho)
  unfold TokC at C1
  have htl := tokens_len l
  by_cases h0 : (tokensP l).2.2 = 0
  · obtain ⟨f1, f2, f3⟩ := forth_P l h0
    have hnum := num_P l h0
    rw [h0, f1] at C1
    have CN : Hid (∀ wx b cp, TksAt wx b (tokensP l).1 → Calls Tryd.prog 22 #[.slice b (tokensP l).1.length cp] wx fun e w' => e = .returned (.bool true) ∧ Out wx w') := fun wx b cp ht => numbered_any wx b cp _ ht hnum (by omega)
    have CU : Hid (∀ wx b cp, Out w wx → TksAt wx b (tokensP l).1 → Calls Tryd.prog 20 #[.slice b (tokensP l).1.length cp] wx fun e w' => e = .returned (.tuple #[.string ⟨(untokP (tokensP l).1).1.toArray⟩, .int .i64 (untokP (tokensP l).1).2]) ∧ Out wx w') := fun wx b cp ho ht => untoken_any wx (hE.out ho).2 b cp _ ht (by omega) f2
    by_cases g0 : (untokP (tokensP l).1).2 = 0
    · obtain ⟨b1, b2, b3⟩ := back_P _ f2 g0
      rw [g0] at CU
      generalize (tokensP l).1 = T at *
      obtain ⟨m, hm⟩ : ∃ m, (untokP T).1 = m := ⟨_, rfl⟩
      rw [hm] at CU b1 b2 b3
      have hnum2 := num_P m (by rw [b2])
      have htm := tokens_len m
      have hST : (tokensP m).1 = T := num_inj _ _ 1 hnum2 hnum b3
      have CT : Hid (∀ wx, Out w wx → TokC (Lib.bytesWorld wx 5 ⟨m.toArray⟩) (some ⟨wx.heap.size, 0, none⟩) (grownCap wx m.length 0 5) m) := fun wx ho => tok_str wx (hE.out ho) m (by omega)
      unfold TokC at CT
      rw [show (tokensP m).2.1 = 0 by rw [b2], show (tokensP m).2.2 = 0 by rw [b2], hST] at CT
      have CK : Hid (∀ wx b cp b' cp', TksAt wx b T → TksAt wx b' T → Calls Tryd.prog 21 #[.slice b T.length cp, .slice b' T.length cp', .bool true] wx fun e w' => e = .returned (.bool true) ∧ Out wx w') := fun wx b cp b' cp' h1 h2 => alike_any wx b b' cp cp' _ _ true h1 h2 rfl (fun _ => rfl) (by omega)
      clear hST hnum hnum2 b3 b2 f2 f3 g0 h0 hm hr f1
      have hls : (⟨m.toArray⟩ : ByteArray).size = m.length := mk_size m
      go_enter Tryd.func7, Tryd.ntmps7
      go_upto_region 4 with (go_at_call 15; refine C1.out.mono ?_; rintro e w1 ⟨b, cp, rfl, hcp, ht, ho⟩; have O1 := hidOf ho; have T1 := hidOf ht; clear ht ho)
      go_upto_region 6 with (go_at_call 22; refine (CN.out w1 b cp T1.out).mono ?_; rintro e w2 ⟨rfl, ho⟩; have O2 := hidOf (Out.trans O1.out ho); have T2 := hidOf (T1.out.out ho); clear ho)
      go_upto_region 9 with (go_at_call 20; refine (CU.out w2 b cp O2.out T2.out).mono ?_; rintro e w3 ⟨rfl, ho⟩; have O3 := hidOf (Out.trans O2.out ho); have T3 := hidOf (T2.out.out ho); clear ho)
      have hcv := Lib.run_convert_string_bytes (P := Tryd.prog) w3 9 22 5 ⟨m.toArray⟩ (u := .string) Tryd.underlying9 Tryd.underlying22 Tryd.underlying5
      rw [hls] at hcv
      have O4 := hidOf (Out.trans O3.out (bw_out w3 5 ⟨m.toArray⟩))
      have T4 := hidOf (T3.out.out (bw_out w3 5 ⟨m.toArray⟩))
      have CT2 := hidOf (CT.out w3 O3.out)
      generalize Lib.bytesWorld w3 5 ⟨m.toArray⟩ = w4 at *
      go_upto_region 10 with (go_at_call 15; refine CT2.out.mono ?_; rintro e w5 ⟨b5, cp5, rfl, hcp5, ht, ho⟩; have O5 := hidOf (Out.trans O4.out ho); have T5 := hidOf ht; have U5 := hidOf (T4.out.out ho); clear ht ho)
      go_wp2_with (first | (go_at_call 21; refine (CK.out w5 b5 cp5 b cp T5.out U5.out).mono ?_; rintro e w6 ⟨rfl, ho⟩; have O6 := hidOf (Out.trans O5.out ho); clear ho) | (go_at_call 11; refine (CA.out w6 O6.out).mono ?_; rintro e w7 ⟨rfl, ho⟩; have O7 := hidOf (Out.trans O6.out ho); clear ho))
      go_ret
      exact ⟨rfl, O7.out⟩
    · have hb := un_bad _ g0
      rw [hb] at CU
      have g0' : ((untokP (tokensP l).1).2 == 0) = false := by simpa using g0
      generalize (untokP (tokensP l).1).2 = E at *
      generalize (tokensP l).1 = T at *
      clear hnum f2 h0 hb hr f1
      have f4 : E = 51 ∨ E = 50 := by omega
      clear f3
      rcases f4 with rfl | rfl
      all_goals (
        go_enter Tryd.func7, Tryd.ntmps7
        go_upto_region 4 with (go_at_call 15; refine C1.out.mono ?_; rintro e w1 ⟨b, cp, rfl, hcp, ht, ho⟩; have O1 := hidOf ho; have T1 := hidOf ht; clear ht ho)
        go_upto_region 6 with (go_at_call 22; refine (CN.out w1 b cp T1.out).mono ?_; rintro e w2 ⟨rfl, ho⟩; have O2 := hidOf (Out.trans O1.out ho); have T2 := hidOf (T1.out.out ho); clear ho)
        go_wp2_with (first | (go_at_call 20; refine (CU.out w2 b cp O2.out T2.out).mono ?_; rintro e w3 ⟨rfl, ho⟩; have O3 := hidOf (Out.trans O2.out ho); clear ho) | (go_at_call 11; refine (CA.out w3 O3.out).mono ?_; rintro e w4 ⟨rfl, ho⟩; have O4 := hidOf (Out.trans O3.out ho); clear ho))
        go_ret
        exact ⟨rfl, O4.out⟩)
  · have hb := tok_bad l h0
    rw [hb] at C1
    have h0' : ((tokensP l).2.2 == 0) = false := by simpa using h0
    generalize (tokensP l).2.2 = E at *
    generalize (tokensP l).2.1 = at' at *
    simp only [List.length_nil] at C1
    clear hb hr
    go_enter Tryd.func7, Tryd.ntmps7
    go_wp2_with (first | (go_at_call 15; refine C1.out.mono ?_; rintro e w1 ⟨b, cp, rfl, hcp, ht, ho⟩; have O1 := hidOf ho; clear ht ho) | (go_at_call 11; refine (CA.out w1 O1.out).mono ?_; rintro e w2 ⟨rfl, ho⟩; have O2 := hidOf (Out.trans O1.out ho); clear ho))
    go_ret
    exact ⟨rfl, O2.out⟩
end Go.Proofs.YtfhmhdhaibmcfaaDoor
