import Derived.Test.YtfhmhdhaibmcfaaDoorEv
import Derived.Test.YtfhmhdhaibmcfaaDoorEn
namespace Go.Proofs.YtfhmhdhaibmcfaaDoor
open Go.RowKit
set_option linter.unusedVariables false
set_option linter.unusedSimpArgs false
def Tk.rw (x : Tk) : Int × List UInt8 × Int := (x.k, x.t, x.n)
/-- what stands behind a token: nothing, or a byte that belongs to no run -/
def Stop (e : List UInt8) : Prop := e = [] ∨ ∃ c r, e = c :: r ∧ runU c = false
theorem run_stop {t e : List UInt8} (ht : t.all runU = true) (he : Stop e) : runN (t ++ e) = t.length := by
  unfold runN
  have h1 : (t ++ e).takeWhile runU = t := by
    induction t with
    | nil =>
      rcases he with rfl | ⟨c, r, rfl, hc⟩
      · rfl
      · simp [List.takeWhile, hc]
    | cons c t ih =>
      rw [List.all_cons, Bool.and_eq_true] at ht
      rw [List.cons_append, List.takeWhile_cons, ht.1]
      simp [ih ht.2]
  rw [h1]
theorem take_len {α : Type} (t e : List α) : (t ++ e).take t.length = t := by simp
theorem word_start {t : List UInt8} (h : wordP t = true) : ∃ c r, t = c :: r ∧ kindP (bI c) = 3 ∧ t.all runU = true ∧ t.length ≤ 64 := by
  simp only [wordP, Bool.and_eq_true, decide_eq_true_eq] at h
  cases t with
  | nil => simp [startP] at h
  | cons c r => exact ⟨c, r, rfl, by simpa [startP] using h.1.2, h.2, h.1.1⟩
theorem piece_cons (c : UInt8) (r : List UInt8) : pieceP (c :: r) = (if kindP (bI c) = 1 then (0, none, 1)
    else if kindP (bI c) = 2 then (0, none, r.length + 1)
    else if kindP (bI c) = 3 then (if runN (c :: r) ≤ 64 then 0 else 53, some (1, (c :: r).take (runN (c :: r)), 0), runN (c :: r))
    else if kindP (bI c) = 5 then (if startP r = true then (if runN (c :: r) ≤ 65 then 0 else 53) else 52, some (2, (c :: r).take (runN (c :: r)), 0), runN (c :: r))
    else if kindP (bI c) = 4 then (if (valP ((c :: r).take (runN (c :: r)))).2 = true then 0 else 54, some (3, [], (valP ((c :: r).take (runN (c :: r)))).1), runN (c :: r))
    else if kindP (bI c) = 7 then (0, some (4, [c], 0), 1)
    else (52, none, 0)) := rfl
theorem piece_word {t e : List UInt8} (h : wordP t = true) (he : Stop e) : pieceP (t ++ e) = (0, some (1, t, 0), t.length) := by
  obtain ⟨c, r, rfl, hk, ha, hl⟩ := word_start h
  have hr := run_stop ha he
  have ht := take_len (c :: r) e
  rw [List.cons_append] at hr ht ⊢
  rw [piece_cons, hk, hr, ht]
  simp at hl
  simp [hl]
theorem piece_dot {t e : List UInt8} (h : dotP t = true) (he : Stop e) : pieceP (t ++ e) = (0, some (2, t, 0), t.length) := by
  simp only [dotP, Bool.and_eq_true] at h
  obtain ⟨hp, hw⟩ := h
  obtain ⟨r, rfl⟩ : ∃ r, t = 46 :: r := by
    unfold Lib.hasPrefix at hp
    cases t with
    | nil => simp [List.isPrefixOf] at hp
    | cons c r =>
      simp [List.isPrefixOf] at hp
      exact ⟨r, by rw [hp]⟩
  have hr : Lib.trimPrefix (46 :: r) [46] = r := by unfold Lib.trimPrefix; rw [if_pos hp]; rfl
  rw [hr] at hw
  obtain ⟨c, r', rfl, hk, ha, hl⟩ := word_start hw
  have hrun := run_stop (t := 46 :: c :: r') (e := e) (by rw [List.all_cons, ha]; decide) he
  have ht := take_len (46 :: c :: r') e
  rw [List.cons_append] at hrun ht ⊢
  rw [piece_cons]
  have k46 : kindP (bI 46) = 5 := by decide
  have hs : startP (c :: r' ++ e) = true := by simp [startP, hk]
  rw [k46, hrun, ht, hs]
  simp at hl
  simp
  omega
theorem piece_mark {t e : List UInt8} (h : markB t = true) : pieceP (t ++ e) = (0, some (4, t, 0), t.length) := by
  unfold markB at h
  split at h
  · rename_i c
    have hk : kindP (bI c) = 7 := by simpa using h
    show pieceP (c :: e) = _
    rw [piece_cons, hk]
    simp
  · cases h
theorem digU_lt (n : Nat) (h : n < 10) : digU (UInt8.ofNat (48 + n)) = true ∧ (UInt8.ofNat (48 + n)).toNat = 48 + n := by
  have h1 : (UInt8.ofNat (48 + n)).toNat = 48 + n := by rw [UInt8.toNat_ofNat']; omega
  exact ⟨(digU_iff _).2 (by omega), h1⟩
theorem decV_app (l m : List UInt8) : ∀ a, decV a (l ++ m) = decV (decV a l) m := by
  induction l with
  | nil => intro a; rfl
  | cons b l ih => intro a; exact ih _
theorem dd_all (u : Nat) : (Lib.decDigits u).all digU = true ∧ decV 0 (Lib.decDigits u) = u ∧ (∃ c l, Lib.decDigits u = c :: l ∧ (¬ u = 0 → ¬ c = 48)) := by
  induction u using Nat.strongRecOn with
  | _ u ih =>
    by_cases h : u < 10
    · have hd := digU_lt u h
      rw [dd_small h]
      refine ⟨by rw [List.all_cons, hd.1]; rfl, ?_, _, _, rfl, fun h0 e => ?_⟩
      · show 0 * 10 + ((UInt8.ofNat (48 + u)).toNat - 48) = u
        omega
      · have e2 := congrArg UInt8.toNat e
        rw [hd.2] at e2
        have : (48 : UInt8).toNat = 48 := rfl
        omega
    · obtain ⟨i1, i2, c, l, i3, i4⟩ := ih (u / 10) (by omega)
      have hd := digU_lt (u % 10) (by omega)
      rw [dd_big h]
      refine ⟨by rw [List.all_append, i1, List.all_cons, hd.1]; rfl, ?_, c, l ++ [UInt8.ofNat (48 + u % 10)], by rw [i3]; rfl, fun _ => i4 (by omega)⟩
      rw [decV_app, i2]
      show u / 10 * 10 + ((UInt8.ofNat (48 + u % 10)).toNat - 48) = u
      omega
theorem dig_run {b : UInt8} (h : digU b = true) : runU b = true := by
  have h' : digP (bI b) = true := h
  simp [runU, runP, h']
theorem dig_kind : ∀ n : Fin 256, digP (n.val : Int) = true → kindP (n.val : Int) = 4 := by decide +kernel
theorem val_dd (u : Nat) (h : u ≤ 18446744073709551615) : valP (Lib.decDigits u) = ((u : Int), true) := by
  obtain ⟨h1, h2, c, l, h3, h4⟩ := dd_all u
  by_cases h0 : u = 0
  · subst h0
    rw [dd_small (by decide)]
    decide
  · have hc : ¬ c = 48 := h4 h0
    unfold valP
    rw [if_neg (by rw [h3]; intro e; simp at e; exact hc e.1), if_neg (by rw [h3]; intro e; simp at e; exact hc e.1), if_pos ⟨h1, by rw [h2]; exact h⟩, h2]
theorem piece_num {u : Nat} {e : List UInt8} (h : u ≤ 18446744073709551615) (he : Stop e) : pieceP (Lib.decDigits u ++ e) = (0, some (3, [], (u : Int)), (Lib.decDigits u).length) := by
  obtain ⟨h1, h2, c, l, h3, h4⟩ := dd_all u
  have hv := val_dd u h
  have ha : (Lib.decDigits u).all runU = true := by
    rw [List.all_eq_true] at h1 ⊢
    exact fun x hx => dig_run (h1 x hx)
  have hr := run_stop ha he
  have ht := take_len (Lib.decDigits u) e
  rw [h3] at h1 hv hr ht ⊢
  rw [List.all_cons, Bool.and_eq_true] at h1
  have hk : kindP (bI c) = 4 := dig_kind ⟨c.toNat, c.toNat_lt⟩ h1.1
  rw [List.cons_append] at hr ht ⊢
  rw [piece_cons, hk, hr, ht, hv]
  simp
end Go.Proofs.YtfhmhdhaibmcfaaDoor
