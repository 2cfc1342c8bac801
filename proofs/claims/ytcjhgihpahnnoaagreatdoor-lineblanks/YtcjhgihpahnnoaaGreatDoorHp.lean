import Derived.Test.YtcjhgihpahnnoaaGreatDoorHo
namespace Go.Proofs.YtcjhgihpahnnoaaGreatDoor
open Go.RowKit
set_option linter.unusedVariables false
set_option linter.unusedSimpArgs false
def isBl (b : UInt8) : Bool := b == 32 || b == 9
/-- blanks are put in where no run is cut -/
inductive Bln : Option UInt8 → List UInt8 → List UInt8 → Prop
  | nil (p : Option UInt8) (bl : List UInt8) (h : bl.all isBl = true) : Bln p [] bl
  | cons (p : Option UInt8) (c : UInt8) (s bl out : List UInt8) (h : bl.all isBl = true) (hb : bl = [] ∨ (∀ d, p = some d → runU d = false) ∨ runU c = false) (k : Bln (some c) s out) : Bln p (c :: s) (bl ++ c :: out)
theorem isBl_or {b : UInt8} (h : isBl b = true) : b = 32 ∨ b = 9 := by simpa [isBl] using h
theorem bl_run {b : UInt8} (h : isBl b = true) : runU b = false := by rcases isBl_or h with rfl | rfl <;> decide
theorem strip {bl : List UInt8} (h : bl.all isBl = true) (l : List UInt8) : tokP (bl ++ l) = tokP l ∧ restP (bl ++ l) = restP l := by
  induction bl with
  | nil => exact ⟨rfl, rfl⟩
  | cons b r ih =>
    rw [List.all_cons, Bool.and_eq_true] at h
    obtain ⟨h1, h2⟩ := tok_blank b (r ++ l) (isBl_or h.1)
    rw [List.cons_append, h1, h2]
    exact ih h.2
theorem stop_bl {bl : List UInt8} (h : bl.all isBl = true) (l : List UInt8) (hl : stopP l = true) : stopP (bl ++ l) = true := by
  cases bl with
  | nil => exact hl
  | cons b r =>
    rw [List.all_cons, Bool.and_eq_true] at h
    show (!runU b) = true
    rw [bl_run h.1]
    rfl
/-- the rest of a run is whole -/
theorem run_ins : ∀ (s out : List UInt8) (c : UInt8), Bln (some c) s out → runU c = true → ∃ t u u' p, s = t ++ u ∧ out = t ++ u' ∧ t.all runU = true ∧ stopP u = true ∧ stopP u' = true ∧ Bln p u u'
  | [], out, c, h, hc => by
    cases h with
    | nil _ bl hb =>
      refine ⟨[], [], out, some c, rfl, rfl, rfl, rfl, ?_, .nil _ _ hb⟩
      have := stop_bl hb [] rfl
      rwa [List.append_nil] at this
  | d :: s, out, c, h, hc => by
    cases h with
    | cons _ _ _ bl out' hb hbl k =>
      cases hd : runU d
      · refine ⟨[], d :: s, bl ++ d :: out', some c, rfl, rfl, rfl, ?_, ?_, .cons _ _ _ _ _ hb hbl k⟩
        · show (!runU d) = true
          rw [hd]; rfl
        · exact stop_bl hb _ (by show (!runU d) = true; rw [hd]; rfl)
      · have hnil : bl = [] := by
          rcases hbl with h | h | h
          · exact h
          · have := h c rfl; rw [hc] at this; cases this
          · rw [hd] at h; cases h
        subst hnil
        obtain ⟨t, u, u', p, e1, e2, e3, e4, e5, e6⟩ := run_ins s out' d k hd
        exact ⟨d :: t, u, u', p, by rw [e1]; rfl, by rw [e2]; rfl, by rw [List.all_cons, hd, e3]; rfl, e4, e5, e6⟩
theorem ins_step : ∀ (s out : List UInt8) (p : Option UInt8), Bln p s out → tokP s = tokP out ∧ ∃ p', Bln p' (restP s) (restP out)
  | [], out, p, h => by
    cases h with
    | nil _ bl hb =>
      obtain ⟨h1, h2⟩ := strip hb []
      rw [List.append_nil] at h1 h2
      rw [h1, h2]
      exact ⟨rfl, none, .nil _ _ rfl⟩
  | c :: s, out, p, h => by
    cases h with
    | cons _ _ _ bl out' hb hbl k =>
      obtain ⟨h1, h2⟩ := strip hb (c :: out')
      rw [h1, h2]
      by_cases hc : c = 32 ∨ c = 9
      · obtain ⟨a1, a2⟩ := tok_blank c s hc
        obtain ⟨b1, b2⟩ := tok_blank c out' hc
        rw [a1, a2, b1, b2]
        exact ins_step s out' (some c) k
      · have n1 : ¬ c = 32 := fun e => hc (.inl e)
        have n2 : ¬ c = 9 := fun e => hc (.inr e)
        cases hh : headOk [c]
        · obtain ⟨a1, a2⟩ := tok_mark c s hh n1 n2
          obtain ⟨b1, b2⟩ := tok_mark c out' hh n1 n2
          rw [a1, a2, b1, b2]
          exact ⟨rfl, some c, k⟩
        · have hr : runU c = true := by
            have : ∀ b : Fin 256, headOk [UInt8.ofNat b.val] = true → runU (UInt8.ofNat b.val) = true := by decide +kernel
            have h2 := this ⟨c.toNat, c.toNat_lt⟩
            simp only [UInt8.ofNat_toNat] at h2
            exact h2 hh
          obtain ⟨t, u, u', q, e1, e2, e3, e4, e5, e6⟩ := run_ins s out' c k hr
          have hh' : headOk (c :: t) = true := hh
          have ha : (c :: t).all runU = true := by rw [List.all_cons, hr, e3]; rfl
          obtain ⟨a1, a2⟩ := tok_run (c :: t) u hh' ha e4
          obtain ⟨b1, b2⟩ := tok_run (c :: t) u' hh' ha e5
          rw [e1, e2, ← List.cons_append, ← List.cons_append, a1, a2, b1, b2]
          exact ⟨rfl, q, e6⟩
theorem ins_TE {s out : List UInt8} {p : Option UInt8} (h : Bln p s out) : TE s out := by
  intro n
  induction n generalizing s out p with
  | zero => exact (ins_step s out p h).1
  | succ n ih =>
    obtain ⟨_, p', h'⟩ := ins_step s out p h
    exact ih h'
/-- what was written of a beginning -/
def Pre (pre out : List UInt8) : Prop := ∀ rest more, Bln pre.getLast? rest more → Bln none (pre ++ rest) (out ++ more)
theorem Pre.nil : Pre [] [] := fun rest more h => h
theorem Pre.snoc {pre out : List UInt8} (h : Pre pre out) (bl : List UInt8) (c : UInt8) (hb : bl.all isBl = true) (hbl : bl = [] ∨ (∀ d, pre.getLast? = some d → runU d = false) ∨ runU c = false) : Pre (pre ++ [c]) (out ++ bl ++ [c]) := fun rest more k => by
  rw [List.getLast?_append, List.getLast?_singleton] at k
  have := h (c :: rest) (bl ++ c :: more) (.cons _ _ _ _ _ hb hbl k)
  simpa [List.append_assoc] using this
theorem Pre.done {pre out : List UInt8} (h : Pre pre out) (bl : List UInt8) (hb : bl.all isBl = true) : TE pre (out ++ bl) := by
  have := h [] bl (.nil _ _ hb)
  rw [List.append_nil] at this
  exact ins_TE this
theorem mean_key (k : List UInt8) (m : Mn) (h : meanOf k = some m) : ∃ x ∈ mnAll, ¬ x.1 = [] ∧ x.1 = k := by
  unfold meanOf at h
  split at h
  · cases h
  · rename_i hk
    unfold lastAt at h
    cases hf : mnAll.reverse.find? (fun x => x.1 == k) with
    | none => rw [hf] at h; cases h
    | some x =>
      have h1 := List.mem_of_find?_eq_some hf
      have h2 := List.find?_some hf
      simp only [beq_iff_eq] at h2
      exact ⟨x, List.mem_reverse.1 h1, by rw [h2]; exact hk, h2⟩
/-- a byte that no token has, ahead of a line -/
theorem odd_ahead (c : UInt8) (l : List UInt8) (hr : runU c = false) (h1 : ¬ c = 32) (h2 : ¬ c = 9) : (parseP (c :: l)).e = 40 := by
  have hh : headOk [c] = false := by
    have : ∀ b : Fin 256, runU (UInt8.ofNat b.val) = false → headOk [UInt8.ofNat b.val] = false := by decide +kernel
    have h3 := this ⟨c.toNat, c.toNat_lt⟩
    simp only [UInt8.ofNat_toNat] at h3
    exact h3 hr
  have ht : (newR (c :: l)).tok = [c] := (tok_mark c l hh h1 h2).1
  have hm : meanOf [c] = none := by
    cases e : meanOf [c] with
    | none => rfl
    | some m =>
      obtain ⟨x, hx, hx0, hxe⟩ := mean_key [c] m e
      have : ∀ x ∈ mnAll, ¬ x.1 = [] → ∀ d, ¬ x.1 = [d] := by
        intro x hx _ d hd
        have h4 := (show ∀ x ∈ mnAll, ¬ x.1.length = 1 by decide +kernel) x hx
        rw [hd] at h4
        exact h4 rfl
      exact absurd hxe (this x hx hx0 c)
  unfold parseP
  rw [ht, hm]
end Go.Proofs.YtcjhgihpahnnoaaGreatDoor
