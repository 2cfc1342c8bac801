import Derived.Test.YtkihaohdcgjioaaGreatDoorGq01
namespace Go.Proofs.YtkihaohdcgjioaaGreatDoor
open Go.RowKit
set_option linter.unusedVariables false
set_option linter.unusedSimpArgs false
/-- what is read is such -/
def RE.val {α : Type} (P : α → Prop) : RE α → Prop
  | .ok a _ => P a
  | .no _ _ => True
theorem val_bind {α β : Type} {Q : α → Prop} {P : β → Prop} {x : RE α} {f : α → List Lx.Tk → RE β} (h : x.val Q) (hf : ∀ a r, Q a → (f a r).val P) : (x.bind f).val P := by
  cases x with
  | ok a r => exact hf a r h
  | no c r => trivial
theorem val_any {α : Type} (x : RE α) : x.val (fun _ => True) := by cases x <;> trivial
theorem val_mono {α : Type} {P Q : α → Prop} {x : RE α} (h : x.val P) (hq : ∀ a, P a → Q a) : x.val Q := by
  cases x with
  | ok a r => exact hq a h
  | no c r => trivial
def Sml (s : Stm) : Prop := s.ws.length ≤ 1 ∧ s.ns.length ≤ 3
theorem nuR_val : ∀ (n : Nat) (l : List Int) (ts : List Lx.Tk), (nuR n l ts).val (fun o => o.length = l.length + n)
  | 0, l, ts => rfl
  | n + 1, l, ts => val_bind (val_any _) (fun a r _ => val_mono (nuR_val n (l ++ [a]) r) (fun o h => by
      rw [List.length_append, List.length_singleton] at h
      omega))
theorem nmQ_val (k : Int) (ts : List Lx.Tk) : (nmQ k ts).val Sml := val_bind (val_any _) (fun a r _ => ⟨Nat.zero_le _, Nat.zero_le _⟩)
theorem tbQ_val (ts : List Lx.Tk) : (tbQ ts).val Sml := val_bind (val_any _) (fun a r _ => val_bind (val_any _) (fun b r _ => val_bind (nuR_val 3 [] r) (fun l r h => ⟨Nat.le_refl _, by
  show l.length ≤ 3
  simp at h
  omega⟩)))
theorem restQ_val (x : List UInt8) (ts : List Lx.Tk) : (restQ x ts).val Sml := by
  unfold restQ
  by_cases h1 : x = funcB
  · rw [if_pos h1]; exact nmQ_val _ _
  rw [if_neg h1]
  by_cases h2 : x = globB
  · rw [if_pos h2]; exact nmQ_val _ _
  rw [if_neg h2]
  by_cases h3 : x = extB
  · rw [if_pos h3]; exact nmQ_val _ _
  rw [if_neg h3]
  by_cases h4 : x = mapB
  · rw [if_pos h4]; exact tbQ_val _
  rw [if_neg h4]
  trivial
theorem dirQ_val (ts : List Lx.Tk) : (dirQ ts).val Sml := val_bind (val_any _) (fun t r _ => val_bind (restQ_val t.t r) (fun s r h => by
  by_cases e : kindQ r = 5
  · rw [if_pos e]; exact h
  · rw [if_neg e]; trivial))
theorem inQ_val (ts : List Lx.Tk) : (inQ ts).val Sml := by
  unfold inQ
  by_cases e : (parseP (ixQ [] ts).1).e = 0
  · rw [if_pos e]; exact ⟨Nat.zero_le _, Nat.zero_le _⟩
  · rw [if_neg e]; trivial
/-- a statement of that line -/
def SmlAt (m : Int) (s : Stm) : Prop := Sml s ∧ s.l = m
theorem lbQ_val {m : Int} : ∀ (n : Nat) (L : List Stm) (ts : List Lx.Tk), ts.length ≤ n → (∀ s ∈ L, SmlAt m s) → LnAll m ts → ∀ s ∈ (lbQ L ts).1, SmlAt m s
  | _, L, [], _, h, _ => by unfold lbQ; exact h
  | _, L, [t], _, h, _ => by unfold lbQ; exact h
  | 0, L, t :: u :: r, hn, _, _ => by simp at hn
  | n + 1, L, t :: u :: r, hn, h, hm => by
    unfold lbQ
    by_cases e : t.k = 1 ∧ colQ u = true
    · rw [if_pos e]
      refine lbQ_val n _ r (by simp at hn; omega) (fun s hs => ?_) (fun x hx => hm x (List.mem_cons_of_mem _ (List.mem_cons_of_mem _ hx)))
      rcases List.mem_append.1 hs with hs | hs
      · exact h s hs
      · rw [List.mem_singleton.1 hs]
        exact ⟨⟨Nat.zero_le _, Nat.zero_le _⟩, hm u (by simp)⟩
    · rw [if_neg e]; exact h
theorem stQ_val {m : Int} {L : List Stm} {ts : List Lx.Tk} (h : En ts) (hL : ∀ s ∈ L, SmlAt m s) (hm : LnAll m ts) : (stQ L ts).val (fun o => ∀ s ∈ o, SmlAt m s) := by
  unfold stQ
  by_cases e : kindQ ts = 5
  · rw [if_pos e]; exact hL
  rw [if_neg e]
  have key : ∀ Z : RE Stm, Z.en → LnAll m Z.rest → Z.val Sml → (Z.bind fun s r => .ok (L ++ [{ s with l := lineQ r }]) r).val (fun o => ∀ s ∈ o, SmlAt m s) := fun Z h1 h2 h3 => by
    cases Z with
    | no c r => trivial
    | ok s r =>
      intro y hy
      rcases List.mem_append.1 hy with hy | hy
      · exact hL y hy
      · rw [List.mem_singleton.1 hy]
        refine ⟨h3, ?_⟩
        obtain ⟨t, r', rfl⟩ := En.ne h1
        exact h2 t (by simp [RE.rest])
  by_cases e1 : kindQ ts = 1
  · rw [if_pos e1]
    exact key _ (inQ_loc (N := 0) (R := []) h).2 (inQ_cl (lnAll_clo m) hm) (inQ_val ts)
  · rw [if_neg e1]
    exact key _ (dirQ_loc (N := 0) (R := []) h).2 (dirQ_cl (lnAll_clo m) hm) (dirQ_val ts)
theorem ln_val {m : Nat} {x : List UInt8} {o : List Stm} {r : List Lx.Tk} (h : lnQ [] (lnT m x) = .ok o r) : ∀ s ∈ o, SmlAt m s := by
  have hE := lnT_en m x
  have hA := lnT_all m x
  have h1 := lbQ_val (m := m) (lnT m x).length [] (lnT m x) (Nat.le_refl _) (fun s hs => by cases hs) hA
  have h2 : LnAll m (lbQ [] (lnT m x)).2 := lbQ_cl (lnAll_clo m) _ [] (lnT m x) (Nat.le_refl _) hA
  have h3 := (lbQ_loc (N := 0) (R := []) (out := []) (lnT m x).length [] (lnT m x) (Nat.le_refl _) hE).2
  have h4 := stQ_val h3 h1 h2
  unfold lnQ at h
  cases hz : stQ (lbQ [] (lnT m x)).1 (lbQ [] (lnT m x)).2 with
  | no c r' => rw [hz] at h; cases h
  | ok o' r' =>
    rw [hz] at h h4
    have h5 : (tkQ 5 r').bind (fun _ r => RE.ok o' r) = .ok o r := h
    cases hk : tkQ 5 r' with
    | no c r2 => rw [hk] at h5; cases h5
    | ok t r2 =>
      rw [hk] at h5
      have h6 : RE.ok o' r2 = .ok o r := h5
      cases h6
      exact h4
theorem stF_val : ∀ (f n : Nat) (l : List UInt8), l.length ≤ f → ∀ s ∈ (stF f n l).1, Sml s ∧ (n : Int) + 1 ≤ s.l ∧ s.l ≤ (n : Int) + l.length
  | 0, n, l, _, s, hs => by simp [stF] at hs
  | f + 1, n, [], _, s, hs => by simp [stF] at hs
  | f + 1, n, c :: r, hf, s, hs => by
    have hc := (Lx.cutL_len (c :: r) (by simp)).2
    simp only [List.length_cons] at hf hc
    have ih := stF_val f (n + 1) (Lx.cutL (c :: r)).2 (by omega)
    rw [show stF (f + 1) n (c :: r) = stB n (Lx.cutL (c :: r)).1 (stF f (n + 1) (Lx.cutL (c :: r)).2) from rfl] at hs
    generalize stF f (n + 1) (Lx.cutL (c :: r)).2 = Z at hs ih
    simp only [List.length_cons]
    by_cases hz : (Lx.lineP (Lx.cutL (c :: r)).1).1 = 0
    · cases hq : lnQ [] (lnT (n + 1) (Lx.cutL (c :: r)).1) with
      | no c' r' => rw [stB_no hz hq] at hs; simp at hs
      | ok o r' =>
        rw [stB_ok hz hq] at hs
        by_cases hZ : Z.2.2 = 0
        · rw [if_pos hZ] at hs
          simp only at hs
          rcases List.mem_append.1 hs with hs | hs
          · obtain ⟨h1, h2⟩ := ln_val hq s hs
            refine ⟨h1, ?_, ?_⟩ <;> omega
          · obtain ⟨h1, h2, h3⟩ := ih s hs
            refine ⟨h1, ?_, ?_⟩ <;> omega
        · rw [if_neg hZ] at hs; simp at hs
    · rw [stB_bad hz] at hs; simp at hs
theorem rd_len : ∀ (n : Nat) (out : List Stm) (ts : List Lx.Tk), Tw ts → (rdF n out ts).val (fun o => o.length ≤ out.length + ts.length)
  | 0, out, ts, _ => by show out.length ≤ out.length + ts.length; omega
  | n + 1, out, ts, hT => by
    by_cases hk : kindQ ts = 0
    · rw [rd_stop hk]; show out.length ≤ out.length + ts.length; omega
    · rw [rd_step hk]
      have hF := lnQ_f (out := out) (hT.lw hk)
      cases hz : lnQ out ts with
      | no c r => trivial
      | ok o r =>
        rw [hz] at hF
        exact val_mono (rd_len n o r hF.1) (fun a h => by have := hF.2.2; omega)
theorem readQ_len {ts : List Lx.Tk} (hT : Tw ts) : (readQ ts).1.length ≤ ts.length := by
  have h := rd_len ts.length [] ts hT
  unfold readQ
  cases hz : rdF ts.length [] ts with
  | ok o r => rw [hz] at h; simpa [RE.val] using h
  | no c r => exact Nat.zero_le _
theorem stats_len (l : List UInt8) : (statsP l).1.length ≤ 33554433 := by
  unfold statsP
  by_cases h : (Lx.tokensP l).2.2 = 0
  · rw [if_pos h]
    obtain ⟨h1, _, h3⟩ := tok_shape l h
    exact Nat.le_trans (readQ_len h1) h3
  · rw [if_neg h]
    have h1 := ahead_tok l h
    obtain ⟨h2, _, h3⟩ := tok_shape _ h1
    by_cases hz : (readQ (Lx.tokensP (aheadP l (Lx.tokensP l).2.1)).1).2.2 = 0
    · rw [if_pos hz]; exact Nat.zero_le _
    · rw [if_neg hz]; exact Nat.le_trans (readQ_len h2) h3
theorem stats_val (l : List UInt8) (hl : l.length ≤ 16777216) : ∀ s ∈ (statsP l).1, s.ws.length ≤ 1 ∧ s.ns.length ≤ 3 ∧ 1 ≤ s.l ∧ s.l ≤ 16777216 := fun s hs => by
  rw [stats_D l hl] at hs
  obtain ⟨h1, h2, h3⟩ := stF_val l.length 0 l (Nat.le_refl _) s hs
  exact ⟨h1.1, h1.2, by omega, by omega⟩
theorem stF_line : ∀ (f n : Nat) (l : List UInt8), l.length ≤ f → 0 ≤ (stF f n l).2.1 ∧ (stF f n l).2.1 ≤ (n : Int) + l.length
  | 0, n, l, _ => by
    show (0 : Int) ≤ 0 ∧ (0 : Int) ≤ (n : Int) + l.length
    omega
  | f + 1, n, [], _ => by
    show (0 : Int) ≤ 0 ∧ (0 : Int) ≤ (n : Int) + ([] : List UInt8).length
    simp
  | f + 1, n, c :: r, hf => by
    have hc := (Lx.cutL_len (c :: r) (by simp)).2
    simp only [List.length_cons] at hf hc
    have ih := stF_line f (n + 1) (Lx.cutL (c :: r)).2 (by omega)
    rw [show stF (f + 1) n (c :: r) = stB n (Lx.cutL (c :: r)).1 (stF f (n + 1) (Lx.cutL (c :: r)).2) from rfl]
    generalize stF f (n + 1) (Lx.cutL (c :: r)).2 = Z at ih ⊢
    simp only [List.length_cons]
    by_cases hz : (Lx.lineP (Lx.cutL (c :: r)).1).1 = 0
    · cases hq : lnQ [] (lnT (n + 1) (Lx.cutL (c :: r)).1) with
      | no c' r' => rw [stB_no hz hq]; simp only; omega
      | ok o r' =>
        rw [stB_ok hz hq]
        by_cases hZ : Z.2.2 = 0
        · rw [if_pos hZ]; simp only; omega
        · rw [if_neg hZ]; simp only; omega
    · rw [stB_bad hz]; simp only; omega
theorem stats_line (l : List UInt8) (hl : l.length ≤ 16777216) : 0 ≤ (statsP l).2.1 ∧ (statsP l).2.1 ≤ 16777216 := by
  rw [stats_D l hl]
  have := stF_line l.length 0 l (Nat.le_refl _)
  have e : stD 0 l = stF l.length 0 l := rfl
  rw [e]
  omega
end Go.Proofs.YtkihaohdcgjioaaGreatDoor
