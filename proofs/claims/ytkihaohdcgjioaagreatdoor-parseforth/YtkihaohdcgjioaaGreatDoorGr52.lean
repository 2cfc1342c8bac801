import Derived.Test.YtkihaohdcgjioaaGreatDoorGr50
namespace Go.Proofs.YtkihaohdcgjioaaGreatDoor
open Go.RowKit
set_option linter.unusedVariables false
set_option linter.unusedSimpArgs false
theorem off_i64' (o d s f i : Int) (h : mayP o d s f i = 0) : I64 f := by
  have h3 := (may_parts o d s f i h).2.2.2.1
  unfold offP at h3
  unfold I64
  split at h3
  · simp only [Bool.and_eq_true, decide_eq_true_eq] at h3; omega
  · split at h3
    · rename_i hz; simp only [beq_iff_eq] at hz; omega
    · split at h3
      · have := variant_in h3
        simp only [List.mem_cons, List.not_mem_nil, or_false] at this
        omega
      · cases h3
theorem word_nm {x : List UInt8} (h : Lx.wordP x = true) : isNmP x = true := by
  have hl := Lx.word_len h
  have m1 : Lx.mayP ⟨1, x, 0, 0⟩ = 0 := by
    unfold Lx.mayP
    rw [if_pos rfl]
    simp only
    rw [h]
    rfl
  have hu : ∃ s : Lx.WS, Lx.unF true ⟨[], 0, 0⟩ (nmT x) = (0, s) ∧ s.size ≤ 16777216 := by
    unfold nmT
    have t1 : (⟨[], 0, 0⟩ : Lx.WS).tok ⟨1, x, 0, 0⟩ = (⟨[], 0, 0⟩ : Lx.WS).piece x := by
      unfold Lx.WS.tok
      rw [if_pos (.inl rfl)]
    obtain ⟨hok, hsz⟩ := Lx.WS.Ok.piece (s := ⟨[], 0, 0⟩) ⟨by decide, by decide, by decide⟩ x
    generalize hS : (⟨[], 0, 0⟩ : Lx.WS).piece x = S at *
    have hli := hok.li
    simp only at hsz
    have m5 : Lx.mayP ⟨5, [], 0, 0⟩ = 0 := by decide
    have m0 : Lx.mayP ⟨0, [], 0, 0⟩ = 0 := by decide
    refine ⟨⟨(S.put [10]).l, (S.put [10]).size, 0⟩, ?_, ?_⟩
    · unfold Lx.unF
      rw [if_pos m1]
      simp only
      rw [if_neg (fun h => absurd h.1 (by decide)), if_neg (fun h => absurd h.1 (by decide)), t1]
      unfold Lx.unF
      rw [if_pos m5]
      simp only
      rw [if_neg (fun h => absurd h.1 (by decide)), if_neg (fun h => by have := h.2; omega)]
      have t5 : S.tok ⟨5, [], 0, 0⟩ = ⟨(S.put [10]).l, (S.put [10]).size, 0⟩ := by
        unfold Lx.WS.tok
        rw [if_neg (by decide), if_neg (by decide), if_pos rfl]
      rw [t5]
      unfold Lx.unF
      rw [if_pos m0]
      simp only
      rw [if_neg (fun h => h.2 ⟨by trivial, by decide⟩), if_neg (fun h => absurd h.1 (by decide))]
      unfold Lx.unF Lx.WS.tok
      rw [if_neg (by decide), if_neg (by decide), if_neg (by decide)]
    · show S.size + 1 ≤ 16777216
      omega
  obtain ⟨s, hs, hz⟩ := hu
  unfold isNmP Lx.untokP
  rw [hs]
  simp only
  rw [if_pos trivial, if_pos (show Lx.lastK (nmT x) = some 0 from rfl), if_pos hz]
  rfl
def FitS (s : Stm) : Prop := (lnA s).2 = 0 ∧ StmI s
theorem FitS.line {s : Stm} (h : FitS s) (m : Int) : FitS { s with l := m } := h
theorem fit_name {k : Int} {x : List UInt8} (hw : Lx.wordP x = true) (hk : k = 1 ∨ k = 2 ∨ k = 3 ∨ k = 4) : FitS (nmS k x) := by
  have hl := Lx.word_len hw
  refine ⟨?_, ⟨by show x.length ≤ _; omega, by show ([] : List UInt8).length ≤ _; simp, ⟨by show (-9223372036854775808 : Int) ≤ 0; decide, by show (0 : Int) < _; decide⟩, ⟨by show (-9223372036854775808 : Int) ≤ 0; decide, by show (0 : Int) < _; decide⟩⟩⟩
  unfold lnA
  rw [if_neg (fun h => by have : k = 6 := h.1; omega), if_neg (by show ¬ (!insZ (nmS k x) || !([] : List UInt8).isEmpty) = true; simp [insZ, nmS]), if_neg (by show ¬ isNmP x = false; rw [word_nm hw]; decide), if_neg (by show ¬ k = 5; omega), if_neg (by show ¬ (decide (0 < ([] : List (List UInt8)).length) || decide (0 < ([] : List Int).length)) = true; decide)]
  unfold nmLn
  show (if k = 1 then (x ++ [58], (0 : Int)) else if k = 2 then (funcB ++ [32] ++ x, 0) else if k = 3 then (globB ++ [32] ++ x, 0) else if k = 4 then (extB ++ [32] ++ x, 0) else ([], 60)).2 = 0
  rcases hk with rfl | rfl | rfl | rfl <;> rfl
theorem fit_table {x y : List UInt8} {a b c : Int} (hw : Lx.wordP x = true) (hy : tknQ y = true) (ha : 0 ≤ a ∧ a ≤ 2147483647) (hb : 0 ≤ b ∧ b ≤ 2147483647) (hc : 0 ≤ c ∧ c ≤ 2147483647) : FitS (tbS x y [a, b, c]) := by
  have hl := Lx.word_len hw
  refine ⟨?_, ⟨by show x.length ≤ _; omega, by show ([] : List UInt8).length ≤ _; simp, ⟨by show (-9223372036854775808 : Int) ≤ 0; decide, by show (0 : Int) < _; decide⟩, ⟨by show (-9223372036854775808 : Int) ≤ 0; decide, by show (0 : Int) < _; decide⟩⟩⟩
  unfold lnA
  rw [if_neg (fun h => by have : (5 : Int) = 6 := h.1; omega), if_neg (by show ¬ (!insZ (tbS x y [a, b, c]) || !([] : List UInt8).isEmpty) = true; simp [insZ, tbS]), if_neg (by show ¬ isNmP x = false; rw [word_nm hw]; decide), if_pos (show (tbS x y [a, b, c]).k = 5 from rfl)]
  unfold tbLn
  simp only [tbS]
  rw [if_pos ⟨hy, ha, hb, hc⟩]
theorem fit_insn {l : List UInt8} (h : (parseP l).e = 0) : FitS ⟨6, [], [], [], (parseP l).o, (parseP l).d, (parseP l).s, (parseP l).f, (parseP l).i, (parseP l).tgt, 0⟩ := by
  rcases parse_law l with ⟨_, hL⟩ | ⟨h0, _⟩
  · generalize parseP l = P at *
    obtain ⟨o, d, s, f, i, t, e⟩ := P
    simp only [PR.fl, Lawful] at hL
    obtain ⟨hm, ht, hi1, hi2⟩ := hL
    have htl := tgt_len o d s f i t hm ht
    refine ⟨?_, ⟨by show ([] : List UInt8).length ≤ _; simp, by show t.length ≤ _; omega, off_i64' o d s f i hm, ⟨hi1, hi2⟩⟩⟩
    unfold lnA
    rw [if_pos ⟨rfl, rfl, rfl, rfl⟩]
    unfold printP
    rw [if_pos hm, if_pos ht]
  · exact absurd h h0
def TkM (ts : List Lx.Tk) : Prop := ∀ x ∈ ts, Lx.mayP x = 0 ∧ 0 ≤ x.n
def RE.vr {α : Type} (P : α → Prop) : RE α → Prop
  | .ok a ts => P a ∧ TkM ts
  | .no _ _ => True
theorem vr_bind {α β : Type} {P : α → Prop} {P' : β → Prop} {x : RE α} {f : α → List Lx.Tk → RE β} (h : x.vr P) (hf : ∀ a r, P a → TkM r → (f a r).vr P') : (x.bind f).vr P' := by
  cases x with
  | ok a r => exact hf a r h.1 h.2
  | no c r => trivial
theorem tkQ_vr {k : Int} {ts : List Lx.Tk} (h : TkM ts) : (tkQ k ts).vr (fun t => t.k = k ∧ Lx.mayP t = 0 ∧ 0 ≤ t.n) := by
  cases ts with
  | nil => trivial
  | cons t r =>
    show (if t.k = k then RE.ok t r else RE.no 60 (t :: r)).vr _
    by_cases e : t.k = k
    · rw [if_pos e]
      exact ⟨⟨e, h t (by simp)⟩, fun x hx => h x (List.mem_cons_of_mem _ hx)⟩
    · rw [if_neg e]; trivial
theorem may_word {t : Lx.Tk} (hk : t.k = 1) (h : Lx.mayP t = 0) : Lx.wordP t.t = true := by
  unfold Lx.mayP at h
  rw [if_pos hk] at h
  cases hw : Lx.wordP t.t with
  | true => rfl
  | false => rw [hw] at h; simp at h
theorem wdQ_vr {ts : List Lx.Tk} (h : TkM ts) : (wdQ ts).vr (fun x => Lx.wordP x = true) := vr_bind (tkQ_vr h) (fun t r ht hr => ⟨may_word ht.1 ht.2.1, hr⟩)
theorem tdQ_vr {ts : List Lx.Tk} (h : TkM ts) : (tdQ ts).vr (fun x => tknQ x = true) := vr_bind (wdQ_vr h) (fun x r _ hr => by
  cases hx : tknQ x
  · rw [if_neg (by simp)]; trivial
  · rw [if_pos rfl]; exact ⟨hx, hr⟩)
theorem nuQ_vr {ts : List Lx.Tk} (h : TkM ts) : (nuQ ts).vr (fun a => 0 ≤ a ∧ a ≤ 2147483647) := vr_bind (tkQ_vr h) (fun t r ht hr => by
  by_cases hx : t.n ≤ 2147483647
  · rw [if_pos hx]; exact ⟨⟨ht.2.2, hx⟩, hr⟩
  · rw [if_neg hx]; trivial)
theorem nmQ_vr {k : Int} {ts : List Lx.Tk} (h : TkM ts) (hk : k = 1 ∨ k = 2 ∨ k = 3 ∨ k = 4) : (nmQ k ts).vr FitS := vr_bind (wdQ_vr h) (fun x r hx hr => ⟨fit_name hx hk, hr⟩)
theorem tbQ_vr {ts : List Lx.Tk} (h : TkM ts) : (tbQ ts).vr FitS := vr_bind (wdQ_vr h) (fun x r hx hr => vr_bind (tdQ_vr hr) (fun y r hy hr => by
  have h3 : (nuR 3 [] r).vr (fun o => ∃ a b c, o = [a, b, c] ∧ (0 ≤ a ∧ a ≤ 2147483647) ∧ (0 ≤ b ∧ b ≤ 2147483647) ∧ (0 ≤ c ∧ c ≤ 2147483647)) :=
    vr_bind (nuQ_vr hr) (fun a r ha hr => vr_bind (nuQ_vr hr) (fun b r hb hr => vr_bind (nuQ_vr hr) (fun c r hc hr => ⟨⟨a, b, c, rfl, ha, hb, hc⟩, hr⟩)))
  exact vr_bind h3 (fun o r ho hr => by
    obtain ⟨a, b, c, rfl, ha, hb, hc⟩ := ho
    exact ⟨fit_table hx hy ha hb hc, hr⟩)))
theorem restQ_vr {x : List UInt8} {ts : List Lx.Tk} (h : TkM ts) : (restQ x ts).vr FitS := by
  unfold restQ
  by_cases h1 : x = funcB
  · rw [if_pos h1]; exact nmQ_vr h (by omega)
  rw [if_neg h1]
  by_cases h2 : x = globB
  · rw [if_pos h2]; exact nmQ_vr h (by omega)
  rw [if_neg h2]
  by_cases h3 : x = extB
  · rw [if_pos h3]; exact nmQ_vr h (by omega)
  rw [if_neg h3]
  by_cases h4 : x = mapB
  · rw [if_pos h4]; exact tbQ_vr h
  rw [if_neg h4]
  trivial
theorem dirQ_vr {ts : List Lx.Tk} (h : TkM ts) : (dirQ ts).vr FitS := vr_bind (tkQ_vr h) (fun t r _ hr => vr_bind (restQ_vr (x := t.t) hr) (fun s r hs hr => by
  by_cases e : kindQ r = 5
  · rw [if_pos e]; exact ⟨hs, hr⟩
  · rw [if_neg e]; trivial))
theorem tkM_clo : Clo TkM := fun t r h x hx => h x (List.mem_cons_of_mem _ hx)
theorem inQ_vr {ts : List Lx.Tk} (h : TkM ts) : (inQ ts).vr FitS := by
  have hr : TkM (ixQ [] ts).2 := ixQ_cl tkM_clo [] ts h
  unfold inQ
  by_cases e : (parseP (ixQ [] ts).1).e = 0
  · rw [if_pos e]; exact ⟨fit_insn e, hr⟩
  · rw [if_neg e]; trivial
theorem lbQ_fit : ∀ (n : Nat) (L : List Stm) (ts : List Lx.Tk), ts.length ≤ n → (∀ s ∈ L, FitS s) → TkM ts → ∀ s ∈ (lbQ L ts).1, FitS s
  | _, L, [], _, h, _ => by unfold lbQ; exact h
  | _, L, [t], _, h, _ => by unfold lbQ; exact h
  | 0, L, t :: u :: r, hn, _, _ => by simp at hn
  | n + 1, L, t :: u :: r, hn, h, hm => by
    unfold lbQ
    by_cases e : t.k = 1 ∧ colQ u = true
    · rw [if_pos e]
      refine lbQ_fit n _ r (by simp at hn; omega) (fun s hs => ?_) (fun x hx => hm x (List.mem_cons_of_mem _ (List.mem_cons_of_mem _ hx)))
      rcases List.mem_append.1 hs with hs | hs
      · exact h s hs
      · rw [List.mem_singleton.1 hs]
        exact (fit_name (k := 1) (may_word e.1 (hm t (by simp)).1) (by omega)).line u.l
    · rw [if_neg e]; exact h
theorem lnT_m (n : Nat) (x : List UInt8) : TkM (lnT n x) := fun y hy => by
  unfold lnT at hy
  obtain ⟨q, hq, rfl⟩ := List.mem_map.1 hy
  rcases List.mem_append.1 hq with hq | hq
  · have := Lx.line_may x q n hq
    exact ⟨this.1, this.2.1⟩
  · rw [List.mem_singleton.1 hq]
    exact ⟨by rfl, by show (0 : Int) ≤ 0; decide⟩
theorem ln_fit {m : Nat} {x : List UInt8} {o : List Stm} {r : List Lx.Tk} (h : lnQ [] (lnT m x) = .ok o r) : ∀ s ∈ o, FitS s := by
  have hA := lnT_m m x
  have h1 := lbQ_fit (lnT m x).length [] (lnT m x) (Nat.le_refl _) (fun s hs => by cases hs) hA
  have h2 : TkM (lbQ [] (lnT m x)).2 := lbQ_cl tkM_clo _ [] (lnT m x) (Nat.le_refl _) hA
  unfold lnQ at h
  generalize (lbQ [] (lnT m x)).1 = L at h h1
  generalize (lbQ [] (lnT m x)).2 = ts at h h2
  have h4 : (stQ L ts).vr (fun o => ∀ s ∈ o, FitS s) := by
    unfold stQ
    by_cases e : kindQ ts = 5
    · rw [if_pos e]; exact ⟨h1, h2⟩
    rw [if_neg e]
    refine vr_bind (P := FitS) ?_ (fun s r hs hr => ⟨fun y hy => ?_, hr⟩)
    · by_cases e1 : kindQ ts = 1
      · rw [if_pos e1]; exact inQ_vr h2
      · rw [if_neg e1]; exact dirQ_vr h2
    · rcases List.mem_append.1 hy with hy | hy
      · exact h1 y hy
      · rw [List.mem_singleton.1 hy]; exact hs.line _
  cases hz : stQ L ts with
  | no c r' => rw [hz] at h; cases h
  | ok o' r' =>
    rw [hz] at h h4
    have h5 : (tkQ 5 r').bind (fun _ r => RE.ok o' r) = .ok o r := h
    cases hk : tkQ 5 r' with
    | no c r2 => rw [hk] at h5; cases h5
    | ok t r2 =>
      rw [hk] at h5
      have h6 : RE.ok o' r2 = .ok o r := h5
      cases h6
      exact h4.1
theorem stF_fit : ∀ (f n : Nat) (l : List UInt8), ∀ s ∈ (stF f n l).1, FitS s
  | 0, n, l, s, hs => by simp [stF] at hs
  | f + 1, n, [], s, hs => by simp [stF] at hs
  | f + 1, n, c :: r, s, hs => by
    have ih := stF_fit f (n + 1) (Lx.cutL (c :: r)).2
    rw [show stF (f + 1) n (c :: r) = stB n (Lx.cutL (c :: r)).1 (stF f (n + 1) (Lx.cutL (c :: r)).2) from rfl] at hs
    generalize stF f (n + 1) (Lx.cutL (c :: r)).2 = Z at hs ih
    by_cases hz : (Lx.lineP (Lx.cutL (c :: r)).1).1 = 0
    · cases hq : lnQ [] (lnT (n + 1) (Lx.cutL (c :: r)).1) with
      | no c' r' => rw [stB_no hz hq] at hs; simp at hs
      | ok o r' =>
        rw [stB_ok hz hq] at hs
        by_cases hZ : Z.2.2 = 0
        · rw [if_pos hZ] at hs
          simp only at hs
          rcases List.mem_append.1 hs with hs | hs
          · exact ln_fit hq s hs
          · exact ih s hs
        · rw [if_neg hZ] at hs; simp at hs
    · rw [stB_bad hz] at hs; simp at hs
theorem readQ_er {ts : List Lx.Tk} (h : ¬ (readQ ts).2.2 = 0) : (readQ ts).1 = [] := by
  unfold readQ at h ⊢
  cases hz : rdF ts.length [] ts with
  | ok o r => rw [hz] at h; exact absurd rfl h
  | no c r => rfl
theorem stats_er (l : List UInt8) (h : ¬ (statsP l).2.2 = 0) : (statsP l).1 = [] := by
  unfold statsP at h ⊢
  by_cases h1 : (Lx.tokensP l).2.2 = 0
  · rw [if_pos h1] at h ⊢; exact readQ_er h
  · rw [if_neg h1] at h ⊢
    by_cases h2 : (readQ (Lx.tokensP (aheadP l (Lx.tokensP l).2.1)).1).2.2 = 0
    · rw [if_pos h2]
    · rw [if_neg h2]; exact readQ_er h2
theorem stats_short (l : List UInt8) (h : (statsP l).2.2 = 0) : l.length ≤ 16777216 := by
  by_cases hl : l.length ≤ 16777216
  · exact hl
  · exfalso
    have ht : Lx.tokensP l = ([], 0, 50) := by unfold Lx.tokensP; rw [if_neg hl]
    have h5 : ¬ (Lx.tokensP l).2.2 = 0 := by rw [ht]; decide
    unfold statsP at h
    rw [if_neg h5] at h
    have ha : aheadP l (Lx.tokensP l).2.1 = [] := by rw [ht]; rfl
    rw [ha, ht] at h
    rw [if_pos (show (readQ (Lx.tokensP []).1).2.2 = 0 from rfl)] at h
    revert h
    decide
theorem pr_code : ∀ (xs : List Stm) (l : List UInt8) (a : Nat), (∀ x ∈ xs, (lnA x).2 = 0) → (prF l a (xs.map lnA)).2 = 0 ∨ (prF l a (xs.map lnA)).2 = 50
  | [], l, a, _ => by
    show (if 16777216 < a then (([] : List UInt8), (50 : Int)) else (l, 0)).2 = 0 ∨ (if 16777216 < a then (([] : List UInt8), (50 : Int)) else (l, 0)).2 = 50
    by_cases h : 16777216 < a
    · rw [if_pos h]; exact .inr rfl
    · rw [if_neg h]; exact .inl rfl
  | x :: r, l, a, h => by
    obtain ⟨t, e, ht⟩ : ∃ t e, lnA x = (t, e) := ⟨_, _, rfl⟩
    have he : e = 0 := by have := h x (by simp); rw [ht] at this; exact this
    rw [List.map_cons, ht]
    show (if e = 0 then prF (wlP l a t) (a + (t.length + 1)) (r.map lnA) else ([], e)).2 = 0 ∨ (if e = 0 then prF (wlP l a t) (a + (t.length + 1)) (r.map lnA) else ([], e)).2 = 50
    rw [if_pos he]
    exact pr_code r _ _ (fun y hy => h y (List.mem_cons_of_mem _ hy))
theorem forth_P (l : List UInt8) : (¬ (statsP l).2.2 = 0 → (statsP l).1 = []) ∧ ((statsP l).2.2 = 0 → (∀ x ∈ (statsP l).1, StmI x) ∧ ((prF [] 0 ((statsP l).1.map lnA)).2 = 0 ∨ (prF [] 0 ((statsP l).1.map lnA)).2 = 50)) := by
  refine ⟨stats_er l, fun h => ?_⟩
  have hf : ∀ x ∈ (statsP l).1, FitS x := by
    rw [stats_D l (stats_short l h)]
    exact stF_fit _ _ _
  exact ⟨fun x hx => (hf x hx).2, pr_code _ _ _ (fun x hx => (hf x hx).1)⟩
theorem own_nil {B s n : Nat} {w : World} {e : TypeId} {v : Value} {xs : List Value} (h : w.ownsRow B e s v n xs) : ∀ a m c, v = .slice a m c → a = none → c = 0 := fun a m c hv ha => by
  rcases h.2 with ⟨hv2, _⟩ | ⟨g, cap, cur, hv2, _⟩
  · rw [hv2] at hv; injection hv with _ _ h3; exact h3.symm
  · rw [hv2, ha] at hv; injection hv with h1; cases h1
theorem OwQ.sl2 {B : Nat} {sv : Value} {L : List Stm} {w : World} (h : OwQ B sv L w) : ∃ a c Y, sv = .slice a L.length c ∧ L.length ≤ c ∧ Y.map (fun y => y.1) = L ∧ StA w a Y ∧ (∀ y ∈ Y, LsR w y) ∧ ∀ y ∈ Y, ∀ aw n c, (y.2.1 = .slice aw n c ∨ y.2.2 = .slice aw n c) → aw = none → c = 0 := by
  obtain ⟨Y, h1, h2, h3⟩ := h.ex
  have h2' := h2
  have hls : ∀ y ∈ Y, LsR w y := fun y hy => (h3 y hy).ls
  have hnl : ∀ y ∈ Y, ∀ aw n c, (y.2.1 = .slice aw n c ∨ y.2.2 = .slice aw n c) → aw = none → c = 0 := fun y hy aw n c hh ha => by
    rcases hh with hh | hh
    · exact own_nil (h3 y hy).1 aw n c hh ha
    · exact own_nil (h3 y hy).2 aw n c hh ha
  rcases h2.2 with ⟨hv, hn⟩ | ⟨g, cap, cur, hv, hb, hg, hc, _⟩
  · refine ⟨none, 0, Y, by rw [hv, hn], by omega, h1, .inl ?_, hls, hnl⟩
    rw [List.length_eq_zero_iff] at hn
    rw [hn] at h1
    exact List.map_eq_nil_iff.1 h1
  · refine ⟨_, _, Y, hv, hc, h1, .inr ⟨g, 0, rfl, fun k y hy i u hu => ?_⟩, hls, hnl⟩
    have hi : i < 11 := (List.getElem?_eq_some_iff.1 hu).1
    have h4 := h2'.cells (g := g) (by rw [hv]; rfl) (k * 11 + i) u (by rw [stC_get Y k y i hy hi, hu])
    rw [← h4, Go.WideShapes.add_plain, Nat.add_assoc]
theorem copy_own (w : World) {B : Nat} {sa : Option Addr} {sc : Nat} {L : List Stm} (h : OwQ B (.slice sa L.length sc) L w) (hs : ∀ x ∈ L, x.ws.length ≤ 1 ∧ x.ns.length ≤ 3) (hl : L.length ≤ 33554433) : Calls Tryz.prog 13 #[.slice sa L.length sc] w fun e w' => ∃ s2 c2, e = .returned (.slice s2 L.length c2) ∧ OwQ w.heap.size (.slice s2 L.length c2) L w' ∧ Out w w' := by
  obtain ⟨a, c, Y, hv, _, hY, h1, h2, h3⟩ := h.sl2
  injection hv with e1 e2 e3
  subst e1 e3
  have hYl : Y.length = L.length := by rw [← hY]; simp
  have := copySts_any w sa sc Y h1 h2 h3 (fun y hy => by
    have := hs y.1 (by rw [← hY]; exact List.mem_map.2 ⟨y, hy, rfl⟩)
    omega) (by omega)
  rw [hYl, hY] at this
  exact this.mono (by
    rintro e w' ⟨v, he, hq, ho⟩
    obtain ⟨s2, c2, _, rfl, _⟩ := hq.sl2
    exact ⟨s2, c2, he, hq, ho⟩)
set_option maxRecDepth 20000 in
set_option maxHeartbeats 4000000 in
theorem parseForth_walk (w : World) (hE : Lx.LEnv w) (hA : AEnv w) (a : Option Addr) (cap : Nat) (l : List UInt8) (hr : Lx.RestAt w.heap.size w a l) (hll : l.length ≤ 140737488351232) :
    Calls Tryz.prog 6 #[.slice a l.length cap] w fun e w' => e = .returned (.bool true) ∧ Out w w' := by
  have CA := hidOf (awake6_any w hE hA.1)
  have CN := hidOf num6_any
  have CC : Hid (∀ wx, Out w wx → Calls Tryz.prog 17 #[.slice a l.length cap] wx fun e w' => ∃ ad cp, e = .returned (.slice ad l.length cp) ∧ l.length ≤ cp ∧ Lx.RestAt w'.heap.size w' ad l ∧ Out wx w') := hidOf (fun wx o => (copy6_any wx a cap l (restAt_out hr o) hll).mono (by
    rintro e w' ⟨v, he, hv, ho⟩
    obtain ⟨ad, cp, rfl, h1, h2⟩ := hv.rest
    exact ⟨ad, cp, he, h1, h2, ho⟩))
  obtain ⟨X, hX⟩ : ∃ X, X = statsP l := ⟨_, rfl⟩
  obtain ⟨n, hn⟩ : ∃ n, n = X.1.length := ⟨_, rfl⟩
  have CS1 : Hid (∀ wx ad cp, Out w wx → l.length ≤ cp → Lx.RestAt wx.heap.size wx ad l → Calls Tryz.prog 15 #[.slice ad l.length cp] wx fun e w' => ∃ B sa sc, e = .returned (.tuple #[.slice sa n sc, .int .i64 X.2.1, .int .i64 X.2.2]) ∧ OwQ B (.slice sa n sc) X.1 w' ∧ Out wx w') := hidOf (fun wx ad cp o h1 h2 => (stats_any wx (hE.out o) (hA.1.out o) ad cp l h2 h1 (by omega)).mono (by
    rintro e w' ⟨sv, B, _, he, hq, ho⟩
    rw [← hX] at he hq
    obtain ⟨sa, sc, _, rfl, _⟩ := hq.sl2
    rw [← hn] at he hq
    exact ⟨B, sa, sc, he, hq, ho⟩))
  have HF := hidOf (forth_P l)
  rw [← hX] at HF
  have hXl : n ≤ 33554433 := by rw [hn, hX]; exact stats_len l
  obtain ⟨R, hR⟩ : ∃ R, R = prF [] 0 (X.1.map lnA) := ⟨_, rfl⟩
  have CS : Hid (∀ wx ad cp (t : List UInt8), Out w wx → t.length ≤ cp → t.length ≤ 16777216 → Lx.RestAt wx.heap.size wx ad t → Calls Tryz.prog 15 #[.slice ad t.length cp] wx fun e w' => ∃ sa sc Y, e = .returned (.tuple #[.slice sa (statsP t).1.length sc, .int .i64 (statsP t).2.1, .int .i64 (statsP t).2.2]) ∧ (statsP t).1.length ≤ sc ∧ Y.map (fun y => y.1) = (statsP t).1 ∧ StA w' sa Y ∧ (∀ y ∈ Y, LsR w' y) ∧ Out wx w') := hidOf (fun wx ad cp t o h1 h2 h3 => stats_sl wx (hE.out o) (hA.1.out o) ad cp t h3 h1 (by omega))
  have HXv : X.2.2 = 0 → ∀ s ∈ X.1, s.ws.length ≤ 1 ∧ s.ns.length ≤ 3 := fun h0 s hs => by
    rw [hX] at h0 hs
    obtain ⟨h1, h2, _⟩ := stats_val l (stats_short l h0) s hs
    exact ⟨h1, h2⟩
  obtain ⟨nl, hnl⟩ : ∃ k, k = l.length := ⟨_, rfl⟩
  rw [← hnl] at CC CS1 ⊢
  have Hn := hidOf hn
  have HR := hidOf hR
  have HA := hidOf hA
  clear hE hA hr hll hX hR hn hnl
  by_cases h0 : X.2.2 = 0
  · obtain ⟨hI, hcode⟩ := HF.out.2 h0
    have hv := HXv h0
    have HI := hidOf hI
    have HV := hidOf hv
    rw [← HR.out] at hcode
    have CCp : Hid (∀ wx B sa sc, OwQ B (.slice sa n sc) X.1 wx → Calls Tryz.prog 13 #[.slice sa n sc] wx fun e w' => ∃ s2 c2, e = .returned (.slice s2 n c2) ∧ OwQ wx.heap.size (.slice s2 n c2) X.1 w' ∧ Out wx w') := hidOf (fun wx B sa sc hq => by
      have hn' := Hn.out
      rw [hn'] at hq ⊢
      exact copy_own wx hq HV.out (by omega))
    have CP : Hid (∀ wx B sa sc, Out w wx → OwQ B (.slice sa n sc) X.1 wx → Calls Tryz.prog 12 #[.slice sa n sc] wx fun e w' => e = .returned (.tuple #[.string ⟨R.1.toArray⟩, .int .i64 R.2]) ∧ Out wx w') := hidOf (fun wx B sa sc o hq => by
      have := print_own wx (HA.out.out o) hq (by have := Hn.out; omega) HI.out
      rw [← HR.out] at this
      exact this)
    have HP := hidOf (back_P X.1 (fun x hx' => (HI.out x hx').2.2.2))
    rw [← HR.out] at HP
    rw [h0] at CS1
    clear HXv hI hv HF h0
    rcases hcode with hc | hc
    · obtain ⟨hst, htl⟩ := HP.out.2 hc
      obtain ⟨t, ht⟩ : ∃ t, t = R.1 := ⟨_, rfl⟩
      rw [hc, ← ht] at CP
      rw [← ht] at hst htl
      have CS2 : Hid (∀ wx, Out w wx → Calls Tryz.prog 15 #[.slice (some ⟨wx.heap.size, 0, none⟩) t.length (grownCap wx t.length 0 5)] (Lib.bytesWorld wx 5 ⟨t.toArray⟩) fun e w' => ∃ sa sc Y, e = .returned (.tuple #[.slice sa n sc, .int .i64 0, .int .i64 0]) ∧ n ≤ sc ∧ Y.map (fun y => y.1) = numL 0 X.1 ∧ StA w' sa Y ∧ (∀ y ∈ Y, LsR w' y) ∧ Out wx w') := hidOf (fun wx o => by
        have ob : Out wx (Lib.bytesWorld wx 5 ⟨t.toArray⟩) := Lx.bw_out wx _ _
        have := CS.out _ (some ⟨wx.heap.size, 0, none⟩) (grownCap wx t.length 0 5) t (o.trans ob) (grownCap_ge _ _ _ _) htl (bw_rest wx t)
        rw [hst] at this
        simp only at this
        rw [numL_len, ← Hn.out] at this
        exact this.mono (by
          rintro e w' ⟨sa, sc, Y, he, h1, h2, h3, h4, ho⟩
          exact ⟨sa, sc, Y, he, h1, h2, h3, h4, ob.trans ho⟩))
      have hls : (⟨t.toArray⟩ : ByteArray).size = t.length := mk_size t
      clear CS HP ht hc hst
      go_enter Tryz.func6, Tryz.ntmps6
      go_upto_region 3 with (go_at_call 9; refine CA.out.mono ?_; rintro e w1 ⟨rfl, ho⟩; have O1 := hidOf ho; clear ho)
      go_upto_region 4 with (first | (go_at_call 17; refine (CC.out _ O1.out).mono ?_; rintro e wc ⟨ad, cp, rfl, h1, h2, ho⟩; have Oc := hidOf (O1.out.trans ho); have Tc := hidOf (CS1.out _ ad cp Oc.out h1 h2); clear h1 h2 ho) | (go_at_call 15; refine Tc.out.mono ?_; rintro e w2 ⟨B, sa, sc, rfl, hq, ho⟩; have O2 := hidOf (Oc.out.trans ho); have Q2 := hidOf hq; have T2 := hidOf (CCp.out _ B sa sc hq); clear hq ho))
      clear Tc CS1 CC Oc CA
      go_upto_region 9 with (first | (go_at_call 14; refine (CN.out _ _).mono ?_; rintro e wn ⟨rfl, hwn⟩; subst hwn) | (go_at_call 13; refine T2.out.mono ?_; rintro e w5 ⟨s5, c5, rfl, hq, ho⟩; have P5 := hidOf ho; have T5 := hidOf (CP.out _ _ s5 c5 (O2.out.trans ho) hq); clear hq ho) | (go_at_call 12; refine T5.out.mono ?_; rintro e w3 ⟨rfl, ho⟩; have P3 := hidOf (P5.out.trans ho); have O3 := hidOf (O2.out.trans P3.out); clear ho))
      have hcv := Lib.run_convert_string_bytes (P := Tryz.prog) w3 9 24 5 ⟨t.toArray⟩ (u := .string) Tryz.underlying9 Tryz.underlying24 Tryz.underlying5
      rw [hls] at hcv
      have CS3 := hidOf (CS2.out w3 O3.out)
      generalize Lib.bytesWorld w3 5 ⟨t.toArray⟩ = wb at *
      go_upto_region 10 with (go_at_call 15; refine CS3.out.mono ?_; rintro e w4 ⟨az, cz, YZ, rfl, hcz, hYZ, hSZ, hLZ, ho⟩; have EZ := hidOf hYZ; have SZ := hidOf hSZ; have LZ := hidOf hLZ; have P4 := hidOf (P3.out.trans ho); have O4 := hidOf (O3.out.trans ho); clear hYZ hSZ hLZ ho)
      obtain ⟨a1, c1, Y, hv1, _, hYL, hYS, hYR⟩ := (Q2.out.out P4.out).sl
      injection hv1 with e1 e2 e3
      subst e1 e3
      have SY := hidOf hYS
      have LY := hidOf hYR
      obtain ⟨L, hL⟩ : ∃ L, L = X.1 := ⟨_, rfl⟩
      rw [← hL] at EZ hYL HV Hn
      have HL := hidOf hYL.symm
      have HnY : Hid (n = Y.length) := hidOf (by rw [Hn.out, ← hYL]; simp)
      clear hcv CS3 CS2 CCp CP T2 T5 O1 O2 O3 P3 P5 Q2 hYL hYS hYR hL HI HA HR
      have hnn0 : ((n : Int) != (n : Int)) = false := by simp
      go_upto_region 13 with (go_at_call 14; refine (CN.out _ _).mono ?_; rintro e wn ⟨rfl, hwn⟩; subst hwn)
      go_loopw [11] (fun iv wr => ∃ I : Nat, iv = .int .i64 I ∧ I ≤ n ∧ Hid (Out w4 wr)) (fun iv _ => n - (intOf iv).toNat)
      case atStart => exact ⟨0, rfl, by omega, hidOf (Out.refl _)⟩
      case round =>
        obtain ⟨I, rfl, hI, OR⟩ := hrel
        by_cases hIn : I < n
        · have hltI : (I : Int) < n := by omega
          have h0 : (0 : Int) ≤ I := by omega
          obtain ⟨y, hy⟩ : ∃ y, Y[I]? = some y := ⟨_, List.getElem?_eq_getElem (by have := HnY.out; omega)⟩
          have hyL : L[I]? = some y.1 := by rw [HL.out, List.getElem?_map, hy]; rfl
          have hzl : YZ.length = n := by
            have := congrArg List.length EZ.out
            rw [List.length_map, numL_len, ← Hn.out] at this
            exact this
          obtain ⟨z, hz⟩ : ∃ z, YZ[I]? = some z := ⟨_, List.getElem?_eq_getElem (by omega)⟩
          have hzy : z.1 = { y.1 with l := (I : Int) + 1 } := by
            have e1 : (YZ.map (fun y => y.1))[I]? = some z.1 := by rw [List.getElem?_map, hz]; rfl
            rw [EZ.out, numL_get 0 I L y.1 hyL, Nat.zero_add] at e1
            exact (Option.some.inj e1).symm
          obtain ⟨hv1, hv2⟩ := HV.out y.1 (List.mem_of_getElem? hyL)
          obtain ⟨g1, off1, rfl, h1⟩ := SY.out.get hy
          obtain ⟨g2, off2, rfl, h2⟩ := SZ.out.get hz
          obtain ⟨aw, cw, an, cn, e1, e2, r1, r2, _⟩ := LY.out y (List.mem_of_getElem? hy)
          obtain ⟨aw2, cw2, an2, cn2, e3, e4, r3, r4, _⟩ := LZ.out z (List.mem_of_getElem? hz)
          obtain ⟨x, wv, nv⟩ := y
          obtain ⟨x2, wv2, nv2⟩ := z
          simp only at hzy h1 h2 e1 e2 e3 e4 r1 r2 r3 r4 hv1 hv2
          subst hzy e1 e2 e3 e4
          have CS : Hid (∀ wx, Out w4 wx → Calls Tryz.prog 16 #[.agg #[.int .i64 x.k, .string ⟨x.nm.toArray⟩, .slice aw2 x.ws.length cw2, .slice an2 x.ns.length cn2, .int .i64 x.o, .int .i64 x.d, .int .i64 x.s, .int .i64 x.f, .int .i64 x.i, .string ⟨x.tg.toArray⟩, .int .i64 ((I : Int) + 1)], .agg #[.int .i64 x.k, .string ⟨x.nm.toArray⟩, .slice aw x.ws.length cw, .slice an x.ns.length cn, .int .i64 x.o, .int .i64 x.d, .int .i64 x.s, .int .i64 x.f, .int .i64 x.i, .string ⟨x.tg.toArray⟩, .int .i64 ((I : Int) + 1)]] wx fun e w' => e = .returned (.bool true) ∧ Out wx w') := hidOf (fun wx o => sameSt_any { x with l := (I : Int) + 1 } aw2 aw an2 an cw2 cw cn2 cn wx (r3.out o) (r1.out o) (r4.out o) (r2.out o) (by show x.ws.length ≤ _; omega) (by show x.ns.length ≤ _; omega))
          obtain ⟨nw, hnw⟩ : ∃ n, n = x.ws.length := ⟨_, rfl⟩
          obtain ⟨nn, hnn⟩ : ∃ n, n = x.ns.length := ⟨_, rfl⟩
          obtain ⟨xk, xnm, xws, xns, xo, xd, xs, xf, xi, xtg, xl⟩ := x
          simp only at CS hnw hnn
          have HY : Hid (∀ wx, Out w4 wx → wx.cell? ⟨g1, off1 + I * 11, none⟩ = some (.int .i64 xk) ∧ wx.cell? ⟨g1, off1 + I * 11 + 1, none⟩ = some (.string ⟨xnm.toArray⟩) ∧ wx.cell? ⟨g1, off1 + I * 11 + 2, none⟩ = some (.slice aw nw cw) ∧ wx.cell? ⟨g1, off1 + I * 11 + 3, none⟩ = some (.slice an nn cn) ∧ wx.cell? ⟨g1, off1 + I * 11 + 4, none⟩ = some (.int .i64 xo) ∧ wx.cell? ⟨g1, off1 + I * 11 + 5, none⟩ = some (.int .i64 xd) ∧ wx.cell? ⟨g1, off1 + I * 11 + 6, none⟩ = some (.int .i64 xs) ∧ wx.cell? ⟨g1, off1 + I * 11 + 7, none⟩ = some (.int .i64 xf) ∧ wx.cell? ⟨g1, off1 + I * 11 + 8, none⟩ = some (.int .i64 xi) ∧ wx.cell? ⟨g1, off1 + I * 11 + 9, none⟩ = some (.string ⟨xtg.toArray⟩) ∧ wx.cell? ⟨g1, off1 + I * 11 + 10, none⟩ = some (.int .i64 xl)) := hidOf (by rw [hnw, hnn]; exact (fun wx o => ⟨cell_later o (h1 0 _ rfl), cell_later o (h1 1 _ rfl), cell_later o (h1 2 _ rfl), cell_later o (h1 3 _ rfl), cell_later o (h1 4 _ rfl), cell_later o (h1 5 _ rfl), cell_later o (h1 6 _ rfl), cell_later o (h1 7 _ rfl), cell_later o (h1 8 _ rfl), cell_later o (h1 9 _ rfl), cell_later o (h1 10 _ rfl)⟩))
          have HZ : Hid (∀ wx, Out w4 wx → wx.cell? ⟨g2, off2 + I * 11, none⟩ = some (.int .i64 xk) ∧ wx.cell? ⟨g2, off2 + I * 11 + 1, none⟩ = some (.string ⟨xnm.toArray⟩) ∧ wx.cell? ⟨g2, off2 + I * 11 + 2, none⟩ = some (.slice aw2 nw cw2) ∧ wx.cell? ⟨g2, off2 + I * 11 + 3, none⟩ = some (.slice an2 nn cn2) ∧ wx.cell? ⟨g2, off2 + I * 11 + 4, none⟩ = some (.int .i64 xo) ∧ wx.cell? ⟨g2, off2 + I * 11 + 5, none⟩ = some (.int .i64 xd) ∧ wx.cell? ⟨g2, off2 + I * 11 + 6, none⟩ = some (.int .i64 xs) ∧ wx.cell? ⟨g2, off2 + I * 11 + 7, none⟩ = some (.int .i64 xf) ∧ wx.cell? ⟨g2, off2 + I * 11 + 8, none⟩ = some (.int .i64 xi) ∧ wx.cell? ⟨g2, off2 + I * 11 + 9, none⟩ = some (.string ⟨xtg.toArray⟩) ∧ wx.cell? ⟨g2, off2 + I * 11 + 10, none⟩ = some (.int .i64 ((I : Int) + 1))) := hidOf (by rw [hnw, hnn]; exact (fun wx o => ⟨cell_later o (h2 0 _ rfl), cell_later o (h2 1 _ rfl), cell_later o (h2 2 _ rfl), cell_later o (h2 3 _ rfl), cell_later o (h2 4 _ rfl), cell_later o (h2 5 _ rfl), cell_later o (h2 6 _ rfl), cell_later o (h2 7 _ rfl), cell_later o (h2 8 _ rfl), cell_later o (h2 9 _ rfl), cell_later o (h2 10 _ rfl)⟩))
          rw [← hnw, ← hnn] at CS
          clear hnw hnn h1 h2 r1 r2 r3 r4 hy hz hyL hzl hv1 hv2
          obtain ⟨q0, q1, q2, q3, q4, q5, q6, q7, q8, q9, q10⟩ := HY.out wr OR.out
          go_upto_region 16 with fail
          obtain ⟨p, hp⟩ : ∃ p, p = wr.heap.size := ⟨_, rfl⟩
          obtain ⟨wB, hwB⟩ : ∃ wB, wB = wr.alloc (.cells #[.int .i64 xk, .string ⟨xnm.toArray⟩, .slice aw nw cw, .slice an nn cn, .int .i64 xo, .int .i64 xd, .int .i64 xs, .int .i64 xf, .int .i64 xi, .string ⟨xtg.toArray⟩, .int .i64 xl] 60) := ⟨_, rfl⟩
          have bB : wB.heap[p]? = some (.cells #[.int .i64 xk, .string ⟨xnm.toArray⟩, .slice aw nw cw, .slice an nn cn, .int .i64 xo, .int .i64 xd, .int .i64 xs, .int .i64 xf, .int .i64 xi, .string ⟨xtg.toArray⟩, .int .i64 xl] 60 (0, 0)) := by rw [hwB, hp]; exact heap_alloc_new wr _
          have OB : Hid (Out wr wB) := hidOf (by rw [hwB]; exact (Out.refl wr).alloc _)
          rw [← hwB, ← hp]
          have m10 : wB.cell? ⟨p, 10, none⟩ = some (.int .i64 xl) := by rw [cell_atL bB]; rfl
          have f10 : wB.frozen? ⟨p, 10, none⟩ = false := by simp [World.frozen?, bB]
          have Hp := hidOf hp
          have BB := hidOf bB
          clear hwB hp bB q0 q1 q2 q3 q4 q5 q6 q7 q8 q9 q10
          go_upto_region 17 with fail
          obtain ⟨wC, hwC⟩ : ∃ wC, wC = wB.setCell ⟨p, 10, none⟩ (.int .i64 ((I : Int) + 1)) := ⟨_, rfl⟩
          have b3 : wC.heap[p]? = some (.cells #[.int .i64 xk, .string ⟨xnm.toArray⟩, .slice aw nw cw, .slice an nn cn, .int .i64 xo, .int .i64 xd, .int .i64 xs, .int .i64 xf, .int .i64 xi, .string ⟨xtg.toArray⟩, .int .i64 ((I : Int) + 1)] 60 (0, 0)) := by rw [hwC, set_atL BB.out]; rfl
          have OC : Hid (Out wr wC) := hidOf (by
            rw [hwC]
            exact Chg.out (S := fun k => k = p) (Chg.setCell (S := fun k => k = p) (Chg.refl _ wB) (p := ⟨p, 10, none⟩) rfl _) OB.out (fun k hk => by have := Hp.out; omega))
          rw [← hwC]
          have HK : Hid (∀ wx, Out wC wx → wx.cell? ⟨g2, off2 + I * 11, none⟩ = some (.int .i64 xk) ∧ wx.cell? ⟨g2, off2 + I * 11 + 1, none⟩ = some (.string ⟨xnm.toArray⟩) ∧ wx.cell? ⟨g2, off2 + I * 11 + 2, none⟩ = some (.slice aw2 nw cw2) ∧ wx.cell? ⟨g2, off2 + I * 11 + 3, none⟩ = some (.slice an2 nn cn2) ∧ wx.cell? ⟨g2, off2 + I * 11 + 4, none⟩ = some (.int .i64 xo) ∧ wx.cell? ⟨g2, off2 + I * 11 + 5, none⟩ = some (.int .i64 xd) ∧ wx.cell? ⟨g2, off2 + I * 11 + 6, none⟩ = some (.int .i64 xs) ∧ wx.cell? ⟨g2, off2 + I * 11 + 7, none⟩ = some (.int .i64 xf) ∧ wx.cell? ⟨g2, off2 + I * 11 + 8, none⟩ = some (.int .i64 xi) ∧ wx.cell? ⟨g2, off2 + I * 11 + 9, none⟩ = some (.string ⟨xtg.toArray⟩) ∧ wx.cell? ⟨g2, off2 + I * 11 + 10, none⟩ = some (.int .i64 ((I : Int) + 1)) ∧ wx.cell? ⟨p, 0, none⟩ = some (.int .i64 xk) ∧ wx.cell? ⟨p, 1, none⟩ = some (.string ⟨xnm.toArray⟩) ∧ wx.cell? ⟨p, 2, none⟩ = some (.slice aw nw cw) ∧ wx.cell? ⟨p, 3, none⟩ = some (.slice an nn cn) ∧ wx.cell? ⟨p, 4, none⟩ = some (.int .i64 xo) ∧ wx.cell? ⟨p, 5, none⟩ = some (.int .i64 xd) ∧ wx.cell? ⟨p, 6, none⟩ = some (.int .i64 xs) ∧ wx.cell? ⟨p, 7, none⟩ = some (.int .i64 xf) ∧ wx.cell? ⟨p, 8, none⟩ = some (.int .i64 xi) ∧ wx.cell? ⟨p, 9, none⟩ = some (.string ⟨xtg.toArray⟩) ∧ wx.cell? ⟨p, 10, none⟩ = some (.int .i64 ((I : Int) + 1))) := hidOf (fun wx o => by
            obtain ⟨r0, r1, r2, r3, r4, r5, r6, r7, r8, r9, r10⟩ := HZ.out wx ((OR.out.trans OC.out).trans o)
            exact ⟨r0, r1, r2, r3, r4, r5, r6, r7, r8, r9, r10, cell_later o (by rw [cell_atL b3]; rfl), cell_later o (by rw [cell_atL b3]; rfl), cell_later o (by rw [cell_atL b3]; rfl), cell_later o (by rw [cell_atL b3]; rfl), cell_later o (by rw [cell_atL b3]; rfl), cell_later o (by rw [cell_atL b3]; rfl), cell_later o (by rw [cell_atL b3]; rfl), cell_later o (by rw [cell_atL b3]; rfl), cell_later o (by rw [cell_atL b3]; rfl), cell_later o (by rw [cell_atL b3]; rfl), cell_later o (by rw [cell_atL b3]; rfl)⟩)
          have OD := hidOf ((Out.refl wC).drew)
          have OWC := hidOf (OR.out.trans OC.out)
          clear hwC m10 f10 b3 BB HZ HY OB
          go_region_held3 (fun wx => wx.cell? ⟨g2, off2 + I * 11, none⟩ = some (.int .i64 xk) ∧ wx.cell? ⟨g2, off2 + I * 11 + 1, none⟩ = some (.string ⟨xnm.toArray⟩) ∧ wx.cell? ⟨g2, off2 + I * 11 + 2, none⟩ = some (.slice aw2 nw cw2) ∧ wx.cell? ⟨g2, off2 + I * 11 + 3, none⟩ = some (.slice an2 nn cn2) ∧ wx.cell? ⟨g2, off2 + I * 11 + 4, none⟩ = some (.int .i64 xo) ∧ wx.cell? ⟨g2, off2 + I * 11 + 5, none⟩ = some (.int .i64 xd) ∧ wx.cell? ⟨g2, off2 + I * 11 + 6, none⟩ = some (.int .i64 xs) ∧ wx.cell? ⟨g2, off2 + I * 11 + 7, none⟩ = some (.int .i64 xf) ∧ wx.cell? ⟨g2, off2 + I * 11 + 8, none⟩ = some (.int .i64 xi) ∧ wx.cell? ⟨g2, off2 + I * 11 + 9, none⟩ = some (.string ⟨xtg.toArray⟩) ∧ wx.cell? ⟨g2, off2 + I * 11 + 10, none⟩ = some (.int .i64 ((I : Int) + 1)) ∧ wx.cell? ⟨p, 0, none⟩ = some (.int .i64 xk) ∧ wx.cell? ⟨p, 1, none⟩ = some (.string ⟨xnm.toArray⟩) ∧ wx.cell? ⟨p, 2, none⟩ = some (.slice aw nw cw) ∧ wx.cell? ⟨p, 3, none⟩ = some (.slice an nn cn) ∧ wx.cell? ⟨p, 4, none⟩ = some (.int .i64 xo) ∧ wx.cell? ⟨p, 5, none⟩ = some (.int .i64 xd) ∧ wx.cell? ⟨p, 6, none⟩ = some (.int .i64 xs) ∧ wx.cell? ⟨p, 7, none⟩ = some (.int .i64 xf) ∧ wx.cell? ⟨p, 8, none⟩ = some (.int .i64 xi) ∧ wx.cell? ⟨p, 9, none⟩ = some (.string ⟨xtg.toArray⟩) ∧ wx.cell? ⟨p, 10, none⟩ = some (.int .i64 ((I : Int) + 1))) (first | with_reducible exact HK.out _ (Hid.out (by assumption)) | fail) (first | (go_at_call 16; refine (CS.out _ (OWC.out.trans OD.out)).mono ?_; rintro e w1 ⟨rfl, hO1⟩; have HO1 := hidOf (OD.out.trans hO1); clear hO1) | fail)
          go_wp2
          go_roundw
          case rel => exact ⟨I + 1, by simp, by omega, hidOf (OWC.out.trans HO1.out)⟩
          case measure => simp [intOf]; omega
        · have hltI : ¬ (I : Int) < n := by omega
          go_wp2
          go_ret
          exact ⟨rfl, O4.out.trans OR.out⟩
    · have hz := HP.out.1 (by rw [hc]; decide)
      rw [hz, hc] at CP
      clear HP CS hz hc
      go_enter Tryz.func6, Tryz.ntmps6
      go_wp2_with (first | (go_at_call 9; refine CA.out.mono ?_; rintro e w1 ⟨rfl, ho⟩; have O1 := hidOf ho; clear ho) | (go_at_call 17; refine (CC.out _ O1.out).mono ?_; rintro e wc ⟨ad, cp, rfl, h1, h2, ho⟩; have Oc := hidOf (O1.out.trans ho); have Tc := hidOf (CS1.out _ ad cp Oc.out h1 h2); clear h1 h2 ho) | (go_at_call 15; refine Tc.out.mono ?_; rintro e w2 ⟨B, sa, sc, rfl, hq, ho⟩; have O2 := hidOf (Oc.out.trans ho); have T2 := hidOf (CCp.out _ B sa sc hq); clear hq ho) | (go_at_call 14; refine (CN.out _ _).mono ?_; rintro e wn ⟨rfl, hwn⟩; subst hwn) | (go_at_call 13; refine T2.out.mono ?_; rintro e w5 ⟨s5, c5, rfl, hq, ho⟩; have O5 := hidOf (O2.out.trans ho); have T5 := hidOf (CP.out _ _ s5 c5 O5.out hq); clear hq ho) | (go_at_call 12; refine T5.out.mono ?_; rintro e w3 ⟨rfl, ho⟩; have O3 := hidOf (O5.out.trans ho); clear ho))
      go_ret
      exact ⟨by first | rfl | simp, O3.out⟩
  · have hz := HF.out.1 h0
    have h0b : (X.2.2 != 0) = true := by simpa using h0
    have hn0 : n = 0 := by rw [Hn.out, hz]; rfl
    rw [hn0] at CS1
    generalize X.2.2 = xe at *
    clear HF CS hz h0 HXv HR HA Hn hn0
    go_enter Tryz.func6, Tryz.ntmps6
    go_wp2_with (first | (go_at_call 9; refine CA.out.mono ?_; rintro e w1 ⟨rfl, ho⟩; have O1 := hidOf ho; clear ho) | (go_at_call 17; refine (CC.out _ O1.out).mono ?_; rintro e wc ⟨ad, cp, rfl, h1, h2, ho⟩; have Oc := hidOf (O1.out.trans ho); have Tc := hidOf (CS1.out _ ad cp Oc.out h1 h2); clear h1 h2 ho) | (go_at_call 15; refine Tc.out.mono ?_; rintro e w2 ⟨B, sa, sc, rfl, hq, ho⟩; have O2 := hidOf (Oc.out.trans ho); clear hq ho) | (go_at_call 14; refine (CN.out _ _).mono ?_; rintro e wn ⟨rfl, hwn⟩; subst hwn))
    go_ret
    exact ⟨by first | rfl | simp, O2.out⟩
end Go.Proofs.YtkihaohdcgjioaaGreatDoor
