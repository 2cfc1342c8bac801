import Derived.Test.YtkihaohdcgjioaaGreatDoorGr24
import Derived.Test.YtkihaohdcgjioaaGreatDoorGr28
namespace Go.Proofs.YtkihaohdcgjioaaGreatDoor
open Go.RowKit
set_option linter.unusedVariables false
set_option linter.unusedSimpArgs false
def En : List Lx.Tk → Prop
  | [] => False
  | t :: r => if t.k = 5 then r = [] else En r
def shT (N : Int) (t : Lx.Tk) : Lx.Tk := ⟨t.k, t.t, t.n, t.l + N⟩
def shS (N : Int) (s : Stm) : Stm := { s with l := s.l + N }
theorem En.ne {ts : List Lx.Tk} (h : En ts) : ∃ t r, ts = t :: r := by
  cases ts with
  | nil => exact h.elim
  | cons t r => exact ⟨t, r, rfl⟩
theorem En.next {t : Lx.Tk} {r : List Lx.Tk} (h : En (t :: r)) (hk : ¬ t.k = 5) : En r := by
  unfold En at h
  rw [if_neg hk] at h
  exact h
theorem En.last {t : Lx.Tk} {r : List Lx.Tk} (h : En (t :: r)) (hk : t.k = 5) : r = [] := by
  unfold En at h
  rw [if_pos hk] at h
  exact h
def RE.app {α : Type} (g : α → α) (N : Int) (R : List Lx.Tk) : RE α → RE α
  | .ok a ts => .ok (g a) (ts.map (shT N) ++ R)
  | .no c ts => .no c (ts.map (shT N) ++ R)
def RE.en {α : Type} : RE α → Prop
  | .ok _ ts => En ts
  | .no _ ts => En ts
def Loc {α : Type} (g : α → α) (N : Int) (R : List Lx.Tk) (y x : RE α) : Prop := y = x.app g N R ∧ x.en
theorem Loc.bind {α β : Type} {g : α → α} {g' : β → β} {N : Int} {R : List Lx.Tk} {x y : RE α} {f f' : α → List Lx.Tk → RE β} (h : Loc g N R y x) (hf : ∀ a r, En r → Loc g' N R (f' (g a) (r.map (shT N) ++ R)) (f a r)) : Loc g' N R (y.bind f') (x.bind f) := by
  obtain ⟨rfl, he⟩ := h
  cases x with
  | ok a r => exact hf a r he
  | no c r => exact ⟨rfl, he⟩
theorem kind_loc {N : Int} {R ts : List Lx.Tk} (h : En ts) : kindQ (ts.map (shT N) ++ R) = kindQ ts := by
  obtain ⟨t, r, rfl⟩ := h.ne
  rfl
theorem line_loc {N : Int} {R ts : List Lx.Tk} (h : En ts) : lineQ (ts.map (shT N) ++ R) = lineQ ts + N := by
  obtain ⟨t, r, rfl⟩ := h.ne
  rfl
theorem tkQ_loc {k N : Int} {R ts : List Lx.Tk} (h : En ts) (hk : ¬ k = 5) : Loc (shT N) N R (tkQ k (ts.map (shT N) ++ R)) (tkQ k ts) := by
  obtain ⟨t, r, rfl⟩ := h.ne
  show Loc (shT N) N R (if t.k = k then RE.ok (shT N t) (r.map (shT N) ++ R) else RE.no 60 (shT N t :: (r.map (shT N) ++ R))) (if t.k = k then RE.ok t r else RE.no 60 (t :: r))
  by_cases e : t.k = k
  · rw [if_pos e, if_pos e]; exact ⟨rfl, h.next (by rw [e]; exact hk)⟩
  · rw [if_neg e, if_neg e]; exact ⟨rfl, h⟩
theorem wdQ_loc {N : Int} {R ts : List Lx.Tk} (h : En ts) : Loc id N R (wdQ (ts.map (shT N) ++ R)) (wdQ ts) := (tkQ_loc h (by decide)).bind (fun _ _ h => ⟨rfl, h⟩)
theorem tdQ_loc {N : Int} {R ts : List Lx.Tk} (h : En ts) : Loc id N R (tdQ (ts.map (shT N) ++ R)) (tdQ ts) := (wdQ_loc h).bind (fun x r h => by
  show Loc id N R (if tknQ x then RE.ok x (r.map (shT N) ++ R) else RE.no 60 (r.map (shT N) ++ R)) (if tknQ x then RE.ok x r else RE.no 60 r)
  cases hx : tknQ x
  · exact ⟨rfl, h⟩
  · exact ⟨rfl, h⟩)
theorem nuQ_loc {N : Int} {R ts : List Lx.Tk} (h : En ts) : Loc id N R (nuQ (ts.map (shT N) ++ R)) (nuQ ts) := (tkQ_loc h (by decide)).bind (fun t r h => by
  show Loc id N R (if t.n ≤ 2147483647 then RE.ok t.n (r.map (shT N) ++ R) else RE.no 60 (r.map (shT N) ++ R)) (if t.n ≤ 2147483647 then RE.ok t.n r else RE.no 60 r)
  by_cases hx : t.n ≤ 2147483647
  · rw [if_pos hx, if_pos hx]; exact ⟨rfl, h⟩
  · rw [if_neg hx, if_neg hx]; exact ⟨rfl, h⟩)
theorem nmQ_loc {k N : Int} {R ts : List Lx.Tk} (h : En ts) : Loc id N R (nmQ k (ts.map (shT N) ++ R)) (nmQ k ts) := (wdQ_loc h).bind (fun _ _ h => ⟨rfl, h⟩)
theorem nuR_loc {N : Int} {R : List Lx.Tk} : ∀ (n : Nat) (l : List Int) (ts : List Lx.Tk), En ts → Loc id N R (nuR n l (ts.map (shT N) ++ R)) (nuR n l ts)
  | 0, l, ts, h => ⟨rfl, h⟩
  | n + 1, l, ts, h => (nuQ_loc h).bind (fun a r h => nuR_loc n _ r h)
theorem tbQ_loc {N : Int} {R ts : List Lx.Tk} (h : En ts) : Loc id N R (tbQ (ts.map (shT N) ++ R)) (tbQ ts) := (wdQ_loc h).bind (fun _ _ h => (tdQ_loc h).bind (fun _ _ h => (nuR_loc 3 [] _ h).bind (fun _ _ h => ⟨rfl, h⟩)))
theorem restQ_loc {x : List UInt8} {N : Int} {R ts : List Lx.Tk} (h : En ts) : Loc id N R (restQ x (ts.map (shT N) ++ R)) (restQ x ts) := by
  unfold restQ
  by_cases h1 : x = funcB
  · rw [if_pos h1, if_pos h1]; exact nmQ_loc h
  rw [if_neg h1, if_neg h1]
  by_cases h2 : x = globB
  · rw [if_pos h2, if_pos h2]; exact nmQ_loc h
  rw [if_neg h2, if_neg h2]
  by_cases h3 : x = extB
  · rw [if_pos h3, if_pos h3]; exact nmQ_loc h
  rw [if_neg h3, if_neg h3]
  by_cases h4 : x = mapB
  · rw [if_pos h4, if_pos h4]; exact tbQ_loc h
  rw [if_neg h4, if_neg h4]
  exact ⟨rfl, h⟩
theorem dirQ_loc {N : Int} {R ts : List Lx.Tk} (h : En ts) : Loc id N R (dirQ (ts.map (shT N) ++ R)) (dirQ ts) := (tkQ_loc h (by decide)).bind (fun t r h => (restQ_loc (x := t.t) h).bind (fun s r h => by
  rw [kind_loc h]
  by_cases e : kindQ r = 5
  · rw [if_pos e, if_pos e]; exact ⟨rfl, h⟩
  · rw [if_neg e, if_neg e]; exact ⟨rfl, h⟩))
theorem ixQ_loc {N : Int} {R : List Lx.Tk} : ∀ (acc : List UInt8) (ts : List Lx.Tk), En ts → ixQ acc (ts.map (shT N) ++ R) = ((ixQ acc ts).1, (ixQ acc ts).2.map (shT N) ++ R) ∧ En (ixQ acc ts).2
  | acc, [], h => h.elim
  | acc, t :: r, h => by
    show (if t.k = 5 then (acc, shT N t :: (r.map (shT N) ++ R)) else ixQ ((if acc.isEmpty then acc else acc ++ [32]) ++ ttQ t) (r.map (shT N) ++ R)) = _ ∧ _
    rw [show ixQ acc (t :: r) = if t.k = 5 then (acc, t :: r) else ixQ ((if acc.isEmpty then acc else acc ++ [32]) ++ ttQ t) r by rw [ixQ]]
    by_cases e : t.k = 5
    · rw [if_pos e, if_pos e]; exact ⟨rfl, h⟩
    · rw [if_neg e, if_neg e]; exact ixQ_loc _ r (h.next e)
theorem inQ_loc {N : Int} {R ts : List Lx.Tk} (h : En ts) : Loc id N R (inQ (ts.map (shT N) ++ R)) (inQ ts) := by
  obtain ⟨h1, h2⟩ := ixQ_loc (N := N) (R := R) [] ts h
  unfold inQ
  rw [h1]
  simp only
  by_cases e : (parseP (ixQ [] ts).1).e = 0
  · rw [if_pos e, if_pos e]; exact ⟨rfl, h2⟩
  · rw [if_neg e, if_neg e]; exact ⟨rfl, h2⟩
theorem lbQ_loc {N : Int} {R : List Lx.Tk} {out : List Stm} : ∀ (n : Nat) (L : List Stm) (ts : List Lx.Tk), ts.length ≤ n → En ts → lbQ (out ++ L.map (shS N)) (ts.map (shT N) ++ R) = (out ++ (lbQ L ts).1.map (shS N), (lbQ L ts).2.map (shT N) ++ R) ∧ En (lbQ L ts).2
  | _, L, [], _, h => h.elim
  | _, L, [t], _, h => by
    have hk : t.k = 5 := by
      unfold En at h
      by_cases e : t.k = 5
      · exact e
      · rw [if_neg e] at h; exact h.elim
    have h1 : lbQ L [t] = (L, [t]) := by unfold lbQ; rfl
    rw [h1]
    refine ⟨?_, h⟩
    show lbQ (out ++ L.map (shS N)) (shT N t :: R) = _
    cases R with
    | nil => unfold lbQ; rfl
    | cons u r =>
      unfold lbQ
      rw [if_neg (fun e => by have := e.1; rw [show (shT N t).k = t.k from rfl] at this; omega)]
      rfl
  | 0, L, t :: u :: r, hn, h => by simp at hn
  | n + 1, L, t :: u :: r, hn, h => by
    show (lbQ (out ++ L.map (shS N)) (shT N t :: shT N u :: (r.map (shT N) ++ R)) = _) ∧ _
    have e1 : lbQ L (t :: u :: r) = if t.k = 1 ∧ colQ u = true then lbQ (L ++ [{ nmS 1 t.t with l := u.l }]) r else (L, t :: u :: r) := by rw [lbQ]
    have e2 : lbQ (out ++ L.map (shS N)) (shT N t :: shT N u :: (r.map (shT N) ++ R)) = if t.k = 1 ∧ colQ u = true then lbQ (out ++ L.map (shS N) ++ [{ nmS 1 t.t with l := u.l + N }]) (r.map (shT N) ++ R) else (out ++ L.map (shS N), shT N t :: shT N u :: (r.map (shT N) ++ R)) := by rw [lbQ]; rfl
    rw [e1, e2]
    by_cases e : t.k = 1 ∧ colQ u = true
    · rw [if_pos e, if_pos e]
      have h1 := h.next (by rw [e.1]; decide)
      have h2 := h1.next (by rw [col_kind e.2]; decide)
      have ih := lbQ_loc (N := N) (R := R) (out := out) n (L ++ [{ nmS 1 t.t with l := u.l }]) r (by simp at hn; omega) h2
      rw [List.map_append, ← List.append_assoc] at ih
      exact ih
    · rw [if_neg e, if_neg e]
      exact ⟨rfl, h⟩
theorem stQ_loc {N : Int} {R : List Lx.Tk} {out : List Stm} {L : List Stm} {ts : List Lx.Tk} (h : En ts) : Loc (fun o => out ++ o.map (shS N)) N R (stQ (out ++ L.map (shS N)) (ts.map (shT N) ++ R)) (stQ L ts) := by
  unfold stQ
  rw [kind_loc h]
  by_cases e : kindQ ts = 5
  · rw [if_pos e, if_pos e]; exact ⟨rfl, h⟩
  rw [if_neg e, if_neg e]
  refine Loc.bind (g := id) ?_ (fun s r hr => ?_)
  · by_cases e1 : kindQ ts = 1
    · rw [if_pos e1, if_pos e1]; exact inQ_loc h
    · rw [if_neg e1, if_neg e1]; exact dirQ_loc h
  · refine ⟨?_, hr⟩
    rw [line_loc hr]
    simp only [RE.app, List.map_append, List.map_cons, List.map_nil, List.append_assoc, id]
    rfl
def RE.fin {α : Type} : RE α → Prop
  | .ok _ ts => ts = []
  | .no _ ts => En ts
theorem lnQ_loc {N : Int} {R : List Lx.Tk} {out : List Stm} {L : List Stm} {ts : List Lx.Tk} (h : En ts) : lnQ (out ++ L.map (shS N)) (ts.map (shT N) ++ R) = (lnQ L ts).app (fun o => out ++ o.map (shS N)) N R ∧ (lnQ L ts).fin := by
  obtain ⟨h1, h2⟩ := lbQ_loc (N := N) (R := R) (out := out) ts.length L ts (Nat.le_refl _) h
  obtain ⟨h3, h4⟩ := stQ_loc (N := N) (R := R) (out := out) (L := (lbQ L ts).1) h2
  unfold lnQ
  rw [h1]
  simp only
  rw [h3]
  cases hz : stQ (lbQ L ts).1 (lbQ L ts).2 with
  | no c r =>
    rw [hz] at h4
    exact ⟨rfl, h4⟩
  | ok o r =>
    rw [hz] at h4
    obtain ⟨t, r', rfl⟩ := En.ne h4
    show ((if t.k = 5 then RE.ok (shT N t) (r'.map (shT N) ++ R) else RE.no 60 (shT N t :: (r'.map (shT N) ++ R))).bind fun _ q => RE.ok (out ++ o.map (shS N)) q) = ((if t.k = 5 then RE.ok t r' else RE.no 60 (t :: r')).bind fun _ q => RE.ok o q).app _ N R ∧ ((if t.k = 5 then RE.ok t r' else RE.no 60 (t :: r')).bind fun _ q => RE.ok o q).fin
    by_cases e : t.k = 5
    · rw [if_pos e, if_pos e]
      exact ⟨rfl, En.last h4 e⟩
    · rw [if_neg e, if_neg e]
      exact ⟨rfl, h4⟩
theorem sh0T (ts : List Lx.Tk) : ts.map (shT 0) = ts := by
  have : (shT 0) = id := by funext t; simp [shT]
  rw [this, List.map_id]
theorem sh0S (L : List Stm) : L.map (shS 0) = L := by
  have : (shS 0) = id := by funext t; simp [shS]
  rw [this, List.map_id]
theorem ln_out {R : List Lx.Tk} {out : List Stm} {ts : List Lx.Tk} (h : En ts) : (∃ o, lnQ [] ts = .ok o [] ∧ lnQ out (ts ++ R) = .ok (out ++ o) R) ∨ ∃ c r, lnQ [] ts = .no c r ∧ En r ∧ lnQ out (ts ++ R) = .no c (r ++ R) := by
  obtain ⟨h1, h2⟩ := lnQ_loc (N := 0) (R := R) (out := out) (L := []) h
  rw [List.map_nil, List.append_nil, sh0T] at h1
  cases hz : lnQ [] ts with
  | ok o r =>
    rw [hz] at h1 h2
    obtain rfl : r = [] := h2
    refine .inl ⟨o, rfl, ?_⟩
    rw [h1]
    simp only [RE.app, sh0S, List.map_nil, List.nil_append]
  | no c r =>
    rw [hz] at h1 h2
    refine .inr ⟨c, r, rfl, h2, ?_⟩
    rw [h1]
    simp only [RE.app, sh0T]
end Go.Proofs.YtkihaohdcgjioaaGreatDoor
namespace Go.Proofs.YtkihaohdcgjioaaGreatDoor
open Go.RowKit Go.ChangeShapes Go.WideShapes Go.ChangeAt
set_option linter.unusedVariables false
set_option linter.unusedSimpArgs false
theorem laid_at {P : Program} {W : World} {n : String} {D : DataW Unit} : ∀ {laid : List (String × DataW Unit)} {ps : List MemPlace}, DataW.LaidVars P W laid ps → (n, D) ∈ laid →
    ∃ g t cs fuel p, P.globalNamed n = some g ∧ (P.globals[g]?).map (·.type) = some t ∧ W.var? P n = some cs ∧ DataW.trod (fun _ => ()) P W 0 (fun _ => true) false fuel t cs.toList = some (D, p)
  | [], _, h, hm => by cases hm
  | (m, E) :: L, ps, h, hm => by
    obtain ⟨g, t, cs, f, p, q, hg, ht, hv, hd, hr, _⟩ := h
    rcases List.mem_cons.1 hm with e | hm'
    · cases e
      exact ⟨g, t, cs, f, p, hg, ht, hv, hd⟩
    · exact laid_at hr hm'
theorem arr_flat {H : Type} {enc : TypeId × Value → H} {P : Program} {W : World} {base : Nat} {sp : Nat → Bool} {held : Bool} {fuel : Nat} {t e : TypeId} {n c : Nat} {cs : List Value} {ds : List (DataW H)} {p : List MemPlace}
    (ht : P.underlying t = some (.array n e)) (hc : P.cellsOf e = c) (hcl : P.cellsOf t = n * c) (F : DataW H → List Value)
    (hF : ∀ m cs d p, DataW.trod enc P W base sp held m e cs = some (d, p) → cs = F d)
    (h : DataW.trod enc P W base sp held fuel t cs = some (.agg ds, p)) : cs = ds.flatMap F := by
  obtain ⟨xs, m, rfl, hx, hlen, hxl, hel⟩ := DataW.trod_array ht h
  simp only [Prod.mk.injEq, DataW.agg.injEq] at hx
  obtain ⟨hds, _⟩ := hx
  rw [hc] at hel
  rw [hcl] at hlen
  have key : ∀ (n : Nat) (cs : List Value) (xs : List (DataW H × List MemPlace)), cs.length = n * c → xs.length = n → (∀ i, i < n → DataW.trod enc P W base sp held m e ((cs.drop (i * c)).take c) = xs[i]?) → cs = (xs.map (·.1)).flatMap F := by
    intro n
    induction n with
    | zero =>
      intro cs xs h1 h2 _
      rw [Nat.zero_mul] at h1
      rw [List.length_eq_zero_iff.1 h1, List.length_eq_zero_iff.1 h2]
      rfl
    | succ n ih =>
      intro cs xs h1 h2 h3
      cases xs with
      | nil => simp at h2
      | cons x xs =>
        have e0 := h3 0 (by omega)
        simp only [Nat.zero_mul, List.drop_zero, List.getElem?_cons_zero] at e0
        have e1 := hF m _ x.1 x.2 e0
        have e2 := ih (cs.drop c) xs (by rw [List.length_drop, h1, Nat.succ_mul]; omega) (by simpa using h2) (fun i hi => by
          have := h3 (i + 1) (by omega)
          rw [List.getElem?_cons_succ] at this
          rw [List.drop_drop, show c + i * c = (i + 1) * c from by rw [Nat.succ_mul]; omega]
          exact this)
        simp only [List.map_cons, List.flatMap_cons]
        rw [← e1, ← e2, List.take_append_drop]
  rw [hds]
  exact key n cs xs hlen hxl hel
def fS {H : Type} : DataW H → List Value
  | .lit (.string l) => [.string ⟨l.toArray⟩]
  | _ => []
def fI {H : Type} : DataW H → List Value
  | .lit (.int k n) => [.int k n]
  | _ => []
theorem str_flat {H : Type} {enc : TypeId × Value → H} {P : Program} {W : World} {base : Nat} {sp : Nat → Bool} {held : Bool} {t : TypeId} (ht : P.underlying t = some .string) (m : Nat) (cs : List Value) (d : DataW H) (p : List MemPlace) (h : DataW.trod enc P W base sp held m t cs = some (d, p)) : cs = fS d := by
  obtain ⟨s, hs, hx, _⟩ := DataW.trod_string ht h
  simp only [Prod.mk.injEq] at hx
  rw [hs, hx.1]
  simp [fS]
theorem int_flat {H : Type} {enc : TypeId × Value → H} {P : Program} {W : World} {base : Nat} {sp : Nat → Bool} {held : Bool} {t : TypeId} {k : IntKind} (ht : P.underlying t = some (.int k)) (m : Nat) (cs : List Value) (d : DataW H) (p : List MemPlace) (h : DataW.trod enc P W base sp held m t cs = some (d, p)) : cs = fI d := by
  obtain ⟨n, hs, hx, _⟩ := DataW.trod_int ht h
  simp only [Prod.mk.injEq] at hx
  rw [hs, hx.1]
  rfl
def fA {H : Type} (F : DataW H → List Value) : DataW H → List Value
  | .agg ds => ds.flatMap F
  | _ => []
theorem agg_flat {H : Type} {enc : TypeId × Value → H} {P : Program} {W : World} {base : Nat} {sp : Nat → Bool} {held : Bool} {t e : TypeId} {n c : Nat}
    (ht : P.underlying t = some (.array n e)) (hc : P.cellsOf e = c) (hcl : P.cellsOf t = n * c) (F : DataW H → List Value)
    (hF : ∀ m cs d p, DataW.trod enc P W base sp held m e cs = some (d, p) → cs = F d) (m : Nat) (cs : List Value) (d : DataW H) (p : List MemPlace) (h : DataW.trod enc P W base sp held m t cs = some (d, p)) : cs = fA F d := by
  obtain ⟨xs, q, rfl, hx, _⟩ := DataW.trod_array ht h
  simp only [Prod.mk.injEq] at hx
  obtain ⟨rfl, rfl⟩ := hx
  exact arr_flat ht hc hcl F hF h
def f3 {H : Type} : DataW H → List Value
  | .agg [a, b, c] => fI a ++ fI b ++ fS c
  | _ => []
def f2 {H : Type} : DataW H → List Value
  | .agg [a, b] => fI a ++ fA fS b
  | _ => []
theorem row3_flat {H : Type} {enc : TypeId × Value → H} {P : Program} {W : World} {base : Nat} {sp : Nat → Bool} {held : Bool} {t a b c : TypeId} {ka kb : IntKind} {n0 n1 n2 : Field}
    (ht : P.underlying t = some (.struct #[n0, n1, n2])) (hn0 : n0.type = a ∧ n0.offset = 0) (hn1 : n1.type = b ∧ n1.offset = 1) (hn2 : n2.type = c ∧ n2.offset = 2) (ha : P.underlying a = some (.int ka)) (hb : P.underlying b = some (.int kb)) (hc : P.underlying c = some .string)
    (za : P.cellsOf a = 1) (zb : P.cellsOf b = 1) (zc : P.cellsOf c = 1) (zt : P.cellsOf t = 3) (m : Nat) (cs : List Value) (d : DataW H) (p : List MemPlace) (h : DataW.trod enc P W base sp held m t cs = some (d, p)) : cs = f3 d := by
  obtain ⟨xs, q, rfl, hx, hlen, hxl, hel⟩ := DataW.trod_struct ht h
  rw [zt] at hlen
  have e0 := hel 0 n0 rfl
  have e1 := hel 1 n1 rfl
  have e2 := hel 2 n2 rfl
  rw [hn0.1, hn0.2, za] at e0
  rw [hn1.1, hn1.2, zb] at e1
  rw [hn2.1, hn2.2, zc] at e2
  match cs, hlen with
  | [u, v, x], _ =>
    match xs, (show xs.length = 3 from hxl) with
    | [y0, y1, y2], _ =>
      simp only [List.drop_zero, List.drop_succ_cons, List.take_succ_cons, List.take_zero, List.getElem?_cons_zero, List.getElem?_cons_succ] at e0 e1 e2
      have r0 := int_flat ha q _ y0.1 y0.2 e0
      have r1 := int_flat hb q _ y1.1 y1.2 e1
      have r2 := str_flat hc q _ y2.1 y2.2 e2
      simp only [Prod.mk.injEq] at hx
      rw [hx.1]
      show [u, v, x] = fI y0.1 ++ fI y1.1 ++ fS y2.1
      rw [← r0, ← r1, ← r2]
      rfl
theorem row2_flat {H : Type} {enc : TypeId × Value → H} {P : Program} {W : World} {base : Nat} {sp : Nat → Bool} {held : Bool} {t a b c : TypeId} {ka : IntKind} {n0 n1 : Field}
    (ht : P.underlying t = some (.struct #[n0, n1])) (hn0 : n0.type = a ∧ n0.offset = 0) (hn1 : n1.type = b ∧ n1.offset = 1) (ha : P.underlying a = some (.int ka)) (hb : P.underlying b = some (.array 4 c)) (hc : P.underlying c = some .string)
    (za : P.cellsOf a = 1) (zb : P.cellsOf b = 4) (zc : P.cellsOf c = 1) (zt : P.cellsOf t = 5) (m : Nat) (cs : List Value) (d : DataW H) (p : List MemPlace) (h : DataW.trod enc P W base sp held m t cs = some (d, p)) : cs = f2 d := by
  obtain ⟨xs, q, rfl, hx, hlen, hxl, hel⟩ := DataW.trod_struct ht h
  rw [zt] at hlen
  have e0 := hel 0 n0 rfl
  have e1 := hel 1 n1 rfl
  rw [hn0.1, hn0.2, za] at e0
  rw [hn1.1, hn1.2, zb] at e1
  match cs, hlen with
  | [u, v, x, y, z], _ =>
    match xs, (show xs.length = 2 from hxl) with
    | [y0, y1], _ =>
      simp only [List.drop_zero, List.drop_succ_cons, List.take_succ_cons, List.take_zero, List.getElem?_cons_zero, List.getElem?_cons_succ] at e0 e1
      have r0 := int_flat ha q _ y0.1 y0.2 e0
      have r1 := agg_flat hb zc (by rw [zb]) fS (str_flat hc) q _ y1.1 y1.2 e1
      simp only [Prod.mk.injEq] at hx
      rw [hx.1]
      show [u, v, x, y, z] = fI y0.1 ++ fA fS y1.1
      rw [← r0, ← r1]
      rfl
theorem range_of {W : World} {P : Program} {n : String} {g : Nat} {cs : Array Value} {vs : List Value} (hg : P.globalNamed n = some g) (hv : W.var? P n = some cs) (h : cs.toList = vs) : W.rangeAt g 0 vs := fun j v hj => by
  have := World.var?_cell hg hv j
  rw [Nat.zero_add]
  rw [this, ← hj, ← h]
  simp
end Go.Proofs.YtkihaohdcgjioaaGreatDoor
