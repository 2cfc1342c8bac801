import Derived.Test.YtkihaohdcgjioaaGreatDoorGr07
import Derived.Test.YtkihaohdcgjioaaGreatDoorGr15
import Derived.Lib.ItoaNum
namespace Go.Proofs.YtkihaohdcgjioaaGreatDoor
open Go.RowKit
set_option linter.unusedVariables false
set_option linter.unusedSimpArgs false
structure Stm where
  k : Int
  nm : List UInt8
  ws : List (List UInt8)
  ns : List Int
  o : Int
  d : Int
  s : Int
  f : Int
  i : Int
  tg : List UInt8
  l : Int
inductive RE (α : Type) where
  | ok (a : α) (ts : List Lx.Tk)
  | no (c : Int) (ts : List Lx.Tk)
def RE.bind {α β : Type} (x : RE α) (f : α → List Lx.Tk → RE β) : RE β :=
  match x with
  | .ok a ts => f a ts
  | .no c ts => .no c ts
def tkQ (k : Int) : List Lx.Tk → RE Lx.Tk
  | [] => .no 60 []
  | t :: r => if t.k = k then .ok t r else .no 60 (t :: r)
def wdQ (ts : List Lx.Tk) : RE (List UInt8) := (tkQ 1 ts).bind fun t r => .ok t.t r
def arrB : List UInt8 := [97, 114, 114, 97, 121]
def hashB : List UInt8 := [104, 97, 115, 104]
def tknQ (x : List UInt8) : Bool := x == arrB || x == hashB
def tdQ (ts : List Lx.Tk) : RE (List UInt8) := (wdQ ts).bind fun x r => if tknQ x then .ok x r else .no 60 r
def nuQ (ts : List Lx.Tk) : RE Int := (tkQ 3 ts).bind fun t r => if t.n ≤ 2147483647 then .ok t.n r else .no 60 r
def nmS (k : Int) (x : List UInt8) : Stm := ⟨k, x, [], [], 0, 0, 0, 0, 0, [], 0⟩
def nmQ (k : Int) (ts : List Lx.Tk) : RE Stm := (wdQ ts).bind fun x r => .ok (nmS k x) r
def nuR : Nat → List Int → List Lx.Tk → RE (List Int)
  | 0, l, ts => .ok l ts
  | n + 1, l, ts => (nuQ ts).bind fun a r => nuR n (l ++ [a]) r
def tbS (x y : List UInt8) (l : List Int) : Stm := ⟨5, x, [y], l, 0, 0, 0, 0, 0, [], 0⟩
def tbQ (ts : List Lx.Tk) : RE Stm := (wdQ ts).bind fun x r => (tdQ r).bind fun y r => (nuR 3 [] r).bind fun l r => .ok (tbS x y l) r
def ttQ (t : Lx.Tk) : List UInt8 := if t.k = 3 then Lib.decDigits t.n.toNat else t.t
def ixQ : List UInt8 → List Lx.Tk → List UInt8 × List Lx.Tk
  | acc, [] => (acc, [])
  | acc, t :: r => if t.k = 5 then (acc, t :: r) else ixQ ((if acc.isEmpty then acc else acc ++ [32]) ++ ttQ t) r
def funcB : List UInt8 := [46, 102, 117, 110, 99]
def globB : List UInt8 := [46, 103, 108, 111, 98, 97, 108]
def extB : List UInt8 := [46, 101, 120, 116, 101, 114, 110]
def mapB : List UInt8 := [46, 109, 97, 112]
def restQ (x : List UInt8) (ts : List Lx.Tk) : RE Stm :=
  if x = funcB then nmQ 2 ts else if x = globB then nmQ 3 ts else if x = extB then nmQ 4 ts else if x = mapB then tbQ ts else .no 60 ts
def kindQ (ts : List Lx.Tk) : Int := match ts with | [] => 0 | t :: _ => t.k
def lineQ (ts : List Lx.Tk) : Int := match ts with | [] => 0 | t :: _ => t.l
def dirQ (ts : List Lx.Tk) : RE Stm := (tkQ 2 ts).bind fun t r => (restQ t.t r).bind fun s r => if kindQ r = 5 then .ok s r else .no 61 r
def colQ (t : Lx.Tk) : Bool := t.k == 4 && t.t == [58]
def lbQ : List Stm → List Lx.Tk → List Stm × List Lx.Tk
  | out, t :: u :: r => if t.k = 1 ∧ colQ u = true then lbQ (out ++ [{ nmS 1 t.t with l := u.l }]) r else (out, t :: u :: r)
  | out, ts => (out, ts)
def Lw : List Lx.Tk → Prop
  | [] => False
  | t :: r => if t.k = 5 then (match r with | [] => False | u :: r' => if u.k = 0 then r' = [] else Lw r) else ¬ t.k = 0 ∧ Lw r
def Tw (ts : List Lx.Tk) : Prop := match ts with | [] => False | u :: r => if u.k = 0 then r = [] else Lw (u :: r)
theorem Lw.next {t : Lx.Tk} {r : List Lx.Tk} (h : Lw (t :: r)) (hk : ¬ t.k = 5) : Lw r := by
  unfold Lw at h
  rw [if_neg hk] at h
  exact h.2
theorem Lw.pass {t : Lx.Tk} {r : List Lx.Tk} (h : Lw (t :: r)) (hk : t.k = 5) : Tw r := by
  unfold Lw at h
  rw [if_pos hk] at h
  unfold Tw
  cases r with
  | nil => exact h
  | cons u r' => exact h
theorem Lw.ne {ts : List Lx.Tk} (h : Lw ts) : ∃ t r, ts = t :: r := by
  cases ts with
  | nil => exact h.elim
  | cons t r => exact ⟨t, r, rfl⟩
theorem Tw.ne {ts : List Lx.Tk} (h : Tw ts) : ∃ t r, ts = t :: r := by
  cases ts with
  | nil => exact h.elim
  | cons t r => exact ⟨t, r, rfl⟩
theorem Tw.lw {ts : List Lx.Tk} (h : Tw ts) (hk : ¬ kindQ ts = 0) : Lw ts := by
  cases ts with
  | nil => exact h.elim
  | cons t r =>
    have h' : if t.k = 0 then r = [] else Lw (t :: r) := h
    rw [if_neg (show ¬ t.k = 0 from hk)] at h'
    exact h'
def RE.lw {α : Type} : RE α → Prop
  | .ok _ ts => Lw ts
  | .no _ ts => Lw ts
theorem RE.lw_bind {α β : Type} {x : RE α} {f : α → List Lx.Tk → RE β} (h : x.lw) (hf : ∀ a r, Lw r → (f a r).lw) : (x.bind f).lw := by
  cases x with
  | ok a r => exact hf a r h
  | no c r => exact h
theorem tkQ_lw {k : Int} {ts : List Lx.Tk} (h : Lw ts) (hk : ¬ k = 5) : (tkQ k ts).lw := by
  obtain ⟨t, r, rfl⟩ := h.ne
  show (if t.k = k then RE.ok t r else RE.no 60 (t :: r)).lw
  by_cases e : t.k = k
  · rw [if_pos e]; exact h.next (by rw [e]; exact hk)
  · rw [if_neg e]; exact h
theorem wdQ_lw {ts : List Lx.Tk} (h : Lw ts) : (wdQ ts).lw := RE.lw_bind (tkQ_lw h (by decide)) (fun _ _ h => h)
theorem tdQ_lw {ts : List Lx.Tk} (h : Lw ts) : (tdQ ts).lw := RE.lw_bind (wdQ_lw h) (fun x r h => by
  cases hx : tknQ x
  · rw [if_neg (by simp)]; exact h
  · rw [if_pos rfl]; exact h)
theorem nuQ_lw {ts : List Lx.Tk} (h : Lw ts) : (nuQ ts).lw := RE.lw_bind (tkQ_lw h (by decide)) (fun t r h => by
  by_cases hx : t.n ≤ 2147483647
  · rw [if_pos hx]; exact h
  · rw [if_neg hx]; exact h)
theorem nmQ_lw {k : Int} {ts : List Lx.Tk} (h : Lw ts) : (nmQ k ts).lw := RE.lw_bind (wdQ_lw h) (fun _ _ h => h)
theorem nuR_lw : ∀ (n : Nat) (l : List Int) (ts : List Lx.Tk), Lw ts → (nuR n l ts).lw
  | 0, l, ts, h => h
  | n + 1, l, ts, h => RE.lw_bind (nuQ_lw h) (fun a r h => nuR_lw n _ r h)
theorem tbQ_lw {ts : List Lx.Tk} (h : Lw ts) : (tbQ ts).lw := RE.lw_bind (wdQ_lw h) (fun _ _ h => RE.lw_bind (tdQ_lw h) (fun _ _ h => RE.lw_bind (nuR_lw 3 [] _ h) (fun _ _ h => h)))
theorem ixQ_lw : ∀ (acc : List UInt8) (ts : List Lx.Tk), Lw ts → Lw (ixQ acc ts).2 ∧ kindQ (ixQ acc ts).2 = 5
  | acc, [], h => h.elim
  | acc, t :: r, h => by
    unfold ixQ
    by_cases e : t.k = 5
    · rw [if_pos e]; exact ⟨h, e⟩
    · rw [if_neg e]; exact ixQ_lw _ r (h.next e)
theorem restQ_lw {x : List UInt8} {ts : List Lx.Tk} (h : Lw ts) : (restQ x ts).lw := by
  unfold restQ
  by_cases h1 : x = funcB
  · rw [if_pos h1]; exact nmQ_lw h
  rw [if_neg h1]
  by_cases h2 : x = globB
  · rw [if_pos h2]; exact nmQ_lw h
  rw [if_neg h2]
  by_cases h3 : x = extB
  · rw [if_pos h3]; exact nmQ_lw h
  rw [if_neg h3]
  by_cases h4 : x = mapB
  · rw [if_pos h4]; exact tbQ_lw h
  rw [if_neg h4]
  exact h
theorem dirQ_lw {ts : List Lx.Tk} (h : Lw ts) : (dirQ ts).lw := RE.lw_bind (tkQ_lw h (by decide)) (fun t r h => RE.lw_bind (restQ_lw h) (fun s r h => by
  by_cases e : kindQ r = 5
  · rw [if_pos e]; exact h
  · rw [if_neg e]; exact h))
theorem col_kind {u : Lx.Tk} (h : colQ u = true) : u.k = 4 := by
  unfold colQ at h
  simp at h
  exact h.1
theorem lbQ_lw : ∀ (n : Nat) (out : List Stm) (ts : List Lx.Tk), ts.length ≤ n → Lw ts → Lw (lbQ out ts).2
  | _, out, [], _, h => h.elim
  | _, out, [t], _, h => by unfold lbQ; exact h
  | 0, out, t :: u :: r, hn, h => by simp at hn
  | n + 1, out, t :: u :: r, hn, h => by
    unfold lbQ
    by_cases e : t.k = 1 ∧ colQ u = true
    · rw [if_pos e]
      have h1 := h.next (by rw [e.1]; decide)
      have h2 := h1.next (by rw [col_kind e.2]; decide)
      exact lbQ_lw n _ r (by simp at hn; omega) h2
    · rw [if_neg e]; exact h
def RE.rest {α : Type} : RE α → List Lx.Tk
  | .ok _ ts => ts
  | .no _ ts => ts
def Clo (P : List Lx.Tk → Prop) : Prop := ∀ t r, P (t :: r) → P r
theorem rest_bind {α β : Type} {P : List Lx.Tk → Prop} {x : RE α} {f : α → List Lx.Tk → RE β} (h : P x.rest) (hf : ∀ a r, P r → P (f a r).rest) : P (x.bind f).rest := by
  cases x with
  | ok a r => exact hf a r h
  | no c r => exact h
theorem tkQ_cl {P : List Lx.Tk → Prop} (hP : Clo P) {k : Int} {ts : List Lx.Tk} (h : P ts) : P (tkQ k ts).rest := by
  cases ts with
  | nil => exact h
  | cons t r =>
    show P (if t.k = k then RE.ok t r else RE.no 60 (t :: r)).rest
    by_cases e : t.k = k
    · rw [if_pos e]; exact hP t r h
    · rw [if_neg e]; exact h
theorem wdQ_cl {P : List Lx.Tk → Prop} (hP : Clo P) {ts : List Lx.Tk} (h : P ts) : P (wdQ ts).rest := rest_bind (tkQ_cl hP h) (fun _ _ h => h)
theorem tdQ_cl {P : List Lx.Tk → Prop} (hP : Clo P) {ts : List Lx.Tk} (h : P ts) : P (tdQ ts).rest := rest_bind (wdQ_cl hP h) (fun x r h => by
  cases hx : tknQ x
  · rw [if_neg (by simp)]; exact h
  · rw [if_pos rfl]; exact h)
theorem nuQ_cl {P : List Lx.Tk → Prop} (hP : Clo P) {ts : List Lx.Tk} (h : P ts) : P (nuQ ts).rest := rest_bind (tkQ_cl hP h) (fun t r h => by
  by_cases hx : t.n ≤ 2147483647
  · rw [if_pos hx]; exact h
  · rw [if_neg hx]; exact h)
theorem nuR_cl {P : List Lx.Tk → Prop} (hP : Clo P) : ∀ (n : Nat) (l : List Int) (ts : List Lx.Tk), P ts → P (nuR n l ts).rest
  | 0, l, ts, h => h
  | n + 1, l, ts, h => rest_bind (nuQ_cl hP h) (fun a r h => nuR_cl hP n _ r h)
theorem tbQ_cl {P : List Lx.Tk → Prop} (hP : Clo P) {ts : List Lx.Tk} (h : P ts) : P (tbQ ts).rest := rest_bind (wdQ_cl hP h) (fun _ _ h => rest_bind (tdQ_cl hP h) (fun _ _ h => rest_bind (nuR_cl hP 3 [] _ h) (fun _ _ h => h)))
theorem ixQ_cl {P : List Lx.Tk → Prop} (hP : Clo P) : ∀ (acc : List UInt8) (ts : List Lx.Tk), P ts → P (ixQ acc ts).2
  | acc, [], h => h
  | acc, t :: r, h => by
    unfold ixQ
    by_cases e : t.k = 5
    · rw [if_pos e]; exact h
    · rw [if_neg e]; exact ixQ_cl hP _ r (hP t r h)
theorem restQ_cl {P : List Lx.Tk → Prop} (hP : Clo P) {x : List UInt8} {ts : List Lx.Tk} (h : P ts) : P (restQ x ts).rest := by
  unfold restQ
  by_cases h1 : x = funcB
  · rw [if_pos h1]; exact rest_bind (wdQ_cl hP h) (fun _ _ h => h)
  rw [if_neg h1]
  by_cases h2 : x = globB
  · rw [if_pos h2]; exact rest_bind (wdQ_cl hP h) (fun _ _ h => h)
  rw [if_neg h2]
  by_cases h3 : x = extB
  · rw [if_pos h3]; exact rest_bind (wdQ_cl hP h) (fun _ _ h => h)
  rw [if_neg h3]
  by_cases h4 : x = mapB
  · rw [if_pos h4]; exact tbQ_cl hP h
  rw [if_neg h4]
  exact h
theorem dirQ_cl {P : List Lx.Tk → Prop} (hP : Clo P) {ts : List Lx.Tk} (h : P ts) : P (dirQ ts).rest := rest_bind (tkQ_cl hP h) (fun t r h => rest_bind (restQ_cl hP h) (fun s r h => by
  by_cases e : kindQ r = 5
  · rw [if_pos e]; exact h
  · rw [if_neg e]; exact h))
theorem lbQ_cl {P : List Lx.Tk → Prop} (hP : Clo P) : ∀ (n : Nat) (out : List Stm) (ts : List Lx.Tk), ts.length ≤ n → P ts → P (lbQ out ts).2
  | _, out, [], _, h => h
  | _, out, [t], _, h => by unfold lbQ; exact h
  | 0, out, t :: u :: r, hn, h => by simp at hn
  | n + 1, out, t :: u :: r, hn, h => by
    unfold lbQ
    by_cases e : t.k = 1 ∧ colQ u = true
    · rw [if_pos e]
      exact lbQ_cl hP n _ r (by simp at hn; omega) (hP _ _ (hP _ _ h))
    · rw [if_neg e]; exact h
def TkOk (ts : List Lx.Tk) : Prop := ∀ x ∈ ts, 0 ≤ x.n ∧ x.n < 18446744073709551616 ∧ x.t.length ≤ 70
theorem tkOk_clo : Clo TkOk := fun t r h x hx => h x (List.mem_cons_of_mem _ hx)
end Go.Proofs.YtkihaohdcgjioaaGreatDoor
namespace Go.Proofs.YtkihaohdcgjioaaGreatDoor
open Go.RowKit Go.Shelf
set_option linter.unusedVariables false
set_option linter.unusedSimpArgs false
attribute [local go_sem] Oper.semAt_some
theorem KC.put (W : World) (l : Nat) (o o' : Obj) (h : W.heap[l]? = some o) (hc : o.isCells = false) : KC W (W.putObj l o') := by
  refine ⟨by simp [World.putObj], fun b cs t fr hb => ?_⟩
  by_cases e : b = l
  · subst e; rw [h] at hb; cases hb; simp [Obj.isCells] at hc
  · simp only [World.putObj, Array.set!_eq_setIfInBounds]
    rw [Array.getElem?_setIfInBounds_ne (fun h => e h.symm)]; exact hb
theorem blk_kept {W W' : World} {row : Option Nat} {b : Nat} {cs : Array Value} {t : TypeId} {fr : Nat × Nat} (h : W.heap[b]? = some (.cells cs t fr)) (hg : W.grownBy W' row) (hr : ∀ r, row = some r → ∃ o : Obj, W.heap[r]? = some o ∧ o.isCells = false) : W'.heap[b]? = some (.cells cs t fr) :=
  (hg.block b (Array.getElem?_eq_some_iff.1 h).1 (fun e => by obtain ⟨o, ho, hc⟩ := hr b e.symm; rw [h] at ho; cases ho; simp [Obj.isCells] at hc)).trans h
theorem blk_alloc {W : World} {b : Nat} {cs : Array Value} {t : TypeId} {fr : Nat × Nat} (h : W.heap[b]? = some (.cells cs t fr)) (o : Obj) : (W.alloc o).heap[b]? = some (.cells cs t fr) := (Below.heap_alloc W o b (Array.getElem?_eq_some_iff.1 h).1).trans h
theorem blk_at {w : World} {b : Nat} {cs : Array Value} {t : TypeId} (h : w.heap[b]? = some (.cells cs t (0, 0))) (j : Nat) : w.cell? ⟨b, j, none⟩ = cs[j]? ∧ w.frozen? ⟨b, j, none⟩ = false := by
  constructor
  · simp [World.cell?, h]
  · simp [World.frozen?, h]
def mnC (m : Mn) : Array Value := #[.int .u8 m.1, .int .u8 m.2.1, .int .u8 m.2.2.1, .int .u8 m.2.2.2]
def MBox (w : World) (W : World) (t : List UInt8) (m : Mn) (q : Bool) : Prop := (W.heap[w.heap.size]? = some (.cells #[.string ⟨t.toArray⟩] 9 (0, 0)) ∧ W.heap[w.heap.size + 1]? = some (.cells (mnC m) 216 (0, 0)) ∧ W.heap[w.heap.size + 2]? = some (.cells #[.bool q] 4 (0, 0))) ∧ Below w.heap.size w W
theorem MBox.set5 {w W : World} {t : List UInt8} {m : Mn} {q : Bool} (h : MBox w W t m q) (o s f i : Int) (q' : Bool) : MBox w (((((W.setCell ⟨w.heap.size + 1, 0, none⟩ (.int .u8 o)).setCell ⟨w.heap.size + 1, 1, none⟩ (.int .u8 s)).setCell ⟨w.heap.size + 1, 2, none⟩ (.int .u8 f)).setCell ⟨w.heap.size + 1, 3, none⟩ (.int .u8 i)).setCell ⟨w.heap.size + 1 + 1, 0, none⟩ (.bool q')) t (o, s, f, i) q' := by
  obtain ⟨⟨h0, h1, h2⟩, hB⟩ := h
  refine ⟨⟨?_, ?_, ?_⟩, ?_⟩
  · simp [World.setCell, Array.getElem?_modify, h0]; try omega
  · simp [World.setCell, Array.getElem?_modify, h1, mnC]
  · simp [World.setCell, Array.getElem?_modify, h2]
  · exact ((((hB.setCell (p := ⟨w.heap.size + 1, 0, none⟩) (by simp) _).setCell (p := ⟨w.heap.size + 1, 1, none⟩) (by simp) _).setCell (p := ⟨w.heap.size + 1, 2, none⟩) (by simp) _).setCell (p := ⟨w.heap.size + 1, 3, none⟩) (by simp) _).setCell (p := ⟨w.heap.size + 1 + 1, 0, none⟩) (by simp; omega) _
theorem keeps5 (W : World) (a b c d e : Addr) (u v x y z : Value) : KeepsOthers W (((((W.setCell a u).setCell b v).setCell c x).setCell d y).setCell e z) :=
  ((((KeepsOthers.setCell W a u).trans (KeepsOthers.setCell _ b v)).trans (KeepsOthers.setCell _ c x)).trans (KeepsOthers.setCell _ d y)).trans (KeepsOthers.setCell _ e z)
def MI (w : World) (t : List UInt8) (pre : List (List UInt8 × Mn)) (W : World) : Prop := (∀ x ∈ pre, x.1 ≠ t) ∧ MBox w W t (0, 0, 0, 0) false
def MX (w : World) (t : List UInt8) (c : Code) (pre : List (List UInt8 × Mn)) (W : World) : Prop := ∃ x, (c = .ret ∧ x ∈ pre ∧ x.1 = t) ∧ MBox w W t x.2 true
theorem MBox.own {β : Type} (w : World) (t : List UInt8) (m : Mn) (q : Bool) (B : Nat) (hB : w.heap.size ≤ B) : OwnFrom B (fun (_ : β) W => MBox w W t m q) := fun s X Y row hs hg hr =>
  ⟨⟨blk_kept hs.1.1 hg (fun r e => (hr r e).2), blk_kept hs.1.2.1 hg (fun r e => (hr r e).2), blk_kept hs.1.2.2 hg (fun r e => (hr r e).2)⟩, ownFrom_below (β := β) (Nat.le_refl _) hB s X Y row hs.2 hg hr⟩
theorem MBox.put {w W : World} {t : List UInt8} {m : Mn} {q : Bool} (h : MBox w W t m q) {D : Nat} (hD : w.heap.size ≤ D) (hK : W.heap[D]? = some (.deferred (some []))) : MBox w (W.putObj D (.deferred none)) t m q :=
  MBox.own (β := Unit) w t m q w.heap.size (Nat.le_refl _) () W _ (some D) h (grownBy_putObj' _ D _) (fun r e => by cases e; exact ⟨hD, _, hK, rfl⟩)
theorem MBox.res {w W : World} {t : List UInt8} {m : Mn} {q : Bool} (h : MBox w W t m q) (tmps : Array Value) (h2 : tmps[2]?.getD undef = .pointer (some ⟨w.heap.size + 1, 0, none⟩)) (h3 : tmps[3]?.getD undef = .pointer (some ⟨w.heap.size + 1 + 1, 0, none⟩)) :
    (results Tryz.f176 tmps).run Tryz.prog W = .ok (.tuple #[mnV m, .bool q]) W := by
  have c5 : W.cell? ⟨w.heap.size + 1 + 1, 0, none⟩ = some (.bool q) := (blk_at h.1.2.2 0).1
  have k0 : W.cell? ⟨w.heap.size + 1, 0, none⟩ = some (.int .u8 m.1) := (blk_at h.1.2.1 0).1
  have k1 : W.cell? ⟨w.heap.size + 1, 1, none⟩ = some (.int .u8 m.2.1) := (blk_at h.1.2.1 1).1
  have k2 : W.cell? ⟨w.heap.size + 1, 2, none⟩ = some (.int .u8 m.2.2.1) := (blk_at h.1.2.1 2).1
  have k3 : W.cell? ⟨w.heap.size + 1, 3, none⟩ = some (.int .u8 m.2.2.2) := (blk_at h.1.2.1 3).1
  simp [results, Tryz.f176, asAddr, h2, h3, go_sem, k0, k1, k2, k3, c5, Sem.run_bind, Result.andThen, mnV]
set_option maxRecDepth 40000 in
set_option maxHeartbeats 4000000 in
theorem meaning_in (F : Fence) (hd : F.depth = none) (hro : F.round = none) (h66 : F.fn 221) (h105 : F.fn 240) (hm : F.fn 176) (n N : Nat) (hn : 3 ≤ n) (w : World) (t : List UInt8)
    (hseq : ∀ w0 : World, Below w.heap.size w w0 → SeqStopsK F (n - 1) Tryz.prog 221 #[] encM KC (fun ys => ys = live mnAll) (fun pre => pre <+: live mnAll) N w0) :
    CallsIn F n Tryz.prog 176 #[.string ⟨t.toArray⟩] w fun e W' => ((∃ x, x ∈ live mnAll ∧ x.1 = t ∧ e = .returned (.tuple #[mnV x.2, .bool true])) ∨ ((∀ x ∈ live mnAll, x.1 ≠ t) ∧ e = .returned (.tuple #[mnV (0, 0, 0, 0), .bool false]))) ∧ Below w.heap.size w W' := by
  have h1 : 1 ≤ n := by omega
  refine callsIn_of_wp_marks Tryz.func176 rfl hm ?_ hro
  simp only [Tryz.ntmps176, List.size_toArray, List.length_cons, List.length_nil, Nat.reduceAdd, Nat.reduceSub, Array.replicate_succ, Array.replicate_zero, List.push_toArray, List.append_toArray, List.nil_append, List.cons_append]
  gi_wp2
  obtain ⟨W0, hW0⟩ : ∃ W0, ((w.alloc (.cells #[.string ⟨t.toArray⟩] 9)).alloc (.cells #[.int .u8 0, .int .u8 0, .int .u8 0, .int .u8 0] 216)).alloc (.cells #[.bool false] 4) = W0 := ⟨_, rfl⟩
  have hB0 : Below w.heap.size w W0 := by rw [← hW0]; exact (((Below.refl _ w).alloc (Nat.le_refl _) _).alloc (by simp) _).alloc (by simp; omega) _
  have hsz : W0.heap.size = w.heap.size + 3 := by rw [← hW0]; simp
  have hM0 : MBox w W0 t (0, 0, 0, 0) false := by
    refine ⟨⟨?_, ?_, ?_⟩, hB0⟩
    · rw [← hW0]; exact blk_alloc (blk_alloc (heap_alloc_new w _) _) _
    · rw [← hW0]; have := heap_alloc_new (w.alloc (.cells #[.string ⟨t.toArray⟩] 9)) (.cells #[.int .u8 0, .int .u8 0, .int .u8 0, .int .u8 0] 216); rw [World.size_alloc] at this; exact blk_alloc this _
    · rw [← hW0]; have := heap_alloc_new ((w.alloc (.cells #[.string ⟨t.toArray⟩] 9)).alloc (.cells #[.int .u8 0, .int .u8 0, .int .u8 0, .int .u8 0] 216)) (.cells #[.bool false] 4); rw [World.size_alloc, World.size_alloc] at this; exact this
  rw [hW0]
  clear hW0
  refine wpIn_rangeFunc_ownH hro h1 (gf := 221) (lb := #[]) rfl h66 (enters_of Tryz.func221 (by kernel_rfl) rfl)
    (hseq W0 hB0) KC.trans (fun W l o o' _ h hc _ => KC.put W l o o' h hc) (Below.refl _ _) (fun _ => rfl)
    (MI w t) (MX w t)
    (OwnFrom.and (ownFrom_pure _ _) (MBox.own w t _ _ _ (by omega)))
    (fun c s X Y row hs hg hr => by obtain ⟨x, hx, hm⟩ := hs; exact ⟨x, hx, MBox.own w t x.2 true _ (by omega) s X Y row hm hg hr⟩)
    ⟨by simp, hM0⟩
    (fun x a' W => ∃ Bx, w.heap.size + 2 < Bx ∧ W.heap[Bx]? = some (.cells (mnC x.2) 216 (0, 0)) ∧ a' = { tmps := #[.string ⟨t.toArray⟩, .pointer (some ⟨w.heap.size, 0, none⟩), .pointer (some ⟨w.heap.size + 1, 0, none⟩), .pointer (some ⟨w.heap.size + 1 + 1, 0, none⟩), .string ⟨x.1.toArray⟩, .pointer (some ⟨Bx, 0, none⟩), .string ⟨x.1.toArray⟩, mnV x.2, undef, undef, undef, undef, undef], defers := [] })
    (fun x a' _ X Y row hs hg hr => by obtain ⟨Bx, e1, e2, e3⟩ := hs; exact ⟨Bx, e1, blk_kept e2 hg (fun r e => (hr r e).2), e3⟩)
    ?assign ?body ?done ?stop
  case assign =>
    rintro l pre ⟨k, o, s, f, i⟩ W K ⟨hp, hM⟩ hK
    simp only [encM, mnV]
    gi_wp2
    exact hK _ _ ((KeepsOthers.alloc _ _).from _) (KC.alloc _ _) ⟨hp, ⟨blk_alloc hM.1.1 _, blk_alloc hM.1.2.1 _, blk_alloc hM.1.2.2 _⟩, hM.2.alloc hM.2.size _⟩ ⟨W.heap.size, (Array.getElem?_eq_some_iff.1 hM.1.2.2).1, heap_alloc_new W _, rfl⟩
  case body =>
    rintro l pre ⟨k, o, s, f, i⟩ a' W hl ⟨r, hr⟩ ⟨hp, hM⟩ ⟨Bx, hBx, bX, rfl⟩ hlt
    have cw : W.cell? ⟨w.heap.size, 0, none⟩ = some (.string ⟨t.toArray⟩) := (blk_at hM.1.1 0).1
    have x0 : W.cell? ⟨Bx, 0, none⟩ = some (.int .u8 o) := (blk_at bX 0).1
    have x1 : W.cell? ⟨Bx, 1, none⟩ = some (.int .u8 s) := (blk_at bX 1).1
    have x2 : W.cell? ⟨Bx, 2, none⟩ = some (.int .u8 f) := (blk_at bX 2).1
    have x3 : W.cell? ⟨Bx, 3, none⟩ = some (.int .u8 i) := (blk_at bX 3).1
    have c0 : W.cell? ⟨w.heap.size + 1, 0, none⟩ = some (.int .u8 0) := (blk_at hM.1.2.1 0).1
    have c1 : W.cell? ⟨w.heap.size + 1, 1, none⟩ = some (.int .u8 0) := (blk_at hM.1.2.1 1).1
    have c2 : W.cell? ⟨w.heap.size + 1, 2, none⟩ = some (.int .u8 0) := (blk_at hM.1.2.1 2).1
    have c3 : W.cell? ⟨w.heap.size + 1, 3, none⟩ = some (.int .u8 0) := (blk_at hM.1.2.1 3).1
    have f0 := (blk_at hM.1.2.1 0).2
    have f1 := (blk_at hM.1.2.1 1).2
    have f2 := (blk_at hM.1.2.1 2).2
    have f3 := (blk_at hM.1.2.1 3).2
    have cb : W.cell? ⟨w.heap.size + 1 + 1, 0, none⟩ = some (.bool false) := (blk_at hM.1.2.2 0).1
    have fb : W.frozen? ⟨w.heap.size + 1 + 1, 0, none⟩ = false := (blk_at hM.1.2.2 0).2
    gi_wp2
    · rename_i hkt
      exact ⟨(keeps5 _ _ _ _ _ _ _ _ _ _ _).from _, (k, o, s, f, i), ⟨rfl, List.mem_append.2 (.inr (by simp)), eq_of_beq hkt⟩, hM.set5 o s f i true⟩
    · rename_i hkt
      exact ⟨KeepsFrom.refl _ _, KC.refl _, fun y hy => (List.mem_append.1 hy).elim (hp y) (fun e e' => by simp at e; subst e; simp at hkt; exact hkt e'), hM⟩
  case done =>
    rintro D zs W hD rfl ⟨hp, hM⟩ hK
    have c0 : W.cell? ⟨w.heap.size + 1, 0, none⟩ = some (.int .u8 0) := (blk_at hM.1.2.1 0).1
    have c1 : W.cell? ⟨w.heap.size + 1, 1, none⟩ = some (.int .u8 0) := (blk_at hM.1.2.1 1).1
    have c2 : W.cell? ⟨w.heap.size + 1, 2, none⟩ = some (.int .u8 0) := (blk_at hM.1.2.1 2).1
    have c3 : W.cell? ⟨w.heap.size + 1, 3, none⟩ = some (.int .u8 0) := (blk_at hM.1.2.1 3).1
    have f0 := (blk_at hM.1.2.1 0).2
    have f1 := (blk_at hM.1.2.1 1).2
    have f2 := (blk_at hM.1.2.1 2).2
    have f3 := (blk_at hM.1.2.1 3).2
    have cb : W.cell? ⟨w.heap.size + 1 + 1, 0, none⟩ = some (.bool false) := (blk_at hM.1.2.2 0).1
    have fb : W.frozen? ⟨w.heap.size + 1 + 1, 0, none⟩ = false := (blk_at hM.1.2.2 0).2
    gi_wp2
    have hM' := hM.set5 0 0 0 0 false
    have hK' := (keeps5 W ⟨w.heap.size + 1, 0, none⟩ ⟨w.heap.size + 1, 1, none⟩ ⟨w.heap.size + 1, 2, none⟩ ⟨w.heap.size + 1, 3, none⟩ ⟨w.heap.size + 1 + 1, 0, none⟩ (.int .u8 0) (.int .u8 0) (.int .u8 0) (.int .u8 0) (.bool false)).same D _ hK rfl
    have hP := hM'.put (D := D) (by omega) hK'
    refine ⟨by simp, .inl ⟨_, _, rfl, run_takeDeferred hK', ?_⟩⟩
    exact ⟨_, hP.res _ rfl rfl, .inr ⟨hp, rfl⟩, hP.2⟩
  case stop =>
    rintro D c pre W hD hpre ⟨x, ⟨rfl, hx, hxt⟩, hM⟩ hK
    gi_wp2
    have hP := hM.put (D := D) (by omega) hK
    refine ⟨by simp, .inl ⟨_, _, rfl, run_takeDeferred hK, ?_⟩⟩
    exact ⟨_, hP.res _ rfl rfl, .inl ⟨x, hpre.subset hx, hxt, rfl⟩, hP.2⟩
end Go.Proofs.YtkihaohdcgjioaaGreatDoor
