import Derived.Test.YtkihaohdcgjioaaGreatDoorGp46
import Derived.Deep.RegionHeld3
import Derived.Test.YtkihaohdcgjioaaGreatDoorGp34
namespace Go.Proofs.YtkihaohdcgjioaaGreatDoor
open Go.RowKit
set_option linter.unusedVariables false
set_option linter.unusedSimpArgs false
/-- a list of values that fill a cell each -/
def RowC (w : World) (a : Option Addr) (cs : List Value) : Prop := cs = [] ∨ ∃ g off, a = some ⟨g, off, none⟩ ∧ ∀ k u, cs[k]? = some u → w.cell? ⟨g, off + k, none⟩ = some u
theorem RowC.out {w w' : World} {a : Option Addr} {cs : List Value} (h : RowC w a cs) (o : Out w w') : RowC w' a cs := by
  rcases h with h | ⟨g, off, e, h⟩
  · exact .inl h
  · exact .inr ⟨g, off, e, fun k u hu => cell_later o (h k u hu)⟩
theorem RowC.get {w : World} {a : Option Addr} {cs : List Value} (h : RowC w a cs) {k : Nat} {u : Value} (hu : cs[k]? = some u) : ∃ g off, a = some ⟨g, off, none⟩ ∧ w.cell? ⟨g, off + k, none⟩ = some u := by
  rcases h with h | ⟨g, off, e, h⟩
  · rw [h] at hu; cases hu
  · exact ⟨g, off, e, h k u hu⟩
theorem own_row {B n : Nat} {w : World} {t : TypeId} {v : Value} {cs : List Value} (h : w.ownsRow B t 1 v n cs) (hn : cs.length = n) : ∃ a cap, v = .slice a n cap ∧ n ≤ cap ∧ RowC w a cs := by
  rcases h.2 with ⟨hv, h0⟩ | ⟨g, cap, cur, hv, hb, hg, hc, _⟩
  · exact ⟨none, 0, by rw [hv, h0], by omega, .inl (List.length_eq_zero_iff.1 (by omega))⟩
  · refine ⟨_, _, hv, hc, .inr ⟨g, 0, rfl, fun k u hu => ?_⟩⟩
    have := World.ownsRow.cells h (g := g) (by rw [hv]; rfl) k u hu
    rw [← this, Go.WideShapes.add_plain]
theorem strsC_get {N : List (List UInt8)} {k : Nat} {y : List UInt8} (h : N[k]? = some y) : (strsC N)[k]? = some (.string ⟨y.toArray⟩) := by simp [strsC, h]
theorem intsC_get {N : List Int} {k : Nat} {y : Int} (h : N[k]? = some y) : (intsC N)[k]? = some (.int .i64 y) := by simp [intsC, h]
set_option maxHeartbeats 800000 in
theorem sameT6_any (a b : Option Addr) (c d : Nat) (N : List (List UInt8)) (w : World) (h : RowC w a (strsC N)) (h' : RowC w b (strsC N)) (hn : N.length ≤ 1000000000000) : Calls Tryz.prog 35 #[.slice a N.length c, .slice b N.length d] w fun e w' => e = .returned (.bool true) ∧ ∃ m, w' = w.drewN m := by
  have H := hidOf h
  have H' := hidOf h'
  have hee : ((N.length : Int) != (N.length : Int)) = false := by simp
  clear h h'
  go_enter Tryz.func35, Tryz.ntmps35
  go_wp2
  go_loopw [5] (fun iv wr => ∃ k m : Nat, iv = .int .i64 k ∧ k ≤ N.length ∧ wr = w.drewN m) (fun iv _ => N.length - (intOf iv).toNat)
  case atStart => exact ⟨0, 0, rfl, by omega, rfl⟩
  case round =>
    obtain ⟨k, m, rfl, hk, rfl⟩ := hrel
    by_cases hkN : k < N.length
    · have hlt : (k : Int) < N.length := by omega
      have h0 : (0 : Int) ≤ k := by omega
      obtain ⟨y, hy⟩ : ∃ y, N[k]? = some y := ⟨_, List.getElem?_eq_getElem hkN⟩
      obtain ⟨g, off, rfl, q⟩ := H.out.get (strsC_get hy)
      obtain ⟨g', off', rfl, q'⟩ := H'.out.get (strsC_get hy)
      have q1 : ∀ m, (w.drewN m).cell? ⟨g, off + k, none⟩ = some (.string ⟨y.toArray⟩) := fun m => q
      have q2 : ∀ m, (w.drewN m).cell? ⟨g', off' + k, none⟩ = some (.string ⟨y.toArray⟩) := fun m => q'
      clear hy q q'
      go_wp2_with (go_quiet (fail))
      go_roundw
      case rel => exact ⟨k + 1, _, by simp, by omega, rfl⟩
      case measure => simp [intOf]; omega
    · have hlt : ¬ (k : Int) < N.length := by omega
      go_wp2
      go_ret
      exact ⟨rfl, _, rfl⟩
set_option maxHeartbeats 800000 in
theorem sameI6_any (a b : Option Addr) (c d : Nat) (N : List Int) (w : World) (h : RowC w a (intsC N)) (h' : RowC w b (intsC N)) (hn : N.length ≤ 1000000000000) : Calls Tryz.prog 36 #[.slice a N.length c, .slice b N.length d] w fun e w' => e = .returned (.bool true) ∧ ∃ m, w' = w.drewN m := by
  have H := hidOf h
  have H' := hidOf h'
  have hee : ((N.length : Int) != (N.length : Int)) = false := by simp
  clear h h'
  go_enter Tryz.func36, Tryz.ntmps36
  go_wp2
  go_loopw [5] (fun iv wr => ∃ k m : Nat, iv = .int .i64 k ∧ k ≤ N.length ∧ wr = w.drewN m) (fun iv _ => N.length - (intOf iv).toNat)
  case atStart => exact ⟨0, 0, rfl, by omega, rfl⟩
  case round =>
    obtain ⟨k, m, rfl, hk, rfl⟩ := hrel
    by_cases hkN : k < N.length
    · have hlt : (k : Int) < N.length := by omega
      have h0 : (0 : Int) ≤ k := by omega
      obtain ⟨y, hy⟩ : ∃ y, N[k]? = some y := ⟨_, List.getElem?_eq_getElem hkN⟩
      obtain ⟨g, off, rfl, q⟩ := H.out.get (intsC_get hy)
      obtain ⟨g', off', rfl, q'⟩ := H'.out.get (intsC_get hy)
      have q1 : ∀ m, (w.drewN m).cell? ⟨g, off + k, none⟩ = some (.int .i64 y) := fun m => q
      have q2 : ∀ m, (w.drewN m).cell? ⟨g', off' + k, none⟩ = some (.int .i64 y) := fun m => q'
      have hyy : (y != y) = false := by simp
      clear hy q q'
      go_wp2_with (go_quiet (fail))
      go_roundw
      case rel => exact ⟨k + 1, _, by simp, by omega, rfl⟩
      case measure => simp [intOf]; omega
    · have hlt : ¬ (k : Int) < N.length := by omega
      go_wp2
      go_ret
      exact ⟨rfl, _, rfl⟩
theorem box2_new {w : World} (o1 o2 : Array Value) (t1 t2 : TypeId) : ((w.alloc (.cells o1 t1)).alloc (.cells o2 t2)).heap[w.heap.size]? = some (.cells o1 t1 (0, 0)) ∧ ((w.alloc (.cells o1 t1)).alloc (.cells o2 t2)).heap[w.heap.size + 1]? = some (.cells o2 t2 (0, 0)) := by
  have e1 := heap_alloc_new w (.cells o1 t1)
  have o : Out (w.alloc (.cells o1 t1)) ((w.alloc (.cells o1 t1)).alloc (.cells o2 t2)) := (Out.refl _).alloc _
  refine ⟨(o.block _ (by rw [size_alloc]; omega)).trans e1, ?_⟩
  have := heap_alloc_new (w.alloc (.cells o1 t1)) (.cells o2 t2)
  rw [size_alloc] at this
  exact this
set_option maxRecDepth 20000 in
set_option maxHeartbeats 4000000 in
theorem sameSt_any (x : Stm) (aw aw2 an an2 : Option Addr) (cw cw2 cn cn2 : Nat) (w : World) (h1 : RowC w aw (strsC x.ws)) (h2 : RowC w aw2 (strsC x.ws)) (h3 : RowC w an (intsC x.ns)) (h4 : RowC w an2 (intsC x.ns)) (hw : x.ws.length ≤ 1000000000000) (hn : x.ns.length ≤ 1000000000000) :
    Calls Tryz.prog 16 #[.agg #[.int .i64 x.k, .string ⟨x.nm.toArray⟩, .slice aw x.ws.length cw, .slice an x.ns.length cn, .int .i64 x.o, .int .i64 x.d, .int .i64 x.s, .int .i64 x.f, .int .i64 x.i, .string ⟨x.tg.toArray⟩, .int .i64 x.l], .agg #[.int .i64 x.k, .string ⟨x.nm.toArray⟩, .slice aw2 x.ws.length cw2, .slice an2 x.ns.length cn2, .int .i64 x.o, .int .i64 x.d, .int .i64 x.s, .int .i64 x.f, .int .i64 x.i, .string ⟨x.tg.toArray⟩, .int .i64 x.l]] w fun e w' => e = .returned (.bool true) ∧ Out w w' := by
  obtain ⟨W, hW⟩ : ∃ W, W = (w.alloc (.cells #[.int .i64 x.k, .string ⟨x.nm.toArray⟩, .slice aw x.ws.length cw, .slice an x.ns.length cn, .int .i64 x.o, .int .i64 x.d, .int .i64 x.s, .int .i64 x.f, .int .i64 x.i, .string ⟨x.tg.toArray⟩, .int .i64 x.l] 60)).alloc (.cells #[.int .i64 x.k, .string ⟨x.nm.toArray⟩, .slice aw2 x.ws.length cw2, .slice an2 x.ns.length cn2, .int .i64 x.o, .int .i64 x.d, .int .i64 x.s, .int .i64 x.f, .int .i64 x.i, .string ⟨x.tg.toArray⟩, .int .i64 x.l] 60) := ⟨_, rfl⟩
  have HO : Hid (Out w W) := hidOf (by rw [hW]; exact ((Out.refl w).alloc _).alloc _)
  have hb : W.heap[w.heap.size]? = some (.cells #[.int .i64 x.k, .string ⟨x.nm.toArray⟩, .slice aw x.ws.length cw, .slice an x.ns.length cn, .int .i64 x.o, .int .i64 x.d, .int .i64 x.s, .int .i64 x.f, .int .i64 x.i, .string ⟨x.tg.toArray⟩, .int .i64 x.l] 60 (0, 0)) ∧ W.heap[w.heap.size + 1]? = some (.cells #[.int .i64 x.k, .string ⟨x.nm.toArray⟩, .slice aw2 x.ws.length cw2, .slice an2 x.ns.length cn2, .int .i64 x.o, .int .i64 x.d, .int .i64 x.s, .int .i64 x.f, .int .i64 x.i, .string ⟨x.tg.toArray⟩, .int .i64 x.l] 60 (0, 0)) := by rw [hW]; exact box2_new _ _ _ _
  have HK : Hid (∀ wx, Out W wx → wx.cell? ⟨w.heap.size, 0, none⟩ = some (.int .i64 x.k) ∧ wx.cell? ⟨w.heap.size, 1, none⟩ = some (.string ⟨x.nm.toArray⟩) ∧ wx.cell? ⟨w.heap.size, 2, none⟩ = some (.slice aw x.ws.length cw) ∧ wx.cell? ⟨w.heap.size, 3, none⟩ = some (.slice an x.ns.length cn) ∧ wx.cell? ⟨w.heap.size, 4, none⟩ = some (.int .i64 x.o) ∧ wx.cell? ⟨w.heap.size, 5, none⟩ = some (.int .i64 x.d) ∧ wx.cell? ⟨w.heap.size, 6, none⟩ = some (.int .i64 x.s) ∧ wx.cell? ⟨w.heap.size, 7, none⟩ = some (.int .i64 x.f) ∧ wx.cell? ⟨w.heap.size, 8, none⟩ = some (.int .i64 x.i) ∧ wx.cell? ⟨w.heap.size, 9, none⟩ = some (.string ⟨x.tg.toArray⟩) ∧ wx.cell? ⟨w.heap.size, 10, none⟩ = some (.int .i64 x.l) ∧ wx.cell? ⟨(w.heap.size + 1), 0, none⟩ = some (.int .i64 x.k) ∧ wx.cell? ⟨(w.heap.size + 1), 1, none⟩ = some (.string ⟨x.nm.toArray⟩) ∧ wx.cell? ⟨(w.heap.size + 1), 2, none⟩ = some (.slice aw2 x.ws.length cw2) ∧ wx.cell? ⟨(w.heap.size + 1), 3, none⟩ = some (.slice an2 x.ns.length cn2) ∧ wx.cell? ⟨(w.heap.size + 1), 4, none⟩ = some (.int .i64 x.o) ∧ wx.cell? ⟨(w.heap.size + 1), 5, none⟩ = some (.int .i64 x.d) ∧ wx.cell? ⟨(w.heap.size + 1), 6, none⟩ = some (.int .i64 x.s) ∧ wx.cell? ⟨(w.heap.size + 1), 7, none⟩ = some (.int .i64 x.f) ∧ wx.cell? ⟨(w.heap.size + 1), 8, none⟩ = some (.int .i64 x.i) ∧ wx.cell? ⟨(w.heap.size + 1), 9, none⟩ = some (.string ⟨x.tg.toArray⟩) ∧ wx.cell? ⟨(w.heap.size + 1), 10, none⟩ = some (.int .i64 x.l)) := hidOf (fun wx o => by
    obtain ⟨b1, b2⟩ := hb
    exact ⟨cell_later o (by rw [cell_atL b1]; rfl), cell_later o (by rw [cell_atL b1]; rfl), cell_later o (by rw [cell_atL b1]; rfl), cell_later o (by rw [cell_atL b1]; rfl), cell_later o (by rw [cell_atL b1]; rfl), cell_later o (by rw [cell_atL b1]; rfl), cell_later o (by rw [cell_atL b1]; rfl), cell_later o (by rw [cell_atL b1]; rfl), cell_later o (by rw [cell_atL b1]; rfl), cell_later o (by rw [cell_atL b1]; rfl), cell_later o (by rw [cell_atL b1]; rfl), cell_later o (by rw [cell_atL b2]; rfl), cell_later o (by rw [cell_atL b2]; rfl), cell_later o (by rw [cell_atL b2]; rfl), cell_later o (by rw [cell_atL b2]; rfl), cell_later o (by rw [cell_atL b2]; rfl), cell_later o (by rw [cell_atL b2]; rfl), cell_later o (by rw [cell_atL b2]; rfl), cell_later o (by rw [cell_atL b2]; rfl), cell_later o (by rw [cell_atL b2]; rfl), cell_later o (by rw [cell_atL b2]; rfl), cell_later o (by rw [cell_atL b2]; rfl)⟩)
  have CT : Hid (∀ wx, Out W wx → Calls Tryz.prog 35 #[.slice aw x.ws.length cw, .slice aw2 x.ws.length cw2] wx fun e w' => e = .returned (.bool true) ∧ Out wx w') := hidOf (fun wx o => (sameT6_any aw aw2 cw cw2 x.ws wx (h1.out (HO.out.trans o)) (h2.out (HO.out.trans o)) hw).mono (by
    rintro e w' ⟨he, m, rfl⟩
    exact ⟨he, (Out.refl wx).dN m⟩))
  have CI : Hid (∀ wx, Out W wx → Calls Tryz.prog 36 #[.slice an x.ns.length cn, .slice an2 x.ns.length cn2] wx fun e w' => e = .returned (.bool true) ∧ Out wx w') := hidOf (fun wx o => (sameI6_any an an2 cn cn2 x.ns wx (h3.out (HO.out.trans o)) (h4.out (HO.out.trans o)) hn).mono (by
    rintro e w' ⟨he, m, rfl⟩
    exact ⟨he, (Out.refl wx).dN m⟩))
  have OW : Hid (Out W W) := hidOf (Out.refl W)
  have HW := hidOf hW
  obtain ⟨nw, hnw⟩ : ∃ n, n = x.ws.length := ⟨_, rfl⟩
  obtain ⟨nn, hnn⟩ : ∃ n, n = x.ns.length := ⟨_, rfl⟩
  clear hb h1 h2 h3 h4 hW
  rw [← hnw] at HK CT HW ⊢
  rw [← hnn] at HK CI HW ⊢
  clear hnw hnn hw hn
  obtain ⟨xk, xnm, xws, xns, xo, xd, xs, xf, xi, xtg, xl⟩ := x
  simp only at HK HW ⊢
  go_enter Tryz.func16, Tryz.ntmps16
  go_upto_region 1 with fail
  rw [← HW.out]
  have q := HK.out W OW.out
  obtain ⟨q0, q1, q2, q3, q4, q5, q6, q7, q8, q9, q10, q11, q12, q13, q14, q15, q16, q17, q18, q19, q20, q21⟩ := q
  go_wp2_with (first | (go_at_call 35; refine (CT.out _ OW.out).mono ?_; rintro e w1 ⟨rfl, hO1⟩; have HO1 := hidOf hO1; clear hO1; obtain ⟨r0, r1, r2, r3, r4, r5, r6, r7, r8, r9, r10, r11, r12, r13, r14, r15, r16, r17, r18, r19, r20, r21⟩ := HK.out _ HO1.out) | (go_at_call 36; refine (CI.out _ HO1.out).mono ?_; rintro e w2 ⟨rfl, hO2⟩; have HO2 := hidOf (Out.trans HO1.out hO2); clear hO2; obtain ⟨s0, s1, s2, s3, s4, s5, s6, s7, s8, s9, s10, s11, s12, s13, s14, s15, s16, s17, s18, s19, s20, s21⟩ := HK.out _ HO2.out))
  go_ret
  exact ⟨rfl, HO.out.trans HO2.out⟩
end Go.Proofs.YtkihaohdcgjioaaGreatDoor
namespace Go.Proofs.YtkihaohdcgjioaaGreatDoor
open Go.RowKit
set_option linter.unusedVariables false
set_option linter.unusedSimpArgs false
/-- the tokens of one line: its end is the last of them -/
def En : List Lx.Tk → Prop
  | [] => False
  | t :: r => if t.k = 5 then r = [] else En r
def shT (N : Int) (t : Lx.Tk) : Lx.Tk := ⟨t.k, t.t, t.n, t.l + N⟩
def shS (N : Int) (s : Stm) : Stm := { s with l := s.l + N }
theorem En.ne {ts : List Lx.Tk} (h : En ts) : ∃ t r, ts = t :: r := by
  cases ts with
  | nil => exact h.elim
  | cons t r => exact ⟨t, r, rfl⟩
theorem En.next {t : Lx.Tk} {r : List Lx.Tk} (h : En (t :: r)) (hk : ¬ t.k = 5) : En r := by
  unfold En at h
  rw [if_neg hk] at h
  exact h
theorem En.last {t : Lx.Tk} {r : List Lx.Tk} (h : En (t :: r)) (hk : t.k = 5) : r = [] := by
  unfold En at h
  rw [if_pos hk] at h
  exact h
def RE.app {α : Type} (g : α → α) (N : Int) (R : List Lx.Tk) : RE α → RE α
  | .ok a ts => .ok (g a) (ts.map (shT N) ++ R)
  | .no c ts => .no c (ts.map (shT N) ++ R)
def RE.en {α : Type} : RE α → Prop
  | .ok _ ts => En ts
  | .no _ ts => En ts
/-- the second answer is the first one's, the lines further on and more tokens behind -/
def Loc {α : Type} (g : α → α) (N : Int) (R : List Lx.Tk) (y x : RE α) : Prop := y = x.app g N R ∧ x.en
theorem Loc.bind {α β : Type} {g : α → α} {g' : β → β} {N : Int} {R : List Lx.Tk} {x y : RE α} {f f' : α → List Lx.Tk → RE β} (h : Loc g N R y x) (hf : ∀ a r, En r → Loc g' N R (f' (g a) (r.map (shT N) ++ R)) (f a r)) : Loc g' N R (y.bind f') (x.bind f) := by
  obtain ⟨rfl, he⟩ := h
  cases x with
  | ok a r => exact hf a r he
  | no c r => exact ⟨rfl, he⟩
theorem kind_loc {N : Int} {R ts : List Lx.Tk} (h : En ts) : kindQ (ts.map (shT N) ++ R) = kindQ ts := by
  obtain ⟨t, r, rfl⟩ := h.ne
  rfl
theorem line_loc {N : Int} {R ts : List Lx.Tk} (h : En ts) : lineQ (ts.map (shT N) ++ R) = lineQ ts + N := by
  obtain ⟨t, r, rfl⟩ := h.ne
  rfl
theorem tkQ_loc {k N : Int} {R ts : List Lx.Tk} (h : En ts) (hk : ¬ k = 5) : Loc (shT N) N R (tkQ k (ts.map (shT N) ++ R)) (tkQ k ts) := by
  obtain ⟨t, r, rfl⟩ := h.ne
  show Loc (shT N) N R (if t.k = k then RE.ok (shT N t) (r.map (shT N) ++ R) else RE.no 60 (shT N t :: (r.map (shT N) ++ R))) (if t.k = k then RE.ok t r else RE.no 60 (t :: r))
  by_cases e : t.k = k
  · rw [if_pos e, if_pos e]; exact ⟨rfl, h.next (by rw [e]; exact hk)⟩
  · rw [if_neg e, if_neg e]; exact ⟨rfl, h⟩
theorem wdQ_loc {N : Int} {R ts : List Lx.Tk} (h : En ts) : Loc id N R (wdQ (ts.map (shT N) ++ R)) (wdQ ts) := (tkQ_loc h (by decide)).bind (fun _ _ h => ⟨rfl, h⟩)
theorem tdQ_loc {N : Int} {R ts : List Lx.Tk} (h : En ts) : Loc id N R (tdQ (ts.map (shT N) ++ R)) (tdQ ts) := (wdQ_loc h).bind (fun x r h => by
  show Loc id N R (if tknQ x then RE.ok x (r.map (shT N) ++ R) else RE.no 60 (r.map (shT N) ++ R)) (if tknQ x then RE.ok x r else RE.no 60 r)
  cases hx : tknQ x
  · exact ⟨rfl, h⟩
  · exact ⟨rfl, h⟩)
theorem nuQ_loc {N : Int} {R ts : List Lx.Tk} (h : En ts) : Loc id N R (nuQ (ts.map (shT N) ++ R)) (nuQ ts) := (tkQ_loc h (by decide)).bind (fun t r h => by
  show Loc id N R (if t.n ≤ 2147483647 then RE.ok t.n (r.map (shT N) ++ R) else RE.no 60 (r.map (shT N) ++ R)) (if t.n ≤ 2147483647 then RE.ok t.n r else RE.no 60 r)
  by_cases hx : t.n ≤ 2147483647
  · rw [if_pos hx, if_pos hx]; exact ⟨rfl, h⟩
  · rw [if_neg hx, if_neg hx]; exact ⟨rfl, h⟩)
theorem nmQ_loc {k N : Int} {R ts : List Lx.Tk} (h : En ts) : Loc id N R (nmQ k (ts.map (shT N) ++ R)) (nmQ k ts) := (wdQ_loc h).bind (fun _ _ h => ⟨rfl, h⟩)
theorem nuR_loc {N : Int} {R : List Lx.Tk} : ∀ (n : Nat) (l : List Int) (ts : List Lx.Tk), En ts → Loc id N R (nuR n l (ts.map (shT N) ++ R)) (nuR n l ts)
  | 0, l, ts, h => ⟨rfl, h⟩
  | n + 1, l, ts, h => (nuQ_loc h).bind (fun a r h => nuR_loc n _ r h)
theorem tbQ_loc {N : Int} {R ts : List Lx.Tk} (h : En ts) : Loc id N R (tbQ (ts.map (shT N) ++ R)) (tbQ ts) := (wdQ_loc h).bind (fun _ _ h => (tdQ_loc h).bind (fun _ _ h => (nuR_loc 3 [] _ h).bind (fun _ _ h => ⟨rfl, h⟩)))
theorem restQ_loc {x : List UInt8} {N : Int} {R ts : List Lx.Tk} (h : En ts) : Loc id N R (restQ x (ts.map (shT N) ++ R)) (restQ x ts) := by
  unfold restQ
  by_cases h1 : x = funcB
  · rw [if_pos h1, if_pos h1]; exact nmQ_loc h
  rw [if_neg h1, if_neg h1]
  by_cases h2 : x = globB
  · rw [if_pos h2, if_pos h2]; exact nmQ_loc h
  rw [if_neg h2, if_neg h2]
  by_cases h3 : x = extB
  · rw [if_pos h3, if_pos h3]; exact nmQ_loc h
  rw [if_neg h3, if_neg h3]
  by_cases h4 : x = mapB
  · rw [if_pos h4, if_pos h4]; exact tbQ_loc h
  rw [if_neg h4, if_neg h4]
  exact ⟨rfl, h⟩
theorem dirQ_loc {N : Int} {R ts : List Lx.Tk} (h : En ts) : Loc id N R (dirQ (ts.map (shT N) ++ R)) (dirQ ts) := (tkQ_loc h (by decide)).bind (fun t r h => (restQ_loc (x := t.t) h).bind (fun s r h => by
  rw [kind_loc h]
  by_cases e : kindQ r = 5
  · rw [if_pos e, if_pos e]; exact ⟨rfl, h⟩
  · rw [if_neg e, if_neg e]; exact ⟨rfl, h⟩))
theorem ixQ_loc {N : Int} {R : List Lx.Tk} : ∀ (acc : List UInt8) (ts : List Lx.Tk), En ts → ixQ acc (ts.map (shT N) ++ R) = ((ixQ acc ts).1, (ixQ acc ts).2.map (shT N) ++ R) ∧ En (ixQ acc ts).2
  | acc, [], h => h.elim
  | acc, t :: r, h => by
    show (if t.k = 5 then (acc, shT N t :: (r.map (shT N) ++ R)) else ixQ ((if acc.isEmpty then acc else acc ++ [32]) ++ ttQ t) (r.map (shT N) ++ R)) = _ ∧ _
    rw [show ixQ acc (t :: r) = if t.k = 5 then (acc, t :: r) else ixQ ((if acc.isEmpty then acc else acc ++ [32]) ++ ttQ t) r by rw [ixQ]]
    by_cases e : t.k = 5
    · rw [if_pos e, if_pos e]; exact ⟨rfl, h⟩
    · rw [if_neg e, if_neg e]; exact ixQ_loc _ r (h.next e)
theorem inQ_loc {N : Int} {R ts : List Lx.Tk} (h : En ts) : Loc id N R (inQ (ts.map (shT N) ++ R)) (inQ ts) := by
  obtain ⟨h1, h2⟩ := ixQ_loc (N := N) (R := R) [] ts h
  unfold inQ
  rw [h1]
  simp only
  by_cases e : (parseP (ixQ [] ts).1).e = 0
  · rw [if_pos e, if_pos e]; exact ⟨rfl, h2⟩
  · rw [if_neg e, if_neg e]; exact ⟨rfl, h2⟩
theorem lbQ_loc {N : Int} {R : List Lx.Tk} {out : List Stm} : ∀ (n : Nat) (L : List Stm) (ts : List Lx.Tk), ts.length ≤ n → En ts → lbQ (out ++ L.map (shS N)) (ts.map (shT N) ++ R) = (out ++ (lbQ L ts).1.map (shS N), (lbQ L ts).2.map (shT N) ++ R) ∧ En (lbQ L ts).2
  | _, L, [], _, h => h.elim
  | _, L, [t], _, h => by
    have hk : t.k = 5 := by
      unfold En at h
      by_cases e : t.k = 5
      · exact e
      · rw [if_neg e] at h; exact h.elim
    have h1 : lbQ L [t] = (L, [t]) := by unfold lbQ; rfl
    rw [h1]
    refine ⟨?_, h⟩
    show lbQ (out ++ L.map (shS N)) (shT N t :: R) = _
    cases R with
    | nil => unfold lbQ; rfl
    | cons u r =>
      unfold lbQ
      rw [if_neg (fun e => by have := e.1; rw [show (shT N t).k = t.k from rfl] at this; omega)]
      rfl
  | 0, L, t :: u :: r, hn, h => by simp at hn
  | n + 1, L, t :: u :: r, hn, h => by
    show (lbQ (out ++ L.map (shS N)) (shT N t :: shT N u :: (r.map (shT N) ++ R)) = _) ∧ _
    have e1 : lbQ L (t :: u :: r) = if t.k = 1 ∧ colQ u = true then lbQ (L ++ [{ nmS 1 t.t with l := u.l }]) r else (L, t :: u :: r) := by rw [lbQ]
    have e2 : lbQ (out ++ L.map (shS N)) (shT N t :: shT N u :: (r.map (shT N) ++ R)) = if t.k = 1 ∧ colQ u = true then lbQ (out ++ L.map (shS N) ++ [{ nmS 1 t.t with l := u.l + N }]) (r.map (shT N) ++ R) else (out ++ L.map (shS N), shT N t :: shT N u :: (r.map (shT N) ++ R)) := by rw [lbQ]; rfl
    rw [e1, e2]
    by_cases e : t.k = 1 ∧ colQ u = true
    · rw [if_pos e, if_pos e]
      have h1 := h.next (by rw [e.1]; decide)
      have h2 := h1.next (by rw [col_kind e.2]; decide)
      have ih := lbQ_loc (N := N) (R := R) (out := out) n (L ++ [{ nmS 1 t.t with l := u.l }]) r (by simp at hn; omega) h2
      rw [List.map_append, ← List.append_assoc] at ih
      exact ih
    · rw [if_neg e, if_neg e]
      exact ⟨rfl, h⟩
theorem stQ_loc {N : Int} {R : List Lx.Tk} {out : List Stm} {L : List Stm} {ts : List Lx.Tk} (h : En ts) : Loc (fun o => out ++ o.map (shS N)) N R (stQ (out ++ L.map (shS N)) (ts.map (shT N) ++ R)) (stQ L ts) := by
  unfold stQ
  rw [kind_loc h]
  by_cases e : kindQ ts = 5
  · rw [if_pos e, if_pos e]; exact ⟨rfl, h⟩
  rw [if_neg e, if_neg e]
  refine Loc.bind (g := id) ?_ (fun s r hr => ?_)
  · by_cases e1 : kindQ ts = 1
    · rw [if_pos e1, if_pos e1]; exact inQ_loc h
    · rw [if_neg e1, if_neg e1]; exact dirQ_loc h
  · refine ⟨?_, hr⟩
    rw [line_loc hr]
    simp only [RE.app, List.map_append, List.map_cons, List.map_nil, List.append_assoc, id]
    rfl
/-- how a line is read: the rest of it is nothing -/
def RE.fin {α : Type} : RE α → Prop
  | .ok _ ts => ts = []
  | .no _ ts => En ts
theorem lnQ_loc {N : Int} {R : List Lx.Tk} {out : List Stm} {L : List Stm} {ts : List Lx.Tk} (h : En ts) : lnQ (out ++ L.map (shS N)) (ts.map (shT N) ++ R) = (lnQ L ts).app (fun o => out ++ o.map (shS N)) N R ∧ (lnQ L ts).fin := by
  obtain ⟨h1, h2⟩ := lbQ_loc (N := N) (R := R) (out := out) ts.length L ts (Nat.le_refl _) h
  obtain ⟨h3, h4⟩ := stQ_loc (N := N) (R := R) (out := out) (L := (lbQ L ts).1) h2
  unfold lnQ
  rw [h1]
  simp only
  rw [h3]
  cases hz : stQ (lbQ L ts).1 (lbQ L ts).2 with
  | no c r =>
    rw [hz] at h4
    exact ⟨rfl, h4⟩
  | ok o r =>
    rw [hz] at h4
    obtain ⟨t, r', rfl⟩ := En.ne h4
    show ((if t.k = 5 then RE.ok (shT N t) (r'.map (shT N) ++ R) else RE.no 60 (shT N t :: (r'.map (shT N) ++ R))).bind fun _ q => RE.ok (out ++ o.map (shS N)) q) = ((if t.k = 5 then RE.ok t r' else RE.no 60 (t :: r')).bind fun _ q => RE.ok o q).app _ N R ∧ ((if t.k = 5 then RE.ok t r' else RE.no 60 (t :: r')).bind fun _ q => RE.ok o q).fin
    by_cases e : t.k = 5
    · rw [if_pos e, if_pos e]
      exact ⟨rfl, En.last h4 e⟩
    · rw [if_neg e, if_neg e]
      exact ⟨rfl, h4⟩
theorem sh0T (ts : List Lx.Tk) : ts.map (shT 0) = ts := by
  have : (shT 0) = id := by funext t; simp [shT]
  rw [this, List.map_id]
theorem sh0S (L : List Stm) : L.map (shS 0) = L := by
  have : (shS 0) = id := by funext t; simp [shS]
  rw [this, List.map_id]
/-- a line by itself -/
theorem ln_out {R : List Lx.Tk} {out : List Stm} {ts : List Lx.Tk} (h : En ts) : (∃ o, lnQ [] ts = .ok o [] ∧ lnQ out (ts ++ R) = .ok (out ++ o) R) ∨ ∃ c r, lnQ [] ts = .no c r ∧ En r ∧ lnQ out (ts ++ R) = .no c (r ++ R) := by
  obtain ⟨h1, h2⟩ := lnQ_loc (N := 0) (R := R) (out := out) (L := []) h
  rw [List.map_nil, List.append_nil, sh0T] at h1
  cases hz : lnQ [] ts with
  | ok o r =>
    rw [hz] at h1 h2
    obtain rfl : r = [] := h2
    refine .inl ⟨o, rfl, ?_⟩
    rw [h1]
    simp only [RE.app, sh0S, List.map_nil, List.nil_append]
  | no c r =>
    rw [hz] at h1 h2
    refine .inr ⟨c, r, rfl, h2, ?_⟩
    rw [h1]
    simp only [RE.app, sh0T]
/-- a line further on -/
theorem ln_sh {N : Int} {ts : List Lx.Tk} (h : En ts) : (∃ o, lnQ [] ts = .ok o [] ∧ lnQ [] (ts.map (shT N)) = .ok (o.map (shS N)) []) ∨ ∃ c r, lnQ [] ts = .no c r ∧ En r ∧ lnQ [] (ts.map (shT N)) = .no c (r.map (shT N)) := by
  obtain ⟨h1, h2⟩ := lnQ_loc (N := N) (R := []) (out := []) (L := []) h
  rw [List.map_nil, List.append_nil, List.append_nil] at h1
  cases hz : lnQ [] ts with
  | ok o r =>
    rw [hz] at h1 h2
    obtain rfl : r = [] := h2
    refine .inl ⟨o, rfl, ?_⟩
    rw [h1]
    rfl
  | no c r =>
    rw [hz] at h1 h2
    refine .inr ⟨c, r, rfl, h2, ?_⟩
    rw [h1]
    simp only [RE.app, List.append_nil]
end Go.Proofs.YtkihaohdcgjioaaGreatDoor
