import Derived.Test.YtkihaohdcgjioaaGreatDoorGr16
import Derived.Test.YtkihaohdcgjioaaGreatDoorGr09
namespace Go.Proofs.YtkihaohdcgjioaaGreatDoor
open Go.RowKit
set_option linter.unusedVariables false
set_option linter.unusedSimpArgs false
def RB (w : World) (p : Nat) (tv mv sv : Value) : Prop := w.heap[p]? = some (.cells #[tv, mv, sv] 114 (0, 0))
def TkR (w : World) (g off : Nat) (ts : List Lx.Tk) : Prop := ∀ k x, ts[k]? = some x → w.cell? ⟨g, off + k * 4, none⟩ = some (.int .i64 x.k) ∧ w.cell? ⟨g, off + k * 4 + 1, none⟩ = some (.string ⟨x.t.toArray⟩) ∧ w.cell? ⟨g, off + k * 4 + 2, none⟩ = some (.int .u64 x.n) ∧ w.cell? ⟨g, off + k * 4 + 3, none⟩ = some (.int .i64 x.l)
theorem TkR.tail {w : World} {g off : Nat} {t : Lx.Tk} {r : List Lx.Tk} (h : TkR w g off (t :: r)) : TkR w g (off + 4) r := fun k x hx => by
  have := h (k + 1) x (by simpa using hx)
  have e : off + (k + 1) * 4 = off + 4 + k * 4 := by omega
  rw [e] at this
  exact this
theorem TkR.chg {S : Nat → Prop} {w w' : World} {g off : Nat} {ts : List Lx.Tk} (h : TkR w g off ts) (c : Chg S w w') (hg : ¬ S g) : TkR w' g off ts := fun k x hx => by
  obtain ⟨h0, h1, h2, h3⟩ := h k x hx
  exact ⟨c.cell h0 hg, c.cell h1 hg, c.cell h2 hg, c.cell h3 hg⟩
def KQ (B : Nat) (w : World) (b : Nat) : Prop := B ≤ b ∧ ∃ cs t fr, w.heap[b]? = some (.cells cs t fr) ∧ (t = 114 ∨ t = 60)
theorem KQ.chain {B : Nat} {a b c : World} (h : Chg (KQ B a) a b) (k : Chg (KQ B b) b c) : Chg (KQ B a) a c := h.trans k (fun x hx hlt => by
  by_cases hn : KQ B a x
  · exact hn
  · have e := h.block x hlt hn
    obtain ⟨h1, cs, t, fr, h2, h3⟩ := hx
    exact ⟨h1, cs, t, fr, by rw [← e]; exact h2, h3⟩)
theorem KQ.out {B : Nat} {w0 w w' : World} (h : Chg (KQ B w) w w') (o : Out w0 w) (hB : w0.heap.size ≤ B) : Out w0 w' := Chg.out h o (fun k hk => Nat.le_trans hB hk.1)
theorem KQ.kind {B : Nat} {w w' : World} (c : Chg (KQ B w) w w') {b : Nat} {cs : Array Value} {t : TypeId} {fr : Nat × Nat} (h : w.heap[b]? = some (.cells cs t fr)) (h1 : ¬ t = 114) (h2 : ¬ t = 60) : w'.heap[b]? = some (.cells cs t fr) := by
  refine (c.block b (Array.getElem?_eq_some_iff.1 h).1 (fun hk => ?_)).trans h
  obtain ⟨_, cs', t', fr', e, ht⟩ := hk
  rw [h] at e
  simp at e
  rcases ht with ht | ht
  · exact h1 (e.2.1.trans ht)
  · exact h2 (e.2.1.trans ht)
structure PS (B : Nat) (w : World) (p g mb : Nat) (sv : Value) (ts : List Lx.Tk) : Prop where
  st : ∃ off cap, RB w p (.slice (some ⟨g, off, none⟩) ts.length cap) (.map (some mb)) sv ∧ TkR w g off ts ∧ ts.length ≤ cap
  gk : ∃ cs fr, w.heap[g]? = some (.cells cs 117 fr)
  pB : B ≤ p
theorem RB.out {w w' : World} {p : Nat} {tv mv sv : Value} (h : RB w p tv mv sv) (o : Out w w') : RB w' p tv mv sv := (o.block p (Array.getElem?_eq_some_iff.1 h).1).trans h
theorem PS.gp {B : Nat} {w : World} {p g mb : Nat} {sv : Value} {ts : List Lx.Tk} (h : PS B w p g mb sv ts) : ¬ g = p := fun e => by
  obtain ⟨off, cap, h1, _⟩ := h.st
  obtain ⟨cs, fr, h2⟩ := h.gk
  rw [e, show w.heap[p]? = _ from h1] at h2
  simp at h2
theorem PS.out {B : Nat} {w w' : World} {p g mb : Nat} {sv : Value} {ts : List Lx.Tk} (h : PS B w p g mb sv ts) (o : Out w w') : PS B w' p g mb sv ts := by
  obtain ⟨off, cap, h1, h2, h3⟩ := h.st
  obtain ⟨cs, fr, h4⟩ := h.gk
  exact ⟨⟨off, cap, h1.out o, h2.chg (S := fun _ => False) (Chg.of_out o) (fun h => h), h3⟩, ⟨cs, fr, (o.block g (Array.getElem?_eq_some_iff.1 h4).1).trans h4⟩, h.pB⟩
theorem PS.tokens {B : Nat} {w w' : World} {p g mb : Nat} {sv : Value} {ts ts' : List Lx.Tk} (h : PS B w p g mb sv ts) (c : Chg (fun b => b = p) w w') {off cap : Nat} (hR : RB w' p (.slice (some ⟨g, off, none⟩) ts'.length cap) (.map (some mb)) sv) (hT : TkR w g off ts') (hc : ts'.length ≤ cap) : PS B w' p g mb sv ts' := by
  obtain ⟨cs, fr, h4⟩ := h.gk
  exact ⟨⟨off, cap, hR, hT.chg c h.gp, hc⟩, ⟨cs, fr, (c.block g (Array.getElem?_eq_some_iff.1 h4).1 h.gp).trans h4⟩, h.pB⟩
theorem Chg.then2 {S : Nat → Prop} {a b c : World} (h : Chg S a b) (k : Chg S b c) : Chg S a c := h.trans k (fun _ hx _ => hx)
theorem PS.kq {B : Nat} {w : World} {p g mb : Nat} {sv : Value} {ts : List Lx.Tk} (h : PS B w p g mb sv ts) : KQ B w p := by
  obtain ⟨off, cap, h1, _⟩ := h.st
  exact ⟨h.pB, _, _, _, h1, .inl rfl⟩
def pnc (c : Int) : Ending := .panicked [{ v := .iface 49 (.int .i64 c), recovered := false }]
def REnd {α : Type} (enc : α → Value) (x : RE α) (B : Nat) (w : World) (p g mb : Nat) (sv : Value) (e : Ending) (w' : World) : Prop :=
  match x with
  | .ok a ts => e = .returned (enc a) ∧ PS B w' p g mb sv ts ∧ Chg (fun b => b = p) w w'
  | .no c ts => e = pnc c ∧ PS B w' p g mb sv ts ∧ Chg (fun b => b = p) w w'
def tkE (t : Lx.Tk) : Value := .agg #[.int .i64 t.k, .string ⟨t.t.toArray⟩, .int .u64 t.n, .int .i64 t.l]
def txE (l : List UInt8) : Value := .string ⟨l.toArray⟩
theorem Lw.two {ts : List Lx.Tk} (h : Lw ts) : ∃ t u r, ts = t :: u :: r := by
  obtain ⟨t, r, rfl⟩ := h.ne
  by_cases hk : t.k = 5
  · obtain ⟨u, r', rfl⟩ := (h.pass hk).ne
    exact ⟨t, u, r', rfl⟩
  · obtain ⟨u, r', rfl⟩ := (h.next hk).ne
    exact ⟨t, u, r', rfl⟩
theorem size4T : (Tryz.prog.info? 117).map (·.size) = some 4 := by kernel_rfl
set_option maxRecDepth 20000 in
set_option maxHeartbeats 2000000 in
theorem take_any (B : Nat) (w : World) (p g mb : Nat) (sv : Value) (ts : List Lx.Tk) (k : Int) (h : PS B w p g mb sv ts) (hl : Lw ts) : Calls Tryz.prog 97 #[.pointer (some ⟨p, 0, none⟩), .int .i64 k] w (REnd tkE (tkQ k ts) B w p g mb sv) := by
  obtain ⟨t, u, r, rfl⟩ := hl.two
  obtain ⟨off, cap, hR, hT, hc⟩ := h.st
  have hgp := h.gp
  have hpg : ¬ p = g := fun e => hgp e.symm
  obtain ⟨q0, q1, q2, q3⟩ := hT 0 t rfl
  simp only [Nat.zero_mul, Nat.add_zero] at q0 q1 q2 q3
  obtain ⟨n, hn⟩ : ∃ n, n = (t :: u :: r).length := ⟨_, rfl⟩
  have hn2 : 2 ≤ n := by rw [hn]; simp
  rw [← hn] at hR hc
  have c0 : w.cell? ⟨p, 0, none⟩ = some (.slice (some ⟨g, off, none⟩) n cap) := by rw [cell_atL hR]; rfl
  have f0 : w.frozen? ⟨p, 0, none⟩ = false := frozen_atL hR 0
  have HR := hidOf hR
  have HT := hidOf hT
  have HP := hidOf h
  have Hn := hidOf hn
  have hcI : (n : Int) ≤ cap := by omega
  have hnI : (2 : Int) ≤ n := by omega
  have hc1 : ¬ cap = 1 := by omega
  clear h hR hT hl hn
  obtain ⟨Z, hZ⟩ : ∃ Z : Obj, Z = .cells #[.int .i64 0, .string ⟨#[]⟩, .int .u64 0, .int .i64 0] 117 (0, 0) := ⟨_, rfl⟩
  obtain ⟨w1, hw1⟩ : ∃ w1, w1 = w.alloc Z := ⟨_, rfl⟩
  have o1 : Out w w1 := by rw [hw1]; exact (Out.refl w).alloc _
  have b1 : w1.heap[w.heap.size]? = some Z := by rw [hw1]; exact heap_alloc_new w _
  have z1 : w1.heap.size = w.heap.size + 1 := by rw [hw1]; exact size_alloc _ _
  have d0 := cell_later o1 c0
  have e0 := cell_later o1 q0
  have e1 := cell_later o1 q1
  have e2 := cell_later o1 q2
  have e3 := cell_later o1 q3
  have n0 := World.new_ne w1 ⟨p, 0, none⟩ d0
  have hpl : p < w.heap.size := (Array.getElem?_eq_some_iff.1 HR.out).1
  have O1 := hidOf o1
  have B1 := hidOf (show w1.heap[w.heap.size]? = some (.cells #[.int .i64 0, .string ⟨#[]⟩, .int .u64 0, .int .i64 0] 117 (0, 0)) by rw [b1, hZ])
  have Z1 := hidOf z1
  have Hw1 := hidOf (show w.alloc (.cells #[.int .i64 0, .string ⟨#[]⟩, .int .u64 0, .int .i64 0] 117) = w1 by rw [hw1, hZ])
  have f1 : w1.frozen? ⟨p, 0, none⟩ = false := frozen_atL (HR.out.out o1) 0
  clear c0 q0 q1 q2 q3 f0 hZ hw1 o1 b1 z1
  by_cases hk : t.k = k
  · have hkb : (t.k != k) = false := by simp [hk]
    have Hq : Hid (tkQ k (t :: u :: r) = .ok t (u :: r)) := hidOf (by
      show (if t.k = k then RE.ok t (u :: r) else RE.no 60 (t :: u :: r)) = _
      rw [if_pos hk])
    clear hk
    go_enter Tryz.func97, Tryz.ntmps97
    go_upto_region 1 with fail
    rw [Hw1.out]
    go_upto_region 4 with fail
    obtain ⟨w2, hw2⟩ : ∃ w2, w2 = w1.alloc (.cells #[.int .i64 t.k, .string ⟨t.t.toArray⟩, .int .u64 t.n, .int .i64 t.l] 117) := ⟨_, rfl⟩
    rw [← hw2]
    have o2 : Out w1 w2 := by rw [hw2]; exact (Out.refl w1).alloc _
    have x2 : w2.heap[w1.heap.size]? = some (.cells #[.int .i64 t.k, .string ⟨t.t.toArray⟩, .int .u64 t.n, .int .i64 t.l] 117 (0, 0)) := by rw [hw2]; exact heap_alloc_new w1 _
    have y2 : w2.heap[w.heap.size]? = some (.cells #[.int .i64 0, .string ⟨#[]⟩, .int .u64 0, .int .i64 0] 117 (0, 0)) := (o2.block _ (by rw [Z1.out]; omega)).trans B1.out
    have g0 := cell_later o2 d0
    have gf := frozen_atL ((HR.out.out O1.out).out o2) 0
    have hR2 := (HR.out.out O1.out).out o2
    obtain ⟨w3, hw3⟩ : ∃ w3, w3 = w2.setCell ⟨p, 0, none⟩ (.slice (some ⟨g, off + 4, none⟩) (n - 1) (cap - 1)) := ⟨_, rfl⟩
    have hp3 : RB w3 p (.slice (some ⟨g, off + 4, none⟩) (n - 1) (cap - 1)) (.map (some mb)) sv := by
      unfold RB
      rw [hw3, set_atL hR2]
      rfl
    have c3 : Chg (fun b => b = p) w2 w3 := by rw [hw3]; exact Chg.setCell (S := fun b => b = p) (Chg.refl _ w2) (p := ⟨p, 0, none⟩) rfl _
    have x3 : w3.heap[w1.heap.size]? = _ := (c3.block _ (Array.getElem?_eq_some_iff.1 x2).1 (fun e => by have := Z1.out; omega)).trans x2
    have y3 : w3.heap[w.heap.size]? = _ := (c3.block _ (Array.getElem?_eq_some_iff.1 y2).1 (fun e => by have := Z1.out; omega)).trans y2
    have m0 : w3.cell? ⟨w1.heap.size, 0, none⟩ = some (.int .i64 t.k) := by rw [cell_atL x3]; rfl
    have m1 : w3.cell? ⟨w1.heap.size, 1, none⟩ = some (.string ⟨t.t.toArray⟩) := by rw [cell_atL x3]; rfl
    have m2 : w3.cell? ⟨w1.heap.size, 2, none⟩ = some (.int .u64 t.n) := by rw [cell_atL x3]; rfl
    have m3 : w3.cell? ⟨w1.heap.size, 3, none⟩ = some (.int .i64 t.l) := by rw [cell_atL x3]; rfl
    have k0 : w3.cell? ⟨w.heap.size, 0, none⟩ = some (.int .i64 0) := by rw [cell_atL y3]; rfl
    have k1 : w3.cell? ⟨w.heap.size, 1, none⟩ = some (.string ⟨#[]⟩) := by rw [cell_atL y3]; rfl
    have k2 : w3.cell? ⟨w.heap.size, 2, none⟩ = some (.int .u64 0) := by rw [cell_atL y3]; rfl
    have k3 : w3.cell? ⟨w.heap.size, 3, none⟩ = some (.int .i64 0) := by rw [cell_atL y3]; rfl
    have j0 := frozen_atL y3 0
    have j1 := frozen_atL y3 1
    have j2 := frozen_atL y3 2
    have j3 := frozen_atL y3 3
    have O2 := hidOf (O1.out.trans o2)
    have HP3 := hidOf hp3
    have C3 := hidOf c3
    have Y3 := hidOf y3
    have Hw3 := hidOf hw3
    clear hw2 o2 x2 y2 hR2 hp3 c3 x3 y3 hw3 d0 e0 e1 e2 e3 n0 f1
    go_upto_region 5 with fail
    rw [← Hw3.out]
    clear g0 gf Hw3
    go_wp2
    refine bodyPost_ret (results_cell_row rfl _ _ w.heap.size 117 #[.int .i64 t.k, .string ⟨t.t.toArray⟩, .int .u64 t.n, .int .i64 t.l] (0, 0) _ rfl ?_ Tryz.underlying117 rfl size4T) rfl ?_
    · rw [set_atL (set_atL (set_atL (set_atL Y3.out 0 _) 1 _) 2 _) 3 _]
      rfl
    · have hP := HP.out.out O2.out
      have hc' : Chg (fun b => b = p) w w3 := Chg.then2 (Chg.of_out O2.out) C3.out
      have ht : TkR w g (off + 4) (u :: r) := HT.out.tail
      have hl1 : (u :: r).length = n - 1 := by rw [Hn.out]; simp
      obtain ⟨w4, hw4⟩ : ∃ w4, w4 = (((w3.setCell ⟨w.heap.size, 0, none⟩ (.int .i64 t.k)).setCell ⟨w.heap.size, 1, none⟩ (.string ⟨t.t.toArray⟩)).setCell ⟨w.heap.size, 2, none⟩ (.int .u64 t.n)).setCell ⟨w.heap.size, 3, none⟩ (.int .i64 t.l) := ⟨_, rfl⟩
      have cS : Chg (fun b => b = w.heap.size) w3 w4 := by
        rw [hw4]
        exact ((((Chg.refl (fun b => b = w.heap.size) w3).setCell (p := ⟨w.heap.size, 0, none⟩) rfl _).setCell (p := ⟨w.heap.size, 1, none⟩) rfl _).setCell (p := ⟨w.heap.size, 2, none⟩) rfl _).setCell (p := ⟨w.heap.size, 3, none⟩) rfl _
      rw [← hw4]
      have c4 : Chg (fun b => b = p) w w4 := hc'.trans cS (fun x hx hlt => by omega)
      have r4 : RB w4 p (.slice (some ⟨g, off + 4, none⟩) (n - 1) (cap - 1)) (.map (some mb)) sv := (cS.block p (Array.getElem?_eq_some_iff.1 HP3.out).1 (fun e => by omega)).trans HP3.out
      unfold REnd
      rw [Hq.out]
      exact ⟨rfl, HP.out.tokens c4 (by rw [hl1]; exact r4) ht (by rw [hl1]; omega), c4⟩
  · have hkb : (t.k != k) = true := by simp [hk]
    have Hq : Hid (tkQ k (t :: u :: r) = .no 60 (t :: u :: r)) := hidOf (by
      show (if t.k = k then RE.ok t (u :: r) else RE.no 60 (t :: u :: r)) = _
      rw [if_neg hk])
    clear hk
    go_enter Tryz.func97, Tryz.ntmps97
    go_upto_region 1 with fail
    rw [Hw1.out]
    go_wp2
    refine ⟨rfl, ?_⟩
    unfold REnd
    rw [Hq.out]
    exact ⟨rfl, HP.out.out (O1.out.alloc _), Chg.of_out (O1.out.alloc _)⟩
end Go.Proofs.YtkihaohdcgjioaaGreatDoor
