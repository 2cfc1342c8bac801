import Derived.Test.YthififblejbleaaGreatDoorHy15
namespace Go.Proofs.YthififblejbleaaGreatDoor
open Go.RowKit
set_option linter.unusedVariables false
set_option linter.unusedSimpArgs false
def ph3 (o1 o2 o3 : Option Nat) (m : Int) (n1 n2 n3 : Nat) (b o : Nat) : Option Value := if o1 = some b then cfi kI m n1 o else if o2 = some b then cfi kF m n2 o else if o3 = some b then cfi kD m n3 o else none
def Ap3 (o1 o2 o3 : Option Nat) : Prop := (∀ b, o1 = some b → ¬ o2 = some b) ∧ (∀ b, o1 = some b → ¬ o3 = some b) ∧ (∀ b, o2 = some b → ¬ o3 = some b)
theorem ph3_1 {o1 o2 o3 : Option Nat} {m : Int} {n1 n2 n3 b : Nat} (o : Nat) (hb : o1 = some b) : ph3 o1 o2 o3 m n1 n2 n3 b o = cfi kI m n1 o := by unfold ph3; rw [if_pos hb]
theorem ph3_2 {o1 o2 o3 : Option Nat} {m : Int} {n1 n2 n3 b : Nat} (h : Ap3 o1 o2 o3) (o : Nat) (hb : o2 = some b) : ph3 o1 o2 o3 m n1 n2 n3 b o = cfi kF m n2 o := by unfold ph3; rw [if_neg (fun e => h.1 b e hb), if_pos hb]
theorem ph3_3 {o1 o2 o3 : Option Nat} {m : Int} {n1 n2 n3 b : Nat} (h : Ap3 o1 o2 o3) (o : Nat) (hb : o3 = some b) : ph3 o1 o2 o3 m n1 n2 n3 b o = cfi kD m n3 o := by unfold ph3; rw [if_neg (fun e => h.2.1 b e hb), if_neg (fun e => h.2.2 b e hb), if_pos hb]
theorem ph3_no {o1 o2 o3 : Option Nat} {m : Int} {n1 n2 n3 b o : Nat} {u : Value} (h : ph3 o1 o2 o3 m n1 n2 n3 b o = some u) : o1 = some b ∨ o2 = some b ∨ o3 = some b := by
  unfold ph3 at h
  split at h
  · exact .inl ‹_›
  · split at h
    · exact .inr (.inl ‹_›)
    · split at h
      · exact .inr (.inr ‹_›)
      · cases h
theorem ML.ap {K K' : Kd} {w : World} {v v' : Value} {m m' : Int} {n0 n n0' n' : Nat} (h : ML K w v m n0 n) (h' : ML K' w v' m' n0' n') (hne : ¬ K.e = K'.e) : ∀ b, v.ownBlock = some b → ¬ v'.ownBlock = some b := fun b hb hb' => by
  obtain ⟨_, cs, h1⟩ := h.blk b hb
  obtain ⟨_, cs', h2⟩ := h'.blk b hb'
  rw [h1] at h2; simp at h2; exact hne h2.2
theorem ML.ne {K : Kd} {w : World} {v : Value} {m : Int} {n0 n : Nat} (h : ML K w v m n0 n) {q : Nat} {cs : Array Value} {t : TypeId} {fr : Nat × Nat} (hq : w.heap[q]? = some (.cells cs t fr)) (hne : ¬ K.e = t) : ∀ b, v.ownBlock = some b → ¬ b = q := fun b hb e => by
  obtain ⟨_, cs, h1⟩ := h.blk b hb
  rw [e, hq] at h1; simp at h1; exact hne h1.2.1.symm
theorem St.setNew {φ : Nat → Nat → Option Value} {a b : World} (h : St φ a b) {q : Nat} (hq : a.heap.size ≤ q) (j : Nat) (v : Value) : St φ a (b.setCell ⟨q, j, none⟩ v) := by
  refine ⟨h.chg.trans (Chg.setCell (S := fun k => k = q) (Chg.refl _ b) (p := ⟨q, j, none⟩) rfl v) (fun x hx hlt => by omega), fun g cs t fr hg => ?_⟩
  have hlt : g < a.heap.size := (Array.getElem?_eq_some_iff.1 hg).1
  obtain ⟨c1, h1, h2⟩ := h.row g cs t fr hg
  exact ⟨c1, (Below.heap_setCell b ⟨q, j, none⟩ v g (by simp only; omega)).trans h1, h2⟩
def BxI (w : World) (q : Nat) (v1 v2 v3 : Value) (en : Int) : Prop := w.heap[q]? = some (.cells #[v1, v2, v3, .int .i64 en] 26 (0, 0))
theorem BxI.lt {w : World} {q : Nat} {v1 v2 v3 : Value} {en : Int} (h : BxI w q v1 v2 v3 en) : q < w.heap.size := (Array.getElem?_eq_some_iff.1 h).1
theorem BxI.out {w w' : World} {q : Nat} {v1 v2 v3 : Value} {en : Int} (h : BxI w q v1 v2 v3 en) (o : Out w w') : BxI w' q v1 v2 v3 en := (o.block q h.lt).trans h
theorem BxI.st1 {K : Kd} {ob : Option Nat} {m : Int} {n0 : Nat} {w w' : World} {q : Nat} {v1 v2 v3 : Value} {en : Int} (h : BxI w q v1 v2 v3 en) (k : St (ph1 ob K m n0) w w') (hn : ∀ b, ob = some b → ¬ b = q) : BxI w' q v1 v2 v3 en := (k.chg.block q h.lt (fun ⟨o, u, e⟩ => by
  unfold ph1 at e
  split at e
  · exact hn q ‹_› rfl
  · cases e)).trans h
theorem BxI.oth {w : World} {q g : Nat} {v1 v2 v3 : Value} {en : Int} (h : BxI w q v1 v2 v3 en) (hn : ¬ g = q) (j : Nat) (v : Value) : BxI (w.setCell ⟨g, j, none⟩ v) q v1 v2 v3 en := (Below.heap_setCell w ⟨g, j, none⟩ v q (fun e => hn e.symm)).trans h
theorem BxI.cell {w : World} {q : Nat} {v1 v2 v3 : Value} {en : Int} (h : BxI w q v1 v2 v3 en) : w.cell? ⟨q, 0, none⟩ = some v1 ∧ w.cell? ⟨q, 1, none⟩ = some v2 ∧ w.cell? ⟨q, 2, none⟩ = some v3 ∧ w.cell? ⟨q, 3, none⟩ = some (.int .i64 en) := by
  have h' : w.heap[q]? = _ := h
  exact ⟨by rw [cell_atL h']; rfl, by rw [cell_atL h']; rfl, by rw [cell_atL h']; rfl, by rw [cell_atL h']; rfl⟩
theorem BxI.frozen {w : World} {q : Nat} {v1 v2 v3 : Value} {en : Int} (h : BxI w q v1 v2 v3 en) (j : Nat) : w.frozen? ⟨q, j, none⟩ = false := frozen_atL (show w.heap[q]? = _ from h) j
structure GrI (w wr : World) (q : Nat) (en m : Int) (o1 o2 o3 : Option Nat) (n1 n2 n3 : Nat) (v1 v2 v3 : Value) (x1 x2 x3 : Nat) : Prop where
  hq : q = w.heap.size
  bx : BxI wr q v1 v2 v3 en
  rs : BxI wr (q + 1) (.slice none 0 0) (.slice none 0 0) (.slice none 0 0) 0
  a1 : ML kI wr v1 m n1 x1
  a2 : ML kF wr v2 m n2 x2
  a3 : ML kD wr v3 m n3 x3
  st : St (ph3 o1 o2 o3 m n1 n2 n3) w wr
  b1 : ∀ b, v1.ownBlock = some b → o1 = some b ∨ w.heap.size ≤ b
  b2 : ∀ b, v2.ownBlock = some b → o2 = some b ∨ w.heap.size ≤ b
  b3 : ∀ b, v3.ownBlock = some b → o3 = some b ∨ w.heap.size ≤ b
theorem ph1_in {ob : Option Nat} {K : Kd} {m : Int} {n0 b o : Nat} {u : Value} (h : ph1 ob K m n0 b o = some u) : ob = some b ∧ cfi K m n0 o = some u := by
  unfold ph1 at h
  split at h
  · exact ⟨‹_›, h⟩
  · cases h
theorem ML.ph1 {K : Kd} {w w' : World} {v : Value} {m m' : Int} {n0 n n0' : Nat} {K' : Kd} {ob : Option Nat} (h : ML K w v m n0 n) (k : St (ph1 ob K' m' n0') w w') (hn : ∀ b, v.ownBlock = some b → ¬ ob = some b) : ML K w' v m n0 n := h.st k (fun b hb o u hu => (hn b hb (ph1_in hu).1).elim)
theorem GrI.app1 {w wr w3 : World} {q : Nat} {en m : Int} {o1 o2 o3 : Option Nat} {n1 n2 n3 : Nat} {v1 v2 v3 v' : Value} {x1 x2 x3 : Nat} (hA : Ap3 o1 o2 o3) (h : GrI w wr q en m o1 o2 o3 n1 n2 n3 v1 v2 v3 x1 x2 x3) (O : Obj) (hl : ML kI w3 v' m n1 (x1 + 1)) (hs : St (ph1 v1.ownBlock kI m n1) (wr.alloc O) w3) (hb : ∀ b, v'.ownBlock = some b → v1.ownBlock = some b ∨ (wr.alloc O).heap.size ≤ b) :
    BxI w3 q v1 v2 v3 en ∧ GrI w (w3.setCell ⟨q, 0, none⟩ v') q en m o1 o2 o3 n1 n2 n3 v' v2 v3 (x1 + 1) x2 x3 := by
  have oA : Out wr (wr.alloc O) := (Out.refl wr).alloc O
  have hbA := h.bx.out oA
  have hrA := h.rs.out oA
  have hn : ∀ b, v1.ownBlock = some b → ¬ b = q := fun b hb => (h.a1.out oA).ne (show (wr.alloc O).heap[q]? = _ from hbA) (by decide) b hb
  have hn1 : ∀ b, v1.ownBlock = some b → ¬ b = q + 1 := fun b hb => (h.a1.out oA).ne (show (wr.alloc O).heap[q + 1]? = _ from hrA) (by decide) b hb
  have hb3 := hbA.st1 hs hn
  have hr3 := hrA.st1 hs hn1
  have set : ∀ {K : Kd} {v : Value} {n0 n : Nat}, ML K w3 v m n0 n → ¬ K.e = 26 → ML K (w3.setCell ⟨q, 0, none⟩ v') v m n0 n := fun hv hne => hv.chg (Chg.setCell (S := fun k => k = q) (Chg.refl _ w3) (p := ⟨q, 0, none⟩) rfl v') (fun b hb e => hv.ne (show w3.heap[q]? = _ from hb3) hne b hb e)
  have sz := h.st.chg.size
  refine ⟨hb3, h.hq, ?_, hr3.oth (by omega) _ _, ?_, ?_, ?_, ((h.st.newer (St.of_out (φ := fun _ _ => none) oA) (fun _ _ _ e _ => by cases e)).newer hs (fun x o u hu hlt => ?_)).setNew (by rw [h.hq]; exact Nat.le_refl _) _ _, ?_, ?_, ?_⟩
  · show (w3.setCell ⟨q, 0, none⟩ v').heap[q]? = _
    rw [set_atL (show w3.heap[q]? = _ from hb3)]; rfl
  · exact set hl (by decide)
  · exact set ((h.a2.out oA).ph1 hs (fun b hb e => (h.a2.ap h.a1 (by decide)) b hb e)) (by decide)
  · exact set ((h.a3.out oA).ph1 hs (fun b hb e => (h.a3.ap h.a1 (by decide)) b hb e)) (by decide)
  · obtain ⟨e1, e2⟩ := ph1_in hu
    rcases h.b1 x e1 with e | e
    · rw [ph3_1 o e]; exact e2
    · omega
  · intro b hb'
    rcases hb b hb' with e | e
    · exact h.b1 b e
    · right; rw [size_alloc] at e; omega
  · exact h.b2
  · exact h.b3
theorem GrI.app2 {w wr w3 : World} {q : Nat} {en m : Int} {o1 o2 o3 : Option Nat} {n1 n2 n3 : Nat} {v1 v2 v3 v' : Value} {x1 x2 x3 : Nat} (hA : Ap3 o1 o2 o3) (h : GrI w wr q en m o1 o2 o3 n1 n2 n3 v1 v2 v3 x1 x2 x3) (O : Obj) (hl : ML kF w3 v' m n2 (x2 + 1)) (hs : St (ph1 v2.ownBlock kF m n2) (wr.alloc O) w3) (hb : ∀ b, v'.ownBlock = some b → v2.ownBlock = some b ∨ (wr.alloc O).heap.size ≤ b) :
    BxI w3 q v1 v2 v3 en ∧ GrI w (w3.setCell ⟨q, 1, none⟩ v') q en m o1 o2 o3 n1 n2 n3 v1 v' v3 x1 (x2 + 1) x3 := by
  have oA : Out wr (wr.alloc O) := (Out.refl wr).alloc O
  have hbA := h.bx.out oA
  have hrA := h.rs.out oA
  have hn : ∀ b, v2.ownBlock = some b → ¬ b = q := fun b hb => (h.a2.out oA).ne (show (wr.alloc O).heap[q]? = _ from hbA) (by decide) b hb
  have hn1 : ∀ b, v2.ownBlock = some b → ¬ b = q + 1 := fun b hb => (h.a2.out oA).ne (show (wr.alloc O).heap[q + 1]? = _ from hrA) (by decide) b hb
  have hb3 := hbA.st1 hs hn
  have hr3 := hrA.st1 hs hn1
  have set : ∀ {K : Kd} {v : Value} {n0 n : Nat}, ML K w3 v m n0 n → ¬ K.e = 26 → ML K (w3.setCell ⟨q, 1, none⟩ v') v m n0 n := fun hv hne => hv.chg (Chg.setCell (S := fun k => k = q) (Chg.refl _ w3) (p := ⟨q, 1, none⟩) rfl v') (fun b hb e => hv.ne (show w3.heap[q]? = _ from hb3) hne b hb e)
  have sz := h.st.chg.size
  refine ⟨hb3, h.hq, ?_, hr3.oth (by omega) _ _, ?_, ?_, ?_, ((h.st.newer (St.of_out (φ := fun _ _ => none) oA) (fun _ _ _ e _ => by cases e)).newer hs (fun x o u hu hlt => ?_)).setNew (by rw [h.hq]; exact Nat.le_refl _) _ _, ?_, ?_, ?_⟩
  · show (w3.setCell ⟨q, 1, none⟩ v').heap[q]? = _
    rw [set_atL (show w3.heap[q]? = _ from hb3)]; rfl
  · exact set ((h.a1.out oA).ph1 hs (fun b hb e => (h.a1.ap h.a2 (by decide)) b hb e)) (by decide)
  · exact set hl (by decide)
  · exact set ((h.a3.out oA).ph1 hs (fun b hb e => (h.a3.ap h.a2 (by decide)) b hb e)) (by decide)
  · obtain ⟨e1, e2⟩ := ph1_in hu
    rcases h.b2 x e1 with e | e
    · rw [ph3_2 hA o e]; exact e2
    · omega
  · exact h.b1
  · intro b hb'
    rcases hb b hb' with e | e
    · exact h.b2 b e
    · right; rw [size_alloc] at e; omega
  · exact h.b3
theorem GrI.app3 {w wr w3 : World} {q : Nat} {en m : Int} {o1 o2 o3 : Option Nat} {n1 n2 n3 : Nat} {v1 v2 v3 v' : Value} {x1 x2 x3 : Nat} (hA : Ap3 o1 o2 o3) (h : GrI w wr q en m o1 o2 o3 n1 n2 n3 v1 v2 v3 x1 x2 x3) (O : Obj) (hl : ML kD w3 v' m n3 (x3 + 1)) (hs : St (ph1 v3.ownBlock kD m n3) (wr.alloc O) w3) (hb : ∀ b, v'.ownBlock = some b → v3.ownBlock = some b ∨ (wr.alloc O).heap.size ≤ b) :
    BxI w3 q v1 v2 v3 en ∧ GrI w (w3.setCell ⟨q, 2, none⟩ v') q en m o1 o2 o3 n1 n2 n3 v1 v2 v' x1 x2 (x3 + 1) := by
  have oA : Out wr (wr.alloc O) := (Out.refl wr).alloc O
  have hbA := h.bx.out oA
  have hrA := h.rs.out oA
  have hn : ∀ b, v3.ownBlock = some b → ¬ b = q := fun b hb => (h.a3.out oA).ne (show (wr.alloc O).heap[q]? = _ from hbA) (by decide) b hb
  have hn1 : ∀ b, v3.ownBlock = some b → ¬ b = q + 1 := fun b hb => (h.a3.out oA).ne (show (wr.alloc O).heap[q + 1]? = _ from hrA) (by decide) b hb
  have hb3 := hbA.st1 hs hn
  have hr3 := hrA.st1 hs hn1
  have set : ∀ {K : Kd} {v : Value} {n0 n : Nat}, ML K w3 v m n0 n → ¬ K.e = 26 → ML K (w3.setCell ⟨q, 2, none⟩ v') v m n0 n := fun hv hne => hv.chg (Chg.setCell (S := fun k => k = q) (Chg.refl _ w3) (p := ⟨q, 2, none⟩) rfl v') (fun b hb e => hv.ne (show w3.heap[q]? = _ from hb3) hne b hb e)
  have sz := h.st.chg.size
  refine ⟨hb3, h.hq, ?_, hr3.oth (by omega) _ _, ?_, ?_, ?_, ((h.st.newer (St.of_out (φ := fun _ _ => none) oA) (fun _ _ _ e _ => by cases e)).newer hs (fun x o u hu hlt => ?_)).setNew (by rw [h.hq]; exact Nat.le_refl _) _ _, ?_, ?_, ?_⟩
  · show (w3.setCell ⟨q, 2, none⟩ v').heap[q]? = _
    rw [set_atL (show w3.heap[q]? = _ from hb3)]; rfl
  · exact set ((h.a1.out oA).ph1 hs (fun b hb e => (h.a1.ap h.a3 (by decide)) b hb e)) (by decide)
  · exact set ((h.a2.out oA).ph1 hs (fun b hb e => (h.a2.ap h.a3 (by decide)) b hb e)) (by decide)
  · exact set hl (by decide)
  · obtain ⟨e1, e2⟩ := ph1_in hu
    rcases h.b3 x e1 with e | e
    · rw [ph3_3 hA o e]; exact e2
    · omega
  · exact h.b1
  · exact h.b2
  · intro b hb'
    rcases hb b hb' with e | e
    · exact h.b3 b e
    · right; rw [size_alloc] at e; omega
def GrE (w : World) (en m : Int) (o1 o2 o3 : Option Nat) (n1 n2 n3 x1 x2 x3 : Nat) (e : Ending) (w' : World) : Prop :=
  ∃ a1 c1 a2 c2 a3 c3, e = .returned (.agg #[.slice a1 x1 c1, .slice a2 x2 c2, .slice a3 x3 c3, .int .i64 en]) ∧ ML kI w' (.slice a1 x1 c1) m n1 x1 ∧ ML kF w' (.slice a2 x2 c2) m n2 x2 ∧ ML kD w' (.slice a3 x3 c3) m n3 x3 ∧ St (ph3 o1 o2 o3 m n1 n2 n3) w w' ∧ (∀ b, (Value.slice a1 x1 c1).ownBlock = some b → o1 = some b ∨ w.heap.size ≤ b) ∧ (∀ b, (Value.slice a2 x2 c2).ownBlock = some b → o2 = some b ∨ w.heap.size ≤ b) ∧ (∀ b, (Value.slice a3 x3 c3).ownBlock = some b → o3 = some b ∨ w.heap.size ≤ b)
theorem kI_new (n0 n : Nat) (m : Int) (h : n0 ≤ n) : kI.c (decide (n0 ≤ n)) (m + (n : Int)) = [.int .i64 99, .int .i64 0, .int .i64 0, .int .i64 0, .int .i64 (m + (n : Int))] := by rw [decide_eq_true h]; rfl
theorem kF_new (n0 n : Nat) (m : Int) (h : n0 ≤ n) : kF.c (decide (n0 ≤ n)) (m + (n : Int)) = [.string ⟨#[103, 114, 111, 119, 110]⟩, .int .i64 0, .int .i64 (m + (n : Int)), .int .i64 0] := by rw [decide_eq_true h]; rfl
theorem kD_new (n0 n : Nat) (m : Int) (h : n0 ≤ n) : kD.c (decide (n0 ≤ n)) (m + (n : Int)) = [.string ⟨#[103, 114, 111, 119, 110]⟩, .int .i64 0, .int .i64 (m + (n : Int)), .int .i64 0, .int .i64 0] := by rw [decide_eq_true h]; rfl
set_option maxRecDepth 20000 in
set_option maxHeartbeats 4000000 in
theorem grown17_any (w : World) (en m : Int) (o1 o2 o3 : Option Nat) (a1 a2 a3 : Option Addr) (c1 c2 c3 n1 n2 n3 l1 l2 l3 k : Nat) (h1 : ML kI w (.slice a1 l1 c1) m n1 l1) (h2 : ML kF w (.slice a2 l2 c2) m n2 l2) (h3 : ML kD w (.slice a3 l3 c3) m n3 l3) (ho1 : o1 = (Value.slice a1 l1 c1).ownBlock) (ho2 : o2 = (Value.slice a2 l2 c2).ownBlock) (ho3 : o3 = (Value.slice a3 l3 c3).ownBlock)
    (k1 : n1 ≤ l1) (k2 : n2 ≤ l2) (k3 : n3 ≤ l3) (b1 : l1 + k ≤ 1000000000) (b2 : l2 + k ≤ 1000000000) (b3 : l3 + k ≤ 1000000000) (m0 : 0 ≤ m) (m1 : m ≤ 100000000000) :
    Calls Tryz.prog 74 #[.agg #[.slice a1 l1 c1, .slice a2 l2 c2, .slice a3 l3 c3, .int .i64 en], .int .i64 m, .int .i64 k] w (GrE w en m o1 o2 o3 n1 n2 n3 (l1 + k) (l2 + k) (l3 + k)) := by
  obtain ⟨q, hq⟩ : ∃ q, Hid (q = w.heap.size) := ⟨_, rfl⟩
  obtain ⟨wA, hwA⟩ : ∃ wA, Hid (wA = (w.alloc (.cells #[.slice a1 l1 c1, .slice a2 l2 c2, .slice a3 l3 c3, .int .i64 en] 26)).alloc (.cells #[.slice none 0 0, .slice none 0 0, .slice none 0 0, .int .i64 0] 26)) := ⟨_, rfl⟩
  have OA : Out w wA := by rw [hwA.out]; exact Out.alloc (Out.alloc (Out.refl _) _) _
  have HA : Hid (Ap3 o1 o2 o3) := by
    rw [ho1, ho2, ho3]
    exact ⟨h1.ap h2 (by decide), h1.ap h3 (by decide), h2.ap h3 (by decide)⟩
  have G0 : Hid (GrI w wA q en m o1 o2 o3 n1 n2 n3 (.slice a1 l1 c1) (.slice a2 l2 c2) (.slice a3 l3 c3) l1 l2 l3) := by
    refine ⟨hq.out, ?_, ?_, h1.out OA, h2.out OA, h3.out OA, St.of_out OA, fun b hb => .inl (by rw [ho1]; exact hb), fun b hb => .inl (by rw [ho2]; exact hb), fun b hb => .inl (by rw [ho3]; exact hb)⟩
    · show wA.heap[q]? = _
      rw [hwA.out, hq.out, Below.heap_alloc _ _ _ (by rw [size_alloc]; omega)]; exact heap_alloc_new w _
    · show wA.heap[q + 1]? = _
      have := heap_alloc_new (w.alloc (.cells #[.slice a1 l1 c1, .slice a2 l2 c2, .slice a3 l3 c3, .int .i64 en] 26)) (.cells #[.slice none 0 0, .slice none 0 0, .slice none 0 0, .int .i64 0] 26)
      rw [size_alloc, ← hwA.out, ← hq.out] at this; exact this
  clear h1 h2 h3 ho1 ho2 ho3 OA
  go_enter Tryz.func74, Tryz.ntmps74
  go_upto_region 1 with fail
  rw [← hwA.out, ← hq.out]
  go_wp2
  go_loopw [7] (fun kv wr => ∃ (i : Nat) (a1 a2 a3 : Option Addr) (c1 c2 c3 x1 x2 x3 : Nat), kv = .int .i64 i ∧ i ≤ k ∧ Hid (x1 = l1 + i ∧ x2 = l2 + i ∧ x3 = l3 + i) ∧ Hid (GrI w wr q en m o1 o2 o3 n1 n2 n3 (.slice a1 x1 c1) (.slice a2 x2 c2) (.slice a3 x3 c3) x1 x2 x3)) (fun kv _ => k - (intOf kv).toNat)
  case atStart => exact ⟨0, a1, a2, a3, c1, c2, c3, l1, l2, l3, rfl, by omega, ⟨rfl, rfl, rfl⟩, G0⟩
  case round =>
    clear G0
    obtain ⟨i, a1, a2, a3, c1, c2, c3, x1, x2, x3, rfl, hi, HX, HG⟩ := hrel
    have y1 : x1 ≤ 1000000000 := by have := HX.out; omega
    have y2 : x2 ≤ 1000000000 := by have := HX.out; omega
    have y3 : x3 ≤ 1000000000 := by have := HX.out; omega
    obtain ⟨p0, p1, p2, p3⟩ := HG.out.bx.cell
    by_cases hlt : i < k
    · have hltI : (i : Int) < k := by omega
      have z1 : n1 ≤ x1 := by have := HX.out; omega
      have z2 : n2 ≤ x2 := by have := HX.out; omega
      have z3 : n3 ≤ x3 := by have := HX.out; omega
      go_upto_region 5 with (at_builtin; obtain ⟨v', w3, hr3, hl3, hd3, hb3⟩ := append_mk kI_ok (wr.alloc (.cells #[.int .i64 99, .int .i64 0, .int .i64 0, .int .i64 0, .int .i64 (m + (x1 : Int))] 67)) (.slice a1 x1 c1) m n1 x1 (HG.out.a1.out ((Out.refl wr).alloc _)) ⟨wr.heap.size, 0, none⟩ (fun j u hu => news_new wr _ _ _ rfl j u (by rw [kI_new n1 x1 m z1] at hu; exact hu)) (by omega); obtain ⟨a4, c4, rfl⟩ := hl3.form; refine wp_run rfl (.tmp 14) (.tmp 21) 22 rfl rfl rfl hr3 ?_; obtain ⟨bx3, gr3⟩ := HG.out.app1 HA.out _ hl3 hd3 hb3; obtain ⟨r0, r1, r2, r3⟩ := bx3.cell; have fz := bx3.frozen 0; have L3 := hidOf hl3; have G3 := hidOf gr3; clear hr3 hl3 hd3 hb3 bx3 gr3)
      generalize w3.setCell ⟨q, 0, none⟩ (.slice a4 (x1 + 1) c4) = wB at G3 ⊢
      obtain ⟨p0, p1, p2, p3⟩ := G3.out.bx.cell
      clear HG L3 r0 r1 r2 r3 fz
      go_upto_region 6 with (at_builtin; obtain ⟨v', w3, hr3, hl3, hd3, hb3⟩ := append_mk kF_ok (wB.alloc (.cells #[.string ⟨#[103, 114, 111, 119, 110]⟩, .int .i64 0, .int .i64 (m + (x2 : Int)), .int .i64 0] 69)) (.slice a2 x2 c2) m n2 x2 (G3.out.a2.out ((Out.refl wB).alloc _)) ⟨wB.heap.size, 0, none⟩ (fun j u hu => news_new wB _ _ _ rfl j u (by rw [kF_new n2 x2 m z2] at hu; exact hu)) (by omega); obtain ⟨a5, c5, rfl⟩ := hl3.form; refine wp_run rfl (.tmp 25) (.tmp 32) 23 rfl rfl rfl hr3 ?_; obtain ⟨bx3, gr3⟩ := G3.out.app2 HA.out _ hl3 hd3 hb3; obtain ⟨r0, r1, r2, r3⟩ := bx3.cell; have fz := bx3.frozen 1; have L3 := hidOf hl3; have G4 := hidOf gr3; clear hr3 hl3 hd3 hb3 bx3 gr3)
      generalize w3.setCell ⟨q, 1, none⟩ (.slice a5 (x2 + 1) c5) = wC at G4 ⊢
      obtain ⟨p0, p1, p2, p3⟩ := G4.out.bx.cell
      clear G3 L3 r0 r1 r2 r3 fz
      go_upto_region 3 with (at_builtin; obtain ⟨v', w3, hr3, hl3, hd3, hb3⟩ := append_mk kD_ok (wC.alloc (.cells #[.string ⟨#[103, 114, 111, 119, 110]⟩, .int .i64 0, .int .i64 (m + (x3 : Int)), .int .i64 0, .int .i64 0] 72)) (.slice a3 x3 c3) m n3 x3 (G4.out.a3.out ((Out.refl wC).alloc _)) ⟨wC.heap.size, 0, none⟩ (fun j u hu => news_new wC _ _ _ rfl j u (by rw [kD_new n3 x3 m z3] at hu; exact hu)) (by omega); obtain ⟨a6, c6, rfl⟩ := hl3.form; refine wp_run rfl (.tmp 36) (.tmp 43) 24 rfl rfl rfl hr3 ?_; obtain ⟨bx3, gr3⟩ := G4.out.app3 HA.out _ hl3 hd3 hb3; obtain ⟨r0, r1, r2, r3⟩ := bx3.cell; have fz := bx3.frozen 2; have L3 := hidOf hl3; have G5 := hidOf gr3; clear hr3 hl3 hd3 hb3 bx3 gr3)
      generalize w3.setCell ⟨q, 2, none⟩ (.slice a6 (x3 + 1) c6) = wD at G5 ⊢
      clear G4 L3 r0 r1 r2 r3 fz
      go_wp2
      go_roundw
      case rel => exact ⟨i + 1, a4, a5, a6, c4, c5, c6, x1 + 1, x2 + 1, x3 + 1, by simp, by omega, hidOf (by have := HX.out; omega), G5⟩
      case measure => simp [intOf]; omega
    · have hltI : ¬ (i : Int) < k := by omega
      obtain rfl : i = k := by omega
      have r0 := HG.out.rs.cell
      have fz : ∀ j, wr.frozen? ⟨q + 1, j, none⟩ = false := HG.out.rs.frozen
      obtain ⟨s0, s1, s2, s3⟩ := r0
      go_wp2
      have hrs := HG.out.rs
      have hb : ((((wr.setCell ⟨q + 1, 0, none⟩ (.slice a1 x1 c1)).setCell ⟨q + 1, 1, none⟩ (.slice a2 x2 c2)).setCell ⟨q + 1, 2, none⟩ (.slice a3 x3 c3)).setCell ⟨q + 1, 3, none⟩ (.int .i64 en)).heap[q + 1]? = some (.cells #[.slice a1 x1 c1, .slice a2 x2 c2, .slice a3 x3 c3, .int .i64 en] 26 (0, 0)) := by
        rw [set_atL (set_atL (set_atL (set_atL (show wr.heap[q + 1]? = _ from hrs) _ _) _ _) _ _)]; rfl
      refine bodyPost_ret (results_cell_row rfl _ _ (q + 1) 26 _ (0, 0) _ rfl hb Tryz.underlying26 rfl (by kernel_rfl)) rfl ?_
      have hS : Chg (fun k => k = q + 1) wr ((((wr.setCell ⟨q + 1, 0, none⟩ (.slice a1 x1 c1)).setCell ⟨q + 1, 1, none⟩ (.slice a2 x2 c2)).setCell ⟨q + 1, 2, none⟩ (.slice a3 x3 c3)).setCell ⟨q + 1, 3, none⟩ (.int .i64 en)) := (((Chg.setCell (S := fun k => k = q + 1) (Chg.refl _ wr) (p := ⟨q + 1, 0, none⟩) rfl _).setCell (p := ⟨q + 1, 1, none⟩) rfl _).setCell (p := ⟨q + 1, 2, none⟩) rfl _).setCell (p := ⟨q + 1, 3, none⟩) rfl _
      have hle : w.heap.size ≤ q + 1 := by rw [hq.out]; omega
      obtain ⟨rfl, rfl, rfl⟩ := HX.out
      have H := HG.out
      exact ⟨a1, c1, a2, c2, a3, c3, rfl, H.a1.chg hS (fun b hb => H.a1.ne (show wr.heap[q + 1]? = _ from hrs) (by decide) b hb), H.a2.chg hS (fun b hb => H.a2.ne (show wr.heap[q + 1]? = _ from hrs) (by decide) b hb), H.a3.chg hS (fun b hb => H.a3.ne (show wr.heap[q + 1]? = _ from hrs) (by decide) b hb), (((H.st.setNew hle _ _).setNew hle _ _).setNew hle _ _).setNew hle _ _, H.b1, H.b2, H.b3⟩
end Go.Proofs.YthififblejbleaaGreatDoor
