import Derived.Test.YtlfcjbeldnkkoaaGb11
import Derived.Deep.MidRow
import Derived.Deep.WholeRow
import Derived.Laws.Tables
namespace Go.Proofs.Ytlfcjbeldnkkoaa
open Go.RowKit
set_option linter.unusedVariables false
set_option linter.unusedSimpArgs false
/-- what an entry may be -/
def rowL (T begin : Nat) : Rw := ⟨(0, jw 4294967295), (jw 3, jw 3), (0, 0), jw2 begin, (jw (max ((T : Int) - begin - 7) 0), jw ((T : Int) - begin)), (0, 0), (0, 0), (jw 1, jw 1), (0, 0)⟩
def rowM (T begin : Nat) : Rw := ⟨(0, jw 4294967295), (0, jw 4294967295), (0, jw 9223372036854775807), jw2 begin, (0, jw ((T : Int) - begin)), (0, jw 4294967295), (0, jw 4294967295), (0, jw 9223372036854775807), (0, jw 9223372036854775807)⟩
def rowW (T n place begin : Nat) : Rw := if place = T then zRw else if place + 64 = n then rowL T begin else rowM T begin
theorem upTo_of {W : World} (n : Int) (w : World) (ho : Out W w) : Calls Try.prog 71 #[.int .i64 n] w fun e w' => e = .returned (.agg #[.int .u64 0, .int .u64 (jw n : Nat)]) ∧ Out W w' := (upTo_any n w).mono fun e w' he => ⟨he.1, by rw [he.2]; exact ho.alloc _⟩
theorem wpList_store_row {P : Program} {ops : Array Oper} {rest : List Oper} {op : Oper} {a : Act} {w : World} {Q : Exit → Act → World → Prop} (hgd : op.guard = none) (ty : TypeId) (x y : Operand) (ho : op.op = .store ty x y) (g : Nat) (c c' : Array Value) (hg : w.heap[g]? = some (.cells c ty (0, 0))) (hx : a.eval x = .pointer (some ⟨g, 0, none⟩)) (hy : a.eval y = .agg c')
    (hi : (P.info? ty).map (·.size) = some c'.size) (hs : c.size = c'.size) (h1 : c'.all (·.oneCell') = true)
    (h : wpList P ops Q rest (a.put op.dst undef) (w.setRow g c')) : wpList P ops Q (op :: rest) a w :=
  wpList_plain hgd fun K hK => by
    unfold Oper.wp execOp
    simp only [ho, hx, hy, Instr.storeAt, Instr.sureAddr, Sem.run_bind, Sem.run_pure, Result.andThen_ok, run_storeVar_row w g ty ty c c' hg hi hs h1]
    exact hK _ _ h
/-- the boxes of rowAt -/
structure RA (w W : World) (pr b8 b9 : Nat) (x0 x1 y0 y1 : Value) : Prop where
  out : Out w W
  res : W.heap[pr]? = some (.cells #[.int .u64 0, .int .u64 0, .int .u64 0, .int .u64 0, .int .u64 0, .int .u64 0, .int .u64 0, .int .u64 0, .int .u64 0, .int .u64 0, .int .u64 0, .int .u64 0, .int .u64 0, .int .u64 0, .int .u64 0, .int .u64 0, .int .u64 0, .int .u64 0] 79 (0, 0))
  s8 : W.heap[b8]? = some (.cells #[x0, x1] 76 (0, 0))
  s9 : W.heap[b9]? = some (.cells #[y0, y1] 76 (0, 0))
theorem RA.on {w W W' : World} {pr b8 b9 : Nat} {x0 x1 y0 y1 : Value} (h : RA w W pr b8 b9 x0 x1 y0 y1) (o : Out W W') : RA w W' pr b8 b9 x0 x1 y0 y1 :=
  ⟨h.out.trans o, (o.block _ (Array.getElem?_eq_some_iff.1 h.res).1).trans h.res, (o.block _ (Array.getElem?_eq_some_iff.1 h.s8).1).trans h.s8, (o.block _ (Array.getElem?_eq_some_iff.1 h.s9).1).trans h.s9⟩
theorem RA.cells {w wx : World} {pr b8 b9 : Nat} {x0 x1 y0 y1 : Value} (h : RA w wx pr b8 b9 x0 x1 y0 y1) : (wx.cell? ⟨b8, 0, none⟩ = some x0 ∧ wx.cell? ⟨b8, 1, none⟩ = some x1 ∧ wx.cell? ⟨b9, 0, none⟩ = some y0 ∧ wx.cell? ⟨b9, 1, none⟩ = some y1) ∧ wx.cell? ⟨pr, 0, none⟩ = some (.int .u64 0) ∧ wx.cell? ⟨pr, 1, none⟩ = some (.int .u64 0) ∧ wx.cell? ⟨pr, 2, none⟩ = some (.int .u64 0) ∧ wx.cell? ⟨pr, 3, none⟩ = some (.int .u64 0) ∧ wx.cell? ⟨pr, 4, none⟩ = some (.int .u64 0) ∧ wx.cell? ⟨pr, 5, none⟩ = some (.int .u64 0) ∧ wx.cell? ⟨pr, 6, none⟩ = some (.int .u64 0) ∧ wx.cell? ⟨pr, 7, none⟩ = some (.int .u64 0) ∧ wx.cell? ⟨pr, 8, none⟩ = some (.int .u64 0) ∧ wx.cell? ⟨pr, 9, none⟩ = some (.int .u64 0) ∧ wx.cell? ⟨pr, 10, none⟩ = some (.int .u64 0) ∧ wx.cell? ⟨pr, 11, none⟩ = some (.int .u64 0) ∧ wx.cell? ⟨pr, 12, none⟩ = some (.int .u64 0) ∧ wx.cell? ⟨pr, 13, none⟩ = some (.int .u64 0) ∧ wx.cell? ⟨pr, 14, none⟩ = some (.int .u64 0) ∧ wx.cell? ⟨pr, 15, none⟩ = some (.int .u64 0) ∧ wx.cell? ⟨pr, 16, none⟩ = some (.int .u64 0) ∧ wx.cell? ⟨pr, 17, none⟩ = some (.int .u64 0) ∧ wx.frozen? ⟨pr, 0, none⟩ = false ∧ wx.frozen? ⟨pr, 1, none⟩ = false ∧ wx.frozen? ⟨pr, 2, none⟩ = false ∧ wx.frozen? ⟨pr, 3, none⟩ = false ∧ wx.frozen? ⟨pr, 4, none⟩ = false ∧ wx.frozen? ⟨pr, 5, none⟩ = false ∧ wx.frozen? ⟨pr, 6, none⟩ = false ∧ wx.frozen? ⟨pr, 7, none⟩ = false ∧ wx.frozen? ⟨pr, 8, none⟩ = false ∧ wx.frozen? ⟨pr, 9, none⟩ = false ∧ wx.frozen? ⟨pr, 10, none⟩ = false ∧ wx.frozen? ⟨pr, 11, none⟩ = false ∧ wx.frozen? ⟨pr, 12, none⟩ = false ∧ wx.frozen? ⟨pr, 13, none⟩ = false ∧ wx.frozen? ⟨pr, 14, none⟩ = false ∧ wx.frozen? ⟨pr, 15, none⟩ = false ∧ wx.frozen? ⟨pr, 16, none⟩ = false ∧ wx.frozen? ⟨pr, 17, none⟩ = false := by
  have h1 := h.res
  have h8 := h.s8
  have h9 := h.s9
  refine ⟨⟨by simp [World.cell?, h8], by simp [World.cell?, h8], by simp [World.cell?, h9], by simp [World.cell?, h9]⟩, ?_⟩
  simp [World.cell?, World.frozen?, h1]
theorem RA.ne8 {w wx : World} {pr b8 b9 : Nat} {x0 x1 y0 y1 : Value} (h : RA w wx pr b8 b9 x0 x1 y0 y1) : ¬ b8 = pr := fun e => by
  have h1 := h.res
  have h2 := h.s8
  rw [e, h1] at h2
  simp at h2
theorem RA.ne9 {w wx : World} {pr b8 b9 : Nat} {x0 x1 y0 y1 : Value} (h : RA w wx pr b8 b9 x0 x1 y0 y1) : ¬ b9 = pr := fun e => by
  have h1 := h.res
  have h2 := h.s9
  rw [e, h1] at h2
  simp at h2
theorem setCell_far {w : World} {p b j k : Nat} (h : ¬ b = p) (u : Value) : (w.setCell ⟨p, j, none⟩ u).cell? ⟨b, k, none⟩ = w.cell? ⟨b, k, none⟩ := by
  simp [World.cell?, World.setCell, Array.getElem?_modify, Ne.symm h]
theorem set18_far {wx : World} {pr b8 b9 : Nat} {v0 v1 v2 v3 v4 v5 v6 v7 v8 v9 v10 v11 v12 v13 v14 v15 v16 v17 x0 x1 x2 x3 : Value} (n8 : ¬ b8 = pr) (n9 : ¬ b9 = pr) (h : wx.cell? ⟨b8, 0, none⟩ = some x0 ∧ wx.cell? ⟨b8, 1, none⟩ = some x1 ∧ wx.cell? ⟨b9, 0, none⟩ = some x2 ∧ wx.cell? ⟨b9, 1, none⟩ = some x3) :
    ((((((((((((((((((wx.setCell ⟨pr, 0, none⟩ v0).setCell ⟨pr, 1, none⟩ v1).setCell ⟨pr, 2, none⟩ v2).setCell ⟨pr, 3, none⟩ v3).setCell ⟨pr, 4, none⟩ v4).setCell ⟨pr, 5, none⟩ v5).setCell ⟨pr, 6, none⟩ v6).setCell ⟨pr, 7, none⟩ v7).setCell ⟨pr, 8, none⟩ v8).setCell ⟨pr, 9, none⟩ v9).setCell ⟨pr, 10, none⟩ v10).setCell ⟨pr, 11, none⟩ v11).setCell ⟨pr, 12, none⟩ v12).setCell ⟨pr, 13, none⟩ v13).setCell ⟨pr, 14, none⟩ v14).setCell ⟨pr, 15, none⟩ v15).setCell ⟨pr, 16, none⟩ v16).setCell ⟨pr, 17, none⟩ v17).cell? ⟨b8, 0, none⟩ = some x0 ∧ ((((((((((((((((((wx.setCell ⟨pr, 0, none⟩ v0).setCell ⟨pr, 1, none⟩ v1).setCell ⟨pr, 2, none⟩ v2).setCell ⟨pr, 3, none⟩ v3).setCell ⟨pr, 4, none⟩ v4).setCell ⟨pr, 5, none⟩ v5).setCell ⟨pr, 6, none⟩ v6).setCell ⟨pr, 7, none⟩ v7).setCell ⟨pr, 8, none⟩ v8).setCell ⟨pr, 9, none⟩ v9).setCell ⟨pr, 10, none⟩ v10).setCell ⟨pr, 11, none⟩ v11).setCell ⟨pr, 12, none⟩ v12).setCell ⟨pr, 13, none⟩ v13).setCell ⟨pr, 14, none⟩ v14).setCell ⟨pr, 15, none⟩ v15).setCell ⟨pr, 16, none⟩ v16).setCell ⟨pr, 17, none⟩ v17).cell? ⟨b8, 1, none⟩ = some x1 ∧ ((((((((((((((((((wx.setCell ⟨pr, 0, none⟩ v0).setCell ⟨pr, 1, none⟩ v1).setCell ⟨pr, 2, none⟩ v2).setCell ⟨pr, 3, none⟩ v3).setCell ⟨pr, 4, none⟩ v4).setCell ⟨pr, 5, none⟩ v5).setCell ⟨pr, 6, none⟩ v6).setCell ⟨pr, 7, none⟩ v7).setCell ⟨pr, 8, none⟩ v8).setCell ⟨pr, 9, none⟩ v9).setCell ⟨pr, 10, none⟩ v10).setCell ⟨pr, 11, none⟩ v11).setCell ⟨pr, 12, none⟩ v12).setCell ⟨pr, 13, none⟩ v13).setCell ⟨pr, 14, none⟩ v14).setCell ⟨pr, 15, none⟩ v15).setCell ⟨pr, 16, none⟩ v16).setCell ⟨pr, 17, none⟩ v17).cell? ⟨b9, 0, none⟩ = some x2 ∧ ((((((((((((((((((wx.setCell ⟨pr, 0, none⟩ v0).setCell ⟨pr, 1, none⟩ v1).setCell ⟨pr, 2, none⟩ v2).setCell ⟨pr, 3, none⟩ v3).setCell ⟨pr, 4, none⟩ v4).setCell ⟨pr, 5, none⟩ v5).setCell ⟨pr, 6, none⟩ v6).setCell ⟨pr, 7, none⟩ v7).setCell ⟨pr, 8, none⟩ v8).setCell ⟨pr, 9, none⟩ v9).setCell ⟨pr, 10, none⟩ v10).setCell ⟨pr, 11, none⟩ v11).setCell ⟨pr, 12, none⟩ v12).setCell ⟨pr, 13, none⟩ v13).setCell ⟨pr, 14, none⟩ v14).setCell ⟨pr, 15, none⟩ v15).setCell ⟨pr, 16, none⟩ v16).setCell ⟨pr, 17, none⟩ v17).cell? ⟨b9, 1, none⟩ = some x3 := by
  simp only [setCell_far n8, setCell_far n9]
  exact h
theorem set18_heap {wx : World} {pr : Nat} {t : TypeId} {v0 v1 v2 v3 v4 v5 v6 v7 v8 v9 v10 v11 v12 v13 v14 v15 v16 v17 : Value} (h : wx.heap[pr]? = some (.cells #[.int .u64 0, .int .u64 0, .int .u64 0, .int .u64 0, .int .u64 0, .int .u64 0, .int .u64 0, .int .u64 0, .int .u64 0, .int .u64 0, .int .u64 0, .int .u64 0, .int .u64 0, .int .u64 0, .int .u64 0, .int .u64 0, .int .u64 0, .int .u64 0] t (0, 0))) : ((((((((((((((((((wx.setCell ⟨pr, 0, none⟩ v0).setCell ⟨pr, 1, none⟩ v1).setCell ⟨pr, 2, none⟩ v2).setCell ⟨pr, 3, none⟩ v3).setCell ⟨pr, 4, none⟩ v4).setCell ⟨pr, 5, none⟩ v5).setCell ⟨pr, 6, none⟩ v6).setCell ⟨pr, 7, none⟩ v7).setCell ⟨pr, 8, none⟩ v8).setCell ⟨pr, 9, none⟩ v9).setCell ⟨pr, 10, none⟩ v10).setCell ⟨pr, 11, none⟩ v11).setCell ⟨pr, 12, none⟩ v12).setCell ⟨pr, 13, none⟩ v13).setCell ⟨pr, 14, none⟩ v14).setCell ⟨pr, 15, none⟩ v15).setCell ⟨pr, 16, none⟩ v16).setCell ⟨pr, 17, none⟩ v17).heap[pr]? = some (.cells #[v0, v1, v2, v3, v4, v5, v6, v7, v8, v9, v10, v11, v12, v13, v14, v15, v16, v17] t (0, 0)) := by
  simp [World.setCell, Array.getElem?_modify, h]
theorem set18_out {w wx : World} {pr : Nat} {v0 v1 v2 v3 v4 v5 v6 v7 v8 v9 v10 v11 v12 v13 v14 v15 v16 v17 : Value} (h : Out w wx) (hp : w.heap.size ≤ pr) : Out w ((((((((((((((((((wx.setCell ⟨pr, 0, none⟩ v0).setCell ⟨pr, 1, none⟩ v1).setCell ⟨pr, 2, none⟩ v2).setCell ⟨pr, 3, none⟩ v3).setCell ⟨pr, 4, none⟩ v4).setCell ⟨pr, 5, none⟩ v5).setCell ⟨pr, 6, none⟩ v6).setCell ⟨pr, 7, none⟩ v7).setCell ⟨pr, 8, none⟩ v8).setCell ⟨pr, 9, none⟩ v9).setCell ⟨pr, 10, none⟩ v10).setCell ⟨pr, 11, none⟩ v11).setCell ⟨pr, 12, none⟩ v12).setCell ⟨pr, 13, none⟩ v13).setCell ⟨pr, 14, none⟩ v14).setCell ⟨pr, 15, none⟩ v15).setCell ⟨pr, 16, none⟩ v16).setCell ⟨pr, 17, none⟩ v17) := by
  repeat (refine Out.setCell ?_ hp _)
  exact h
set_option maxRecDepth 8000 in
set_option maxHeartbeats 4000000 in
theorem rowAt_zero (w : World) (p g off n c T place begin : Nat) (h0 : w.cell? ⟨p, 0, none⟩ = some (.slice (some ⟨g, off, none⟩) n c)) (h1 : w.cell? ⟨p, 1, none⟩ = some (.int .i64 T)) (hT : T ≤ 1000000000000) (hb : begin ≤ T) (hn : n ≤ 1000000000000) (hn64 : 64 ≤ n) (hp : place ≤ 1000000000000) (hpt : place = T) :
    Calls Try.prog 50 #[.pointer (some ⟨p, 0, none⟩), .int .i64 place, .int .i64 begin] w fun e w' => e = .returned (.agg (rowW T n place begin).cs.toArray) ∧ Out w w' := by
  have hTI : (T : Int) ≤ 1000000000000 := by omega
  have hbI : (begin : Int) ≤ T := by omega
  have hnI : (n : Int) ≤ 1000000000000 := by omega
  have hpI : (place : Int) ≤ 1000000000000 := by omega
  have hn64I : (64 : Int) ≤ n := by omega
  have hlt := World.block_lt_of_cell? w _ h0
  obtain ⟨pr, hpr⟩ : ∃ pr, pr = w.heap.size := ⟨_, rfl⟩
  have HZ : Hid ((w.alloc (.cells #[.int .u64 0, .int .u64 0, .int .u64 0, .int .u64 0, .int .u64 0, .int .u64 0, .int .u64 0, .int .u64 0, .int .u64 0, .int .u64 0, .int .u64 0, .int .u64 0, .int .u64 0, .int .u64 0, .int .u64 0, .int .u64 0, .int .u64 0, .int .u64 0] 79)).heap[pr]? = some (.cells #[.int .u64 0, .int .u64 0, .int .u64 0, .int .u64 0, .int .u64 0, .int .u64 0, .int .u64 0, .int .u64 0, .int .u64 0, .int .u64 0, .int .u64 0, .int .u64 0, .int .u64 0, .int .u64 0, .int .u64 0, .int .u64 0, .int .u64 0, .int .u64 0] 79 (0, 0))) := hidOf (by rw [hpr]; exact heap_alloc_new w _)
  have Ho := hidOf ((Out.refl w).alloc (.cells #[.int .u64 0, .int .u64 0, .int .u64 0, .int .u64 0, .int .u64 0, .int .u64 0, .int .u64 0, .int .u64 0, .int .u64 0, .int .u64 0, .int .u64 0, .int .u64 0, .int .u64 0, .int .u64 0, .int .u64 0, .int .u64 0, .int .u64 0, .int .u64 0] 79))
  have h0' := cell_later Ho.out h0
  have h1' := cell_later Ho.out h1
  clear h0 h1 hlt
  go_enter Try.func50, Try.ntmps50
  go_upto_region 1 with fail
  rw [← hpr]
  have Hpr := hidOf hpr
  clear hpr
  generalize w.alloc (.cells #[.int .u64 0, .int .u64 0, .int .u64 0, .int .u64 0, .int .u64 0, .int .u64 0, .int .u64 0, .int .u64 0, .int .u64 0, .int .u64 0, .int .u64 0, .int .u64 0, .int .u64 0, .int .u64 0, .int .u64 0, .int .u64 0, .int .u64 0, .int .u64 0] 79) = W0 at *
  have U := hidOf (fun k wx => upTo_of (W := W0) k wx)
  have O0 := hidOf (Out.refl W0)
  go_upto_region 3 with (go_at_call 71; refine (U.out _ _ (Hid.out (by assumption))).mono ?_; rintro e wu ⟨rfl, hOu⟩; have HOu := hidOf hOu; clear hOu)
  obtain ⟨b8, hb8⟩ : ∃ b8, b8 = wu.heap.size := ⟨_, rfl⟩
  have HRA : Hid (RA w ((wu.alloc (.cells #[.int .u64 0, .int .u64 ((jw 4294967295 : Nat) : Int)] 76)).alloc (.cells #[.int .u64 0, .int .u64 ((jw 9223372036854775807 : Nat) : Int)] 76)) pr b8 (b8 + 1) (.int .u64 0) (.int .u64 ((jw 4294967295 : Nat) : Int)) (.int .u64 0) (.int .u64 ((jw 9223372036854775807 : Nat) : Int))) := by
    refine ⟨((Ho.out.trans HOu.out).alloc _).alloc _, ?_, ?_, ?_⟩
    · have o := (HOu.out.alloc (.cells #[.int .u64 0, .int .u64 ((jw 4294967295 : Nat) : Int)] 76)).alloc (.cells #[.int .u64 0, .int .u64 ((jw 9223372036854775807 : Nat) : Int)] 76)
      exact (o.block _ (Array.getElem?_eq_some_iff.1 HZ.out).1).trans HZ.out
    · rw [hb8]; exact (Below.heap_alloc _ _ _ (by rw [size_alloc]; omega)).trans (heap_alloc_new wu _)
    · rw [hb8]; exact heap_new2 wu _ _
  have HW4 : Hid (Out W0 ((wu.alloc (.cells #[.int .u64 0, .int .u64 ((jw 4294967295 : Nat) : Int)] 76)).alloc (.cells #[.int .u64 0, .int .u64 ((jw 9223372036854775807 : Nat) : Int)] 76))) := hidOf ((HOu.out.alloc _).alloc _)
  rw [← hb8]
  clear hb8
  generalize (wu.alloc (.cells #[.int .u64 0, .int .u64 ((jw 4294967295 : Nat) : Int)] 76)).alloc (.cells #[.int .u64 0, .int .u64 ((jw 9223372036854775807 : Nat) : Int)] 76) = W4 at *
  have c0 := cell_later HW4.out h0'
  have c1 := cell_later HW4.out h1'
  clear h0' h1' U O0
  have hbeq : ((place : Int) == T) = true := by simp [hpt]
  have HR1 : Hid (rowW T n place begin = zRw) := hidOf (by rw [rowW, if_pos hpt])
  clear hpt
  go_upto_region 5 with fail
  refine wp_region_lit ?_
  refine wpList_plain rfl fun K hK => ?_
  go_simp
  refine hK _ _ ?_
  clear hK
  refine wpList_store_row rfl 79 (.tmp 6) (.tmp 26) rfl pr #[.int .u64 0, .int .u64 0, .int .u64 0, .int .u64 0, .int .u64 0, .int .u64 0, .int .u64 0, .int .u64 0, .int .u64 0, .int .u64 0, .int .u64 0, .int .u64 0, .int .u64 0, .int .u64 0, .int .u64 0, .int .u64 0, .int .u64 0, .int .u64 0] #[.int .u64 0, .int .u64 0, .int .u64 0, .int .u64 0, .int .u64 0, .int .u64 0, .int .u64 0, .int .u64 0, .int .u64 0, .int .u64 0, .int .u64 0, .int .u64 0, .int .u64 0, .int .u64 0, .int .u64 0, .int .u64 0, .int .u64 0, .int .u64 0] HRA.out.res rfl rfl sizeRw rfl (rw_one zRw) ?_
  refine wpList_nil ?_
  simp only [Act.put, List.setIfInBounds_toArray, List.set_cons_zero, List.set_cons_succ]
  go_wp2
  refine bodyPost_ret (results_cell_row rfl _ _ pr 79 _ (0, 0) _ rfl (setRow_heap _ _ _ _ _ _ HRA.out.res) Try.underlying79 rfl sizeRw) rfl ?_
  refine ⟨by rw [HR1.out]; rfl, ?_⟩
  exact Below.trans HRA.out.out ⟨rfl, rfl, rfl, by simp [World.setRow], fun k hk => setRow_other _ _ _ _ (by have := Hpr.out; omega)⟩
end Go.Proofs.Ytlfcjbeldnkkoaa
