import Derived.RangeFuncNested
import Derived.RangeFuncBound
import Derived.RangeFuncCalls
import Derived.RangeFuncLeaves
import Derived.Shelf.Abstract
import Derived.Shelf.RegionOpen
import Derived.WalkKit
import Derived.OwnWalkIn
import Derived.TacticsInMore
import Derived.LoopNIn
import Derived.LoopIn
import Derived.Test.YtcjhgihpahnnoabGreatDoorProg
import Derived.Test.YtcjhgihpahnnoabGreatDoorGi
import Derived.Deep.MidRow
import Derived.Test.YtcjhgihpahnnoabGreatDoorGo
import Derived.Test.YtcjhgihpahnnoabGreatDoorGm
namespace Go.Proofs.YtcjhgihpahnnoabGreatDoor
open Go.RowKit Go.Shelf
set_option linter.unusedVariables false
set_option linter.unusedSimpArgs false
attribute [local go_sem] Oper.semAt_some
theorem room_of_none {F : Fence} (hd : F.depth = none) (k : Nat) : F.room k := fun d h => by rw [hd] at h; cases h
/-- a round wants no depth of its own where the fence has none -/
theorem round_any {F : Fence} (hd : F.depth = none) {m m' : Nat} {P : Program} {l : Nat} {f : FuncId} {tmps : Array Value} {assign body : Code} {w : World} {R : Ending → World → Prop} (h : RoundIn F m P l f tmps assign body w R) : RoundIn F m' P l f tmps assign body w R := ⟨h.1, fun c cs _ => h.2 c cs (room_of_none hd _)⟩
theorem yield_any {F : Fence} (hd : F.depth = none) {m : Nat} (m' : Nat) {P : Program} {l : Nat} {args : Array Value} {W : World} {R : Ending → World → Prop} (h : YieldAt F m P l args W R) : YieldAt F m' P l args W R := by
  obtain ⟨fn, tmps, assign, body, hy, hR⟩ := h
  exact ⟨fn, tmps, assign, body, hy, round_any hd hR⟩
/-- what tell says of an empty word -/
theorem tell_nil (F : Fence) (hf : F.fn 48) (hro : F.round = none) (n : Nat) (m : Value) (o s f i : Int) (hm : m = .agg #[.int .u8 o, .int .u8 s, .int .u8 f, .int .u8 i]) (q : Value) (W : World) :
    CallsIn F n Tryz.prog 48 #[.string ⟨#[]⟩, m, q] W fun e W' => e = .returned (.bool true) ∧ W' = W.alloc (.cells #[.int .u8 o, .int .u8 s, .int .u8 f, .int .u8 i] 41) := by
  subst hm
  refine callsIn_of_wp Tryz.func48 rfl hf ?_ hro
  simp only [Tryz.ntmps48, List.size_toArray, List.length_cons, List.length_nil, Nat.reduceAdd, Nat.reduceSub, Array.replicate_succ, Array.replicate_zero, List.push_toArray, List.append_toArray, List.nil_append, List.cons_append]
  gi_wp2
  refine ⟨fun _ h => (by cases h), ?_⟩
  gi_wp2
  go_ret
  exact ⟨rfl, rfl⟩
/-- what tell does with a word -/
theorem tell_some (F : Fence) (hd : F.depth = none) (hf : F.fn 48) (hro : F.round = none) (n l Bq : Nat) (t : List UInt8) (ht : t.isEmpty = false) (o s f i : Int) (W : World) (hB : W.cell? ⟨Bq, 0, none⟩ = some (.func (.yield l) #[] #[])) (A B : World → Prop)
    (hY : YieldAt F (n - 1) Tryz.prog l #[.string ⟨t.toArray⟩, .agg #[.int .u8 o, .int .u8 s, .int .u8 f, .int .u8 i]] (W.alloc (.cells #[.int .u8 o, .int .u8 s, .int .u8 f, .int .u8 i] 41)) fun e W' => (e = .returned (.bool true) ∧ A W') ∨ (e = .returned (.bool false) ∧ B W')) :
    CallsIn F n Tryz.prog 48 #[.string ⟨t.toArray⟩, .agg #[.int .u8 o, .int .u8 s, .int .u8 f, .int .u8 i], .pointer (some ⟨Bq, 0, none⟩)] W fun e W' => (e = .returned (.bool true) ∧ A W') ∨ (e = .returned (.bool false) ∧ B W') := by
  have hdd : ∀ k : Nat, (F.depth.isSome = true → 1 ≤ k) := fun k h => by rw [hd] at h; cases h
  obtain ⟨fn, tmps, assign, body, hy, hR⟩ := hY
  refine callsIn_of_wp Tryz.func48 rfl hf ?_ hro
  simp only [Tryz.ntmps48, List.size_toArray, List.length_cons, List.length_nil, Nat.reduceAdd, Nat.reduceSub, Array.replicate_succ, Array.replicate_zero, List.push_toArray, List.append_toArray, List.nil_append, List.cons_append]
  have hB2 : (W.alloc (.cells #[.int .u8 o, .int .u8 s, .int .u8 f, .int .u8 i] 41)).cell? ⟨Bq, 0, none⟩ = some (.func (.yield l) #[] #[]) := cell_kept hB (World.grownBy_alloc W _ none) (by simp)
  gi_wp2_with ((try refine ⟨hdd _, ?_⟩); refine hR.mono ?_; clear hR; rintro e W2 (⟨rfl, hA⟩ | ⟨rfl, hBb⟩))
  · go_ret
    exact .inl ⟨rfl, hA⟩
  · go_ret
    exact .inr ⟨rfl, hBb⟩
end Go.Proofs.YtcjhgihpahnnoabGreatDoor
namespace Go.Proofs.YtcjhgihpahnnoabGreatDoor
open Go.RowKit Go.Shelf
set_option linter.unusedVariables false
set_option linter.unusedSimpArgs false
attribute [local go_sem] Oper.semAt_some
theorem wpListIn_load_mid {F : Fence} {n : Nat} {P : Program} {ops : Array Oper} {rest : List Oper} {op : Oper} {a : Act} {w : World} {Q : Exit → Act → World → Prop} (hgd : op.guard = none) (ty : TypeId) (x : Operand) (ho : op.op = .load ty x)
    (b o : Nat) (hx : a.eval x = .pointer (some ⟨b, o, none⟩)) (cs : List Value) (d : TypeDesc) (hc : w.rangeAt b o cs)
    (hu : P.underlying ty = some d) (hd : d.isRow = true) (hi : (P.info? ty).map (·.size) = some cs.length)
    (h : wpListIn F n P ops Q rest (a.put op.dst (.agg cs.toArray)) w) : wpListIn F n P ops Q (op :: rest) a w := by
  refine wpListIn_plain hgd fun K hK => ?_
  unfold Oper.wpIn
  refine ⟨?_, ?_⟩
  · simp [Oper.about, ho]
  · rw [Oper.semAt_plain F _ _ (by rw [ho]; intro c hc'; cases hc')]
    simp only [execOp, ho, hx, Instr.loadAt, Instr.sureAddr, Sem.run_bind, Sem.run_pure, Result.andThen_ok, run_loadVar_mid w b o ty cs d hc hu hd hi]
    exact hK _ _ h
/-- all blocks of cells are as they were -/
def KC (W W' : World) : Prop := W.heap.size ≤ W'.heap.size ∧ ∀ (b : Nat) (cs : Array Value) (t : TypeId) (fr : Nat × Nat), W.heap[b]? = some (Obj.cells cs t fr) → W'.heap[b]? = some (Obj.cells cs t fr)
theorem KC.refl (W : World) : KC W W := ⟨Nat.le_refl _, fun _ _ _ _ h => h⟩
theorem KC.trans {A B C : World} (h : KC A B) (k : KC B C) : KC A C := ⟨Nat.le_trans h.1 k.1, fun b cs t fr hb => k.2 b cs t fr (h.2 b cs t fr hb)⟩
theorem KC.alloc (W : World) (o : Obj) : KC W (W.alloc o) := ⟨by simp, fun b cs t fr hb => (Below.heap_alloc W o b (Array.getElem?_eq_some_iff.1 hb).1).trans hb⟩
theorem KC.cell {W W' : World} (h : KC W W') {b j : Nat} {v : Value} (hc : W.cell? ⟨b, j, none⟩ = some v) : W'.cell? ⟨b, j, none⟩ = some v := by
  unfold World.cell? at hc ⊢
  cases hb : W.heap[b]? with
  | none => simp [hb] at hc
  | some o =>
    cases o with
    | cells cs t fr => rw [hb] at hc; rw [h.2 b cs t fr hb]; exact hc
    | _ => simp [hb] at hc
theorem KC.range {W W' : World} (h : KC W W') {b : Nat} {cs : List Value} (hr : W.rangeAt b 0 cs) : W'.rangeAt b 0 cs := fun j v hj => h.cell (hr j v hj)
def live (L : List (List UInt8 × Mn)) : List (List UInt8 × Mn) := L.filter (fun x => !x.1.isEmpty)
def encM (x : List UInt8 × Mn) : Array Value := #[.string ⟨x.1.toArray⟩, mnV x.2]
theorem tell_any (F : Fence) (hd : F.depth = none) (hro : F.round = none) (h105 : F.fn 48) (n l Bq N0 N : Nat) (J Jx : List (List UInt8 × Mn) → World → Prop) (hJ : AbidesFrom N0 J)
    (hY : ∀ m pre x W1, J pre W1 → pre.length < N → YieldAt F m Tryz.prog l (encM x) W1 fun e W' => (e = .returned (.bool true) ∧ J (pre ++ [x]) W' ∧ KC W1 W') ∨ (e = .returned (.bool false) ∧ Jx (pre ++ [x]) W'))
    (t : List UInt8) (o s f i : Int) (pre : List (List UInt8 × Mn)) (W : World) (hB : W.cell? ⟨Bq, 0, none⟩ = some (.func (.yield l) #[] #[])) (hp : J pre W) (hlen : pre.length < N) :
    CallsIn F n Tryz.prog 48 #[.string ⟨t.toArray⟩, .agg #[.int .u8 o, .int .u8 s, .int .u8 f, .int .u8 i], .pointer (some ⟨Bq, 0, none⟩)] W fun e W' => (e = .returned (.bool true) ∧ J (pre ++ live [(t, (o, s, f, i))]) W' ∧ KC W W') ∨ (e = .returned (.bool false) ∧ Jx (pre ++ live [(t, (o, s, f, i))]) W') := by
  have hA := hJ pre W (W.alloc (.cells #[.int .u8 o, .int .u8 s, .int .u8 f, .int .u8 i] 41)) none hp (World.grownBy_alloc W _ none) (fun r e => by cases e)
  have hk := KC.alloc W (.cells #[.int .u8 o, .int .u8 s, .int .u8 f, .int .u8 i] 41)
  cases t with
  | nil =>
    refine (tell_nil F h105 hro n _ o s f i rfl _ W).mono ?_
    rintro e W' ⟨rfl, rfl⟩
    exact .inl ⟨rfl, by simpa [live] using hA, hk⟩
  | cons c r =>
    have hl : live [(c :: r, (o, s, f, i))] = [(c :: r, (o, s, f, i))] := rfl
    rw [hl]
    refine (tell_some F hd h105 hro n l Bq (c :: r) rfl o s f i W hB (fun W' => J (pre ++ [(c :: r, (o, s, f, i))]) W' ∧ KC W W') (fun W' => Jx (pre ++ [(c :: r, (o, s, f, i))]) W') ?_)
    exact YieldAt.mono (hY (n - 1) pre (c :: r, (o, s, f, i)) _ hA hlen) (fun e W' h => h.elim (fun ⟨h1, h2, h3⟩ => .inl ⟨h1, h2, hk.trans h3⟩) .inr)
theorem lenp {a : List (List UInt8 × Mn)} {N : Nat} (h : a <+: mnAll) (hN : mnAll.length < N) : (live a).length < N := by
  have h1 := (h.filter (fun x => !x.1.isEmpty)).length_le
  have h2 := List.length_filter_le (fun x : List UInt8 × Mn => !x.1.isEmpty) mnAll
  unfold live
  omega
theorem lenp2 {a b : List (List UInt8 × Mn)} {x y : List UInt8 × Mn} {N : Nat} (st : b = (a ++ [x]) ++ [y]) (h : b <+: mnAll) (hN : mnAll.length < N) : (live a ++ live [x]).length < N := by
  have := lenp (a := a ++ [x]) (((List.prefix_append _ _).trans (by rw [← st]; exact List.prefix_refl _)).trans h) hN
  unfold live at this ⊢
  rwa [List.filter_append] at this
theorem or_of (x : Int) (k : Nat) (hk : k < 14) (hx : ∀ k : Fin 14, bits BinOp.or IntKind.u8 ((k.val : Int) * 16) x = (k.val : Int) * 16 + x) : bits BinOp.or IntKind.u8 ((k : Int) * 16) x = (k : Int) * 16 + x := hx ⟨k, hk⟩
set_option maxRecDepth 40000 in
set_option maxHeartbeats 4000000 in
theorem each_in (F : Fence) (hd : F.depth = none) (hro : F.round = none) (h66 : F.fn 29) (h105 : F.fn 48) (n l N : Nat) (hN : mnAll.length < N) (J Jx : List (List UInt8 × Mn) → World → Prop) (W : World) (hJ : AbidesFrom W.heap.size J) (hJx : AbidesFrom W.heap.size Jx)
    (hY : ∀ m pre x W1, J pre W1 → pre.length < N → YieldAt F m Tryz.prog l (encM x) W1 fun e W' => (e = .returned (.bool true) ∧ J (pre ++ [x]) W' ∧ KC W1 W') ∨ (e = .returned (.bool false) ∧ Jx (pre ++ [x]) W')) (h0 : J [] W)
    (c1 : List Value) (r1 : W.rangeAt 2 0 c1) (s1 : (Tryz.prog.info? 91).map (·.size) = some c1.length) (A1 B1 : Nat → List UInt8)
    (hix1 : ∀ (k : Nat), (k : Int) < 13 → ∀ w : World, (Instr.index 91 (.agg c1.toArray) (.int .i64 k)).run Tryz.prog w = .ok (.agg #[.string ⟨(A1 k).toArray⟩, .string ⟨(B1 k).toArray⟩]) w)
    (e1 : ∀ k, k < 13 → mnR (k + 1) = (mnR k ++ [(A1 k, ((k : Int) * 16 + 7, 0, 0, 0))]) ++ [(B1 k, ((k : Int) * 16 + 4, 0, 0, 0))]) (p1 : ∀ k, k ≤ 13 → mnR k <+: mnAll)
    (c2 : List Value) (r2 : W.rangeAt 0 0 c2) (s2 : (Tryz.prog.info? 82).map (·.size) = some c2.length) (A2 B2 : Nat → List UInt8)
    (hix2 : ∀ (k : Nat), (k : Int) < 14 → ∀ w : World, (Instr.index 82 (.agg c2.toArray) (.int .i64 k)).run Tryz.prog w = .ok (.agg #[.string ⟨(A2 k).toArray⟩, .string ⟨(B2 k).toArray⟩]) w)
    (e2 : ∀ k, k < 14 → mnJ (k + 1) = (mnJ k ++ [(A2 k, ((k : Int) * 16 + 5, 0, 0, 0))]) ++ [(B2 k, ((k : Int) * 16 + 6, 0, 0, 0))]) (p2 : ∀ k, k ≤ 14 → mnJ k <+: mnAll)
    (c3 : List Value) (r3 : W.rangeAt 3 0 c3) (s3 : (Tryz.prog.info? 94).map (·.size) = some c3.length) (A3 : Nat → Int) (W3 : Nat → Nat → List UInt8)
    (hix3 : ∀ (k : Nat), (k : Int) < 4 → ∀ w : World, (Instr.index 94 (.agg c3.toArray) (.int .i64 k)).run Tryz.prog w = .ok (.agg #[.int .u8 (A3 k), .string ⟨(W3 k 0).toArray⟩, .string ⟨(W3 k 1).toArray⟩, .string ⟨(W3 k 2).toArray⟩, .string ⟨(W3 k 3).toArray⟩]) w)
    (hix3' : ∀ (k j : Nat), (j : Int) < 4 → ∀ w : World, (Instr.index 92 (.agg #[.string ⟨(W3 k 0).toArray⟩, .string ⟨(W3 k 1).toArray⟩, .string ⟨(W3 k 2).toArray⟩, .string ⟨(W3 k 3).toArray⟩]) (.int .i64 j)).run Tryz.prog w = .ok (.string ⟨(W3 k j).toArray⟩) w)
    (o3 : ∀ k j : Nat, k < 4 → j < 4 → bits BinOp.or IntKind.u8 (A3 k) ((j : Int) * 8) = A3 k + (j : Int) * 8) (e3 : ∀ k j : Nat, k < 4 → j < 4 → mnM k (j + 1) = mnM k j ++ [(W3 k j, (A3 k + (j : Int) * 8, 0, 0, 0))]) (p3 : ∀ k j, k < 4 → j ≤ 4 → mnM k j <+: mnAll)
    (c4 : List Value) (r4 : W.rangeAt 4 0 c4) (s4 : (Tryz.prog.info? 96).map (·.size) = some c4.length) (A4 B4 : Nat → Int) (T4 : Nat → List UInt8)
    (hix4 : ∀ (k : Nat), (k : Int) < 9 → ∀ w : World, (Instr.index 96 (.agg c4.toArray) (.int .i64 k)).run Tryz.prog w = .ok (.agg #[.int .u8 (A4 k), .int .u8 (B4 k), .string ⟨(T4 k).toArray⟩]) w)
    (e4 : ∀ k, k < 9 → mnO (k + 1) = mnO k ++ [(T4 k, (A4 k, 0, B4 k, 0))]) (p4 : ∀ k, k ≤ 9 → mnO k <+: mnAll)
    (c5 : List Value) (r5 : W.rangeAt 5 0 c5) (s5 : (Tryz.prog.info? 98).map (·.size) = some c5.length) (A5 B5 : Nat → Int) (T5 : Nat → List UInt8)
    (hix5 : ∀ (k : Nat), (k : Int) < 29 → ∀ w : World, (Instr.index 98 (.agg c5.toArray) (.int .i64 k)).run Tryz.prog w = .ok (.agg #[.int .u8 (A5 k), .int .u8 (B5 k), .string ⟨(T5 k).toArray⟩]) w)
    (e5 : ∀ k, k < 29 → mnI (k + 1) = mnI k ++ [(T5 k, (A5 k, 0, 0, B5 k))]) (p5 : ∀ k, k ≤ 29 → mnI k <+: mnAll) :
    CallsIn F n Tryz.prog 29 #[.func (.yield l) #[] #[]] W fun e W' => (∃ v, e = .returned v) ∧ ((∃ ys, ys = live mnAll ∧ J ys W') ∨ (∃ pre, pre <+: live mnAll ∧ Jx pre W')) := by
  have hdd : ∀ k : Nat, (F.depth.isSome = true → 1 ≤ k) := fun k h => by rw [hd] at h; cases h
  refine callsIn_of_wp Tryz.func29 rfl h66 ?_ hro
  simp only [Tryz.ntmps29, List.size_toArray, List.length_cons, List.length_nil, Nat.reduceAdd, Nat.reduceSub, Array.replicate_succ, Array.replicate_zero, List.push_toArray, List.append_toArray, List.nil_append, List.cons_append]
  have hKb := KC.alloc W (.cells #[.func (.yield l) #[] #[]] 90)
  have r1 := hKb.range r1
  have r2 := hKb.range r2
  have r3 := hKb.range r3
  have r4 := hKb.range r4
  have r5 := hKb.range r5
  gi_wp2_with (refine wpListIn_load_mid rfl 91 (.global 2) rfl 2 0 rfl c1 _ r1 Tryz.underlying91 rfl s1 ?_)
  have hBq : (W.alloc (.cells #[.func (.yield l) #[] #[]] 90)).cell? ⟨W.heap.size, 0, none⟩ = some (.func (.yield l) #[] #[]) := by
    rw [World.cell?, show (W.alloc (.cells #[.func (.yield l) #[] #[]] 90)).heap[W.heap.size]? = some (.cells #[.func (.yield l) #[] #[]] 90) from heap_alloc_new W _]; rfl
  have hJ1 := hJ [] W (W.alloc (.cells #[.func (.yield l) #[] #[]] 90)) none h0 (World.grownBy_alloc W _ none) (fun r e => by cases e)
  clear hKb
  generalize W.alloc (.cells #[.func (.yield l) #[] #[]] 90) = Wb at *
  have hK := KC.refl Wb
  gi_loopw [19] (fun iv wr => ∃ k : Nat, k ≤ 13 ∧ iv = .int .i64 k ∧ J (live (mnR k)) wr ∧ KC Wb wr) (fun iv _ => 13 - (intOf iv).toNat)
  case atStart => exact ⟨0, by omega, rfl, hJ1, hK⟩
  case round =>
    clear hK
    obtain ⟨k, hk, rfl, hJk, hK⟩ := hrel
    by_cases hkN : k < 13
    · have hlt : (k : Int) < 13 := by omega
      have ho1 := or_of 7 k (by omega) (by decide +kernel)
      have ho2 := or_of 4 k (by omega) (by decide +kernel)
      have hBk := hK.cell hBq
      have hkA := KC.alloc wr (.cells #[.string ⟨(A1 k).toArray⟩, .string ⟨(B1 k).toArray⟩] 81)
      have hJa := hJ _ wr (wr.alloc (.cells #[.string ⟨(A1 k).toArray⟩, .string ⟨(B1 k).toArray⟩] 81)) none hJk (World.grownBy_alloc wr _ none) (fun r e => by cases e)
      have hnw : (wr.alloc (.cells #[.string ⟨(A1 k).toArray⟩, .string ⟨(B1 k).toArray⟩] 81)).cell? ⟨wr.heap.size, 1, none⟩ = some (.string ⟨(B1 k).toArray⟩) := by rw [World.cell?, show (wr.alloc (.cells #[.string ⟨(A1 k).toArray⟩, .string ⟨(B1 k).toArray⟩] 81)).heap[wr.heap.size]? = _ from heap_alloc_new wr _]; rfl
      have ct1 := (tell_any F hd hro h105 (n - 1) l W.heap.size W.heap.size N J Jx hJ hY (A1 k) ((k : Int) * 16 + 7) 0 0 0 (live (mnR k)) (wr.alloc (.cells #[.string ⟨(A1 k).toArray⟩, .string ⟨(B1 k).toArray⟩] 81)) (hkA.cell hBk) hJa (lenp (p1 k hk) hN))
      have st := e1 k hkN
      have hpr := p1 (k + 1) (by omega)
      have hlv : live (mnR (k + 1)) = (live (mnR k) ++ live [(A1 k, ((k : Int) * 16 + 7, 0, 0, 0))]) ++ live [(B1 k, ((k : Int) * 16 + 4, 0, 0, 0))] := by rw [st]; unfold live; rw [List.filter_append, List.filter_append]
      have hpl : live (mnR (k + 1)) <+: live mnAll := hpr.filter _
      gi_wp2_with (first | ((try refine ⟨hdd _, ?_⟩); gi_at_call 48; refine ct1.mono ?_; clear ct1; rintro e W1 (⟨rfl, hJ1, hK1⟩ | ⟨rfl, hX⟩); (first | (have qw := hK1.cell hnw) | skip)) | ((try refine ⟨hdd _, ?_⟩); gi_at_call 48; refine (tell_any F hd hro h105 (n - 1) l W.heap.size W.heap.size N J Jx hJ hY (B1 k) ((k : Int) * 16 + 4) 0 0 0 _ W1 (hK1.cell (hkA.cell hBk)) hJ1 (lenp2 st hpr hN)).mono ?_; rintro e W2 (⟨rfl, hJ2, hK2⟩ | ⟨rfl, hX2⟩)))
      · go_roundw
        case rel => exact ⟨k + 1, by omega, by simp, by rw [hlv]; exact hJ2, ((hK.trans hkA).trans hK1).trans hK2⟩
        case measure => simp [intOf]; omega
      · refine bodyPost_ret (results_none rfl _ _ _) rfl ?_
        exact ⟨⟨_, rfl⟩, .inr ⟨_, by rw [← hlv]; exact hpl, hX2⟩⟩
      · refine ⟨fun _ h => (by cases h), ?_⟩
        gi_wp2
        refine bodyPost_ret (results_none rfl _ _ _) rfl ?_
        exact ⟨⟨_, rfl⟩, .inr ⟨_, (by rw [hlv] at hpl; exact (List.prefix_append _ _).trans hpl), hX⟩⟩
    · have hlt : ¬ (k : Int) < 13 := by omega
      obtain rfl : k = 13 := by omega
      gi_wp2_with (refine wpListIn_load_mid rfl 82 (.global 0) rfl 0 0 rfl c2 _ (hK.range r2) Tryz.underlying82 rfl s2 ?_)
      gi_loopw [46] (fun iv wr => ∃ k : Nat, k ≤ 14 ∧ iv = .int .i64 k ∧ J (live (mnJ k)) wr ∧ KC Wb wr) (fun iv _ => 14 - (intOf iv).toNat)
      case atStart => exact ⟨0, by omega, rfl, by rw [mnJ_0]; exact hJk, hK⟩
      case round =>
        clear hK
        obtain ⟨k, hk, rfl, hJk, hK⟩ := hrel
        by_cases hkN : k < 14
        · have hlt : (k : Int) < 14 := by omega
          have ho1 := or_of 5 k (by omega) (by decide +kernel)
          have ho2 := or_of 6 k (by omega) (by decide +kernel)
          have hBk := hK.cell hBq
          have hkA := KC.alloc wr (.cells #[.string ⟨(A2 k).toArray⟩, .string ⟨(B2 k).toArray⟩] 81)
          have hJa := hJ _ wr (wr.alloc (.cells #[.string ⟨(A2 k).toArray⟩, .string ⟨(B2 k).toArray⟩] 81)) none hJk (World.grownBy_alloc wr _ none) (fun r e => by cases e)
          have hnw : (wr.alloc (.cells #[.string ⟨(A2 k).toArray⟩, .string ⟨(B2 k).toArray⟩] 81)).cell? ⟨wr.heap.size, 1, none⟩ = some (.string ⟨(B2 k).toArray⟩) := by rw [World.cell?, show (wr.alloc (.cells #[.string ⟨(A2 k).toArray⟩, .string ⟨(B2 k).toArray⟩] 81)).heap[wr.heap.size]? = _ from heap_alloc_new wr _]; rfl
          have ct1 := (tell_any F hd hro h105 (n - 1) l W.heap.size W.heap.size N J Jx hJ hY (A2 k) ((k : Int) * 16 + 5) 0 0 0 (live (mnJ k)) (wr.alloc (.cells #[.string ⟨(A2 k).toArray⟩, .string ⟨(B2 k).toArray⟩] 81)) (hkA.cell hBk) hJa (lenp (p2 k hk) hN))
          have st := e2 k hkN
          have hpr := p2 (k + 1) (by omega)
          have hlv : live (mnJ (k + 1)) = (live (mnJ k) ++ live [(A2 k, ((k : Int) * 16 + 5, 0, 0, 0))]) ++ live [(B2 k, ((k : Int) * 16 + 6, 0, 0, 0))] := by rw [st]; unfold live; rw [List.filter_append, List.filter_append]
          have hpl : live (mnJ (k + 1)) <+: live mnAll := hpr.filter _
          gi_wp2_with (first | ((try refine ⟨hdd _, ?_⟩); gi_at_call 48; refine ct1.mono ?_; clear ct1; rintro e W1 (⟨rfl, hJ1, hK1⟩ | ⟨rfl, hX⟩); (first | (have qw := hK1.cell hnw) | skip)) | ((try refine ⟨hdd _, ?_⟩); gi_at_call 48; refine (tell_any F hd hro h105 (n - 1) l W.heap.size W.heap.size N J Jx hJ hY (B2 k) ((k : Int) * 16 + 6) 0 0 0 _ W1 (hK1.cell (hkA.cell hBk)) hJ1 (lenp2 st hpr hN)).mono ?_; rintro e W2 (⟨rfl, hJ2, hK2⟩ | ⟨rfl, hX2⟩)))
          · go_roundw
            case rel => exact ⟨k + 1, by omega, by simp, by rw [hlv]; exact hJ2, ((hK.trans hkA).trans hK1).trans hK2⟩
            case measure => simp [intOf]; omega
          · refine bodyPost_ret (results_none rfl _ _ _) rfl ?_
            exact ⟨⟨_, rfl⟩, .inr ⟨_, by rw [← hlv]; exact hpl, hX2⟩⟩
          · refine ⟨fun _ h => (by cases h), ?_⟩
            gi_wp2
            refine bodyPost_ret (results_none rfl _ _ _) rfl ?_
            exact ⟨⟨_, rfl⟩, .inr ⟨_, (by rw [hlv] at hpl; exact (List.prefix_append _ _).trans hpl), hX⟩⟩
        · have hlt : ¬ (k : Int) < 14 := by omega
          obtain rfl : k = 14 := by omega
          gi_wp2_with (refine wpListIn_load_mid rfl 94 (.global 3) rfl 3 0 rfl c3 _ (hK.range r3) Tryz.underlying94 rfl s3 ?_)
          gi_loopw [73] (fun iv wr => ∃ k : Nat, k ≤ 4 ∧ iv = .int .i64 k ∧ J (live (mnM k 0)) wr ∧ KC Wb wr) (fun iv _ => 4 - (intOf iv).toNat)
          case atStart => exact ⟨0, by omega, rfl, by rw [mnM_0]; exact hJk, hK⟩
          case round =>
            clear hK
            obtain ⟨k, hk, rfl, hJk, hK⟩ := hrel
            by_cases hkN : k < 4
            · have hlt : (k : Int) < 4 := by omega
              have hkA := KC.alloc wr (.cells #[.int .u8 (A3 k), .string ⟨(W3 k 0).toArray⟩, .string ⟨(W3 k 1).toArray⟩, .string ⟨(W3 k 2).toArray⟩, .string ⟨(W3 k 3).toArray⟩] 93)
              have hJa := hJ _ wr (wr.alloc (.cells #[.int .u8 (A3 k), .string ⟨(W3 k 0).toArray⟩, .string ⟨(W3 k 1).toArray⟩, .string ⟨(W3 k 2).toArray⟩, .string ⟨(W3 k 3).toArray⟩] 93)) none hJk (World.grownBy_alloc wr _ none) (fun r e => by cases e)
              have hnw : (wr.alloc (.cells #[.int .u8 (A3 k), .string ⟨(W3 k 0).toArray⟩, .string ⟨(W3 k 1).toArray⟩, .string ⟨(W3 k 2).toArray⟩, .string ⟨(W3 k 3).toArray⟩] 93)).cell? ⟨wr.heap.size, 0, none⟩ = some (.int .u8 (A3 k)) := by rw [World.cell?, show (wr.alloc (.cells #[.int .u8 (A3 k), .string ⟨(W3 k 0).toArray⟩, .string ⟨(W3 k 1).toArray⟩, .string ⟨(W3 k 2).toArray⟩, .string ⟨(W3 k 3).toArray⟩] 93)).heap[wr.heap.size]? = _ from heap_alloc_new wr _]; rfl
              have hKo := hK.trans hkA
              gi_wp2
              obtain ⟨w3, hw3⟩ : ∃ w3, w3 = wr := ⟨_, rfl⟩
              rw [← hw3] at hKo hkA hJa hnw ⊢
              generalize hWo : w3.alloc (.cells #[.int .u8 (A3 k), .string ⟨(W3 k 0).toArray⟩, .string ⟨(W3 k 1).toArray⟩, .string ⟨(W3 k 2).toArray⟩, .string ⟨(W3 k 3).toArray⟩] 93) = Wo at *
              generalize w3.heap.size = Br at *
              clear hJk hK hw3
              gi_loopw [78] (fun iv wr => ∃ j : Nat, j ≤ 4 ∧ iv = .int .i64 j ∧ J (live (mnM k j)) wr ∧ KC Wo wr) (fun iv _ => 4 - (intOf iv).toNat)
              case atStart => exact ⟨0, by omega, rfl, hJa, KC.refl _⟩
              case round =>
                obtain ⟨j, hj, rfl, hJk, hKj⟩ := hrel
                have hKw := hKo.trans hKj
                by_cases hjN : j < 4
                · have hltj : (j : Int) < 4 := by omega
                  have hBk := hKw.cell hBq
                  have hrw := hKj.cell hnw
                  have ho3 := o3 k j hkN hjN
                  have ct1 := (tell_any F hd hro h105 (n - 1) l W.heap.size W.heap.size N J Jx hJ hY (W3 k j) (A3 k + (j : Int) * 8) 0 0 0 (live (mnM k j)) wr hBk hJk (lenp (p3 k j hkN hj) hN))
                  have st := e3 k j hkN hjN
                  have hpr := p3 k (j + 1) hkN (by omega)
                  have hlv : live (mnM k (j + 1)) = live (mnM k j) ++ live [(W3 k j, (A3 k + (j : Int) * 8, 0, 0, 0))] := by rw [st]; unfold live; rw [List.filter_append]
                  have hpl : live (mnM k (j + 1)) <+: live mnAll := hpr.filter _
                  gi_wp2_with ((try refine ⟨hdd _, ?_⟩); gi_at_call 48; refine ct1.mono ?_; clear ct1; rintro e W1 (⟨rfl, hJ1, hK1⟩ | ⟨rfl, hX⟩))
                  · go_roundw
                    case rel => exact ⟨j + 1, by omega, by simp, by rw [hlv]; exact hJ1, hKj.trans hK1⟩
                    case measure => simp [intOf]; omega
                  · refine bodyPost_ret (results_none rfl _ _ _) rfl ?_
                    exact ⟨⟨_, rfl⟩, .inr ⟨_, by rw [← hlv]; exact hpl, hX⟩⟩
                · have hltj : ¬ (j : Int) < 4 := by omega
                  obtain rfl : j = 4 := by omega
                  gi_wp2
                  go_roundw
                  case rel => exact ⟨k + 1, by omega, by simp, by rw [mnM_next]; exact hJk, hKw⟩
                  case measure => simp [intOf]; omega
            · have hlt : ¬ (k : Int) < 4 := by omega
              obtain rfl : k = 4 := by omega
              gi_wp2_with (refine wpListIn_load_mid rfl 96 (.global 4) rfl 4 0 rfl c4 _ (hK.range r4) Tryz.underlying96 rfl s4 ?_)
              gi_loopw [96] (fun iv wr => ∃ k : Nat, k ≤ 9 ∧ iv = .int .i64 k ∧ J (live (mnO k)) wr ∧ KC Wb wr) (fun iv _ => 9 - (intOf iv).toNat)
              case atStart => exact ⟨0, by omega, rfl, by rw [mnO_0]; exact hJk, hK⟩
              case round =>
                clear hK
                obtain ⟨k, hk, rfl, hJk, hK⟩ := hrel
                by_cases hkN : k < 9
                · have hlt : (k : Int) < 9 := by omega
                  have hBk := hK.cell hBq
                  have hkA := KC.alloc wr (.cells #[.int .u8 (A4 k), .int .u8 (B4 k), .string ⟨(T4 k).toArray⟩] 95)
                  have hJa := hJ _ wr (wr.alloc (.cells #[.int .u8 (A4 k), .int .u8 (B4 k), .string ⟨(T4 k).toArray⟩] 95)) none hJk (World.grownBy_alloc wr _ none) (fun r e => by cases e)
                  have ct1 := (tell_any F hd hro h105 (n - 1) l W.heap.size W.heap.size N J Jx hJ hY (T4 k) (A4 k) 0 (B4 k) 0 (live (mnO k)) (wr.alloc (.cells #[.int .u8 (A4 k), .int .u8 (B4 k), .string ⟨(T4 k).toArray⟩] 95)) (hkA.cell hBk) hJa (lenp (p4 k hk) hN))
                  have st := e4 k hkN
                  have hpr := p4 (k + 1) (by omega)
                  have hlv : live (mnO (k + 1)) = live (mnO k) ++ live [(T4 k, ((A4 k), 0, (B4 k), 0))] := by rw [st]; unfold live; rw [List.filter_append]
                  have hpl : live (mnO (k + 1)) <+: live mnAll := hpr.filter _
                  gi_wp2_with ((try refine ⟨hdd _, ?_⟩); gi_at_call 48; refine ct1.mono ?_; clear ct1; rintro e W1 (⟨rfl, hJ1, hK1⟩ | ⟨rfl, hX⟩))
                  · go_roundw
                    case rel => exact ⟨k + 1, by omega, by simp, by rw [hlv]; exact hJ1, (hK.trans hkA).trans hK1⟩
                    case measure => simp [intOf]; omega
                  · refine bodyPost_ret (results_none rfl _ _ _) rfl ?_
                    exact ⟨⟨_, rfl⟩, .inr ⟨_, by rw [← hlv]; exact hpl, hX⟩⟩
                · have hlt : ¬ (k : Int) < 9 := by omega
                  obtain rfl : k = 9 := by omega
                  gi_wp2_with (refine wpListIn_load_mid rfl 98 (.global 5) rfl 5 0 rfl c5 _ (hK.range r5) Tryz.underlying98 rfl s5 ?_)
                  gi_loopw [111] (fun iv wr => ∃ k : Nat, k ≤ 29 ∧ iv = .int .i64 k ∧ J (live (mnI k)) wr ∧ KC Wb wr) (fun iv _ => 29 - (intOf iv).toNat)
                  case atStart => exact ⟨0, by omega, rfl, by rw [mnI_0]; exact hJk, hK⟩
                  case round =>
                    clear hK
                    obtain ⟨k, hk, rfl, hJk, hK⟩ := hrel
                    by_cases hkN : k < 29
                    · have hlt : (k : Int) < 29 := by omega
                      have hBk := hK.cell hBq
                      have hkA := KC.alloc wr (.cells #[.int .u8 (A5 k), .int .u8 (B5 k), .string ⟨(T5 k).toArray⟩] 97)
                      have hJa := hJ _ wr (wr.alloc (.cells #[.int .u8 (A5 k), .int .u8 (B5 k), .string ⟨(T5 k).toArray⟩] 97)) none hJk (World.grownBy_alloc wr _ none) (fun r e => by cases e)
                      have ct1 := (tell_any F hd hro h105 (n - 1) l W.heap.size W.heap.size N J Jx hJ hY (T5 k) (A5 k) 0 0 (B5 k) (live (mnI k)) (wr.alloc (.cells #[.int .u8 (A5 k), .int .u8 (B5 k), .string ⟨(T5 k).toArray⟩] 97)) (hkA.cell hBk) hJa (lenp (p5 k hk) hN))
                      have st := e5 k hkN
                      have hpr := p5 (k + 1) (by omega)
                      have hlv : live (mnI (k + 1)) = live (mnI k) ++ live [(T5 k, ((A5 k), 0, 0, (B5 k)))] := by rw [st]; unfold live; rw [List.filter_append]
                      have hpl : live (mnI (k + 1)) <+: live mnAll := hpr.filter _
                      gi_wp2_with ((try refine ⟨hdd _, ?_⟩); gi_at_call 48; refine ct1.mono ?_; clear ct1; rintro e W1 (⟨rfl, hJ1, hK1⟩ | ⟨rfl, hX⟩))
                      · go_roundw
                        case rel => exact ⟨k + 1, by omega, by simp, by rw [hlv]; exact hJ1, (hK.trans hkA).trans hK1⟩
                        case measure => simp [intOf]; omega
                      · refine bodyPost_ret (results_none rfl _ _ _) rfl ?_
                        exact ⟨⟨_, rfl⟩, .inr ⟨_, by rw [← hlv]; exact hpl, hX⟩⟩
                    · have hlt : ¬ (k : Int) < 29 := by omega
                      obtain rfl : k = 29 := by omega
                      have hBk := hK.cell hBq
                      have ct1 := (tell_any F hd hro h105 (n - 1) l W.heap.size W.heap.size N J Jx hJ hY [108, 100, 100, 119] 24 0 0 0 (live (mnI 29)) wr hBk hJk (lenp (p5 29 (by omega)) hN))
                      have hmA : mnAll = (mnI 29 ++ [([108, 100, 100, 119], (24, 0, 0, 0))]) ++ [([108, 100, 109, 97, 112], (24, 1, 0, 0))] := by unfold mnAll; rw [List.append_assoc]; rfl
                      have hl1 : live mnAll = (live (mnI 29) ++ live [([108, 100, 100, 119], (24, 0, 0, 0))]) ++ live [([108, 100, 109, 97, 112], (24, 1, 0, 0))] := by
                        rw [hmA]
                        unfold live
                        rw [List.filter_append, List.filter_append]
                      gi_wp2_with (first | ((try refine ⟨hdd _, ?_⟩); gi_at_call 48; refine ct1.mono ?_; clear ct1; rintro e W1 (⟨rfl, hJ1, hK1⟩ | ⟨rfl, hX⟩)) | ((try refine ⟨hdd _, ?_⟩); gi_at_call 48; refine (tell_any F hd hro h105 (n - 1) l W.heap.size W.heap.size N J Jx hJ hY [108, 100, 109, 97, 112] 24 1 0 0 _ W1 (hK1.cell hBk) hJ1 (lenp2 hmA (List.prefix_refl _) hN)).mono ?_; rintro e W2 (⟨rfl, hJ2, hK2⟩ | ⟨rfl, hX2⟩)))
                      · refine bodyPost_end (results_none rfl _ _ _) rfl ?_
                        exact ⟨⟨_, rfl⟩, .inl ⟨_, rfl, by rw [hl1]; exact hJ2⟩⟩
                      · refine bodyPost_end (results_none rfl _ _ _) rfl ?_
                        exact ⟨⟨_, rfl⟩, .inr ⟨_, by rw [hl1]; exact List.prefix_refl _, hX2⟩⟩
                      · refine bodyPost_end (results_none rfl _ _ _) rfl ?_
                        exact ⟨⟨_, rfl⟩, .inr ⟨_, by rw [hl1]; exact List.prefix_append _ _, hX⟩⟩
end Go.Proofs.YtcjhgihpahnnoabGreatDoor
namespace Go.Proofs.YtcjhgihpahnnoabGreatDoor
open Go.RowKit Go.Shelf
set_option linter.unusedVariables false
set_option linter.unusedSimpArgs false
attribute [local go_sem] Oper.semAt_some
theorem KC.put (W : World) (l : Nat) (o o' : Obj) (h : W.heap[l]? = some o) (hc : o.isCells = false) : KC W (W.putObj l o') := by
  refine ⟨by simp [World.putObj], fun b cs t fr hb => ?_⟩
  by_cases e : b = l
  · subst e; rw [h] at hb; cases hb; simp [Obj.isCells] at hc
  · simp only [World.putObj, Array.set!_eq_setIfInBounds]
    rw [Array.getElem?_setIfInBounds_ne (fun h => e h.symm)]; exact hb
theorem blk_kept {W W' : World} {row : Option Nat} {b : Nat} {cs : Array Value} {t : TypeId} {fr : Nat × Nat} (h : W.heap[b]? = some (.cells cs t fr)) (hg : W.grownBy W' row) (hr : ∀ r, row = some r → ∃ o : Obj, W.heap[r]? = some o ∧ o.isCells = false) : W'.heap[b]? = some (.cells cs t fr) :=
  (hg.block b (Array.getElem?_eq_some_iff.1 h).1 (fun e => by obtain ⟨o, ho, hc⟩ := hr b e.symm; rw [h] at ho; cases ho; simp [Obj.isCells] at hc)).trans h
theorem blk_alloc {W : World} {b : Nat} {cs : Array Value} {t : TypeId} {fr : Nat × Nat} (h : W.heap[b]? = some (.cells cs t fr)) (o : Obj) : (W.alloc o).heap[b]? = some (.cells cs t fr) := (Below.heap_alloc W o b (Array.getElem?_eq_some_iff.1 h).1).trans h
theorem blk_at {w : World} {b : Nat} {cs : Array Value} {t : TypeId} (h : w.heap[b]? = some (.cells cs t (0, 0))) (j : Nat) : w.cell? ⟨b, j, none⟩ = cs[j]? ∧ w.frozen? ⟨b, j, none⟩ = false := by
  constructor
  · simp [World.cell?, h]
  · simp [World.frozen?, h]
def mnC (m : Mn) : Array Value := #[.int .u8 m.1, .int .u8 m.2.1, .int .u8 m.2.2.1, .int .u8 m.2.2.2]
def MBox (w : World) (W : World) (t : List UInt8) (m : Mn) (q : Bool) : Prop := (W.heap[w.heap.size]? = some (.cells #[.string ⟨t.toArray⟩] 9 (0, 0)) ∧ W.heap[w.heap.size + 1]? = some (.cells (mnC m) 41 (0, 0)) ∧ W.heap[w.heap.size + 2]? = some (.cells #[.bool q] 4 (0, 0))) ∧ Below w.heap.size w W
theorem MBox.set5 {w W : World} {t : List UInt8} {m : Mn} {q : Bool} (h : MBox w W t m q) (o s f i : Int) (q' : Bool) : MBox w (((((W.setCell ⟨w.heap.size + 1, 0, none⟩ (.int .u8 o)).setCell ⟨w.heap.size + 1, 1, none⟩ (.int .u8 s)).setCell ⟨w.heap.size + 1, 2, none⟩ (.int .u8 f)).setCell ⟨w.heap.size + 1, 3, none⟩ (.int .u8 i)).setCell ⟨w.heap.size + 1 + 1, 0, none⟩ (.bool q')) t (o, s, f, i) q' := by
  obtain ⟨⟨h0, h1, h2⟩, hB⟩ := h
  refine ⟨⟨?_, ?_, ?_⟩, ?_⟩
  · simp [World.setCell, Array.getElem?_modify, h0]; try omega
  · simp [World.setCell, Array.getElem?_modify, h1, mnC]
  · simp [World.setCell, Array.getElem?_modify, h2]
  · exact ((((hB.setCell (p := ⟨w.heap.size + 1, 0, none⟩) (by simp) _).setCell (p := ⟨w.heap.size + 1, 1, none⟩) (by simp) _).setCell (p := ⟨w.heap.size + 1, 2, none⟩) (by simp) _).setCell (p := ⟨w.heap.size + 1, 3, none⟩) (by simp) _).setCell (p := ⟨w.heap.size + 1 + 1, 0, none⟩) (by simp; omega) _
theorem keeps5 (W : World) (a b c d e : Addr) (u v x y z : Value) : KeepsOthers W (((((W.setCell a u).setCell b v).setCell c x).setCell d y).setCell e z) :=
  ((((KeepsOthers.setCell W a u).trans (KeepsOthers.setCell _ b v)).trans (KeepsOthers.setCell _ c x)).trans (KeepsOthers.setCell _ d y)).trans (KeepsOthers.setCell _ e z)
theorem size79 : (Tryz.prog.info? 41).map (·.size) = some 4 := by kernel_rfl
def MI (w : World) (t : List UInt8) (pre : List (List UInt8 × Mn)) (W : World) : Prop := (∀ x ∈ pre, x.1 ≠ t) ∧ MBox w W t (0, 0, 0, 0) false
def MX (w : World) (t : List UInt8) (c : Code) (pre : List (List UInt8 × Mn)) (W : World) : Prop := ∃ x, (c = .ret ∧ x ∈ pre ∧ x.1 = t) ∧ MBox w W t x.2 true
theorem MBox.own {β : Type} (w : World) (t : List UInt8) (m : Mn) (q : Bool) (B : Nat) (hB : w.heap.size ≤ B) : OwnFrom B (fun (_ : β) W => MBox w W t m q) := fun s X Y row hs hg hr =>
  ⟨⟨blk_kept hs.1.1 hg (fun r e => (hr r e).2), blk_kept hs.1.2.1 hg (fun r e => (hr r e).2), blk_kept hs.1.2.2 hg (fun r e => (hr r e).2)⟩, ownFrom_below (β := β) (Nat.le_refl _) hB s X Y row hs.2 hg hr⟩
theorem MBox.put {w W : World} {t : List UInt8} {m : Mn} {q : Bool} (h : MBox w W t m q) {D : Nat} (hD : w.heap.size ≤ D) (hK : W.heap[D]? = some (.deferred (some []))) : MBox w (W.putObj D (.deferred none)) t m q :=
  MBox.own (β := Unit) w t m q w.heap.size (Nat.le_refl _) () W _ (some D) h (grownBy_putObj' _ D _) (fun r e => by cases e; exact ⟨hD, _, hK, rfl⟩)
theorem MBox.res {w W : World} {t : List UInt8} {m : Mn} {q : Bool} (h : MBox w W t m q) (tmps : Array Value) (h2 : tmps[2]?.getD undef = .pointer (some ⟨w.heap.size + 1, 0, none⟩)) (h3 : tmps[3]?.getD undef = .pointer (some ⟨w.heap.size + 1 + 1, 0, none⟩)) :
    (results Tryz.f13 tmps).run Tryz.prog W = .ok (.tuple #[mnV m, .bool q]) W := by
  have c5 : W.cell? ⟨w.heap.size + 1 + 1, 0, none⟩ = some (.bool q) := (blk_at h.1.2.2 0).1
  have k0 : W.cell? ⟨w.heap.size + 1, 0, none⟩ = some (.int .u8 m.1) := (blk_at h.1.2.1 0).1
  have k1 : W.cell? ⟨w.heap.size + 1, 1, none⟩ = some (.int .u8 m.2.1) := (blk_at h.1.2.1 1).1
  have k2 : W.cell? ⟨w.heap.size + 1, 2, none⟩ = some (.int .u8 m.2.2.1) := (blk_at h.1.2.1 2).1
  have k3 : W.cell? ⟨w.heap.size + 1, 3, none⟩ = some (.int .u8 m.2.2.2) := (blk_at h.1.2.1 3).1
  simp [results, Tryz.f13, asAddr, h2, h3, go_sem, k0, k1, k2, k3, c5, Sem.run_bind, Result.andThen, mnV]
set_option maxRecDepth 40000 in
set_option maxHeartbeats 4000000 in
theorem meaning_in (F : Fence) (hd : F.depth = none) (hro : F.round = none) (h66 : F.fn 29) (h105 : F.fn 48) (hm : F.fn 13) (n N : Nat) (hn : 3 ≤ n) (w : World) (t : List UInt8)
    (hseq : ∀ w0 : World, Below w.heap.size w w0 → SeqStopsK F (n - 1) Tryz.prog 29 #[] encM KC (fun ys => ys = live mnAll) (fun pre => pre <+: live mnAll) N w0) :
    CallsIn F n Tryz.prog 13 #[.string ⟨t.toArray⟩] w fun e W' => ((∃ x, x ∈ live mnAll ∧ x.1 = t ∧ e = .returned (.tuple #[mnV x.2, .bool true])) ∨ ((∀ x ∈ live mnAll, x.1 ≠ t) ∧ e = .returned (.tuple #[mnV (0, 0, 0, 0), .bool false]))) ∧ Below w.heap.size w W' := by
  have h1 : 1 ≤ n := by omega
  refine callsIn_of_wp_marks Tryz.func13 rfl hm ?_ hro
  simp only [Tryz.ntmps13, List.size_toArray, List.length_cons, List.length_nil, Nat.reduceAdd, Nat.reduceSub, Array.replicate_succ, Array.replicate_zero, List.push_toArray, List.append_toArray, List.nil_append, List.cons_append]
  gi_wp2
  obtain ⟨W0, hW0⟩ : ∃ W0, ((w.alloc (.cells #[.string ⟨t.toArray⟩] 9)).alloc (.cells #[.int .u8 0, .int .u8 0, .int .u8 0, .int .u8 0] 41)).alloc (.cells #[.bool false] 4) = W0 := ⟨_, rfl⟩
  have hB0 : Below w.heap.size w W0 := by rw [← hW0]; exact (((Below.refl _ w).alloc (Nat.le_refl _) _).alloc (by simp) _).alloc (by simp; omega) _
  have hsz : W0.heap.size = w.heap.size + 3 := by rw [← hW0]; simp
  have hM0 : MBox w W0 t (0, 0, 0, 0) false := by
    refine ⟨⟨?_, ?_, ?_⟩, hB0⟩
    · rw [← hW0]; exact blk_alloc (blk_alloc (heap_alloc_new w _) _) _
    · rw [← hW0]; have := heap_alloc_new (w.alloc (.cells #[.string ⟨t.toArray⟩] 9)) (.cells #[.int .u8 0, .int .u8 0, .int .u8 0, .int .u8 0] 41); rw [World.size_alloc] at this; exact blk_alloc this _
    · rw [← hW0]; have := heap_alloc_new ((w.alloc (.cells #[.string ⟨t.toArray⟩] 9)).alloc (.cells #[.int .u8 0, .int .u8 0, .int .u8 0, .int .u8 0] 41)) (.cells #[.bool false] 4); rw [World.size_alloc, World.size_alloc] at this; exact this
  rw [hW0]
  clear hW0
  refine wpIn_rangeFunc_ownH hro h1 (gf := 29) (lb := #[]) rfl h66 (enters_of Tryz.func29 (by kernel_rfl) rfl)
    (hseq W0 hB0) KC.trans (fun W l o o' _ h hc _ => KC.put W l o o' h hc) (Below.refl _ _) (fun _ => rfl)
    (MI w t) (MX w t)
    (OwnFrom.and (ownFrom_pure _ _) (MBox.own w t _ _ _ (by omega)))
    (fun c s X Y row hs hg hr => by obtain ⟨x, hx, hm⟩ := hs; exact ⟨x, hx, MBox.own w t x.2 true _ (by omega) s X Y row hm hg hr⟩)
    ⟨by simp, hM0⟩
    (fun x a' W => ∃ Bx, w.heap.size + 2 < Bx ∧ W.heap[Bx]? = some (.cells (mnC x.2) 41 (0, 0)) ∧ a' = { tmps := #[.string ⟨t.toArray⟩, .pointer (some ⟨w.heap.size, 0, none⟩), .pointer (some ⟨w.heap.size + 1, 0, none⟩), .pointer (some ⟨w.heap.size + 1 + 1, 0, none⟩), .string ⟨x.1.toArray⟩, .pointer (some ⟨Bx, 0, none⟩), .string ⟨x.1.toArray⟩, mnV x.2, undef, undef, undef, undef, undef], defers := [] })
    (fun x a' _ X Y row hs hg hr => by obtain ⟨Bx, e1, e2, e3⟩ := hs; exact ⟨Bx, e1, blk_kept e2 hg (fun r e => (hr r e).2), e3⟩)
    ?assign ?body ?done ?stop
  case assign =>
    rintro l pre ⟨k, o, s, f, i⟩ W K ⟨hp, hM⟩ hK
    simp only [encM, mnV]
    gi_wp2
    exact hK _ _ ((KeepsOthers.alloc _ _).from _) (KC.alloc _ _) ⟨hp, ⟨blk_alloc hM.1.1 _, blk_alloc hM.1.2.1 _, blk_alloc hM.1.2.2 _⟩, hM.2.alloc hM.2.size _⟩ ⟨W.heap.size, (Array.getElem?_eq_some_iff.1 hM.1.2.2).1, heap_alloc_new W _, rfl⟩
  case body =>
    rintro l pre ⟨k, o, s, f, i⟩ a' W hl ⟨r, hr⟩ ⟨hp, hM⟩ ⟨Bx, hBx, bX, rfl⟩ hlt
    have cw : W.cell? ⟨w.heap.size, 0, none⟩ = some (.string ⟨t.toArray⟩) := (blk_at hM.1.1 0).1
    have x0 : W.cell? ⟨Bx, 0, none⟩ = some (.int .u8 o) := (blk_at bX 0).1
    have x1 : W.cell? ⟨Bx, 1, none⟩ = some (.int .u8 s) := (blk_at bX 1).1
    have x2 : W.cell? ⟨Bx, 2, none⟩ = some (.int .u8 f) := (blk_at bX 2).1
    have x3 : W.cell? ⟨Bx, 3, none⟩ = some (.int .u8 i) := (blk_at bX 3).1
    have c0 : W.cell? ⟨w.heap.size + 1, 0, none⟩ = some (.int .u8 0) := (blk_at hM.1.2.1 0).1
    have c1 : W.cell? ⟨w.heap.size + 1, 1, none⟩ = some (.int .u8 0) := (blk_at hM.1.2.1 1).1
    have c2 : W.cell? ⟨w.heap.size + 1, 2, none⟩ = some (.int .u8 0) := (blk_at hM.1.2.1 2).1
    have c3 : W.cell? ⟨w.heap.size + 1, 3, none⟩ = some (.int .u8 0) := (blk_at hM.1.2.1 3).1
    have f0 := (blk_at hM.1.2.1 0).2
    have f1 := (blk_at hM.1.2.1 1).2
    have f2 := (blk_at hM.1.2.1 2).2
    have f3 := (blk_at hM.1.2.1 3).2
    have cb : W.cell? ⟨w.heap.size + 1 + 1, 0, none⟩ = some (.bool false) := (blk_at hM.1.2.2 0).1
    have fb : W.frozen? ⟨w.heap.size + 1 + 1, 0, none⟩ = false := (blk_at hM.1.2.2 0).2
    gi_wp2
    · rename_i hkt
      exact ⟨(keeps5 _ _ _ _ _ _ _ _ _ _ _).from _, (k, o, s, f, i), ⟨rfl, List.mem_append.2 (.inr (by simp)), eq_of_beq hkt⟩, hM.set5 o s f i true⟩
    · rename_i hkt
      exact ⟨KeepsFrom.refl _ _, KC.refl _, fun y hy => (List.mem_append.1 hy).elim (hp y) (fun e e' => by simp at e; subst e; simp at hkt; exact hkt e'), hM⟩
  case done =>
    rintro D zs W hD rfl ⟨hp, hM⟩ hK
    have c0 : W.cell? ⟨w.heap.size + 1, 0, none⟩ = some (.int .u8 0) := (blk_at hM.1.2.1 0).1
    have c1 : W.cell? ⟨w.heap.size + 1, 1, none⟩ = some (.int .u8 0) := (blk_at hM.1.2.1 1).1
    have c2 : W.cell? ⟨w.heap.size + 1, 2, none⟩ = some (.int .u8 0) := (blk_at hM.1.2.1 2).1
    have c3 : W.cell? ⟨w.heap.size + 1, 3, none⟩ = some (.int .u8 0) := (blk_at hM.1.2.1 3).1
    have f0 := (blk_at hM.1.2.1 0).2
    have f1 := (blk_at hM.1.2.1 1).2
    have f2 := (blk_at hM.1.2.1 2).2
    have f3 := (blk_at hM.1.2.1 3).2
    have cb : W.cell? ⟨w.heap.size + 1 + 1, 0, none⟩ = some (.bool false) := (blk_at hM.1.2.2 0).1
    have fb : W.frozen? ⟨w.heap.size + 1 + 1, 0, none⟩ = false := (blk_at hM.1.2.2 0).2
    gi_wp2
    have hM' := hM.set5 0 0 0 0 false
    have hK' := (keeps5 W ⟨w.heap.size + 1, 0, none⟩ ⟨w.heap.size + 1, 1, none⟩ ⟨w.heap.size + 1, 2, none⟩ ⟨w.heap.size + 1, 3, none⟩ ⟨w.heap.size + 1 + 1, 0, none⟩ (.int .u8 0) (.int .u8 0) (.int .u8 0) (.int .u8 0) (.bool false)).same D _ hK rfl
    have hP := hM'.put (D := D) (by omega) hK'
    refine ⟨by simp, .inl ⟨_, _, rfl, run_takeDeferred hK', ?_⟩⟩
    exact ⟨_, hP.res _ rfl rfl, .inr ⟨hp, rfl⟩, hP.2⟩
  case stop =>
    rintro D c pre W hD hpre ⟨x, ⟨rfl, hx, hxt⟩, hM⟩ hK
    gi_wp2
    have hP := hM.put (D := D) (by omega) hK
    refine ⟨by simp, .inl ⟨_, _, rfl, run_takeDeferred hK, ?_⟩⟩
    exact ⟨_, hP.res _ rfl rfl, .inl ⟨x, hpre.subset hx, hxt, rfl⟩, hP.2⟩
end Go.Proofs.YtcjhgihpahnnoabGreatDoor
namespace Go.Proofs.YtcjhgihpahnnoabGreatDoor
open Go.RowKit Go.Shelf
set_option linter.unusedVariables false
set_option linter.unusedSimpArgs false
theorem pR : ∀ k, k ≤ 13 → mnR k <+: mnAll := fun k hk => (show ∀ k : Fin 14, mnR k.val <+: mnAll by decide +kernel) ⟨k, by omega⟩
theorem pJ : ∀ k, k ≤ 14 → mnJ k <+: mnAll := fun k hk => (show ∀ k : Fin 15, mnJ k.val <+: mnAll by decide +kernel) ⟨k, by omega⟩
theorem pM : ∀ k j, k < 4 → j ≤ 4 → mnM k j <+: mnAll := fun k j hk hj => (show ∀ k : Fin 4, ∀ j : Fin 5, mnM k.val j.val <+: mnAll by decide +kernel) ⟨k, by omega⟩ ⟨j, by omega⟩
theorem pO : ∀ k, k ≤ 9 → mnO k <+: mnAll := fun k hk => (show ∀ k : Fin 10, mnO k.val <+: mnAll by decide +kernel) ⟨k, by omega⟩
theorem pI : ∀ k, k ≤ 29 → mnI k <+: mnAll := fun k hk => (show ∀ k : Fin 30, mnI k.val <+: mnAll by decide +kernel) ⟨k, by omega⟩
theorem mnAll_len : mnAll.length < 111 := by decide +kernel
theorem live_mean : ∀ x ∈ live mnAll, meanOf x.1 = some x.2 := by decide +kernel
theorem live_none (t : List UInt8) (h : ∀ x ∈ live mnAll, x.1 ≠ t) : meanOf t = none := by
  unfold meanOf
  by_cases ht : t = []
  · rw [if_pos ht]
  · rw [if_neg ht]
    unfold lastAt
    rw [Option.map_eq_none_iff, List.find?_eq_none]
    intro x hx e
    have he : x.1 = t := eq_of_beq e
    refine h x (List.mem_filter.2 ⟨List.mem_reverse.1 hx, ?_⟩) he
    rw [he]
    cases t with
    | nil => exact absurd rfl ht
    | cons a b => rfl
theorem each_seq (F : Fence) (hd : F.depth = none) (hro : F.round = none) (h66 : F.fn 29) (h105 : F.fn 48) (n : Nat) (w0 : World) (hT : WTabs w0) :
    SeqStopsK F n Tryz.prog 29 #[] encM KC (fun ys => ys = live mnAll) (fun pre => pre <+: live mnAll) 111 w0 := fun l J Jx W hW hJ hJx hY h0 => by
  have hT := hT.out hW
  exact each_in F hd hro h66 h105 n l 111 mnAll_len J Jx W hJ hJx (fun m pre x W1 h1 hl => yield_any hd m (hY pre x W1 h1 hl)) h0
    reckCs hT.1 (show (Tryz.prog.info? 91).map (·.size) = some reckCs.length by kernel_rfl) reckA reckB (fun k hk w => reck_idx k (by omega) w) (fun k hk => by rw [mnR_step, reck_ent k hk, List.append_assoc]; rfl) pR
    jumpCs hT.2.1 (show (Tryz.prog.info? 82).map (·.size) = some jumpCs.length by kernel_rfl) jumpA jumpB (fun k hk w => jump_idx k (by omega) w) (fun k hk => by rw [mnJ_step, jump_ent k hk, List.append_assoc]; rfl) pJ
    memCs hT.2.2.1 (show (Tryz.prog.info? 94).map (·.size) = some memCs.length by kernel_rfl) memA memW (fun k hk w => mem_idx k (by omega) w) (fun k j hj w => idx4s (fun j => .string ⟨(memW k j).toArray⟩) j (by omega) w)
    (fun k j hk hj => (mem_all ⟨k, hk⟩ ⟨j, hj⟩).2.2.1) (fun k j hk hj => by rw [mnM_step, (mem_all ⟨k, hk⟩ ⟨j, hj⟩).1]) pM
    offCs hT.2.2.2.1 (show (Tryz.prog.info? 96).map (·.size) = some offCs.length by kernel_rfl) offA offB offS3 (fun k hk w => off_idx k (by omega) w) (fun k hk => by rw [mnO_step, off_ent k hk]) pO
    immCs hT.2.2.2.2 (show (Tryz.prog.info? 98).map (·.size) = some immCs.length by kernel_rfl) immA immB immS3 (fun k hk w => imm_idx k (by omega) w) (fun k hk => by rw [mnI_step, imm_ent k hk]) pI
/-- the contract of meaningOf -/
theorem meaning_any (w : World) (t : List UInt8) (hT : WTabs w) : Calls Tryz.prog 13 #[.string ⟨t.toArray⟩] w fun e w' => e = .returned (.tuple #[mnV ((meanOf t).getD (0, 0, 0, 0)), .bool (meanOf t).isSome]) ∧ Out w w' := by
  refine (callsIn_wide (n := 5)).1 ?_
  refine (meaning_in Fence.wide rfl rfl trivial trivial trivial 5 111 (by omega) w t (fun w0 hB => each_seq Fence.wide rfl rfl trivial trivial 4 w0 (hT.out hB))).mono ?_
  rintro e W' ⟨⟨x, hx, rfl, rfl⟩ | ⟨hn, rfl⟩, hB⟩
  · rw [live_mean x hx]; exact ⟨rfl, hB⟩
  · rw [live_none t hn]; exact ⟨rfl, hB⟩
end Go.Proofs.YtcjhgihpahnnoabGreatDoor
namespace Go.Proofs.YtcjhgihpahnnoabGreatDoor
open Go.RowKit
open Go.Maps (Keyed)
set_option linter.unusedVariables false
set_option linter.unusedSimpArgs false
theorem size5 : (Tryz.prog.info? 26).map (·.size) = some 5 := by kernel_rfl
theorem insn_any (o s f i : Int) (w : World) (h : (0 ≤ o ∧ o < 256) ∧ (0 ≤ s ∧ s < 256) ∧ (0 ≤ f ∧ f < 256) ∧ (0 ≤ i ∧ i < 256)) : Calls Tryz.prog 14 #[.agg #[.int .u8 o, .int .u8 s, .int .u8 f, .int .u8 i]] w fun e w' => e = .returned (.agg #[.int .i64 o, .int .i64 0, .int .i64 s, .int .i64 f, .int .i64 i]) ∧ Out w w' := by
  obtain ⟨⟨o1, o2⟩, ⟨s1, s2⟩, ⟨f1, f2⟩, ⟨i1, i2⟩⟩ := h
  go_enter Tryz.func14, Tryz.ntmps14
  go_wp2
  refine bodyPost_ret (results_cell_row rfl _ _ (w.heap.size + 1) 26 #[.int .i64 o, .int .i64 0, .int .i64 s, .int .i64 f, .int .i64 i] (0, 0) _ rfl (by rw [← size_alloc w (.cells #[.int .u8 o, .int .u8 s, .int .u8 f, .int .u8 i] 41)]; exact heap_alloc_new _ _) Tryz.underlying26 rfl size5) rfl ?_
  exact ⟨rfl, ((Out.refl w).alloc _).alloc _⟩
theorem mean_bd (l : List UInt8) (m : Mn) (h : meanOf l = some m) : (0 ≤ m.1 ∧ m.1 < 256) ∧ (0 ≤ m.2.1 ∧ m.2.1 < 256) ∧ (0 ≤ m.2.2.1 ∧ m.2.2.1 < 256) ∧ (0 ≤ m.2.2.2 ∧ m.2.2.2 < 256) := by
  obtain ⟨x, hx, _, rfl⟩ := mean_mem l m h
  exact (show ∀ x ∈ mnAll, (0 ≤ x.2.1 ∧ x.2.1 < 256) ∧ (0 ≤ x.2.2.1 ∧ x.2.2.1 < 256) ∧ (0 ≤ x.2.2.2.1 ∧ x.2.2.2.1 < 256) ∧ (0 ≤ x.2.2.2.2 ∧ x.2.2.2.2 < 256) by decide +kernel) x hx
theorem results_row_tmp2 {P : Program} {fn : Func} {p u v : Tmp} {ty : TypeId} (h : fn.results = #[.cell p ty, .tmp u, .tmp v]) (tmps : Array Value) (w : World) (g : Nat) (t : TypeId) (cs : Array Value) (fr : Nat × Nat) (d : TypeDesc)
    (hp : tmps.getD p undef = .pointer (some ⟨g, 0, none⟩)) (hg : w.heap[g]? = some (.cells cs t fr))
    (hu : P.underlying ty = some d) (hd : (match d with | .struct _ | .array _ _ => true | _ => false) = true) (hi : (P.info? ty).map (·.size) = some cs.size) :
    (results fn tmps).run P w = .ok (.tuple #[.agg cs, tmps.getD u undef, tmps.getD v undef]) w := by
  have hp' : tmps[p]?.getD undef = .pointer (some ⟨g, 0, none⟩) := by simpa using hp
  simp [results, h, hp', asAddr, run_loadVar_row w g t ty cs fr d hg hu hd hi, Sem.run_bind, Result.andThen]
end Go.Proofs.YtcjhgihpahnnoabGreatDoor
