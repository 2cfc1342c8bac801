import Derived.Test.YtkihaohdcgjioaaGreatDoorGp02
import Derived.Test.YtkihaohdcgjioaaGreatDoorGp21
import Derived.Deep.MidRow
import Derived.Deep.RegionHeld3
import Derived.Deep.RegionLaw
import Derived.OwnWalk
namespace Go.Proofs.YtkihaohdcgjioaaGreatDoor
open Go.RowKit Go.Shelf
set_option linter.unusedVariables false
set_option linter.unusedSimpArgs false
attribute [local go_sem] Oper.semAt_some
theorem wpListIn_load_mid {F : Fence} {n : Nat} {P : Program} {ops : Array Oper} {rest : List Oper} {op : Oper} {a : Act} {w : World} {Q : Exit → Act → World → Prop} (hgd : op.guard = none) (ty : TypeId) (x : Operand) (ho : op.op = .load ty x)
    (b o : Nat) (hx : a.eval x = .pointer (some ⟨b, o, none⟩)) (cs : List Value) (d : TypeDesc) (hc : w.rangeAt b o cs)
    (hu : P.underlying ty = some d) (hd : d.isRow = true) (hi : (P.info? ty).map (·.size) = some cs.length)
    (h : wpListIn F n P ops Q rest (a.put op.dst (.agg cs.toArray)) w) : wpListIn F n P ops Q (op :: rest) a w := by
  refine wpListIn_plain hgd fun K hK => ?_
  unfold Oper.wpIn
  refine ⟨?_, ?_⟩
  · simp [Oper.about, ho]
  · rw [Oper.semAt_plain F _ _ (by rw [ho]; intro c hc'; cases hc')]
    simp only [execOp, ho, hx, Instr.loadAt, Instr.sureAddr, Sem.run_bind, Sem.run_pure, Result.andThen_ok, run_loadVar_mid w b o ty cs d hc hu hd hi]
    exact hK _ _ h
/-- all blocks of cells are as they were -/
def KC (W W' : World) : Prop := W.heap.size ≤ W'.heap.size ∧ ∀ (b : Nat) (cs : Array Value) (t : TypeId) (fr : Nat × Nat), W.heap[b]? = some (Obj.cells cs t fr) → W'.heap[b]? = some (Obj.cells cs t fr)
theorem KC.refl (W : World) : KC W W := ⟨Nat.le_refl _, fun _ _ _ _ h => h⟩
theorem KC.trans {A B C : World} (h : KC A B) (k : KC B C) : KC A C := ⟨Nat.le_trans h.1 k.1, fun b cs t fr hb => k.2 b cs t fr (h.2 b cs t fr hb)⟩
theorem KC.alloc (W : World) (o : Obj) : KC W (W.alloc o) := ⟨by simp, fun b cs t fr hb => (Below.heap_alloc W o b (Array.getElem?_eq_some_iff.1 hb).1).trans hb⟩
theorem KC.cell {W W' : World} (h : KC W W') {b j : Nat} {v : Value} (hc : W.cell? ⟨b, j, none⟩ = some v) : W'.cell? ⟨b, j, none⟩ = some v := by
  unfold World.cell? at hc ⊢
  cases hb : W.heap[b]? with
  | none => simp [hb] at hc
  | some o =>
    cases o with
    | cells cs t fr => rw [hb] at hc; rw [h.2 b cs t fr hb]; exact hc
    | _ => simp [hb] at hc
theorem KC.range {W W' : World} (h : KC W W') {b : Nat} {cs : List Value} (hr : W.rangeAt b 0 cs) : W'.rangeAt b 0 cs := fun j v hj => h.cell (hr j v hj)
def live (L : List (List UInt8 × Mn)) : List (List UInt8 × Mn) := L.filter (fun x => !x.1.isEmpty)
def encM (x : List UInt8 × Mn) : Array Value := #[.string ⟨x.1.toArray⟩, mnV x.2]
theorem tell_any (F : Fence) (hd : F.depth = none) (hro : F.round = none) (h105 : F.fn 240) (n l Bq N0 N : Nat) (J Jx : List (List UInt8 × Mn) → World → Prop) (hJ : AbidesFrom N0 J)
    (hY : ∀ m pre x W1, J pre W1 → pre.length < N → YieldAt F m Tryz.prog l (encM x) W1 fun e W' => (e = .returned (.bool true) ∧ J (pre ++ [x]) W' ∧ KC W1 W') ∨ (e = .returned (.bool false) ∧ Jx (pre ++ [x]) W'))
    (t : List UInt8) (o s f i : Int) (pre : List (List UInt8 × Mn)) (W : World) (hB : W.cell? ⟨Bq, 0, none⟩ = some (.func (.yield l) #[] #[])) (hp : J pre W) (hlen : pre.length < N) :
    CallsIn F n Tryz.prog 240 #[.string ⟨t.toArray⟩, .agg #[.int .u8 o, .int .u8 s, .int .u8 f, .int .u8 i], .pointer (some ⟨Bq, 0, none⟩)] W fun e W' => (e = .returned (.bool true) ∧ J (pre ++ live [(t, (o, s, f, i))]) W' ∧ KC W W') ∨ (e = .returned (.bool false) ∧ Jx (pre ++ live [(t, (o, s, f, i))]) W') := by
  have hA := hJ pre W (W.alloc (.cells #[.int .u8 o, .int .u8 s, .int .u8 f, .int .u8 i] 216)) none hp (World.grownBy_alloc W _ none) (fun r e => by cases e)
  have hk := KC.alloc W (.cells #[.int .u8 o, .int .u8 s, .int .u8 f, .int .u8 i] 216)
  cases t with
  | nil =>
    refine (tell_nil F h105 hro n _ o s f i rfl _ W).mono ?_
    rintro e W' ⟨rfl, rfl⟩
    exact .inl ⟨rfl, by simpa [live] using hA, hk⟩
  | cons c r =>
    have hl : live [(c :: r, (o, s, f, i))] = [(c :: r, (o, s, f, i))] := rfl
    rw [hl]
    refine (tell_some F hd h105 hro n l Bq (c :: r) rfl o s f i W hB (fun W' => J (pre ++ [(c :: r, (o, s, f, i))]) W' ∧ KC W W') (fun W' => Jx (pre ++ [(c :: r, (o, s, f, i))]) W') ?_)
    exact YieldAt.mono (hY (n - 1) pre (c :: r, (o, s, f, i)) _ hA hlen) (fun e W' h => h.elim (fun ⟨h1, h2, h3⟩ => .inl ⟨h1, h2, hk.trans h3⟩) .inr)
theorem lenp {a : List (List UInt8 × Mn)} {N : Nat} (h : a <+: mnAll) (hN : mnAll.length < N) : (live a).length < N := by
  have h1 := (h.filter (fun x => !x.1.isEmpty)).length_le
  have h2 := List.length_filter_le (fun x : List UInt8 × Mn => !x.1.isEmpty) mnAll
  unfold live
  omega
theorem lenp2 {a b : List (List UInt8 × Mn)} {x y : List UInt8 × Mn} {N : Nat} (st : b = (a ++ [x]) ++ [y]) (h : b <+: mnAll) (hN : mnAll.length < N) : (live a ++ live [x]).length < N := by
  have := lenp (a := a ++ [x]) (((List.prefix_append _ _).trans (by rw [← st]; exact List.prefix_refl _)).trans h) hN
  unfold live at this ⊢
  rwa [List.filter_append] at this
theorem or_of (x : Int) (k : Nat) (hk : k < 14) (hx : ∀ k : Fin 14, bits BinOp.or IntKind.u8 ((k.val : Int) * 16) x = (k.val : Int) * 16 + x) : bits BinOp.or IntKind.u8 ((k : Int) * 16) x = (k : Int) * 16 + x := hx ⟨k, hk⟩
set_option maxRecDepth 40000 in
set_option maxHeartbeats 4000000 in
theorem each_in (F : Fence) (hd : F.depth = none) (hro : F.round = none) (h66 : F.fn 221) (h105 : F.fn 240) (n l N : Nat) (hN : mnAll.length < N) (J Jx : List (List UInt8 × Mn) → World → Prop) (W : World) (hJ : AbidesFrom W.heap.size J) (hJx : AbidesFrom W.heap.size Jx)
    (hY : ∀ m pre x W1, J pre W1 → pre.length < N → YieldAt F m Tryz.prog l (encM x) W1 fun e W' => (e = .returned (.bool true) ∧ J (pre ++ [x]) W' ∧ KC W1 W') ∨ (e = .returned (.bool false) ∧ Jx (pre ++ [x]) W')) (h0 : J [] W)
    (c1 : List Value) (r1 : W.rangeAt 3 0 c1) (s1 : (Tryz.prog.info? 206).map (·.size) = some c1.length) (A1 B1 : Nat → List UInt8)
    (hix1 : ∀ (k : Nat), (k : Int) < 13 → ∀ w : World, (Instr.index 206 (.agg c1.toArray) (.int .i64 k)).run Tryz.prog w = .ok (.agg #[.string ⟨(A1 k).toArray⟩, .string ⟨(B1 k).toArray⟩]) w)
    (e1 : ∀ k, k < 13 → mnR (k + 1) = (mnR k ++ [(A1 k, ((k : Int) * 16 + 7, 0, 0, 0))]) ++ [(B1 k, ((k : Int) * 16 + 4, 0, 0, 0))]) (p1 : ∀ k, k ≤ 13 → mnR k <+: mnAll)
    (c2 : List Value) (r2 : W.rangeAt 0 0 c2) (s2 : (Tryz.prog.info? 173).map (·.size) = some c2.length) (A2 B2 : Nat → List UInt8)
    (hix2 : ∀ (k : Nat), (k : Int) < 14 → ∀ w : World, (Instr.index 173 (.agg c2.toArray) (.int .i64 k)).run Tryz.prog w = .ok (.agg #[.string ⟨(A2 k).toArray⟩, .string ⟨(B2 k).toArray⟩]) w)
    (e2 : ∀ k, k < 14 → mnJ (k + 1) = (mnJ k ++ [(A2 k, ((k : Int) * 16 + 5, 0, 0, 0))]) ++ [(B2 k, ((k : Int) * 16 + 6, 0, 0, 0))]) (p2 : ∀ k, k ≤ 14 → mnJ k <+: mnAll)
    (c3 : List Value) (r3 : W.rangeAt 4 0 c3) (s3 : (Tryz.prog.info? 209).map (·.size) = some c3.length) (A3 : Nat → Int) (W3 : Nat → Nat → List UInt8)
    (hix3 : ∀ (k : Nat), (k : Int) < 4 → ∀ w : World, (Instr.index 209 (.agg c3.toArray) (.int .i64 k)).run Tryz.prog w = .ok (.agg #[.int .u8 (A3 k), .string ⟨(W3 k 0).toArray⟩, .string ⟨(W3 k 1).toArray⟩, .string ⟨(W3 k 2).toArray⟩, .string ⟨(W3 k 3).toArray⟩]) w)
    (hix3' : ∀ (k j : Nat), (j : Int) < 4 → ∀ w : World, (Instr.index 207 (.agg #[.string ⟨(W3 k 0).toArray⟩, .string ⟨(W3 k 1).toArray⟩, .string ⟨(W3 k 2).toArray⟩, .string ⟨(W3 k 3).toArray⟩]) (.int .i64 j)).run Tryz.prog w = .ok (.string ⟨(W3 k j).toArray⟩) w)
    (o3 : ∀ k j : Nat, k < 4 → j < 4 → bits BinOp.or IntKind.u8 (A3 k) ((j : Int) * 8) = A3 k + (j : Int) * 8) (e3 : ∀ k j : Nat, k < 4 → j < 4 → mnM k (j + 1) = mnM k j ++ [(W3 k j, (A3 k + (j : Int) * 8, 0, 0, 0))]) (p3 : ∀ k j, k < 4 → j ≤ 4 → mnM k j <+: mnAll)
    (c4 : List Value) (r4 : W.rangeAt 6 0 c4) (s4 : (Tryz.prog.info? 243).map (·.size) = some c4.length) (A4 B4 : Nat → Int) (T4 : Nat → List UInt8)
    (hix4 : ∀ (k : Nat), (k : Int) < 9 → ∀ w : World, (Instr.index 243 (.agg c4.toArray) (.int .i64 k)).run Tryz.prog w = .ok (.agg #[.int .u8 (A4 k), .int .u8 (B4 k), .string ⟨(T4 k).toArray⟩]) w)
    (e4 : ∀ k, k < 9 → mnO (k + 1) = mnO k ++ [(T4 k, (A4 k, 0, B4 k, 0))]) (p4 : ∀ k, k ≤ 9 → mnO k <+: mnAll)
    (c5 : List Value) (r5 : W.rangeAt 7 0 c5) (s5 : (Tryz.prog.info? 245).map (·.size) = some c5.length) (A5 B5 : Nat → Int) (T5 : Nat → List UInt8)
    (hix5 : ∀ (k : Nat), (k : Int) < 29 → ∀ w : World, (Instr.index 245 (.agg c5.toArray) (.int .i64 k)).run Tryz.prog w = .ok (.agg #[.int .u8 (A5 k), .int .u8 (B5 k), .string ⟨(T5 k).toArray⟩]) w)
    (e5 : ∀ k, k < 29 → mnI (k + 1) = mnI k ++ [(T5 k, (A5 k, 0, 0, B5 k))]) (p5 : ∀ k, k ≤ 29 → mnI k <+: mnAll) :
    CallsIn F n Tryz.prog 221 #[.func (.yield l) #[] #[]] W fun e W' => (∃ v, e = .returned v) ∧ ((∃ ys, ys = live mnAll ∧ J ys W') ∨ (∃ pre, pre <+: live mnAll ∧ Jx pre W')) := by
  have hdd : ∀ k : Nat, (F.depth.isSome = true → 1 ≤ k) := fun k h => by rw [hd] at h; cases h
  refine callsIn_of_wp Tryz.func221 rfl h66 ?_ hro
  simp only [Tryz.ntmps221, List.size_toArray, List.length_cons, List.length_nil, Nat.reduceAdd, Nat.reduceSub, Array.replicate_succ, Array.replicate_zero, List.push_toArray, List.append_toArray, List.nil_append, List.cons_append]
  have hKb := KC.alloc W (.cells #[.func (.yield l) #[] #[]] 276)
  have r1 := hKb.range r1
  have r2 := hKb.range r2
  have r3 := hKb.range r3
  have r4 := hKb.range r4
  have r5 := hKb.range r5
  gi_wp2_with (refine wpListIn_load_mid rfl 206 (.global 3) rfl 3 0 rfl c1 _ r1 Tryz.underlying206 rfl s1 ?_)
  have hBq : (W.alloc (.cells #[.func (.yield l) #[] #[]] 276)).cell? ⟨W.heap.size, 0, none⟩ = some (.func (.yield l) #[] #[]) := by
    rw [World.cell?, show (W.alloc (.cells #[.func (.yield l) #[] #[]] 276)).heap[W.heap.size]? = some (.cells #[.func (.yield l) #[] #[]] 276) from heap_alloc_new W _]; rfl
  have hJ1 := hJ [] W (W.alloc (.cells #[.func (.yield l) #[] #[]] 276)) none h0 (World.grownBy_alloc W _ none) (fun r e => by cases e)
  clear hKb
  generalize W.alloc (.cells #[.func (.yield l) #[] #[]] 276) = Wb at *
  have hK := KC.refl Wb
  gi_loopw [19] (fun iv wr => ∃ k : Nat, k ≤ 13 ∧ iv = .int .i64 k ∧ J (live (mnR k)) wr ∧ KC Wb wr) (fun iv _ => 13 - (intOf iv).toNat)
  case atStart => exact ⟨0, by omega, rfl, hJ1, hK⟩
  case round =>
    clear hK
    obtain ⟨k, hk, rfl, hJk, hK⟩ := hrel
    by_cases hkN : k < 13
    · have hlt : (k : Int) < 13 := by omega
      have ho1 := or_of 7 k (by omega) (by decide +kernel)
      have ho2 := or_of 4 k (by omega) (by decide +kernel)
      have hBk := hK.cell hBq
      have hkA := KC.alloc wr (.cells #[.string ⟨(A1 k).toArray⟩, .string ⟨(B1 k).toArray⟩] 172)
      have hJa := hJ _ wr (wr.alloc (.cells #[.string ⟨(A1 k).toArray⟩, .string ⟨(B1 k).toArray⟩] 172)) none hJk (World.grownBy_alloc wr _ none) (fun r e => by cases e)
      have hnw : (wr.alloc (.cells #[.string ⟨(A1 k).toArray⟩, .string ⟨(B1 k).toArray⟩] 172)).cell? ⟨wr.heap.size, 1, none⟩ = some (.string ⟨(B1 k).toArray⟩) := by rw [World.cell?, show (wr.alloc (.cells #[.string ⟨(A1 k).toArray⟩, .string ⟨(B1 k).toArray⟩] 172)).heap[wr.heap.size]? = _ from heap_alloc_new wr _]; rfl
      have ct1 := (tell_any F hd hro h105 (n - 1) l W.heap.size W.heap.size N J Jx hJ hY (A1 k) ((k : Int) * 16 + 7) 0 0 0 (live (mnR k)) (wr.alloc (.cells #[.string ⟨(A1 k).toArray⟩, .string ⟨(B1 k).toArray⟩] 172)) (hkA.cell hBk) hJa (lenp (p1 k hk) hN))
      have st := e1 k hkN
      have hpr := p1 (k + 1) (by omega)
      have hlv : live (mnR (k + 1)) = (live (mnR k) ++ live [(A1 k, ((k : Int) * 16 + 7, 0, 0, 0))]) ++ live [(B1 k, ((k : Int) * 16 + 4, 0, 0, 0))] := by rw [st]; unfold live; rw [List.filter_append, List.filter_append]
      have hpl : live (mnR (k + 1)) <+: live mnAll := hpr.filter _
      gi_wp2_with (first | ((try refine ⟨hdd _, ?_⟩); gi_at_call 240; refine ct1.mono ?_; clear ct1; rintro e W1 (⟨rfl, hJ1, hK1⟩ | ⟨rfl, hX⟩); (first | (have qw := hK1.cell hnw) | skip)) | ((try refine ⟨hdd _, ?_⟩); gi_at_call 240; refine (tell_any F hd hro h105 (n - 1) l W.heap.size W.heap.size N J Jx hJ hY (B1 k) ((k : Int) * 16 + 4) 0 0 0 _ W1 (hK1.cell (hkA.cell hBk)) hJ1 (lenp2 st hpr hN)).mono ?_; rintro e W2 (⟨rfl, hJ2, hK2⟩ | ⟨rfl, hX2⟩)))
      · go_roundw
        case rel => exact ⟨k + 1, by omega, by simp, by rw [hlv]; exact hJ2, ((hK.trans hkA).trans hK1).trans hK2⟩
        case measure => simp [intOf]; omega
      · refine bodyPost_ret (results_none rfl _ _ _) rfl ?_
        exact ⟨⟨_, rfl⟩, .inr ⟨_, by rw [← hlv]; exact hpl, hX2⟩⟩
      · refine ⟨fun _ h => (by cases h), ?_⟩
        gi_wp2
        refine bodyPost_ret (results_none rfl _ _ _) rfl ?_
        exact ⟨⟨_, rfl⟩, .inr ⟨_, (by rw [hlv] at hpl; exact (List.prefix_append _ _).trans hpl), hX⟩⟩
    · have hlt : ¬ (k : Int) < 13 := by omega
      obtain rfl : k = 13 := by omega
      gi_wp2_with (refine wpListIn_load_mid rfl 173 (.global 0) rfl 0 0 rfl c2 _ (hK.range r2) Tryz.underlying173 rfl s2 ?_)
      gi_loopw [46] (fun iv wr => ∃ k : Nat, k ≤ 14 ∧ iv = .int .i64 k ∧ J (live (mnJ k)) wr ∧ KC Wb wr) (fun iv _ => 14 - (intOf iv).toNat)
      case atStart => exact ⟨0, by omega, rfl, by rw [mnJ_0]; exact hJk, hK⟩
      case round =>
        clear hK
        obtain ⟨k, hk, rfl, hJk, hK⟩ := hrel
        by_cases hkN : k < 14
        · have hlt : (k : Int) < 14 := by omega
          have ho1 := or_of 5 k (by omega) (by decide +kernel)
          have ho2 := or_of 6 k (by omega) (by decide +kernel)
          have hBk := hK.cell hBq
          have hkA := KC.alloc wr (.cells #[.string ⟨(A2 k).toArray⟩, .string ⟨(B2 k).toArray⟩] 172)
          have hJa := hJ _ wr (wr.alloc (.cells #[.string ⟨(A2 k).toArray⟩, .string ⟨(B2 k).toArray⟩] 172)) none hJk (World.grownBy_alloc wr _ none) (fun r e => by cases e)
          have hnw : (wr.alloc (.cells #[.string ⟨(A2 k).toArray⟩, .string ⟨(B2 k).toArray⟩] 172)).cell? ⟨wr.heap.size, 1, none⟩ = some (.string ⟨(B2 k).toArray⟩) := by rw [World.cell?, show (wr.alloc (.cells #[.string ⟨(A2 k).toArray⟩, .string ⟨(B2 k).toArray⟩] 172)).heap[wr.heap.size]? = _ from heap_alloc_new wr _]; rfl
          have ct1 := (tell_any F hd hro h105 (n - 1) l W.heap.size W.heap.size N J Jx hJ hY (A2 k) ((k : Int) * 16 + 5) 0 0 0 (live (mnJ k)) (wr.alloc (.cells #[.string ⟨(A2 k).toArray⟩, .string ⟨(B2 k).toArray⟩] 172)) (hkA.cell hBk) hJa (lenp (p2 k hk) hN))
          have st := e2 k hkN
          have hpr := p2 (k + 1) (by omega)
          have hlv : live (mnJ (k + 1)) = (live (mnJ k) ++ live [(A2 k, ((k : Int) * 16 + 5, 0, 0, 0))]) ++ live [(B2 k, ((k : Int) * 16 + 6, 0, 0, 0))] := by rw [st]; unfold live; rw [List.filter_append, List.filter_append]
          have hpl : live (mnJ (k + 1)) <+: live mnAll := hpr.filter _
          gi_wp2_with (first | ((try refine ⟨hdd _, ?_⟩); gi_at_call 240; refine ct1.mono ?_; clear ct1; rintro e W1 (⟨rfl, hJ1, hK1⟩ | ⟨rfl, hX⟩); (first | (have qw := hK1.cell hnw) | skip)) | ((try refine ⟨hdd _, ?_⟩); gi_at_call 240; refine (tell_any F hd hro h105 (n - 1) l W.heap.size W.heap.size N J Jx hJ hY (B2 k) ((k : Int) * 16 + 6) 0 0 0 _ W1 (hK1.cell (hkA.cell hBk)) hJ1 (lenp2 st hpr hN)).mono ?_; rintro e W2 (⟨rfl, hJ2, hK2⟩ | ⟨rfl, hX2⟩)))
          · go_roundw
            case rel => exact ⟨k + 1, by omega, by simp, by rw [hlv]; exact hJ2, ((hK.trans hkA).trans hK1).trans hK2⟩
            case measure => simp [intOf]; omega
          · refine bodyPost_ret (results_none rfl _ _ _) rfl ?_
            exact ⟨⟨_, rfl⟩, .inr ⟨_, by rw [← hlv]; exact hpl, hX2⟩⟩
          · refine ⟨fun _ h => (by cases h), ?_⟩
            gi_wp2
            refine bodyPost_ret (results_none rfl _ _ _) rfl ?_
            exact ⟨⟨_, rfl⟩, .inr ⟨_, (by rw [hlv] at hpl; exact (List.prefix_append _ _).trans hpl), hX⟩⟩
        · have hlt : ¬ (k : Int) < 14 := by omega
          obtain rfl : k = 14 := by omega
          gi_wp2_with (refine wpListIn_load_mid rfl 209 (.global 4) rfl 4 0 rfl c3 _ (hK.range r3) Tryz.underlying209 rfl s3 ?_)
          gi_loopw [73] (fun iv wr => ∃ k : Nat, k ≤ 4 ∧ iv = .int .i64 k ∧ J (live (mnM k 0)) wr ∧ KC Wb wr) (fun iv _ => 4 - (intOf iv).toNat)
          case atStart => exact ⟨0, by omega, rfl, by rw [mnM_0]; exact hJk, hK⟩
          case round =>
            clear hK
            obtain ⟨k, hk, rfl, hJk, hK⟩ := hrel
            by_cases hkN : k < 4
            · have hlt : (k : Int) < 4 := by omega
              have hkA := KC.alloc wr (.cells #[.int .u8 (A3 k), .string ⟨(W3 k 0).toArray⟩, .string ⟨(W3 k 1).toArray⟩, .string ⟨(W3 k 2).toArray⟩, .string ⟨(W3 k 3).toArray⟩] 208)
              have hJa := hJ _ wr (wr.alloc (.cells #[.int .u8 (A3 k), .string ⟨(W3 k 0).toArray⟩, .string ⟨(W3 k 1).toArray⟩, .string ⟨(W3 k 2).toArray⟩, .string ⟨(W3 k 3).toArray⟩] 208)) none hJk (World.grownBy_alloc wr _ none) (fun r e => by cases e)
              have hnw : (wr.alloc (.cells #[.int .u8 (A3 k), .string ⟨(W3 k 0).toArray⟩, .string ⟨(W3 k 1).toArray⟩, .string ⟨(W3 k 2).toArray⟩, .string ⟨(W3 k 3).toArray⟩] 208)).cell? ⟨wr.heap.size, 0, none⟩ = some (.int .u8 (A3 k)) := by rw [World.cell?, show (wr.alloc (.cells #[.int .u8 (A3 k), .string ⟨(W3 k 0).toArray⟩, .string ⟨(W3 k 1).toArray⟩, .string ⟨(W3 k 2).toArray⟩, .string ⟨(W3 k 3).toArray⟩] 208)).heap[wr.heap.size]? = _ from heap_alloc_new wr _]; rfl
              have hKo := hK.trans hkA
              gi_wp2
              obtain ⟨w3, hw3⟩ : ∃ w3, w3 = wr := ⟨_, rfl⟩
              rw [← hw3] at hKo hkA hJa hnw ⊢
              generalize hWo : w3.alloc (.cells #[.int .u8 (A3 k), .string ⟨(W3 k 0).toArray⟩, .string ⟨(W3 k 1).toArray⟩, .string ⟨(W3 k 2).toArray⟩, .string ⟨(W3 k 3).toArray⟩] 208) = Wo at *
              generalize w3.heap.size = Br at *
              clear hJk hK hw3
              gi_loopw [78] (fun iv wr => ∃ j : Nat, j ≤ 4 ∧ iv = .int .i64 j ∧ J (live (mnM k j)) wr ∧ KC Wo wr) (fun iv _ => 4 - (intOf iv).toNat)
              case atStart => exact ⟨0, by omega, rfl, hJa, KC.refl _⟩
              case round =>
                obtain ⟨j, hj, rfl, hJk, hKj⟩ := hrel
                have hKw := hKo.trans hKj
                by_cases hjN : j < 4
                · have hltj : (j : Int) < 4 := by omega
                  have hBk := hKw.cell hBq
                  have hrw := hKj.cell hnw
                  have ho3 := o3 k j hkN hjN
                  have ct1 := (tell_any F hd hro h105 (n - 1) l W.heap.size W.heap.size N J Jx hJ hY (W3 k j) (A3 k + (j : Int) * 8) 0 0 0 (live (mnM k j)) wr hBk hJk (lenp (p3 k j hkN hj) hN))
                  have st := e3 k j hkN hjN
                  have hpr := p3 k (j + 1) hkN (by omega)
                  have hlv : live (mnM k (j + 1)) = live (mnM k j) ++ live [(W3 k j, (A3 k + (j : Int) * 8, 0, 0, 0))] := by rw [st]; unfold live; rw [List.filter_append]
                  have hpl : live (mnM k (j + 1)) <+: live mnAll := hpr.filter _
                  gi_wp2_with ((try refine ⟨hdd _, ?_⟩); gi_at_call 240; refine ct1.mono ?_; clear ct1; rintro e W1 (⟨rfl, hJ1, hK1⟩ | ⟨rfl, hX⟩))
                  · go_roundw
                    case rel => exact ⟨j + 1, by omega, by simp, by rw [hlv]; exact hJ1, hKj.trans hK1⟩
                    case measure => simp [intOf]; omega
                  · refine bodyPost_ret (results_none rfl _ _ _) rfl ?_
                    exact ⟨⟨_, rfl⟩, .inr ⟨_, by rw [← hlv]; exact hpl, hX⟩⟩
                · have hltj : ¬ (j : Int) < 4 := by omega
                  obtain rfl : j = 4 := by omega
                  gi_wp2
                  go_roundw
                  case rel => exact ⟨k + 1, by omega, by simp, by rw [mnM_next]; exact hJk, hKw⟩
                  case measure => simp [intOf]; omega
            · have hlt : ¬ (k : Int) < 4 := by omega
              obtain rfl : k = 4 := by omega
              gi_wp2_with (refine wpListIn_load_mid rfl 243 (.global 6) rfl 6 0 rfl c4 _ (hK.range r4) Tryz.underlying243 rfl s4 ?_)
              gi_loopw [96] (fun iv wr => ∃ k : Nat, k ≤ 9 ∧ iv = .int .i64 k ∧ J (live (mnO k)) wr ∧ KC Wb wr) (fun iv _ => 9 - (intOf iv).toNat)
              case atStart => exact ⟨0, by omega, rfl, by rw [mnO_0]; exact hJk, hK⟩
              case round =>
                clear hK
                obtain ⟨k, hk, rfl, hJk, hK⟩ := hrel
                by_cases hkN : k < 9
                · have hlt : (k : Int) < 9 := by omega
                  have hBk := hK.cell hBq
                  have hkA := KC.alloc wr (.cells #[.int .u8 (A4 k), .int .u8 (B4 k), .string ⟨(T4 k).toArray⟩] 242)
                  have hJa := hJ _ wr (wr.alloc (.cells #[.int .u8 (A4 k), .int .u8 (B4 k), .string ⟨(T4 k).toArray⟩] 242)) none hJk (World.grownBy_alloc wr _ none) (fun r e => by cases e)
                  have ct1 := (tell_any F hd hro h105 (n - 1) l W.heap.size W.heap.size N J Jx hJ hY (T4 k) (A4 k) 0 (B4 k) 0 (live (mnO k)) (wr.alloc (.cells #[.int .u8 (A4 k), .int .u8 (B4 k), .string ⟨(T4 k).toArray⟩] 242)) (hkA.cell hBk) hJa (lenp (p4 k hk) hN))
                  have st := e4 k hkN
                  have hpr := p4 (k + 1) (by omega)
                  have hlv : live (mnO (k + 1)) = live (mnO k) ++ live [(T4 k, ((A4 k), 0, (B4 k), 0))] := by rw [st]; unfold live; rw [List.filter_append]
                  have hpl : live (mnO (k + 1)) <+: live mnAll := hpr.filter _
                  gi_wp2_with ((try refine ⟨hdd _, ?_⟩); gi_at_call 240; refine ct1.mono ?_; clear ct1; rintro e W1 (⟨rfl, hJ1, hK1⟩ | ⟨rfl, hX⟩))
                  · go_roundw
                    case rel => exact ⟨k + 1, by omega, by simp, by rw [hlv]; exact hJ1, (hK.trans hkA).trans hK1⟩
                    case measure => simp [intOf]; omega
                  · refine bodyPost_ret (results_none rfl _ _ _) rfl ?_
                    exact ⟨⟨_, rfl⟩, .inr ⟨_, by rw [← hlv]; exact hpl, hX⟩⟩
                · have hlt : ¬ (k : Int) < 9 := by omega
                  obtain rfl : k = 9 := by omega
                  gi_wp2_with (refine wpListIn_load_mid rfl 245 (.global 7) rfl 7 0 rfl c5 _ (hK.range r5) Tryz.underlying245 rfl s5 ?_)
                  gi_loopw [111] (fun iv wr => ∃ k : Nat, k ≤ 29 ∧ iv = .int .i64 k ∧ J (live (mnI k)) wr ∧ KC Wb wr) (fun iv _ => 29 - (intOf iv).toNat)
                  case atStart => exact ⟨0, by omega, rfl, by rw [mnI_0]; exact hJk, hK⟩
                  case round =>
                    clear hK
                    obtain ⟨k, hk, rfl, hJk, hK⟩ := hrel
                    by_cases hkN : k < 29
                    · have hlt : (k : Int) < 29 := by omega
                      have hBk := hK.cell hBq
                      have hkA := KC.alloc wr (.cells #[.int .u8 (A5 k), .int .u8 (B5 k), .string ⟨(T5 k).toArray⟩] 244)
                      have hJa := hJ _ wr (wr.alloc (.cells #[.int .u8 (A5 k), .int .u8 (B5 k), .string ⟨(T5 k).toArray⟩] 244)) none hJk (World.grownBy_alloc wr _ none) (fun r e => by cases e)
                      have ct1 := (tell_any F hd hro h105 (n - 1) l W.heap.size W.heap.size N J Jx hJ hY (T5 k) (A5 k) 0 0 (B5 k) (live (mnI k)) (wr.alloc (.cells #[.int .u8 (A5 k), .int .u8 (B5 k), .string ⟨(T5 k).toArray⟩] 244)) (hkA.cell hBk) hJa (lenp (p5 k hk) hN))
                      have st := e5 k hkN
                      have hpr := p5 (k + 1) (by omega)
                      have hlv : live (mnI (k + 1)) = live (mnI k) ++ live [(T5 k, ((A5 k), 0, 0, (B5 k)))] := by rw [st]; unfold live; rw [List.filter_append]
                      have hpl : live (mnI (k + 1)) <+: live mnAll := hpr.filter _
                      gi_wp2_with ((try refine ⟨hdd _, ?_⟩); gi_at_call 240; refine ct1.mono ?_; clear ct1; rintro e W1 (⟨rfl, hJ1, hK1⟩ | ⟨rfl, hX⟩))
                      · go_roundw
                        case rel => exact ⟨k + 1, by omega, by simp, by rw [hlv]; exact hJ1, (hK.trans hkA).trans hK1⟩
                        case measure => simp [intOf]; omega
                      · refine bodyPost_ret (results_none rfl _ _ _) rfl ?_
                        exact ⟨⟨_, rfl⟩, .inr ⟨_, by rw [← hlv]; exact hpl, hX⟩⟩
                    · have hlt : ¬ (k : Int) < 29 := by omega
                      obtain rfl : k = 29 := by omega
                      have hBk := hK.cell hBq
                      have ct1 := (tell_any F hd hro h105 (n - 1) l W.heap.size W.heap.size N J Jx hJ hY [108, 100, 100, 119] 24 0 0 0 (live (mnI 29)) wr hBk hJk (lenp (p5 29 (by omega)) hN))
                      have hmA : mnAll = (mnI 29 ++ [([108, 100, 100, 119], (24, 0, 0, 0))]) ++ [([108, 100, 109, 97, 112], (24, 1, 0, 0))] := by unfold mnAll; rw [List.append_assoc]; rfl
                      have hl1 : live mnAll = (live (mnI 29) ++ live [([108, 100, 100, 119], (24, 0, 0, 0))]) ++ live [([108, 100, 109, 97, 112], (24, 1, 0, 0))] := by
                        rw [hmA]
                        unfold live
                        rw [List.filter_append, List.filter_append]
                      gi_wp2_with (first | ((try refine ⟨hdd _, ?_⟩); gi_at_call 240; refine ct1.mono ?_; clear ct1; rintro e W1 (⟨rfl, hJ1, hK1⟩ | ⟨rfl, hX⟩)) | ((try refine ⟨hdd _, ?_⟩); gi_at_call 240; refine (tell_any F hd hro h105 (n - 1) l W.heap.size W.heap.size N J Jx hJ hY [108, 100, 109, 97, 112] 24 1 0 0 _ W1 (hK1.cell hBk) hJ1 (lenp2 hmA (List.prefix_refl _) hN)).mono ?_; rintro e W2 (⟨rfl, hJ2, hK2⟩ | ⟨rfl, hX2⟩)))
                      · refine bodyPost_end (results_none rfl _ _ _) rfl ?_
                        exact ⟨⟨_, rfl⟩, .inl ⟨_, rfl, by rw [hl1]; exact hJ2⟩⟩
                      · refine bodyPost_end (results_none rfl _ _ _) rfl ?_
                        exact ⟨⟨_, rfl⟩, .inr ⟨_, by rw [hl1]; exact List.prefix_refl _, hX2⟩⟩
                      · refine bodyPost_end (results_none rfl _ _ _) rfl ?_
                        exact ⟨⟨_, rfl⟩, .inr ⟨_, by rw [hl1]; exact List.prefix_append _ _, hX⟩⟩
end Go.Proofs.YtkihaohdcgjioaaGreatDoor
namespace Go.Proofs.YtkihaohdcgjioaaGreatDoor
open Go.RowKit
set_option linter.unusedVariables false
set_option linter.unusedSimpArgs false
/-- a statement as a value: its lists of words and numbers are others' -/
def stE (x : Stm) (wv nv : Value) : Value := .agg #[.int .i64 x.k, .string ⟨x.nm.toArray⟩, wv, nv, .int .i64 x.o, .int .i64 x.d, .int .i64 x.s, .int .i64 x.f, .int .i64 x.i, .string ⟨x.tg.toArray⟩, .int .i64 x.l]
def strsC (l : List (List UInt8)) : List Value := l.map (fun x => .string ⟨x.toArray⟩)
def intsC (l : List Int) : List Value := l.map (fun x => .int .i64 x)
/-- the lists of a statement -/
def LsOk (B : Nat) (w : World) (x : Stm) (wv nv : Value) : Prop := w.ownsRow B 9 1 wv x.ws.length (strsC x.ws) ∧ w.ownsRow B 3 1 nv x.ns.length (intsC x.ns)
theorem LsOk.out {B : Nat} {w w' : World} {x : Stm} {wv nv : Value} (h : LsOk B w x wv nv) (o : Out w w') : LsOk B w' x wv nv := ⟨owns_chg (S := fun _ => False) h.1 (fun _ _ h => h) (Chg.of_out o), owns_chg (S := fun _ => False) h.2 (fun _ _ h => h) (Chg.of_out o)⟩
theorem kq_not {B s n : Nat} {w : World} {e : TypeId} {v : Value} {xs : List Value} {b : Nat} (h : w.ownsRow B e s v n xs) (h1 : ¬ e = 114) (h2 : ¬ e = 60) (hb : v.ownBlock = some b) {B' : Nat} : ¬ KQ B' w b := fun hk => by
  obtain ⟨_, cs, t, fr, hc, ht⟩ := hk
  rcases ht with ht | ht
  · exact own_kind h hc (by rw [ht]; exact h1) hb
  · exact own_kind h hc (by rw [ht]; exact h2) hb
theorem LsOk.kq {B : Nat} {w w' : World} {x : Stm} {wv nv : Value} (h : LsOk B w x wv nv) (c : Chg (KQ B w) w w') : LsOk B w' x wv nv :=
  ⟨owns_chg h.1 (fun k hk => kq_not h.1 (by decide) (by decide) hk) c, owns_chg h.2 (fun k hk => kq_not h.2 (by decide) (by decide) hk) c⟩
theorem LsOk.atp {B p : Nat} {w w' : World} {x : Stm} {wv nv tv mv sv : Value} (h : LsOk B w x wv nv) (hR : RB w p tv mv sv) (c : Chg (fun b => b = p) w w') : LsOk B w' x wv nv :=
  ⟨owns_chg h.1 (fun k hk e => own_kind h.1 hR (by decide) (by rw [← e]; exact hk)) c, owns_chg h.2 (fun k hk e => own_kind h.2 hR (by decide) (by rw [← e]; exact hk)) c⟩
/-- how a method ends that reads a statement -/
def REndS (x : RE Stm) (B : Nat) (w : World) (p g mb : Nat) (sv : Value) (e : Ending) (w' : World) : Prop :=
  match x with
  | .ok s ts => ∃ wv nv, e = .returned (stE s wv nv) ∧ LsOk B w' s wv nv ∧ PS B w' p g mb sv ts ∧ Chg (fun b => b = p) w w'
  | .no c ts => e = pnc c ∧ PS B w' p g mb sv ts ∧ Chg (fun b => b = p) w w'
set_option maxHeartbeats 1000000 in
theorem set11_heap {w : World} {q : Nat} {t : TypeId} {a0 a1 a2 a3 a4 a5 a6 a7 a8 a9 a10 u0 u1 u2 u3 u4 u5 u6 u7 u8 u9 u10 : Value} (h : w.heap[q]? = some (.cells #[u0, u1, u2, u3, u4, u5, u6, u7, u8, u9, u10] t (0, 0))) : (((((((((((w.setCell ⟨q, 0, none⟩ a0).setCell ⟨q, 1, none⟩ a1).setCell ⟨q, 2, none⟩ a2).setCell ⟨q, 3, none⟩ a3).setCell ⟨q, 4, none⟩ a4).setCell ⟨q, 5, none⟩ a5).setCell ⟨q, 6, none⟩ a6).setCell ⟨q, 7, none⟩ a7).setCell ⟨q, 8, none⟩ a8).setCell ⟨q, 9, none⟩ a9).setCell ⟨q, 10, none⟩ a10).heap[q]? = some (.cells #[a0, a1, a2, a3, a4, a5, a6, a7, a8, a9, a10] t (0, 0)) := by
  simp [World.setCell, Array.getElem?_modify, h]
theorem set11_chg (w : World) (q : Nat) (a0 a1 a2 a3 a4 a5 a6 a7 a8 a9 a10 : Value) : Chg (fun b => b = q) w (((((((((((w.setCell ⟨q, 0, none⟩ a0).setCell ⟨q, 1, none⟩ a1).setCell ⟨q, 2, none⟩ a2).setCell ⟨q, 3, none⟩ a3).setCell ⟨q, 4, none⟩ a4).setCell ⟨q, 5, none⟩ a5).setCell ⟨q, 6, none⟩ a6).setCell ⟨q, 7, none⟩ a7).setCell ⟨q, 8, none⟩ a8).setCell ⟨q, 9, none⟩ a9).setCell ⟨q, 10, none⟩ a10) := ((((((((((((Chg.refl (fun b => b = q) w).setCell (p := ⟨q, 0, none⟩) rfl a0).setCell (p := ⟨q, 1, none⟩) rfl a1).setCell (p := ⟨q, 2, none⟩) rfl a2).setCell (p := ⟨q, 3, none⟩) rfl a3).setCell (p := ⟨q, 4, none⟩) rfl a4).setCell (p := ⟨q, 5, none⟩) rfl a5).setCell (p := ⟨q, 6, none⟩) rfl a6).setCell (p := ⟨q, 7, none⟩) rfl a7).setCell (p := ⟨q, 8, none⟩) rfl a8).setCell (p := ⟨q, 9, none⟩) rfl a9).setCell (p := ⟨q, 10, none⟩) rfl a10)
theorem LsOk.nil (B : Nat) (w : World) (x : Stm) (hw : x.ws = []) (hn : x.ns = []) : LsOk B w x (.slice none 0 0) (.slice none 0 0) := by
  unfold LsOk
  rw [hw, hn]
  exact ⟨World.ownsRow_nil _ _ _ _, World.ownsRow_nil _ _ _ _⟩
theorem PS.setq {B : Nat} {w w' : World} {p g mb q : Nat} {sv : Value} {ts : List Lx.Tk} (h : PS B w p g mb sv ts) (c : Chg (fun b => b = q) w w') (h1 : ¬ p = q) (h2 : ¬ g = q) : PS B w' p g mb sv ts := by
  obtain ⟨off, cap, hr, ht, hc⟩ := h.st
  obtain ⟨cs, fr, h4⟩ := h.gk
  exact ⟨⟨off, cap, (c.block p (Array.getElem?_eq_some_iff.1 hr).1 h1).trans hr, ht.chg c h2, hc⟩, ⟨cs, fr, (c.block g (Array.getElem?_eq_some_iff.1 h4).1 h2).trans h4⟩, h.pB⟩
theorem PS.gl {B : Nat} {w : World} {p g mb : Nat} {sv : Value} {ts : List Lx.Tk} (h : PS B w p g mb sv ts) : p < w.heap.size ∧ g < w.heap.size := by
  obtain ⟨off, cap, hr, _⟩ := h.st
  obtain ⟨cs, fr, h4⟩ := h.gk
  exact ⟨(Array.getElem?_eq_some_iff.1 hr).1, (Array.getElem?_eq_some_iff.1 h4).1⟩
theorem size11 : (Tryz.prog.info? 60).map (·.size) = some 11 := by kernel_rfl
def zS : Array Value := #[.int .i64 0, .string ⟨#[]⟩, .slice none 0 0, .slice none 0 0, .int .i64 0, .int .i64 0, .int .i64 0, .int .i64 0, .int .i64 0, .string ⟨#[]⟩, .int .i64 0]
set_option maxRecDepth 20000 in
set_option maxHeartbeats 4000000 in
theorem named1_any (B : Nat) (w : World) (p g mb : Nat) (sv : Value) (ts : List Lx.Tk) (kb : Nat) (kd : Int) (h : PS B w p g mb sv ts) (hl : Lw ts) (hk : w.heap[kb]? = some (.cells #[.int .i64 kd] 3 (0, 0))) (hB : B ≤ w.heap.size) : Calls Tryz.prog 134 #[.pointer (some ⟨p, 0, none⟩), .pointer (some ⟨kb, 0, none⟩)] w (REndS (nmQ kd ts) B w p g mb sv) := by
  unfold nmQ
  obtain ⟨w1, hw1⟩ : ∃ w1, w1 = w.alloc (.cells #[.int .i64 0, .string ⟨#[]⟩, .slice none 0 0, .slice none 0 0, .int .i64 0, .int .i64 0, .int .i64 0, .int .i64 0, .int .i64 0, .string ⟨#[]⟩, .int .i64 0] 60) := ⟨_, rfl⟩
  have o1 : Out w w1 := by rw [hw1]; exact (Out.refl w).alloc _
  have b1 : w1.heap[w.heap.size]? = some (.cells #[.int .i64 0, .string ⟨#[]⟩, .slice none 0 0, .slice none 0 0, .int .i64 0, .int .i64 0, .int .i64 0, .int .i64 0, .int .i64 0, .string ⟨#[]⟩, .int .i64 0] 60 (0, 0)) := by rw [hw1]; exact heap_alloc_new w _
  have C := hidOf (fun m => word_any B (w1.drewN m) p g mb sv ts (h.out (o1.dN m)) hl)
  have k1 : w1.heap[kb]? = _ := (o1.block kb (Array.getElem?_eq_some_iff.1 hk).1).trans hk
  have q1 : w1.cell? ⟨kb, 0, none⟩ = some (.int .i64 kd) := by rw [cell_atL k1]; rfl
  have Hkp : Hid (¬ kb = p) := hidOf (fun e => by
    obtain ⟨off, cap, hr, _⟩ := h.st
    rw [e, show w.heap[p]? = _ from hr] at hk
    simp at hk)
  have Hpl : Hid (p < w.heap.size) := hidOf (by
    obtain ⟨off, cap, hr, _⟩ := h.st
    exact (Array.getElem?_eq_some_iff.1 hr).1)
  have Hgl : Hid (g < w.heap.size) := hidOf h.gl.2
  have Hkl : Hid (kb < w.heap.size) := hidOf (Array.getElem?_eq_some_iff.1 hk).1
  have K1 := hidOf k1
  have B1 := hidOf b1
  have O1 := hidOf o1
  have Hw1 := hidOf hw1
  clear h hk k1 b1 o1 hw1
  cases hq : wdQ ts with
  | ok x r =>
    rw [bind_ok]
    have C : Hid (∀ m, Calls Tryz.prog 96 #[.pointer (some ⟨p, 0, none⟩)] (w1.drewN m) fun e w' => e = .returned (.string ⟨x.toArray⟩) ∧ PS B w' p g mb sv r ∧ Chg (fun b => b = p) (w1.drewN m) w') := hidOf (fun m => by have := C.out m; rw [hq] at this; exact this)
    clear hq hl
    go_enter Tryz.func134, Tryz.ntmps134
    go_upto_region 1 with fail
    rw [← Hw1.out]
    refine wp_region_held_drew (S := (fun w' => w'.cell? ⟨kb, 0, none⟩ = some (.int .i64 kd))) (by kernel_rfl) ?_ (fun hHeld => ?_)
    · exact q1
    refine wpAnyH_take (i := 0) (v := ?_) rfl (by kernel_rfl) (by kernel_rfl) (by kernel_rfl) (fun _ _ _ h => h) (Or.inl ⟨by rfl, ?_⟩) (by assumption) ?_
    rotate_left
    · (intro w hSw; (try dsimp only at hSw); go_simp; (try with_reducible rfl))
    show wpAnyH _ _ _ _ _ _ _ (Act.put _ (some 4) _) _
    simp only [Act.put, List.setIfInBounds_toArray, List.set_cons_zero, List.set_cons_succ]
    refine wpAnyH_take (i := 1) (v := ?_) rfl (by kernel_rfl) (by kernel_rfl) (by kernel_rfl) (fun _ _ _ h => h) (Or.inl ⟨by rfl, ?_⟩) (by assumption) ?_
    rotate_left
    · (intro w hSw; (try dsimp only at hSw); go_simp; (try with_reducible rfl))
    show wpAnyH _ _ _ _ _ _ _ (Act.put _ (some 5) _) _
    simp only [Act.put, List.setIfInBounds_toArray, List.set_cons_zero, List.set_cons_succ]
    refine wpAnyH_ready (rs := [2]) (by kernel_rfl) (by simp) ?_
    refine AllReadyH.cons rfl (fun K hK => ?_) AllReadyH.nil
    rw [if_pos (by rfl)]
    go_simp
    go_at_call 96
    refine (C.out 1).mono ?_
    rintro e w2 ⟨rfl, hp, hc⟩
    have P2 := hidOf hp
    have C2 := hidOf (Chg.then2 (Chg.of_out ((Out.refl w1).dN 1)) hc)
    clear hp hc
    have hpk : ¬ kb = p := Hkp.out
    have k2 : w2.heap[kb]? = _ := (C2.out.block kb (Array.getElem?_eq_some_iff.1 K1.out).1 hpk).trans K1.out
    have b2 : w2.heap[w.heap.size]? = _ := (C2.out.block w.heap.size (Array.getElem?_eq_some_iff.1 B1.out).1 (fun e => by have := Hpl.out; omega)).trans B1.out
    have q2 : w2.cell? ⟨kb, 0, none⟩ = some (.int .i64 kd) := by rw [cell_atL k2]; rfl
    refine hK.out _ _ q2 (fun hHeld => ?_)
    refine wpAnyH_take (i := 3) (v := ?_) rfl (by kernel_rfl) (by kernel_rfl) (by kernel_rfl) (fun _ _ _ h => h) (Or.inl ⟨by rfl, ?_⟩) (by assumption) ?_
    rotate_left
    · (intro w hSw; (try dsimp only at hSw); go_simp; (try with_reducible rfl))
    show wpAnyH _ _ _ _ _ _ _ (Act.put _ (some 7) _) _
    simp only [Act.put, List.setIfInBounds_toArray, List.set_cons_zero, List.set_cons_succ]
    refine wpAnyH_ready (rs := [4]) (by kernel_rfl) (by simp) ?_
    refine AllReadyH.cons rfl (fun K2 hK2 => ?_) AllReadyH.nil
    rw [if_pos (by rfl)]
    have z0 : w2.cell? ⟨w.heap.size, 0, none⟩ = some (.int .i64 0) := by rw [cell_atL b2]; rfl
    have z1 : w2.cell? ⟨w.heap.size, 1, none⟩ = some (.string ⟨#[]⟩) := by rw [cell_atL b2]; rfl
    have z2 : w2.cell? ⟨w.heap.size, 2, none⟩ = some (.slice none 0 0) := by rw [cell_atL b2]; rfl
    have z3 : w2.cell? ⟨w.heap.size, 3, none⟩ = some (.slice none 0 0) := by rw [cell_atL b2]; rfl
    have z4 : w2.cell? ⟨w.heap.size, 4, none⟩ = some (.int .i64 0) := by rw [cell_atL b2]; rfl
    have z5 : w2.cell? ⟨w.heap.size, 5, none⟩ = some (.int .i64 0) := by rw [cell_atL b2]; rfl
    have z6 : w2.cell? ⟨w.heap.size, 6, none⟩ = some (.int .i64 0) := by rw [cell_atL b2]; rfl
    have z7 : w2.cell? ⟨w.heap.size, 7, none⟩ = some (.int .i64 0) := by rw [cell_atL b2]; rfl
    have z8 : w2.cell? ⟨w.heap.size, 8, none⟩ = some (.int .i64 0) := by rw [cell_atL b2]; rfl
    have z9 : w2.cell? ⟨w.heap.size, 9, none⟩ = some (.string ⟨#[]⟩) := by rw [cell_atL b2]; rfl
    have z10 : w2.cell? ⟨w.heap.size, 10, none⟩ = some (.int .i64 0) := by rw [cell_atL b2]; rfl
    have f0 := frozen_atL b2 0
    have f1 := frozen_atL b2 1
    have f2 := frozen_atL b2 2
    have f3 := frozen_atL b2 3
    have f4 := frozen_atL b2 4
    have f5 := frozen_atL b2 5
    have f6 := frozen_atL b2 6
    have f7 := frozen_atL b2 7
    have f8 := frozen_atL b2 8
    have f9 := frozen_atL b2 9
    have f10 := frozen_atL b2 10
    have Hb2 := hidOf b2
    clear b2 k2
    go_simp
    have c3 := set11_chg w2 w.heap.size (.int .i64 kd) (.string ⟨x.toArray⟩) (.slice none 0 0) (.slice none 0 0) (.int .i64 0) (.int .i64 0) (.int .i64 0) (.int .i64 0) (.int .i64 0) (.string ⟨#[]⟩) (.int .i64 0)
    have b3 := set11_heap (a0 := .int .i64 kd) (a1 := .string ⟨x.toArray⟩) (a2 := .slice none 0 0) (a3 := .slice none 0 0) (a4 := .int .i64 0) (a5 := .int .i64 0) (a6 := .int .i64 0) (a7 := .int .i64 0) (a8 := .int .i64 0) (a9 := .string ⟨#[]⟩) (a10 := .int .i64 0) Hb2.out
    refine hK2.out _ _ (c3.cell q2 (fun e => by have := Hkl.out; have e' : kb = w.heap.size := e; omega)) (fun hHeld => ?_)
    have B3 := hidOf b3
    have C3 := hidOf c3
    clear b3 c3 z0 z1 z2 z3 z4 z5 z6 z7 z8 z9 z10 f0 f1 f2 f3 f4 f5 f6 f7 f8 f9 f10 Hb2
    refine wpAnyH_done (by kernel_rfl) ?_ _
    go_wp2
    refine bodyPost_ret (results_cell_row rfl _ _ w.heap.size 60 _ (0, 0) _ rfl B3.out Tryz.underlying60 rfl size11) rfl ?_
    have hl2 := P2.out.gl
    refine ⟨_, _, rfl, LsOk.nil B _ (nmS kd x) rfl rfl, P2.out.setq C3.out (fun e => by have := Hpl.out; omega) (fun e => by have := Hgl.out; omega), (Chg.then2 (Chg.of_out O1.out) C2.out).trans C3.out (fun x hx hlt => by omega)⟩
  | no c r =>
    rw [bind_no]
    have C : Hid (∀ m, Calls Tryz.prog 96 #[.pointer (some ⟨p, 0, none⟩)] (w1.drewN m) fun e w' => e = .panicked [{ v := .iface 49 (.int .i64 c), recovered := false }] ∧ PS B w' p g mb sv r ∧ Chg (fun b => b = p) (w1.drewN m) w') := hidOf (fun m => by have := C.out m; rw [hq] at this; exact this)
    clear hq hl
    go_enter Tryz.func134, Tryz.ntmps134
    go_upto_region 1 with fail
    rw [← Hw1.out]
    refine wp_region_held_drew (S := (fun w' => w'.cell? ⟨kb, 0, none⟩ = some (.int .i64 kd))) (by kernel_rfl) ?_ (fun hHeld => ?_)
    · exact q1
    refine wpAnyH_take (i := 0) (v := ?_) rfl (by kernel_rfl) (by kernel_rfl) (by kernel_rfl) (fun _ _ _ h => h) (Or.inl ⟨by rfl, ?_⟩) (by assumption) ?_
    rotate_left
    · (intro w hSw; (try dsimp only at hSw); go_simp; (try with_reducible rfl))
    show wpAnyH _ _ _ _ _ _ _ (Act.put _ (some 4) _) _
    simp only [Act.put, List.setIfInBounds_toArray, List.set_cons_zero, List.set_cons_succ]
    refine wpAnyH_take (i := 1) (v := ?_) rfl (by kernel_rfl) (by kernel_rfl) (by kernel_rfl) (fun _ _ _ h => h) (Or.inl ⟨by rfl, ?_⟩) (by assumption) ?_
    rotate_left
    · (intro w hSw; (try dsimp only at hSw); go_simp; (try with_reducible rfl))
    show wpAnyH _ _ _ _ _ _ _ (Act.put _ (some 5) _) _
    simp only [Act.put, List.setIfInBounds_toArray, List.set_cons_zero, List.set_cons_succ]
    refine wpAnyH_ready (rs := [2]) (by kernel_rfl) (by simp) ?_
    refine AllReadyH.cons rfl (fun K hK => ?_) AllReadyH.nil
    rw [if_pos (by rfl)]
    go_simp
    go_at_call 96
    refine (C.out 1).mono ?_
    rintro e w2 ⟨rfl, hp, hc⟩
    have P2 := hidOf hp
    have C2 := hidOf (Chg.then2 (Chg.of_out ((Out.refl w1).dN 1)) hc)
    clear hp hc
    exact ⟨rfl, rfl, P2.out, Chg.then2 (Chg.of_out O1.out) C2.out⟩
end Go.Proofs.YtkihaohdcgjioaaGreatDoor
