import Derived.Test.YthififblejbleaaGreatDoorHy12
namespace Go.Proofs.YthififblejbleaaGreatDoor
open Go.RowKit
set_option linter.unusedVariables false
set_option linter.unusedSimpArgs false
theorem low_odd (n m : Nat) (hn : 0 < n) (h : 2 * m + 1 < 2 ^ n) : (2 * m + 1) &&& (2 ^ n - (2 * m + 1)) = 1 := by
  apply Nat.eq_of_testBit_eq
  intro i
  rw [Nat.testBit_and, Nat.testBit_two_pow_sub_succ (by omega)]
  rcases i with _ | i
  · simp [Nat.testBit_zero, hn]
  · rw [Nat.testBit_succ, Nat.testBit_succ, Nat.testBit_succ, show (2 * m + 1) / 2 = m by omega, show 2 * m / 2 = m by omega]
    cases m.testBit i <;> simp
theorem low_bit (k m : Nat) (hk : k < 64) (h : 2 ^ k * (2 * m + 1) < 18446744073709551616) : (2 ^ k * (2 * m + 1)) &&& (18446744073709551616 - 2 ^ k * (2 * m + 1)) = 2 ^ k := by
  have e : 18446744073709551616 = 2 ^ k * 2 ^ (64 - k) := by rw [← Nat.pow_add, show k + (64 - k) = 64 by omega]
  rw [e, ← Nat.mul_sub]
  rw [e] at h
  have h2 : 2 * m + 1 < 2 ^ (64 - k) := Nat.lt_of_mul_lt_mul_left h
  have := low_odd (64 - k) m (by omega) h2
  rw [Nat.mul_comm (2 ^ k) (2 * m + 1), Nat.mul_comm (2 ^ k) (2 ^ (64 - k) - (2 * m + 1)), ← Nat.shiftLeft_eq, ← Nat.shiftLeft_eq, ← Nat.shiftLeft_and_distrib, this, Nat.shiftLeft_eq, Nat.one_mul]
theorem odd_part : ∀ (n v : Nat), 0 < v → v < 2 ^ n → ∃ k m, k < n ∧ v = 2 ^ k * (2 * m + 1)
  | 0, v, h0, h => by simp at h; omega
  | n + 1, v, h0, h => by
    rcases Nat.mod_two_eq_zero_or_one v with e | e
    · obtain ⟨k, m, hk, hv⟩ := odd_part n (v / 2) (by omega) (by rw [Nat.pow_succ] at h; omega)
      exact ⟨k + 1, m, by omega, by rw [Nat.pow_succ, Nat.mul_comm (2 ^ k) 2, Nat.mul_assoc, ← hv]; omega⟩
    · exact ⟨0, v / 2, by omega, by omega⟩
def db64 : List Nat := [0, 1, 56, 2, 57, 49, 28, 3, 61, 58, 42, 50, 38, 29, 17, 4, 62, 47, 59, 36, 45, 43, 51, 22, 53, 39, 33, 30, 24, 18, 12, 5, 63, 55, 48, 27, 60, 41, 37, 16, 46, 35, 44, 21, 52, 32, 23, 11, 54, 26, 40, 15, 34, 20, 31, 10, 25, 14, 19, 9, 13, 8, 7, 6]
def Tb64 (w : World) : Prop := ∀ k x, db64[k]? = some x → w.cell? ⟨1, k, none⟩ = some (.int .u8 (x : Nat))
def ix64 (k : Nat) : Nat := 2 ^ k * 285870213051353865 % 18446744073709551616 / 288230376151711744
theorem ix_ok : ∀ k, k < 32 → ix64 k < 64 ∧ db64[ix64 k]? = some k := by decide
theorem tz_eq (v : Nat) (h0 : 0 < v) (h : v < 4294967296) : ∃ k, k < 32 ∧ v &&& (18446744073709551616 - v) = 2 ^ k ∧ k / 8 = tz4 v := by
  obtain ⟨k, m, hk, hv⟩ := odd_part 32 v h0 (by omega)
  refine ⟨k, hk, ?_, ?_⟩
  · rw [hv]; exact low_bit k m (by omega) (by rw [← hv]; omega)
  · have : ∀ k, k < 32 → ∀ v, v = 2 ^ k * (2 * m + 1) → v < 4294967296 → k / 8 = tz4 v := by
      intro k hk v hv h
      have hc : k = 0 ∨ k = 1 ∨ k = 2 ∨ k = 3 ∨ k = 4 ∨ k = 5 ∨ k = 6 ∨ k = 7 ∨ k = 8 ∨ k = 9 ∨ k = 10 ∨ k = 11 ∨ k = 12 ∨ k = 13 ∨ k = 14 ∨ k = 15 ∨ k = 16 ∨ k = 17 ∨ k = 18 ∨ k = 19 ∨ k = 20 ∨ k = 21 ∨ k = 22 ∨ k = 23 ∨ k = 24 ∨ k = 25 ∨ k = 26 ∨ k = 27 ∨ k = 28 ∨ k = 29 ∨ k = 30 ∨ k = 31 := by omega
      rcases hc with rfl | rfl | rfl | rfl | rfl | rfl | rfl | rfl | rfl | rfl | rfl | rfl | rfl | rfl | rfl | rfl | rfl | rfl | rfl | rfl | rfl | rfl | rfl | rfl | rfl | rfl | rfl | rfl | rfl | rfl | rfl | rfl <;> (unfold tz4; simp only [Nat.reducePow] at hv; first | (rw [if_pos (by omega)]) | (rw [if_neg (by omega), if_pos (by omega)]) | (rw [if_neg (by omega), if_neg (by omega), if_pos (by omega)]) | (rw [if_neg (by omega), if_neg (by omega), if_neg (by omega)]))
    exact this k hk v hv h
theorem and_neg (v y : Nat) (h0 : 0 < v) (h : v < 18446744073709551616) (hy : v &&& (18446744073709551616 - v) = y) : bits BinOp.and IntKind.u64 (v : Int) (18446744073709551616 - (v : Int)) = (y : Int) := by
  have key : ∀ n : Nat, n < 18446744073709551616 → (BitVec.ofInt 64 (n : Int)).toNat = n := by
    intro n hn
    rw [BitVec.toNat_ofInt, show ((n : Int) % ((2 ^ 64 : Nat) : Int)) = n by omega]; rfl
  rw [show (18446744073709551616 - (v : Int)) = ((18446744073709551616 - v : Nat) : Int) by omega]
  show IntKind.u64.wrap ((BitVec.ofInt 64 (v : Int) &&& BitVec.ofInt 64 ((18446744073709551616 - v : Nat) : Int)).toNat : Int) = _
  rw [BitVec.toNat_and, key v h, key _ (by omega), hy]
  have : y ≤ v := by rw [← hy]; exact Nat.and_le_left
  simp [IntKind.wrap, IntKind.bits, IntKind.signed]
  omega
set_option maxRecDepth 8000 in
set_option maxHeartbeats 2000000 in
theorem tz64_any (w : World) (hT : Tb64 w) (v k : Nat) (h0 : 0 < v) (h : v < 4294967296) (hk : k < 32) (hl : v &&& (18446744073709551616 - v) = 2 ^ k) : Calls Tryz.prog 117 #[.int .u64 v] w fun e w' => e = .returned (.int .i64 (k : Nat)) ∧ w' = w := by
  obtain ⟨hi, hx⟩ := ix_ok k hk
  have hc := hT _ _ hx
  have a1 := and_neg v (2 ^ k) h0 (by omega) hl
  obtain ⟨ix, hix⟩ : ∃ ix, Hid (ix = ix64 k) := ⟨_, rfl⟩
  rw [← hix.out] at hi hc
  have a2 : (((2 ^ k : Nat) : Int) * 285870213051353865) % 18446744073709551616 / 288230376151711744 = (ix : Int) := by
    rw [hix.out]; unfold ix64; omega
  obtain ⟨y, hy⟩ : ∃ y : Nat, Hid (y = 2 ^ k) := ⟨_, rfl⟩
  rw [← hy.out] at a1 a2
  have hv0 : ¬ (v : Int) = 0 := by omega
  have n1 : IntKind.u64.wrap (-(v : Int)) = 18446744073709551616 - (v : Int) := by simp [IntKind.wrap, IntKind.bits, IntKind.signed]; omega
  obtain ⟨z, hz⟩ : ∃ z : Int, Hid (z = (y : Int) * 285870213051353865 % 18446744073709551616) := ⟨_, rfl⟩
  have n2 : IntKind.u64.wrap ((y : Int) * 285870213051353865) = z := by rw [hz.out]; simp [IntKind.wrap, IntKind.bits, IntKind.signed]
  rw [← hz.out] at a2
  have hyl : y < 4294967296 := by rw [hy.out]; exact Nat.pow_lt_pow_right (a := 2) (n := 32) (by omega) hk
  clear hl hT hx
  go_enter Tryz.func117, Tryz.ntmps117
  go_wp2
  go_ret
  exact ⟨rfl, rfl⟩
theorem tz_any (v : Nat) (h0 : 0 < v) (h : v < 4294967296) : ∃ k : Nat, k < 32 ∧ k / 8 = tz4 v ∧ ∀ w : World, Tb64 w → Calls Tryz.prog 108 #[.int .u64 v] w fun e w' => e = .returned (.int .i64 (k : Nat)) ∧ w' = w := by
  obtain ⟨k, hk, hl, h8⟩ := tz_eq v h0 h
  refine ⟨k, hk, h8, fun w hT => ?_⟩
  have C := hidOf (tz64_any w hT v k h0 h hk hl)
  clear hT hl h8
  go_enter Tryz.func108, Tryz.ntmps108
  go_wp2_with (go_at_call 117; refine C.out.mono ?_; rintro e w1 ⟨rfl, rfl⟩)
  go_ret
  exact ⟨rfl, rfl⟩
def inR (l : List UInt8) (o E : Nat) : Ins × Nat × Bool × Nat :=
  if isW (insR l o).o then (if o + 8 = E then (insR l o, o, true, o + 8) else if g4 l (o + 8) ≠ 0 then (insR l o, o + 8 + tz4 (g4 l (o + 8)), true, o + 16) else (widR l o, 0, false, o + 16)) else (insR l o, 0, false, o + 8)
theorem Tb64.chg {w w' : World} {S : Nat → Prop} (h : Tb64 w) (k : Chg S w w') (hs : ¬ S 1) : Tb64 w' := fun i x hx => k.cell (h i x hx) hs
theorem Tb64.out {w w' : World} (h : Tb64 w) (k : Out w w') : Tb64 w' := h.chg (S := fun _ => False) (Chg.of_out k) (fun h => h)
theorem box5 {w : World} {q : Nat} {z1 z2 z3 z4 z5 : Value} {t : TypeId} (h : w.heap[q]? = some (.cells #[z1, z2, z3, z4, z5] t (0, 0))) (a b c d e : Value) : (((((w.setCell ⟨q, 0, none⟩ a).setCell ⟨q, 1, none⟩ b).setCell ⟨q, 2, none⟩ c).setCell ⟨q, 3, none⟩ d).setCell ⟨q, 4, none⟩ e).heap[q]? = some (.cells #[a, b, c, d, e] t (0, 0)) := by
  rw [blk_set (blk_set (blk_set (blk_set (blk_set h _ _) _ _) _ _) _ _) _ _]; rfl
theorem Mv.box {p o : Nat} {a b : World} (h : Mv p o a b) (hp : p < a.heap.size) (v0 v1 v2 v3 v4 : Value) : Mv p o a (((((b.setCell ⟨a.heap.size, 0, none⟩ v0).setCell ⟨a.heap.size, 1, none⟩ v1).setCell ⟨a.heap.size, 2, none⟩ v2).setCell ⟨a.heap.size, 3, none⟩ v3).setCell ⟨a.heap.size, 4, none⟩ v4) :=
  (((((h.setF hp (Nat.le_refl _) _ _).setF hp (Nat.le_refl _) _ _).setF hp (Nat.le_refl _) _ _).setF hp (Nat.le_refl _) _ _).setF hp (Nat.le_refl _) _ _)
structure Bx (w : World) (q : Nat) (a b c d e : Int) : Prop where
  blk : w.heap[q]? = some (.cells #[.int .i64 a, .int .i64 b, .int .i64 c, .int .i64 d, .int .i64 e] 67 (0, 0))
theorem Bx.all {w : World} {q : Nat} {a b c d e : Int} (h : Bx w q a b c d e) : (w.cell? ⟨q, 0, none⟩ = some (.int .i64 a) ∧ w.cell? ⟨q, 1, none⟩ = some (.int .i64 b) ∧ w.cell? ⟨q, 2, none⟩ = some (.int .i64 c) ∧ w.cell? ⟨q, 3, none⟩ = some (.int .i64 d) ∧ w.cell? ⟨q, 4, none⟩ = some (.int .i64 e)) ∧ w.frozen? ⟨q, 0, none⟩ = false ∧ w.frozen? ⟨q, 1, none⟩ = false ∧ w.frozen? ⟨q, 2, none⟩ = false ∧ w.frozen? ⟨q, 3, none⟩ = false ∧ w.frozen? ⟨q, 4, none⟩ = false := by
  refine ⟨⟨?_, ?_, ?_, ?_, ?_⟩, frozen_atL h.blk 0, frozen_atL h.blk 1, frozen_atL h.blk 2, frozen_atL h.blk 3, frozen_atL h.blk 4⟩ <;> (rw [cell_atL h.blk]; rfl)
theorem Bx.lt {w : World} {q : Nat} {a b c d e : Int} (h : Bx w q a b c d e) : q < w.heap.size := (Array.getElem?_eq_some_iff.1 h.blk).1
theorem Bx.chg {w w' : World} {q : Nat} {a b c d e : Int} {S : Nat → Prop} (h : Bx w q a b c d e) (k : Chg S w w') (hs : ¬ S q) : Bx w' q a b c d e := ⟨(k.block q h.lt hs).trans h.blk⟩
theorem Bx.out {w w' : World} {q : Nat} {a b c d e : Int} (h : Bx w q a b c d e) (k : Out w w') : Bx w' q a b c d e := ⟨(k.block q h.lt).trans h.blk⟩
theorem held5 {w : World} {q y : Nat} {v : Value} {a b c d e : Int} (h : Bx w q a b c d e) (hz : w.cell? ⟨y, 0, none⟩ = some v) (hy : ¬ q = y) : (((((w.setCell ⟨q, 0, none⟩ (.int .i64 a)).setCell ⟨q, 1, none⟩ (.int .i64 b)).setCell ⟨q, 2, none⟩ (.int .i64 c)).setCell ⟨q, 3, none⟩ (.int .i64 d)).setCell ⟨q, 4, none⟩ (.int .i64 e)).cell? ⟨y, 0, none⟩ = some v ∧ Bx (((((w.setCell ⟨q, 0, none⟩ (.int .i64 a)).setCell ⟨q, 1, none⟩ (.int .i64 b)).setCell ⟨q, 2, none⟩ (.int .i64 c)).setCell ⟨q, 3, none⟩ (.int .i64 d)).setCell ⟨q, 4, none⟩ (.int .i64 e)) q a b c d e := by
  refine ⟨?_, ⟨box5 h.blk _ _ _ _ _⟩⟩
  have k : ∀ (w : World) (j : Nat) (u : Value), (w.setCell ⟨q, j, none⟩ u).cell? ⟨y, 0, none⟩ = w.cell? ⟨y, 0, none⟩ := fun w j u => World.cell?_setCell_other w _ _ u (fun e => by simp only [Addr.mk.injEq] at e; exact hy e.1)
  rw [k, k, k, k, k]; exact hz
theorem num2R (wb : World) (p g go n c o : Nat) (l : List UInt8) (h : Tk wb p g go n c o l) (hr : o + 8 ≤ n) (hn : n ≤ 1000000000000) (t : TypeId) : Calls Tryz.prog 54 #[.pointer (some ⟨p, 0, none⟩), .slice (some ⟨wb.heap.size + 1 + 1, 0, none⟩) 2 2] (((wb.alloc (.cells #[.int .i64 0] 3)).alloc (.cells #[.int .i64 0] 3)).alloc (.cells #[.pointer (some ⟨wb.heap.size, 0, none⟩), .pointer (some ⟨wb.heap.size + 1, 0, none⟩)] t)) fun e w' => (∃ v, e = .returned v) ∧ Mv p (o + 8) wb w' ∧ w'.cell? ⟨wb.heap.size, 0, none⟩ = some (.int .i64 (g4 l o : Nat)) ∧ w'.cell? ⟨wb.heap.size + 1, 0, none⟩ = some (.int .i64 (g4 l (o + 4) : Nat)) := by
  obtain ⟨w3, hw3⟩ : ∃ w3, Hid (w3 = (wb.alloc (.cells #[.int .i64 0] 3)).alloc (.cells #[.int .i64 0] 3)) := ⟨_, rfl⟩
  rw [← hw3.out]
  have O3 : Out wb w3 := by rw [hw3.out]; exact Out.alloc (Out.alloc (Out.refl _) _) _
  have hs3 : w3.heap.size = wb.heap.size + 1 + 1 := by rw [hw3.out, size_alloc, size_alloc]
  have A3 : w3.heap[wb.heap.size]? = some (.cells #[.int .i64 0] 3 (0, 0)) := by
    rw [hw3.out, Below.heap_alloc _ _ _ (by rw [size_alloc]; omega)]; exact heap_alloc_new wb _
  have B3 : w3.heap[wb.heap.size + 1]? = some (.cells #[.int .i64 0] 3 (0, 0)) := by
    rw [hw3.out]
    have := heap_alloc_new (wb.alloc (.cells #[.int .i64 0] 3)) (.cells #[.int .i64 0] 3)
    rw [size_alloc] at this; exact this
  have hpl := h.pl
  have hgl := h.gl
  have oW : Out w3 (w3.alloc (.cells #[.pointer (some ⟨wb.heap.size, 0, none⟩), .pointer (some ⟨wb.heap.size + 1, 0, none⟩)] t)) := Out.alloc (Out.refl _) _
  have hA := (oW.block _ (by omega)).trans A3
  have hB := (oW.block _ (by omega)).trans B3
  have := numR wb _ p g go n c o (wb.heap.size + 1 + 1) l [(wb.heap.size, 0), (wb.heap.size + 1, 0)] (h.out (O3.trans oW)) (O3.trans oW) hpl hgl (fun y hy => by simp at hy; rcases hy with rfl | rfl <;> simp) (by simp) (by simp) (fun i y hy => by
    rcases i with _ | _ | i
    · simp at hy; subst hy; exact cell_fresh w3 _ _ 0 _ hs3.symm
    · simp at hy; subst hy; exact cell_fresh w3 _ _ 1 _ hs3.symm
    · simp at hy) (by omega) (fun y hy => by
    simp at hy
    rcases hy with rfl | rfl
    · exact ⟨by rw [cell_atL hA]; rfl, frozen_atL hA 0, by simp; omega⟩
    · exact ⟨by rw [cell_atL hB]; rfl, frozen_atL hB 0, by simp⟩) (by simpa using hr) hn
  refine this.mono ?_
  rintro e w' ⟨hv, hm, hg, hc⟩
  exact ⟨hv, hm, by simpa using hg 0 (wb.heap.size, 0) rfl, by simpa using hg 1 (wb.heap.size + 1, 0) rfl⟩
theorem results_cell3 {P : Program} {fn : Func} {p u v : Tmp} {ty : TypeId} (h : fn.results = #[.cell p ty, .tmp u, .tmp v]) (tmps : Array Value) (w : World) (g : Nat) (t : TypeId) (cs : Array Value) (fr : Nat × Nat) (d : TypeDesc)
    (hp : tmps.getD p undef = .pointer (some ⟨g, 0, none⟩)) (hg : w.heap[g]? = some (.cells cs t fr))
    (hu : P.underlying ty = some d) (hd : (match d with | .struct _ | .array _ _ => true | _ => false) = true) (hi : (P.info? ty).map (·.size) = some cs.size) :
    (results fn tmps).run P w = .ok (.tuple #[.agg cs, tmps.getD u undef, tmps.getD v undef]) w := by
  have hp' : tmps[p]?.getD undef = .pointer (some ⟨g, 0, none⟩) := by simpa using hp
  simp [results, h, hp', asAddr, run_loadVar_row w g t ty cs fr d hg hu hd hi]
theorem or_comm17 (a b : Int) : bits BinOp.or IntKind.i64 a b = bits BinOp.or IntKind.i64 b a := by
  show IntKind.i64.wrap ((BitVec.ofInt 64 a ||| BitVec.ofInt 64 b).toNat : Int) = IntKind.i64.wrap ((BitVec.ofInt 64 b ||| BitVec.ofInt 64 a).toNat : Int)
  rw [BitVec.or_comm]
set_option maxRecDepth 40000 in
set_option maxHeartbeats 2000000 in
theorem takeInsn_any (w : World) (p g go n c o E : Nat) (l : List UInt8) (h : Tk w p g go n c o l) (hT : Tb64 w) (hp1 : ¬ 1 = p) (hr : o + 8 ≤ E) (hm : o + 8 = E ∨ o + 16 ≤ E) (hE : E ≤ n) (hn : n ≤ 1000000000000) : Calls Tryz.prog 91 #[.pointer (some ⟨p, 0, none⟩), .int .i64 (E : Nat)] w fun e w' => e = .returned (.tuple #[insAg (inR l o E).1, .int .i64 ((inR l o E).2.1 : Nat), .bool (inR l o E).2.2.1]) ∧ Mv p (inR l o E).2.2.2 w w' := by
  have hpl := h.pl
  have hgl := h.gl
  have hT' := hidOf hT
  have h' := hidOf h
  obtain ⟨w1, hw1⟩ : ∃ w1, Hid (w1 = w.alloc (.cells #[.int .i64 0, .int .i64 0, .int .i64 0, .int .i64 0, .int .i64 0] 67)) := ⟨_, rfl⟩
  have O1 : Hid (Out w w1) := hidOf (by rw [hw1.out]; exact Out.alloc (Out.refl _) _)
  have hs1 : w1.heap.size = w.heap.size + 1 := by rw [hw1.out, size_alloc]
  have R1 : Hid (w1.heap[w.heap.size]? = some (.cells #[.int .i64 0, .int .i64 0, .int .i64 0, .int .i64 0, .int .i64 0] 67 (0, 0))) := hidOf (by rw [hw1.out]; exact heap_alloc_new w _)
  have T1 : Hid (Tk w1 p g go n c o l) := hidOf (h.out O1.out)
  have C1 := hidOf (takeSlot_any w1 p g go n c o l T1.out (by omega) hn)
  obtain ⟨x, hx⟩ : ∃ x, Hid (x = insR l o) := ⟨_, rfl⟩
  rw [← hx.out] at C1
  obtain ⟨xo, xd, xs, xf, xi⟩ := x
  obtain ⟨cs, t, hb, h0, h1, h2⟩ := T1.out.blk
  have b1 : w1.cell? ⟨p, 1, none⟩ = some (.int .i64 (o : Nat)) := by rw [cell_atL hb]; exact h1
  clear hb h0 h1 h2 hT h
  go_enter Tryz.func91, Tryz.ntmps91
  go_upto_region 1 with fail
  rw [← hw1.out]
  go_upto_region 3 with (go_at_call 107; refine C1.out.mono ?_; rintro e w2 ⟨rfl, m2⟩; have hR2 : Bx w2 w.heap.size 0 0 0 0 0 := ⟨(m2.chg.block _ (by omega : w.heap.size < w1.heap.size) (by omega)).trans R1.out⟩; obtain ⟨⟨c00, c01, c02, c03, c04⟩, f00, f01, f02, f03, f04⟩ := hR2.all; unfold insAg)
  obtain ⟨w3, hw3⟩ : ∃ w3, Hid (w3 = (((((w2.setCell ⟨w.heap.size, 0, none⟩ (.int .i64 xo)).setCell ⟨w.heap.size, 1, none⟩ (.int .i64 xd)).setCell ⟨w.heap.size, 2, none⟩ (.int .i64 xs)).setCell ⟨w.heap.size, 3, none⟩ (.int .i64 xf)).setCell ⟨w.heap.size, 4, none⟩ (.int .i64 xi))) := ⟨_, rfl⟩
  rw [← hw3.out]
  have M2 : Mv p (o + 8) w w2 := m2.after O1.out hpl
  have M3 : Hid (Mv p (o + 8) w w3) := hidOf (by rw [hw3.out]; exact M2.box hpl _ _ _ _ _)
  have B3 : Hid (Bx w3 w.heap.size xo xd xs xf xi) := hidOf ⟨by rw [hw3.out]; exact box5 hR2.blk _ _ _ _ _⟩
  clear c00 c01 c02 c03 c04 f00 f01 f02 f03 f04 hR2 m2 M2 b1 C1 T1 R1
  clear hw3 w2
  obtain ⟨⟨i0, i1, i2, i3, i4⟩, ff⟩ := B3.out.all
  clear ff
  cases hw : isW xo
  · have ei : inR l o E = (⟨xo, xd, xs, xf, xi⟩, 0, false, o + 8) := by unfold inR; rw [← hx.out]; simp [hw]
    go_upto_region 4 with (go_at_call 88; refine (wide_lit _ _ _ _ _ _).mono ?_; rw [hw]; rintro e w4 ⟨rfl, o4⟩)
    have B4 := B3.out.out o4
    have M4 := M3.out.then hpl o4
    clear i0 i1 i2 i3 i4
    obtain ⟨⟨i0, i1, i2, i3, i4⟩, f0, f1, f2, f3, f4⟩ := B4.all
    have B4' := hidOf B4
    have M4' := hidOf M4
    clear B4 M4
    go_wp2
    refine bodyPost_ret (results_cell3 rfl _ _ w.heap.size 67 _ (0, 0) _ rfl (box5 B4'.out.blk _ _ _ _ _) Tryz.underlying67 rfl (by kernel_rfl)) rfl ?_
    rw [ei]
    exact ⟨rfl, M4'.out.box hpl _ _ _ _ _⟩
  · go_upto_region 5 with (go_at_call 88; refine (wide_lit _ _ _ _ _ _).mono ?_; rw [hw]; rintro e w4 ⟨rfl, o4⟩)
    have B4 := hidOf (B3.out.out o4)
    have M4 := hidOf (M3.out.then hpl o4)
    have T4 := hidOf (h'.out.mv M4.out)
    have hs4 : w.heap.size < w4.heap.size := B4.out.lt
    have X4 := hidOf (hT'.out.chg M4.out.chg hp1)
    clear i0 i1 i2 i3 i4 o4 B3 M3
    clear w3
    obtain ⟨⟨i0, i1, i2, i3, i4⟩, f0, f1, f2, f3, f4⟩ := B4.out.all
    obtain ⟨cs, t, hb, h0, h1, h2⟩ := T4.out.blk
    have b1 : w4.cell? ⟨p, 1, none⟩ = some (.int .i64 ((o + 8 : Nat) : Int)) := by rw [cell_atL hb]; exact h1
    clear hb h0 h1 h2 cs t
    rcases hm with hm | hm
    · have ei : inR l o E = (⟨xo, xd, xs, xf, xi⟩, o, true, o + 8) := by unfold inR; rw [← hx.out]; simp [hw, hm]
      subst hm
      go_wp2
      refine bodyPost_ret (results_cell3 rfl _ _ w.heap.size 67 _ (0, 0) _ rfl (box5 B4.out.blk _ _ _ _ _) Tryz.underlying67 rfl (by kernel_rfl)) rfl ?_
      rw [ei]
      exact ⟨rfl, M4.out.box hpl _ _ _ _ _⟩
    · have hne : ¬ o + 8 = E := by omega
      have hnz : ¬ ((o + 8 : Nat) : Int) = (E : Int) := by omega
      obtain ⟨z, hz⟩ : ∃ z, Hid (z = g4 l (o + 8)) := ⟨_, rfl⟩
      obtain ⟨u, hu⟩ : ∃ u, Hid (u = g4 l (o + 12)) := ⟨_, rfl⟩
      have hzl : z < 4294967296 := by rw [hz.out]; exact g4_lt17 l _
      have hul : u < 4294967296 := by rw [hu.out]; exact g4_lt17 l _
      have NU := hidOf (num2R w4 p g go n c (o + 8) l T4.out (by omega) hn)
      rw [← hz.out, show o + 8 + 4 = o + 12 from rfl, ← hu.out] at NU
      go_upto_region 9 with fail
      clear i0 i1 i2 i3 i4 f0 f1 f2 f3 f4 b1
      go_upto_region 10 with (go_at_call 54; refine (NU.out _).mono ?_; rintro e w5 ⟨⟨rv, rfl⟩, m5, d1, d2⟩)
      have M5 : Hid (Mv p (o + 16) w w5) := hidOf (M4.out.trans m5)
      have B5 := hidOf (B4.out.chg m5.chg (by omega))
      have X5 := hidOf (X4.out.chg m5.chg hp1)
      clear m5 NU M4 B4 X4 T4
      obtain ⟨⟨i0, i1, i2, i3, i4⟩, f0, f1, f2, f3, f4⟩ := B5.out.all
      by_cases hz0 : z = 0
      · have ei : inR l o E = (⟨xo, xd, xs, xf, (g4 l (o + 4) : Int) + 4294967296 * sxP 2147483648 (g4 l (o + 12) : Int)⟩, 0, false, o + 16) := by unfold inR widR; rw [← hx.out, ← hz.out]; simp [hw, hz0, hne]
        have hxi : xi = sxP 2147483648 (g4 l (o + 4) : Int) := by have := hx.out; unfold insR at this; injection this
        have hvl := g4_lt17 l (o + 4)
        rw [← hu.out] at ei
        obtain ⟨v, hv⟩ : ∃ v, Hid (v = g4 l (o + 4)) := ⟨_, rfl⟩
        rw [← hv.out] at ei hxi hvl
        obtain ⟨s, hs⟩ : ∃ s : Int, Hid (s = sxP 2147483648 (u : Int)) := ⟨_, rfl⟩
        rw [← hs.out] at ei
        have hs' : s * 4294967296 = if (u : Int) < 2147483648 then (u : Int) * 4294967296 else ((u : Int) - 4294967296) * 4294967296 := by rw [hs.out]; unfold sxP; split <;> omega
        have hsb : -2147483648 ≤ s ∧ s < 2147483648 := by rw [hs.out]; unfold sxP; split <;> omega
        have a1 : IntKind.i64.wrap ((u : Int) * 4294967296) = s * 4294967296 := by rw [wrap64_eq17, hs']; unfold wrap64; split <;> omega
        have a2 : IntKind.u32.wrap xi = (v : Int) := by rw [hxi]; unfold sxP; simp [IntKind.wrap, IntKind.bits, IntKind.signed]; split <;> omega
        have a3 : IntKind.i64.wrap (v : Int) = (v : Int) := by rw [wrap64_eq17]; unfold wrap64; omega
        have a4 : bits BinOp.or IntKind.i64 (s * 4294967296) (v : Int) = (v : Int) + s * 4294967296 := by rw [or_comm17]; exact or_32 _ _ (by omega) (by omega) (by omega) (by omega)
        subst hz0
        clear hxi hs'
        go_wp2
        refine bodyPost_ret (results_cell3 rfl _ _ w.heap.size 67 _ (0, 0) _ rfl (box5 (by rw [blk_set B5.out.blk]; rfl) _ _ _ _ _) Tryz.underlying67 rfl (by kernel_rfl)) rfl ?_
        rw [ei, Int.mul_comm 4294967296 s]
        exact ⟨rfl, (M5.out.setF hpl (Nat.le_refl _) _ _).box hpl _ _ _ _ _⟩
      · have hz0' : 0 < z := by omega
        have hzn : ¬ (z : Int) = 0 := by omega
        obtain ⟨k, hk, h8, CT⟩ := tz_any z hz0' hzl
        have ei : inR l o E = (⟨xo, xd, xs, xf, xi⟩, o + 8 + k / 8, true, o + 16) := by unfold inR; rw [← hx.out, ← hz.out, h8]; simp [hw, hz0, hne]
        have CT' := hidOf CT
        obtain ⟨kq, hkq⟩ : ∃ kq, Hid (kq = k / 8) := ⟨_, rfl⟩
        rw [← hkq.out] at ei
        have hkk : (k : Int) / 8 = (kq : Int) := by have := hkq.out; omega
        have hkb : kq < 4 := by have := hkq.out; omega
        clear hx hu hul
        have wz : IntKind.u64.wrap (z : Int) = (z : Int) := by simp [IntKind.wrap, IntKind.bits, IntKind.signed]; omega
        have wk : IntKind.i64.wrap (kq : Int) = (kq : Int) := by rw [wrap64_eq17]; unfold wrap64; omega
        have wk2 : IntKind.i64.wrap ((o : Int) + 8 + (kq : Int)) = (o : Int) + 8 + (kq : Int) := by rw [wrap64_eq17]; unfold wrap64; omega
        have hyq : ¬ w.heap.size = w4.heap.size := by omega
        clear CT h8
        go_upto_region 11 with fail
        obtain ⟨jz, J5⟩ := held5 B5.out d1 hyq
        obtain ⟨⟨j0, j1, j2, j3, j4⟩, jf⟩ := J5.all
        clear jf J5
        go_region_held3 (fun wx => wx.cell? ⟨w4.heap.size, 0, none⟩ = some (.int .i64 (z : Int)) ∧ wx.cell? ⟨w.heap.size, 0, none⟩ = some (.int .i64 xo) ∧ wx.cell? ⟨w.heap.size, 1, none⟩ = some (.int .i64 xd) ∧ wx.cell? ⟨w.heap.size, 2, none⟩ = some (.int .i64 xs) ∧ wx.cell? ⟨w.heap.size, 3, none⟩ = some (.int .i64 xf) ∧ wx.cell? ⟨w.heap.size, 4, none⟩ = some (.int .i64 xi)) (first | go_keep | assumption | (exact ⟨jz, j0, j1, j2, j3, j4⟩) | exact j0 | exact j1 | exact j2 | exact j3 | exact j4) (first | (go_at_call 108; refine (CT'.out _ (by exact fun i x hx => X5.out i x hx)).mono ?_; rintro e w6 ⟨rfl, rfl⟩))
        go_wp2
        refine bodyPost_ret (results_cell3 rfl _ _ w.heap.size 67 _ (0, 0) _ rfl (show (World.drew _).heap[_]? = _ from box5 B5.out.blk _ _ _ _ _) Tryz.underlying67 rfl (by kernel_rfl)) rfl ?_
        rw [ei]
        exact ⟨rfl, (M5.out.box hpl _ _ _ _ _).then hpl (Out.drew (Out.refl _))⟩
end Go.Proofs.YthififblejbleaaGreatDoor
