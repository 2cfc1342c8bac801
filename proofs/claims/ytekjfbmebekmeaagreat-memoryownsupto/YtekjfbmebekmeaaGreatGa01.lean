import Derived.Test.YtekjfbmebekmeaaGreatProg
import Derived.WalkKit
import Derived.WalkSpells
import Derived.Deep.QuietTactic
import Derived.BigQuiet
import Derived.Deep.OwnRows
import Derived.Deep.RegionLaw
import Derived.Deep.AppendLies
import Derived.OwnWalk
import Derived.Deep.RegionHeld3
import Derived.Deep.Cut
import Derived.Maps.OwnSet
namespace Go.Proofs.YtekjfbmebekmeaaGreat
open Go.RowKit
set_option linter.unusedVariables false
set_option linter.unusedSimpArgs false
theorem hidOf {p : Prop} (h : p) : Hid p := h
def Out (w w' : World) : Prop := Below w.heap.size w w'
theorem Out.refl (w : World) : Out w w := Below.refl _ _
theorem Out.alloc {w w' : World} (h : Out w w') (o : Obj) : Out w (w'.alloc o) := Below.alloc h h.size o
theorem Out.drew {w w' : World} (h : Out w w') : Out w w'.drew := Below.drew h
theorem Out.drewN {w w' : World} (h : Out w w') (n : Nat) : Out w (w'.drewN n) := ⟨h.os, h.tape, h.output, h.size, h.block⟩
theorem Out.trans {a b c : World} (h : Out a b) (k : Out b c) : Out a c := Below.trans h (Below.mono k h.size)
theorem Out.cells {w w' : World} (h : Out w w') (b o : Nat) (hb : b < w.heap.size) : w'.cell? ⟨b, o, none⟩ = w.cell? ⟨b, o, none⟩ := Below.cell h hb
theorem Out.size {w w' : World} (h : Out w w') : w.heap.size ≤ w'.heap.size := Below.size h
theorem Out.setCell {w w' : World} (h : Out w w') {a : Addr} (ha : w.heap.size ≤ a.block) (u : Value) : Out w (w'.setCell a u) := Below.setCell h ha u
theorem cell_later {w w' : World} (o : Out w w') {a : Addr} {v : Value} (h : w.cell? a = some v) : w'.cell? a = some v := by
  rw [← h]; exact World.cell?_of_block (o.block _ (World.block_lt_of_cell? w a h))
theorem size_alloc (w : World) (o : Obj) : (w.alloc o).heap.size = w.heap.size + 1 := by
  show (w.heap.push o).size = _
  simp
theorem cell_fresh (w : World) (cs : Array Value) (t : TypeId) (j : Nat) (b : Nat) (hb : b = w.heap.size) : (w.alloc (.cells cs t)).cell? ⟨b, j, none⟩ = cs[j]? := by
  subst hb
  rw [World.cell?, show (w.alloc (.cells cs t)).heap[w.heap.size]? = some (.cells cs t) from heap_alloc_new w _]
  rfl
structure Chg (S : Nat → Prop) (w w' : World) : Prop where
  os : w'.os = w.os
  tape : w'.tape = w.tape
  output : w'.output = w.output
  size : w.heap.size ≤ w'.heap.size
  block : ∀ k, k < w.heap.size → ¬ S k → w'.heap[k]? = w.heap[k]?
theorem Chg.refl (S : Nat → Prop) (w : World) : Chg S w w := ⟨rfl, rfl, rfl, Nat.le_refl _, fun _ _ _ => rfl⟩
theorem Chg.trans {S T : Nat → Prop} {a b c : World} (h : Chg S a b) (k : Chg T b c) (hST : ∀ x, T x → x < a.heap.size → S x) : Chg S a c :=
  ⟨k.os.trans h.os, k.tape.trans h.tape, k.output.trans h.output, Nat.le_trans h.size k.size, fun i hi hs => (k.block i (Nat.lt_of_lt_of_le hi h.size) (fun ht => hs (hST i ht hi))).trans (h.block i hi hs)⟩
theorem Chg.of_out {S : Nat → Prop} {w w' : World} (h : Out w w') : Chg S w w' := ⟨h.os, h.tape, h.output, h.size, fun k hk _ => h.block k hk⟩
theorem Chg.of_grown {S : Nat → Prop} {w w' : World} {row : Option Nat} (h : w.grownBy w' row) (hr : ∀ k, row = some k → S k) : Chg S w w' :=
  ⟨h.os, h.tape, h.output, h.size, fun k hk hs => h.block k hk (fun e => hs (hr k e.symm))⟩
theorem Chg.alloc {S : Nat → Prop} {a w : World} (h : Chg S a w) (o : Obj) : Chg S a (w.alloc o) :=
  h.trans (T := fun _ => False) ⟨rfl, rfl, rfl, by simp, fun k hk _ => Below.heap_alloc _ _ _ hk⟩ (fun _ hx _ => hx.elim)
theorem Chg.drew {S : Nat → Prop} {a w : World} (h : Chg S a w) : Chg S a w.drew := ⟨h.os, h.tape, h.output, h.size, h.block⟩
theorem Chg.setCell {S : Nat → Prop} {a w : World} (h : Chg S a w) {p : Addr} (hp : S p.block) (u : Value) : Chg S a (w.setCell p u) :=
  h.trans (T := fun k => k = p.block) ⟨rfl, rfl, rfl, by simp [World.setCell], fun k hk hs => Below.heap_setCell _ _ _ _ hs⟩ (fun x hx _ => hx ▸ hp)
theorem Chg.mono {S T : Nat → Prop} {w w' : World} (h : Chg S w w') (hST : ∀ x, S x → x < w.heap.size → T x) : Chg T w w' :=
  ⟨h.os, h.tape, h.output, h.size, fun k hk ht => h.block k hk (fun hs => ht (hST k hs hk))⟩
theorem Chg.below {S : Nat → Prop} {B : Nat} {w w' : World} (h : Chg S w w') (hB : B ≤ w.heap.size) (hS : ∀ k, S k → B ≤ k) : Below B w w' :=
  ⟨h.os, h.tape, h.output, h.size, fun k hk => h.block k (by omega) (fun hs => by have := hS k hs; omega)⟩
theorem Chg.out {S : Nat → Prop} {w0 w w' : World} (h : Chg S w w') (ho : Out w0 w) (hS : ∀ k, S k → w0.heap.size ≤ k) : Out w0 w' :=
  Below.trans ho (h.below ho.size hS)
theorem Chg.cell {S : Nat → Prop} {w w' : World} (h : Chg S w w') {a : Addr} {v : Value} (hc : w.cell? a = some v) (hs : ¬ S a.block) : w'.cell? a = some v := by
  rw [← hc]; exact World.cell?_of_block (h.block _ (World.block_lt_of_cell? w a hc) hs)
def mayR (f n : Nat) : Bool := n == 0 || decide (n - 1 ≤ 18446744073709551615 - f)
theorem isEmptyR (w : World) (f n c : Nat) (a : Option Addr) : Calls Tryz.prog 52 #[.agg #[.int .u64 f, .slice a n c]] w fun e w' => e = .returned (.bool (n == 0)) ∧ Out w w' := by
  go_enter Tryz.func52, Tryz.ntmps52
  go_wp2
  go_ret
  refine ⟨?_, Out.alloc (Out.refl _) _⟩
  congr 2
  by_cases h : n = 0
  · subst h; rfl
  · rw [beq_eq_false_iff_ne.2 h]; simp; omega
theorem lastR (w : World) (f n c : Nat) (a : Option Addr) (hn : 0 < n) (hn2 : n ≤ 140737488355328) (hf : f + (n - 1) < 18446744073709551616) : Calls Tryz.prog 79 #[.agg #[.int .u64 f, .slice a n c]] w fun e w' => e = .returned (.int .u64 ((f + (n - 1) : Nat) : Int)) ∧ Out w w' := by
  obtain ⟨k, rfl⟩ : ∃ k, n = k + 1 := ⟨n - 1, by omega⟩
  rw [show k + 1 - 1 = k by omega] at hf ⊢
  have h1 : IntKind.u64.wrap (k : Int) = k := by rw [IntKind.wrap_u64]; omega
  have h2 : IntKind.u64.wrap ((f : Int) + k) = (f : Int) + k := by rw [IntKind.wrap_u64]; omega
  go_enter Tryz.func79, Tryz.ntmps79
  go_wp2
  go_ret
  exact ⟨by simp, Out.alloc (Out.refl _) _⟩
theorem hasR (w : World) (f n c at_ : Nat) (a : Option Addr) (hn2 : n ≤ 140737488355328) (hf : f ≤ at_) (ha : at_ < 18446744073709551616) : Calls Tryz.prog 97 #[.agg #[.int .u64 f, .slice a n c], .int .u64 at_] w fun e w' => e = .returned (.bool (decide (at_ - f < n))) ∧ Out w w' := by
  obtain ⟨k, rfl⟩ : ∃ k, at_ = f + k := ⟨at_ - f, by omega⟩
  rw [show f + k - f = k by omega]
  have h1 : IntKind.u64.wrap (n : Int) = n := by rw [IntKind.wrap_u64]; omega
  have h2 : IntKind.u64.wrap (((f + k : Nat) : Int) - f) = k := by rw [IntKind.wrap_u64]; omega
  have h3 : IntKind.u64.wrap ((f : Int) + k - f) = k := by rw [IntKind.wrap_u64]; omega
  go_enter Tryz.func97, Tryz.ntmps97
  go_wp2
  go_ret
  exact ⟨by simp, Out.alloc (Out.refl _) _⟩
theorem mayBeR (w : World) (f n c : Nat) (a : Option Addr) (hn2 : n ≤ 140737488355328) (hf : f < 18446744073709551616) : Calls Tryz.prog 49 #[.agg #[.int .u64 f, .slice a n c]] w fun e w' => e = .returned (.bool (mayR f n)) ∧ Out w w' := by
  obtain ⟨q, hq⟩ : ∃ q, Hid (q = w.heap.size) := ⟨_, rfl⟩
  obtain ⟨wA, hwA⟩ : ∃ wA, Hid (wA = w.alloc (.cells #[.int .u64 f, .slice a n c] 36)) := ⟨_, rfl⟩
  have OA : Out w wA := by rw [hwA.out]; exact Out.alloc (Out.refl _) _
  have q0 : wA.cell? ⟨q, 0, none⟩ = some (.int .u64 f) := by rw [hwA.out]; exact cell_fresh w _ _ 0 q hq.out
  have q1 : wA.cell? ⟨q, 1, none⟩ = some (.slice a n c) := by rw [hwA.out]; exact cell_fresh w _ _ 1 q hq.out
  by_cases h0 : n = 0
  · subst h0
    go_enter Tryz.func49, Tryz.ntmps49
    go_upto_region 1 with fail
    rw [← hwA.out, ← hq.out]
    go_wp2_with (go_at_call 52; refine (isEmptyR _ _ _ _ _).mono ?_; rintro e w2 ⟨rfl, ho⟩; have O2 := hidOf ho; clear ho)
    go_ret
    exact ⟨rfl, Out.trans OA O2.out⟩
  · obtain ⟨k, rfl⟩ : ∃ k, n = k + 1 := ⟨n - 1, by omega⟩
    have hb : ((k + 1 : Nat) == 0) = false := rfl
    have h1 : IntKind.u64.wrap (k : Int) = k := by rw [IntKind.wrap_u64]; omega
    have h2 : IntKind.u64.wrap (18446744073709551615 - (f : Int)) = 18446744073709551615 - (f : Int) := by rw [IntKind.wrap_u64]; omega
    go_enter Tryz.func49, Tryz.ntmps49
    go_upto_region 1 with fail
    rw [← hwA.out, ← hq.out]
    go_wp2_with (go_at_call 52; refine (isEmptyR _ _ _ _ _).mono ?_; rintro e w2 ⟨rfl, ho⟩; have O2 := hidOf ho; have q0 := cell_later ho q0; have q1 := cell_later ho q1; clear ho)
    go_ret
    refine ⟨?_, Out.trans OA O2.out⟩
    unfold mayR
    rw [hb]
    congr 2
    simp
    omega
set_option maxRecDepth 20000 in
theorem len8 (w : World) : Calls Tryz.prog 109 #[.int .u64 255] w fun e w' => e = .returned (.int .i64 8) ∧ w = w' := by
  go_enter Tryz.func109, Tryz.ntmps109
  go_wp2
  go_ret
  exact ⟨by kernel_rfl, rfl⟩
theorem size8 (w : World) : Calls Tryz.prog 85 #[] w fun e w' => e = .returned (.int .i64 1) ∧ w = w' := by
  go_enter Tryz.func85, Tryz.ntmps85
  go_wp2_with (go_at_call 109; refine (len8 _).mono ?_; rintro e w2 ⟨rfl, hw⟩; subst hw)
  go_ret
  exact ⟨rfl, rfl⟩
set_option maxRecDepth 20000 in
theorem len16 (w : World) : Calls Tryz.prog 109 #[.int .u64 65535] w fun e w' => e = .returned (.int .i64 16) ∧ w = w' := by
  go_enter Tryz.func109, Tryz.ntmps109
  go_wp2
  go_ret
  exact ⟨by kernel_rfl, rfl⟩
theorem size16 (w : World) : Calls Tryz.prog 87 #[] w fun e w' => e = .returned (.int .i64 2) ∧ w = w' := by
  go_enter Tryz.func87, Tryz.ntmps87
  go_wp2_with (go_at_call 109; refine (len16 _).mono ?_; rintro e w2 ⟨rfl, hw⟩; subst hw)
  go_ret
  exact ⟨rfl, rfl⟩
set_option maxRecDepth 20000 in
theorem len32 (w : World) : Calls Tryz.prog 109 #[.int .u64 4294967295] w fun e w' => e = .returned (.int .i64 32) ∧ w = w' := by
  go_enter Tryz.func109, Tryz.ntmps109
  go_wp2
  go_ret
  exact ⟨by kernel_rfl, rfl⟩
theorem size32 (w : World) : Calls Tryz.prog 89 #[] w fun e w' => e = .returned (.int .i64 4) ∧ w = w' := by
  go_enter Tryz.func89, Tryz.ntmps89
  go_wp2_with (go_at_call 109; refine (len32 _).mono ?_; rintro e w2 ⟨rfl, hw⟩; subst hw)
  go_ret
  exact ⟨rfl, rfl⟩
set_option maxRecDepth 20000 in
theorem len64 (w : World) : Calls Tryz.prog 109 #[.int .u64 18446744073709551615] w fun e w' => e = .returned (.int .i64 64) ∧ w = w' := by
  go_enter Tryz.func109, Tryz.ntmps109
  go_wp2
  go_ret
  exact ⟨by kernel_rfl, rfl⟩
theorem size64 (w : World) : Calls Tryz.prog 91 #[] w fun e w' => e = .returned (.int .i64 8) ∧ w = w' := by
  go_enter Tryz.func91, Tryz.ntmps91
  go_wp2_with (go_at_call 109; refine (len64 _).mono ?_; rintro e w2 ⟨rfl, hw⟩; subst hw)
  go_ret
  exact ⟨rfl, rfl⟩
def By8 (w : World) (g : Nat) (cs : Array Value) : Prop := w.heap[g]? = some (.cells cs 5 (0, 0))
theorem By8.set {w : World} {g : Nat} {cs : Array Value} (h : By8 w g cs) (j : Nat) (u : Value) : By8 (w.setCell ⟨g, j, none⟩ u) g (cs.setIfInBounds j u) := by
  have h' : w.heap[g]? = _ := h
  simp [By8, World.setCell, Array.getElem?_modify, h']
theorem By8.cell {w : World} {g : Nat} {cs : Array Value} (h : By8 w g cs) (j : Nat) : w.cell? ⟨g, j, none⟩ = cs[j]? := by
  have h' : w.heap[g]? = _ := h
  simp [World.cell?, h']
theorem By8.frozen {w : World} {g : Nat} {cs : Array Value} (h : By8 w g cs) (j : Nat) : w.frozen? ⟨g, j, none⟩ = false := by
  have h' : w.heap[g]? = _ := h
  simp [World.frozen?, h']
def layC (cs : Array Value) (o x : Nat) : Nat → Array Value
  | 0 => cs
  | k + 1 => (layC cs o x k).setIfInBounds (o + k) (.int .u8 ((x : Int) / 2 ^ (8 * k) % 256))
theorem layC_size (cs : Array Value) (o x k : Nat) : (layC cs o x k).size = cs.size := by
  induction k with
  | zero => rfl
  | succ k ih => simp [layC, ih]
set_option maxHeartbeats 1000000 in
theorem lay8 (w : World) (g o n c x : Nat) (cs : Array Value) (h : By8 w g cs) (hn : o + n ≤ cs.size) (h8 : n ≤ 1) (hnc : n ≤ c) (hx : x < 256) : Calls Tryz.prog 93 #[.slice (some ⟨g, o, none⟩) n c, .int .u8 x] w fun e w' => (∃ q, e = .returned q) ∧ By8 w' g (layC cs o x n) ∧ Chg (fun b => b = g) w w' := by
  have H := hidOf h
  clear h
  go_enter Tryz.func93, Tryz.ntmps93
  go_wp2
  go_loopw [7] (fun kv wr => ∃ k : Nat, kv = .int .i64 k ∧ k ≤ n ∧ Hid (By8 wr g (layC cs o x k)) ∧ Hid (Chg (fun b => b = g) w wr)) (fun kv _ => n - (intOf kv).toNat)
  case atStart => exact ⟨0, rfl, by omega, H, hidOf (Chg.refl _ _)⟩
  case round =>
    obtain ⟨k, rfl, hk, HB, HC⟩ := hrel
    by_cases hkn : k < n
    · have hlt : (k : Int) < n := by omega
      have hk8 : k < 1 := by omega
      obtain ⟨u, hu⟩ : ∃ u, wr.cell? ⟨g, o + k, none⟩ = some u := ⟨_, by rw [HB.out.cell, Array.getElem?_eq_getElem (by rw [layC_size]; omega)]⟩
      have hf := HB.out.frozen (o + k)
      have NB : Hid (By8 (wr.setCell ⟨g, o + k, none⟩ (.int .u8 ((x : Int) / 2 ^ (8 * k) % 256))) g (layC cs o x (k + 1))) := hidOf (HB.out.set _ _)
      have NC : Hid (Chg (fun b => b = g) w (wr.setCell ⟨g, o + k, none⟩ (.int .u8 ((x : Int) / 2 ^ (8 * k) % 256)))) := hidOf (Chg.setCell (S := fun b => b = g) HC.out (p := ⟨g, o + k, none⟩) rfl _)
      have e8 : (x : Int) / 2 ^ (8 * k) = (x : Int) / 2 ^ (8 * k) % 256 := by
        obtain rfl : k = 0 := by omega
        simp; omega
      have E8 := hidOf e8
      clear e8
      go_upto_region 4 with fail
      rw [E8.out]
      generalize wr.setCell ⟨g, o + k, none⟩ (.int .u8 ((x : Int) / 2 ^ (8 * k) % 256)) = wB at NB NC ⊢
      go_wp2
      go_roundw
      case rel => exact ⟨k + 1, by simp, by omega, NB, NC⟩
      case measure => simp [intOf]; omega
    · have hlt : ¬ (k : Int) < n := by omega
      obtain rfl : n = k := by omega
      go_wp2
      go_end0
      exact ⟨⟨_, rfl⟩, HB.out, HC.out⟩
set_option maxHeartbeats 1000000 in
theorem lay16 (w : World) (g o n c x : Nat) (cs : Array Value) (h : By8 w g cs) (hn : o + n ≤ cs.size) (h8 : n ≤ 2) (hnc : n ≤ c) (hx : x < 65536) : Calls Tryz.prog 94 #[.slice (some ⟨g, o, none⟩) n c, .int .u16 x] w fun e w' => (∃ q, e = .returned q) ∧ By8 w' g (layC cs o x n) ∧ Chg (fun b => b = g) w w' := by
  have H := hidOf h
  clear h
  go_enter Tryz.func94, Tryz.ntmps94
  go_wp2
  go_loopw [7] (fun kv wr => ∃ k : Nat, kv = .int .i64 k ∧ k ≤ n ∧ Hid (By8 wr g (layC cs o x k)) ∧ Hid (Chg (fun b => b = g) w wr)) (fun kv _ => n - (intOf kv).toNat)
  case atStart => exact ⟨0, rfl, by omega, H, hidOf (Chg.refl _ _)⟩
  case round =>
    obtain ⟨k, rfl, hk, HB, HC⟩ := hrel
    by_cases hkn : k < n
    · have hlt : (k : Int) < n := by omega
      have hk8 : k < 2 := by omega
      obtain ⟨u, hu⟩ : ∃ u, wr.cell? ⟨g, o + k, none⟩ = some u := ⟨_, by rw [HB.out.cell, Array.getElem?_eq_getElem (by rw [layC_size]; omega)]⟩
      have hf := HB.out.frozen (o + k)
      have NB : Hid (By8 (wr.setCell ⟨g, o + k, none⟩ (.int .u8 ((x : Int) / 2 ^ (8 * k) % 256))) g (layC cs o x (k + 1))) := hidOf (HB.out.set _ _)
      have NC : Hid (Chg (fun b => b = g) w (wr.setCell ⟨g, o + k, none⟩ (.int .u8 ((x : Int) / 2 ^ (8 * k) % 256)))) := hidOf (Chg.setCell (S := fun b => b = g) HC.out (p := ⟨g, o + k, none⟩) rfl _)
      go_upto_region 4 with fail
      generalize wr.setCell ⟨g, o + k, none⟩ (.int .u8 ((x : Int) / 2 ^ (8 * k) % 256)) = wB at NB NC ⊢
      go_wp2
      go_roundw
      case rel => exact ⟨k + 1, by simp, by omega, NB, NC⟩
      case measure => simp [intOf]; omega
    · have hlt : ¬ (k : Int) < n := by omega
      obtain rfl : n = k := by omega
      go_wp2
      go_end0
      exact ⟨⟨_, rfl⟩, HB.out, HC.out⟩
set_option maxHeartbeats 1000000 in
theorem lay32 (w : World) (g o n c x : Nat) (cs : Array Value) (h : By8 w g cs) (hn : o + n ≤ cs.size) (h8 : n ≤ 4) (hnc : n ≤ c) (hx : x < 4294967296) : Calls Tryz.prog 95 #[.slice (some ⟨g, o, none⟩) n c, .int .u32 x] w fun e w' => (∃ q, e = .returned q) ∧ By8 w' g (layC cs o x n) ∧ Chg (fun b => b = g) w w' := by
  have H := hidOf h
  clear h
  go_enter Tryz.func95, Tryz.ntmps95
  go_wp2
  go_loopw [7] (fun kv wr => ∃ k : Nat, kv = .int .i64 k ∧ k ≤ n ∧ Hid (By8 wr g (layC cs o x k)) ∧ Hid (Chg (fun b => b = g) w wr)) (fun kv _ => n - (intOf kv).toNat)
  case atStart => exact ⟨0, rfl, by omega, H, hidOf (Chg.refl _ _)⟩
  case round =>
    obtain ⟨k, rfl, hk, HB, HC⟩ := hrel
    by_cases hkn : k < n
    · have hlt : (k : Int) < n := by omega
      have hk8 : k < 4 := by omega
      obtain ⟨u, hu⟩ : ∃ u, wr.cell? ⟨g, o + k, none⟩ = some u := ⟨_, by rw [HB.out.cell, Array.getElem?_eq_getElem (by rw [layC_size]; omega)]⟩
      have hf := HB.out.frozen (o + k)
      have NB : Hid (By8 (wr.setCell ⟨g, o + k, none⟩ (.int .u8 ((x : Int) / 2 ^ (8 * k) % 256))) g (layC cs o x (k + 1))) := hidOf (HB.out.set _ _)
      have NC : Hid (Chg (fun b => b = g) w (wr.setCell ⟨g, o + k, none⟩ (.int .u8 ((x : Int) / 2 ^ (8 * k) % 256)))) := hidOf (Chg.setCell (S := fun b => b = g) HC.out (p := ⟨g, o + k, none⟩) rfl _)
      go_upto_region 4 with fail
      generalize wr.setCell ⟨g, o + k, none⟩ (.int .u8 ((x : Int) / 2 ^ (8 * k) % 256)) = wB at NB NC ⊢
      go_wp2
      go_roundw
      case rel => exact ⟨k + 1, by simp, by omega, NB, NC⟩
      case measure => simp [intOf]; omega
    · have hlt : ¬ (k : Int) < n := by omega
      obtain rfl : n = k := by omega
      go_wp2
      go_end0
      exact ⟨⟨_, rfl⟩, HB.out, HC.out⟩
set_option maxHeartbeats 1000000 in
theorem lay64 (w : World) (g o n c x : Nat) (cs : Array Value) (h : By8 w g cs) (hn : o + n ≤ cs.size) (h8 : n ≤ 8) (hnc : n ≤ c) (hx : x < 18446744073709551616) : Calls Tryz.prog 96 #[.slice (some ⟨g, o, none⟩) n c, .int .u64 x] w fun e w' => (∃ q, e = .returned q) ∧ By8 w' g (layC cs o x n) ∧ Chg (fun b => b = g) w w' := by
  have H := hidOf h
  clear h
  go_enter Tryz.func96, Tryz.ntmps96
  go_wp2
  go_loopw [7] (fun kv wr => ∃ k : Nat, kv = .int .i64 k ∧ k ≤ n ∧ Hid (By8 wr g (layC cs o x k)) ∧ Hid (Chg (fun b => b = g) w wr)) (fun kv _ => n - (intOf kv).toNat)
  case atStart => exact ⟨0, rfl, by omega, H, hidOf (Chg.refl _ _)⟩
  case round =>
    obtain ⟨k, rfl, hk, HB, HC⟩ := hrel
    by_cases hkn : k < n
    · have hlt : (k : Int) < n := by omega
      have hk8 : k < 8 := by omega
      obtain ⟨u, hu⟩ : ∃ u, wr.cell? ⟨g, o + k, none⟩ = some u := ⟨_, by rw [HB.out.cell, Array.getElem?_eq_getElem (by rw [layC_size]; omega)]⟩
      have hf := HB.out.frozen (o + k)
      have NB : Hid (By8 (wr.setCell ⟨g, o + k, none⟩ (.int .u8 ((x : Int) / 2 ^ (8 * k) % 256))) g (layC cs o x (k + 1))) := hidOf (HB.out.set _ _)
      have NC : Hid (Chg (fun b => b = g) w (wr.setCell ⟨g, o + k, none⟩ (.int .u8 ((x : Int) / 2 ^ (8 * k) % 256)))) := hidOf (Chg.setCell (S := fun b => b = g) HC.out (p := ⟨g, o + k, none⟩) rfl _)
      go_upto_region 4 with fail
      generalize wr.setCell ⟨g, o + k, none⟩ (.int .u8 ((x : Int) / 2 ^ (8 * k) % 256)) = wB at NB NC ⊢
      go_wp2
      go_roundw
      case rel => exact ⟨k + 1, by simp, by omega, NB, NC⟩
      case measure => simp [intOf]; omega
    · have hlt : ¬ (k : Int) < n := by omega
      obtain rfl : n = k := by omega
      go_wp2
      go_end0
      exact ⟨⟨_, rfl⟩, HB.out, HC.out⟩
end Go.Proofs.YtekjfbmebekmeaaGreat
