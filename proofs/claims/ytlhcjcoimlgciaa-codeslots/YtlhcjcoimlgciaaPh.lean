import Derived.Test.YtlhcjcoimlgciaaPg
import Derived.Deep.RegionWith
namespace Go.Proofs.Ytlhcjcoimlgciaa
open Go.RowKit
set_option linter.unusedVariables false
set_option linter.unusedSimpArgs false
/-- the bytes of a slot -/
structure Slot8 (w : World) (b o : Nat) (B : List Int) (m : Nat) : Prop where
  at_ : ∀ k, k < m → w.cell? ⟨b, o + k, none⟩ = some (.int .u8 (gB B k))
  by_ : Byts B
theorem Out.drewN {w w' : World} (h : Out w w') (m : Nat) : Out w (w'.drewN m) := ⟨h.os, h.tape, h.output, h.size, h.block⟩
theorem frozen_fresh (w : World) (cs : Array Value) (t : TypeId) (j : Nat) (b : Nat) (hb : b = w.heap.size) : (w.alloc (.cells cs t)).frozen? ⟨b, j, none⟩ = false := by
  subst hb
  rw [World.frozen?, show (w.alloc (.cells cs t)).heap[w.heap.size]? = some (.cells cs t) from heap_alloc_new w _]
  simp
theorem cell_at {w : World} {p : Nat} {cs : Array Value} {t : TypeId} (h : w.heap[p]? = some (.cells cs t (0, 0))) (j : Nat) : w.cell? ⟨p, j, none⟩ = cs[j]? := by simp [World.cell?, h]
theorem frozen_at {w : World} {p : Nat} {cs : Array Value} {t : TypeId} (h : w.heap[p]? = some (.cells cs t (0, 0))) (j : Nat) : w.frozen? ⟨p, j, none⟩ = false := by simp [World.frozen?, h]
theorem set_at {w : World} {p : Nat} {cs : Array Value} {t : TypeId} (h : w.heap[p]? = some (.cells cs t (0, 0))) (j : Nat) (u : Value) : (w.setCell ⟨p, j, none⟩ u).heap[p]? = some (.cells (cs.setIfInBounds j u) t (0, 0)) := by
  simp [World.setCell, Array.getElem?_modify, h]
theorem set5 {w : World} {p : Nat} {t : TypeId} {a b c d e : Value} (h : w.heap[p]? = some (.cells #[a, b, c, d, e] t (0, 0))) (v0 v1 v2 v3 v4 : Value) : (((((w.setCell ⟨p, 0, none⟩ v0).setCell ⟨p, 1, none⟩ v1).setCell ⟨p, 2, none⟩ v2).setCell ⟨p, 3, none⟩ v3).setCell ⟨p, 4, none⟩ v4).heap[p]? = some (.cells #[v0, v1, v2, v3, v4] t (0, 0)) := by
  have := set_at (set_at (set_at (set_at (set_at h 0 v0) 1 v1) 2 v2) 3 v3) 4 v4
  simpa using this
theorem size55 : (Try.prog.info? 25).map (·.size) = some 5 := by kernel_rfl
theorem wrap_i16 (n : Int) : IntKind.i16.wrap n = (n + 32768) % 65536 - 32768 := by
  simp [IntKind.wrap, IntKind.bits, IntKind.signed]
  split <;> omega
theorem conv16 (z : Int) (h0 : 0 ≤ z) (h1 : z < 65536) : IntKind.i64.wrap (IntKind.i16.wrap z) = sx 32768 z := by
  rw [wrap_i16, IntKind.wrap_i64]; unfold sx; split <;> omega
theorem conv32 (z : Int) (h0 : 0 ≤ z) (h1 : z < 4294967296) : IntKind.i64.wrap (IntKind.i32.wrap z) = sx 2147483648 z := by
  rw [IntKind.wrap_i32, IntKind.wrap_i64]; unfold sx; split <;> omega
theorem conv8 (z : Int) (h0 : 0 ≤ z) (h1 : z < 256) : IntKind.i64.wrap z = z := by rw [IntKind.wrap_i64]; omega
theorem and15 (z : Int) (h0 : 0 ≤ z) (h1 : z < 256) : bits .and .i64 z 15 = z % 16 := by
  have h : ∀ a : Nat, a < 256 → bits .and .i64 (a : Int) 15 = (a : Int) % 16 := by decide +kernel
  have := h z.toNat (by omega)
  rwa [show ((z.toNat : Nat) : Int) = z by omega] at this
theorem u16_bd {B : List Int} (h : Byts B) (k : Nat) : 0 ≤ u16 B k ∧ u16 B k < 65536 := by
  have := h k; have := h (k + 1); unfold u16; omega
theorem u32_bd {B : List Int} (h : Byts B) (k : Nat) : 0 ≤ u32 B k ∧ u32 B k < 4294967296 := by
  have := h k; have := h (k + 1); have := h (k + 2); have := h (k + 3); unfold u32; omega
theorem Out.setCell {w w' : World} (h : Out w w') {a : Addr} (ha : w.heap.size ≤ a.block) (u : Value) : Out w (w'.setCell a u) := Below.setCell h ha u
end Go.Proofs.Ytlhcjcoimlgciaa
