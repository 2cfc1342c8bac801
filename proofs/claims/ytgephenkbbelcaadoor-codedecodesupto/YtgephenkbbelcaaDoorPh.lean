import Derived.Test.YtgephenkbbelcaaDoorPg
import Derived.Deep.RegionWith
namespace Go.Proofs.YtgephenkbbelcaaDoor
open Go.RowKit
set_option linter.unusedVariables false
set_option linter.unusedSimpArgs false
/-- the bytes of a slot -/
structure Slot8 (w : World) (b o : Nat) (B : List Int) (m : Nat) : Prop where
  at_ : ∀ k, k < m → w.cell? ⟨b, o + k, none⟩ = some (.int .u8 (gB B k))
  by_ : Byts B
theorem Out.drewN {w w' : World} (h : Out w w') (m : Nat) : Out w (w'.drewN m) := ⟨h.os, h.tape, h.output, h.size, h.block⟩
theorem frozen_fresh (w : World) (cs : Array Value) (t : TypeId) (j : Nat) (b : Nat) (hb : b = w.heap.size) : (w.alloc (.cells cs t)).frozen? ⟨b, j, none⟩ = false := by
  subst hb
  rw [World.frozen?, show (w.alloc (.cells cs t)).heap[w.heap.size]? = some (.cells cs t) from heap_alloc_new w _]
  simp
theorem cell_at {w : World} {p : Nat} {cs : Array Value} {t : TypeId} (h : w.heap[p]? = some (.cells cs t (0, 0))) (j : Nat) : w.cell? ⟨p, j, none⟩ = cs[j]? := by simp [World.cell?, h]
theorem frozen_at {w : World} {p : Nat} {cs : Array Value} {t : TypeId} (h : w.heap[p]? = some (.cells cs t (0, 0))) (j : Nat) : w.frozen? ⟨p, j, none⟩ = false := by simp [World.frozen?, h]
theorem set_at {w : World} {p : Nat} {cs : Array Value} {t : TypeId} (h : w.heap[p]? = some (.cells cs t (0, 0))) (j : Nat) (u : Value) : (w.setCell ⟨p, j, none⟩ u).heap[p]? = some (.cells (cs.setIfInBounds j u) t (0, 0)) := by
  simp [World.setCell, Array.getElem?_modify, h]
theorem set5 {w : World} {p : Nat} {t : TypeId} {a b c d e : Value} (h : w.heap[p]? = some (.cells #[a, b, c, d, e] t (0, 0))) (v0 v1 v2 v3 v4 : Value) : (((((w.setCell ⟨p, 0, none⟩ v0).setCell ⟨p, 1, none⟩ v1).setCell ⟨p, 2, none⟩ v2).setCell ⟨p, 3, none⟩ v3).setCell ⟨p, 4, none⟩ v4).heap[p]? = some (.cells #[v0, v1, v2, v3, v4] t (0, 0)) := by
  have := set_at (set_at (set_at (set_at (set_at h 0 v0) 1 v1) 2 v2) 3 v3) 4 v4
  simpa using this
theorem size55 : (Tryd.prog.info? 42).map (·.size) = some 5 := by kernel_rfl
theorem wrap_i16 (n : Int) : IntKind.i16.wrap n = (n + 32768) % 65536 - 32768 := by
  simp [IntKind.wrap, IntKind.bits, IntKind.signed]
  split <;> omega
theorem conv16 (z : Int) (h0 : 0 ≤ z) (h1 : z < 65536) : IntKind.i64.wrap (IntKind.i16.wrap z) = sx 32768 z := by
  rw [wrap_i16, IntKind.wrap_i64]; unfold sx; split <;> omega
theorem conv32 (z : Int) (h0 : 0 ≤ z) (h1 : z < 4294967296) : IntKind.i64.wrap (IntKind.i32.wrap z) = sx 2147483648 z := by
  rw [IntKind.wrap_i32, IntKind.wrap_i64]; unfold sx; split <;> omega
theorem conv8 (z : Int) (h0 : 0 ≤ z) (h1 : z < 256) : IntKind.i64.wrap z = z := by rw [IntKind.wrap_i64]; omega
theorem and15 (z : Int) (h0 : 0 ≤ z) (h1 : z < 256) : bits .and .i64 z 15 = z % 16 := by
  have h : ∀ a : Nat, a < 256 → bits .and .i64 (a : Int) 15 = (a : Int) % 16 := by decide +kernel
  have := h z.toNat (by omega)
  rwa [show ((z.toNat : Nat) : Int) = z by omega] at this
theorem u16_bd {B : List Int} (h : Byts B) (k : Nat) : 0 ≤ u16 B k ∧ u16 B k < 65536 := by
  have := h k; have := h (k + 1); unfold u16; omega
theorem u32_bd {B : List Int} (h : Byts B) (k : Nat) : 0 ≤ u32 B k ∧ u32 B k < 4294967296 := by
  have := h k; have := h (k + 1); have := h (k + 2); have := h (k + 3); unfold u32; omega
theorem Out.setCell {w w' : World} (h : Out w w') {a : Addr} (ha : w.heap.size ≤ a.block) (u : Value) : Out w (w'.setCell a u) := Below.setCell h ha u
set_option maxHeartbeats 400000 in
theorem takeSlot_any (w : World) (b o len cap : Nat) (B : List Int) (h : Slot8 w b o B 8) (hl : 8 ≤ len) (hll : len ≤ 1000000000000000) (hcap : len ≤ cap) :
    Calls Tryd.prog 28 #[.slice (some ⟨b, o, none⟩) len cap] w fun e w' => e = .returned (.agg #[.int .i64 (slotI B).o, .int .i64 (slotI B).d, .int .i64 (slotI B).s, .int .i64 (slotI B).f, .int .i64 (slotI B).i]) ∧ Out w w' := by
  obtain ⟨hc, hB⟩ := h
  have hT1 : Hid (∀ wx : World, (∀ k, k < 8 → wx.cell? ⟨b, o + k, none⟩ = some (.int .u8 (gB B k))) → Calls Tryd.prog 30 #[.slice (some ⟨b, o, none⟩) len cap, .int .i64 1] wx fun e w' => e = .returned (.int .u64 (gB B 0)) ∧ ∃ m, w' = wx.drewN m) := fun wx hx => take1 wx b o len cap _ (hx 0 (by omega)) (hB 0).1 (hB 0).2 (by omega)
  have hT2 : Hid (∀ wx : World, (∀ k, k < 8 → wx.cell? ⟨b, o + k, none⟩ = some (.int .u8 (gB B k))) → Calls Tryd.prog 30 #[.slice (some ⟨b, o + 1, none⟩) (len - 1) (cap - 1), .int .i64 1] wx fun e w' => e = .returned (.int .u64 (gB B 1)) ∧ ∃ m, w' = wx.drewN m) := fun wx hx => take1 wx b (o + 1) _ _ _ (hx 1 (by omega)) (hB 1).1 (hB 1).2 (by omega)
  have hT3 : Hid (∀ wx : World, (∀ k, k < 8 → wx.cell? ⟨b, o + k, none⟩ = some (.int .u8 (gB B k))) → Calls Tryd.prog 30 #[.slice (some ⟨b, o + 2, none⟩) (len - 2) (cap - 2), .int .i64 2] wx fun e w' => e = .returned (.int .u64 (u16 B 2)) ∧ ∃ m, w' = wx.drewN m) := fun wx hx => take2 wx b (o + 2) _ _ _ _ (hx 2 (by omega)) (hx 3 (by omega)) (hB 2).1 (hB 2).2 (hB 3).1 (hB 3).2 (by omega)
  have hT4 : Hid (∀ wx : World, (∀ k, k < 8 → wx.cell? ⟨b, o + k, none⟩ = some (.int .u8 (gB B k))) → Calls Tryd.prog 30 #[.slice (some ⟨b, o + 4, none⟩) (len - 4) (cap - 4), .int .i64 4] wx fun e w' => e = .returned (.int .u64 (u32 B 4)) ∧ ∃ m, w' = wx.drewN m) := fun wx hx => take4 wx b (o + 4) _ _ _ _ _ _ (hx 4 (by omega)) (hx 5 (by omega)) (hx 6 (by omega)) (hx 7 (by omega)) (hB 4).1 (hB 4).2 (hB 5).1 (hB 5).2 (hB 6).1 (hB 6).2 (hB 7).1 (hB 7).2 (by omega)
  have l1 : (1 : Int) ≤ len := by omega
  have l2 : (2 : Int) ≤ len := by omega
  have l4 : (4 : Int) ≤ len := by omega
  have k1 : ¬ cap = 1 := by omega
  have k2 : ¬ cap = 2 := by omega
  have k4 : ¬ cap = 4 := by omega
  have HB := hidOf hB
  have b1 := hB 1
  have b10 := b1.1
  have b11 := b1.2
  have hc0 : ∀ k, k < 8 → (w.alloc (.cells #[.int .i64 0, .int .i64 0, .int .i64 0, .int .i64 0, .int .i64 0] 42)).cell? ⟨b, o + k, none⟩ = some (.int .u8 (gB B k)) := fun k hk => cell_later ((Out.refl w).alloc _) (hc k hk)
  have Hc := hidOf hc0
  clear hc hB b1 hc0
  generalize hz1 : gB B 1 = z1 at *
  go_enter Tryd.func28, Tryd.ntmps28
  go_upto_region 2 with (go_at_call 30; refine (hT2.out _ Hc.out).mono ?_; rintro e w1 ⟨rfl, m1, rfl⟩)
  have hst : ((w.alloc (.cells #[.int .i64 0, .int .i64 0, .int .i64 0, .int .i64 0, .int .i64 0] 42)).drewN m1).heap[w.heap.size]? = some (.cells #[.int .i64 0, .int .i64 0, .int .i64 0, .int .i64 0, .int .i64 0] 42 (0, 0)) := heap_alloc_new w _
  have HcW : Hid (∀ k, k < 8 → ((w.alloc (.cells #[.int .i64 0, .int .i64 0, .int .i64 0, .int .i64 0, .int .i64 0] 42)).drewN m1).cell? ⟨b, o + k, none⟩ = some (.int .u8 (gB B k))) := Hc.out
  have HoW : Hid (Out w ((w.alloc (.cells #[.int .i64 0, .int .i64 0, .int .i64 0, .int .i64 0, .int .i64 0] 42)).drewN m1)) := ((Out.refl w).alloc _).drewN _
  clear Hc
  generalize hW : (w.alloc (.cells #[.int .i64 0, .int .i64 0, .int .i64 0, .int .i64 0, .int .i64 0] 42)).drewN m1 = W at *
  generalize hp : w.heap.size = p at *
  have s0 : W.cell? ⟨p, 0, none⟩ = some (.int .i64 0) := cell_at hst 0
  have s1 : W.cell? ⟨p, 1, none⟩ = some (.int .i64 0) := cell_at hst 1
  have s2 : W.cell? ⟨p, 2, none⟩ = some (.int .i64 0) := cell_at hst 2
  have s3 : W.cell? ⟨p, 3, none⟩ = some (.int .i64 0) := cell_at hst 3
  have s4 : W.cell? ⟨p, 4, none⟩ = some (.int .i64 0) := cell_at hst 4
  have f0 := frozen_at hst 0
  have f1 := frozen_at hst 1
  have f2 := frozen_at hst 2
  have f3 := frozen_at hst 3
  have f4 := frozen_at hst 4
  have Hst := hidOf hst
  clear hst hW
  generalize hz0 : gB B 0 = z0 at *
  generalize hz2 : u16 B 2 = z2 at *
  generalize hz4 : u32 B 4 = z4 at *
  have hT : Hid (∀ wx : World, (∀ k, k < 8 → wx.cell? ⟨b, o + k, none⟩ = some (.int .u8 (gB B k))) → ∀ (v : Value) (k r : Int), ((v = .slice (some ⟨b, o, none⟩) len cap ∧ k = 1 ∧ r = z0) ∨ (v = .slice (some ⟨b, o + 2, none⟩) (len - 2) (cap - 2) ∧ k = 2 ∧ r = z2) ∨ (v = .slice (some ⟨b, o + 4, none⟩) (len - 4) (cap - 4) ∧ k = 4 ∧ r = z4)) → Calls Tryd.prog 30 #[v, .int .i64 k] wx fun e w' => e = .returned (.int .u64 r) ∧ ∃ m, w' = wx.drewN m) := by
    rintro wx hx v k r (⟨rfl, rfl, rfl⟩ | ⟨rfl, rfl, rfl⟩ | ⟨rfl, rfl, rfl⟩)
    · exact hT1.out wx hx
    · exact hT3.out wx hx
    · exact hT4.out wx hx
  clear hT1 hT2 hT3 hT4
  go_region_held3 (fun w' => True) (trivial) (first | (go_at_call 30; refine (hT.out _ ?_ _ _ _ (by first | exact .inl ⟨rfl, rfl, rfl⟩ | exact .inr (.inl ⟨rfl, rfl, rfl⟩) | exact .inr (.inr ⟨rfl, rfl, rfl⟩))).mono ?_; (exact HcW.out); rintro e w1 ⟨rfl, m1, rfl⟩))
  go_wp2
  refine bodyPost_ret (results_cell_row rfl _ _ p 42 _ (0, 0) _ rfl (set5 (w := W.drewN _) Hst.out _ _ _ _ _) Tryd.underlying42 rfl size55) rfl ?_
  have hB' : Byts B := HB.out
  refine ⟨?_, ?_⟩
  · rw [conv8 z0 (by have := hB' 0; omega) (by have := hB' 0; omega), and15 z1 b10 b11, conv16 z2 (by have := u16_bd hB' 2; omega) (by have := u16_bd hB' 2; omega), conv32 z4 (by have := u32_bd hB' 4; omega) (by have := u32_bd hB' 4; omega), ← hz0, ← hz1, ← hz2, ← hz4]
    rfl
  · exact ((((((HoW.out.drewN _).setCell (a := ⟨p, 0, none⟩) (by simp [hp]) _).setCell (a := ⟨p, 1, none⟩) (by simp [hp]) _).setCell (a := ⟨p, 2, none⟩) (by simp [hp]) _).setCell (a := ⟨p, 3, none⟩) (by simp [hp]) _).setCell (a := ⟨p, 4, none⟩) (by simp [hp]) _)
end Go.Proofs.YtgephenkbbelcaaDoor
