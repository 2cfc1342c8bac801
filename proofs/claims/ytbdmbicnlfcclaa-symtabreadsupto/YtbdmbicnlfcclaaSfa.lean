import Derived.Test.YtbdmbicnlfcclaaSyu
namespace Go.Proofs.Ytbdmbicnlfcclaa
open Go.RowKit
set_option linter.unusedVariables false
set_option linter.unusedSimpArgs false
/-- what lies behind what is lent -/
def lmB (i : Nat) : UInt8 := UInt8.ofNat ((203 - 5 * (i : Int)) % 256).toNat
theorem lmB_val (i : Nat) : (203 - 5 * (i : Int)) % 256 = ((lmB i).toNat : Int) := by
  have h0 : 0 ≤ (203 - 5 * (i : Int)) % 256 := Int.emod_nonneg _ (by omega)
  have h1 : (203 - 5 * (i : Int)) % 256 < 256 := Int.emod_lt_of_pos _ (by omega)
  unfold lmB
  rw [UInt8.toNat_ofNat_of_lt' (by show _ < 256; omega)]
  omega
theorem lmark_any (p : Value) (i : Nat) (hi : i ≤ 1000000000000000) (w : World) : Calls Try.prog 42 #[p, .int .i64 i] w fun e w' => e = .returned (.int .u8 ((lmB i).toNat : Int)) ∧ w = w' := by
  have hv := lmB_val i
  go_enter Try.func42, Try.ntmps42
  go_wp2
  go_ret
  exact ⟨by rw [← hv]; rfl, rfl⟩
def lmsB (a k : Nat) : List UInt8 := (List.range' a k).map lmB
theorem lmsB_len (a k : Nat) : (lmsB a k).length = k := by simp [lmsB]
theorem lmsB_succ (a k : Nat) : lmsB a (k + 1) = lmsB a k ++ [lmB (a + k)] := by simp [lmsB, List.range'_concat]
/-- a list written over another -/
def ov (A L : List UInt8) : List UInt8 := A ++ L.drop A.length
theorem ov_len {A L : List UInt8} (h : A.length ≤ L.length) : (ov A L).length = L.length := by simp [ov]; omega
theorem ov_nil (L : List UInt8) : ov [] L = L := by simp [ov]
theorem ov_set {A L : List UInt8} {k : Nat} (hk : A.length = k) (h : k < L.length) (x : UInt8) : (ov A L).set k x = ov (A ++ [x]) L := by
  subst hk
  unfold ov
  rw [List.set_append_right _ _ (Nat.le_refl _), Nat.sub_self, List.drop_eq_getElem_cons h, List.set_cons_zero]
  simp
/-- the lender's block at p, its buffer at g -/
structure LeB (w : World) (p g m : Nat) (N : Int) (L : List UInt8) : Prop where
  hp : w.heap[p]? = some (.cells #[.slice (some ⟨g, 0, none⟩) m m, .int .i64 N] 39 (0, 0))
  hg : w.heap[g]? = some (.cells (bCells L).toArray 5 (0, 0))
  len_ : L.length = m
theorem cell_atL {w : World} {p : Nat} {cs : Array Value} {t : TypeId} (h : w.heap[p]? = some (.cells cs t (0, 0))) (j : Nat) : w.cell? ⟨p, j, none⟩ = cs[j]? := by simp [World.cell?, h]
theorem frozen_atL {w : World} {p : Nat} {cs : Array Value} {t : TypeId} (h : w.heap[p]? = some (.cells cs t (0, 0))) (j : Nat) : w.frozen? ⟨p, j, none⟩ = false := by simp [World.frozen?, h]
theorem set_atL {w : World} {p : Nat} {cs : Array Value} {t : TypeId} (h : w.heap[p]? = some (.cells cs t (0, 0))) (j : Nat) (u : Value) : (w.setCell ⟨p, j, none⟩ u).heap[p]? = some (.cells (cs.setIfInBounds j u) t (0, 0)) := by
  simp [World.setCell, Array.getElem?_modify, h]
theorem LeB.ne {w : World} {p g m : Nat} {N : Int} {L : List UInt8} (h : LeB w p g m N L) : ¬ p = g := fun e => by
  have := h.hp; rw [e, h.hg] at this; simp at this
theorem LeB.c0 {w : World} {p g m : Nat} {N : Int} {L : List UInt8} (h : LeB w p g m N L) : w.cell? ⟨p, 0, none⟩ = some (.slice (some ⟨g, 0, none⟩) m m) := by rw [cell_atL h.hp]; rfl
theorem LeB.c1 {w : World} {p g m : Nat} {N : Int} {L : List UInt8} (h : LeB w p g m N L) : w.cell? ⟨p, 1, none⟩ = some (.int .i64 N) := by rw [cell_atL h.hp]; rfl
theorem LeB.cell {w : World} {p g m : Nat} {N : Int} {L : List UInt8} (h : LeB w p g m N L) {k : Nat} {x : UInt8} (hx : L[k]? = some x) : w.cell? ⟨g, k, none⟩ = some (.int .u8 (x.toNat : Int)) := by
  rw [cell_atL h.hg]; simp [bCells, hx]
theorem LeB.fp {w : World} {p g m : Nat} {N : Int} {L : List UInt8} (h : LeB w p g m N L) (j : Nat) : w.frozen? ⟨p, j, none⟩ = false := frozen_atL h.hp j
theorem LeB.fg {w : World} {p g m : Nat} {N : Int} {L : List UInt8} (h : LeB w p g m N L) (j : Nat) : w.frozen? ⟨g, j, none⟩ = false := frozen_atL h.hg j
theorem LeB.ltp {w : World} {p g m : Nat} {N : Int} {L : List UInt8} (h : LeB w p g m N L) : p < w.heap.size := (Array.getElem?_eq_some_iff.1 h.hp).1
theorem LeB.ltg {w : World} {p g m : Nat} {N : Int} {L : List UInt8} (h : LeB w p g m N L) : g < w.heap.size := (Array.getElem?_eq_some_iff.1 h.hg).1
theorem LeB.drew {w : World} {p g m : Nat} {N : Int} {L : List UInt8} (h : LeB w p g m N L) : LeB w.drew p g m N L := ⟨h.hp, h.hg, h.len_⟩
theorem LeB.drewN {w : World} {p g m : Nat} {N : Int} {L : List UInt8} (h : LeB w p g m N L) (n : Nat) : LeB (w.drewN n) p g m N L := ⟨h.hp, h.hg, h.len_⟩
theorem LeB.out {w w' : World} {p g m : Nat} {N : Int} {L : List UInt8} (h : LeB w p g m N L) (o : Out w w') : LeB w' p g m N L := ⟨(o.block p h.ltp).trans h.hp, (o.block g h.ltg).trans h.hg, h.len_⟩
theorem LeB.set {w : World} {p g m : Nat} {N : Int} {L : List UInt8} (h : LeB w p g m N L) (k : Nat) (x : UInt8) : LeB (w.setCell ⟨g, k, none⟩ (.int .u8 (x.toNat : Int))) p g m N (L.set k x) := by
  refine ⟨?_, ?_, by simpa using h.len_⟩
  · rw [Below.heap_setCell _ _ _ _ h.ne]; exact h.hp
  · rw [set_atL h.hg]
    simp [bCells, List.map_set]
theorem LeB.setN {w : World} {p g m : Nat} {N : Int} {L : List UInt8} (h : LeB w p g m N L) (n : Int) : LeB (w.setCell ⟨p, 1, none⟩ (.int .i64 n)) p g m n L := by
  refine ⟨?_, ?_, h.len_⟩
  · rw [set_atL h.hp]; rfl
  · rw [Below.heap_setCell _ _ _ _ (fun e => h.ne e.symm)]; exact h.hg
/-- the blocks that the lender may write -/
def SL (p g k : Nat) : Prop := k = p ∨ k = g
theorem RestAt.chg {N N' : Nat} {S : Nat → Prop} {w w' : World} {a : Option Addr} {l : List UInt8} (h : RestAt N w a l) (c : Chg S w w') (hs : ∀ k, k < N → ¬ S k) (hN : N ≤ N') : RestAt N' w' a l := by
  rcases h with h | ⟨b, o, hb, ha, hc⟩
  · exact .inl h
  · exact .inr ⟨b, o, by omega, ha, fun k x hx => c.cell (hc k x hx) (hs b hb)⟩
theorem LeB.rest {w : World} {p g m : Nat} {N : Int} {l L : List UInt8} (h : LeB w p g m N (l ++ L)) : RestAt w.heap.size w (some ⟨g, 0, none⟩) l :=
  .inr ⟨g, 0, h.ltg, rfl, fun k x hx => by rw [Nat.zero_add]; exact h.cell (by rw [List.getElem?_append_left (List.getElem?_eq_some_iff.1 hx).1]; exact hx)⟩
end Go.Proofs.Ytbdmbicnlfcclaa
