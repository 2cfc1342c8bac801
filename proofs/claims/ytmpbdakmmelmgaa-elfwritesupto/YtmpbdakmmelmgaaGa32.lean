import Derived.Test.YtmpbdakmmelmgaaGa25
import Derived.Test.YtmpbdakmmelmgaaGa31
namespace Go.Proofs.Ytmpbdakmmelmgaa
open Go.RowKit
set_option linter.unusedVariables false
set_option linter.unusedSimpArgs false
/-- what lies behind what is lent -/
def lmB (i : Nat) : UInt8 := UInt8.ofNat ((203 - 5 * (i : Int)) % 256).toNat
theorem lmB_val (i : Nat) : (203 - 5 * (i : Int)) % 256 = ((lmB i).toNat : Int) := by
  have h0 : 0 ≤ (203 - 5 * (i : Int)) % 256 := Int.emod_nonneg _ (by omega)
  have h1 : (203 - 5 * (i : Int)) % 256 < 256 := Int.emod_lt_of_pos _ (by omega)
  unfold lmB
  rw [UInt8.toNat_ofNat_of_lt' (by show _ < 256; omega)]
  omega
theorem lmark_any (p : Value) (i : Nat) (hi : i ≤ 1000000000000000) (w : World) : Calls Try.prog 56 #[p, .int .i64 i] w fun e w' => e = .returned (.int .u8 ((lmB i).toNat : Int)) ∧ w = w' := by
  have hv := lmB_val i
  go_enter Try.func56, Try.ntmps56
  go_wp2
  go_ret
  exact ⟨by rw [← hv]; rfl, rfl⟩
def lmsB (a k : Nat) : List UInt8 := (List.range' a k).map lmB
theorem lmsB_len (a k : Nat) : (lmsB a k).length = k := by simp [lmsB]
theorem lmsB_succ (a k : Nat) : lmsB a (k + 1) = lmsB a k ++ [lmB (a + k)] := by simp [lmsB, List.range'_concat]
/-- a list written over another -/
def ov (A L : List UInt8) : List UInt8 := A ++ L.drop A.length
theorem ov_len {A L : List UInt8} (h : A.length ≤ L.length) : (ov A L).length = L.length := by simp [ov]; omega
theorem ov_nil (L : List UInt8) : ov [] L = L := by simp [ov]
theorem ov_set {A L : List UInt8} {k : Nat} (hk : A.length = k) (h : k < L.length) (x : UInt8) : (ov A L).set k x = ov (A ++ [x]) L := by
  subst hk
  unfold ov
  rw [List.set_append_right _ _ (Nat.le_refl _), Nat.sub_self, List.drop_eq_getElem_cons h, List.set_cons_zero]
  simp
/-- a lender in a row of them: its block p holds cs, its cells lie at po, its buffer at g -/
structure LeC (w : World) (p po g m : Nat) (cs : Array Value) (N : Int) (L : List UInt8) : Prop where
  hp : w.heap[p]? = some (.cells cs 38 (0, 0))
  h0 : cs[po]? = some (.slice (some ⟨g, 0, none⟩) m m)
  h1 : cs[po + 1]? = some (.int .i64 N)
  hg : w.heap[g]? = some (.cells (bCells L).toArray 5 (0, 0))
  len_ : L.length = m
theorem cell_atL {w : World} {p : Nat} {cs : Array Value} {t : TypeId} (h : w.heap[p]? = some (.cells cs t (0, 0))) (j : Nat) : w.cell? ⟨p, j, none⟩ = cs[j]? := by simp [World.cell?, h]
theorem frozen_atL {w : World} {p : Nat} {cs : Array Value} {t : TypeId} (h : w.heap[p]? = some (.cells cs t (0, 0))) (j : Nat) : w.frozen? ⟨p, j, none⟩ = false := by simp [World.frozen?, h]
theorem set_atL {w : World} {p : Nat} {cs : Array Value} {t : TypeId} (h : w.heap[p]? = some (.cells cs t (0, 0))) (j : Nat) (u : Value) : (w.setCell ⟨p, j, none⟩ u).heap[p]? = some (.cells (cs.setIfInBounds j u) t (0, 0)) := by
  simp [World.setCell, Array.getElem?_modify, h]
theorem LeC.ne {w : World} {p po g m : Nat} {cs : Array Value} {N : Int} {L : List UInt8} (h : LeC w p po g m cs N L) : ¬ p = g := fun e => by
  have := h.hp; rw [e, h.hg] at this; simp at this
section
variable {w w' : World} {p po g m : Nat} {cs : Array Value} {N : Int} {L : List UInt8}
theorem LeC.c0 (h : LeC w p po g m cs N L) : w.cell? ⟨p, po, none⟩ = some (.slice (some ⟨g, 0, none⟩) m m) := by rw [cell_atL h.hp]; exact h.h0
theorem LeC.c1 (h : LeC w p po g m cs N L) : w.cell? ⟨p, po + 1, none⟩ = some (.int .i64 N) := by rw [cell_atL h.hp]; exact h.h1
theorem LeC.cell (h : LeC w p po g m cs N L) {k : Nat} {x : UInt8} (hx : L[k]? = some x) : w.cell? ⟨g, k, none⟩ = some (.int .u8 (x.toNat : Int)) := by
  rw [cell_atL h.hg]; simp [bCells, hx]
theorem LeC.fp (h : LeC w p po g m cs N L) (j : Nat) : w.frozen? ⟨p, j, none⟩ = false := frozen_atL h.hp j
theorem LeC.fg (h : LeC w p po g m cs N L) (j : Nat) : w.frozen? ⟨g, j, none⟩ = false := frozen_atL h.hg j
theorem LeC.ltp (h : LeC w p po g m cs N L) : p < w.heap.size := (Array.getElem?_eq_some_iff.1 h.hp).1
theorem LeC.ltg (h : LeC w p po g m cs N L) : g < w.heap.size := (Array.getElem?_eq_some_iff.1 h.hg).1
theorem LeC.drew (h : LeC w p po g m cs N L) : LeC w.drew p po g m cs N L := ⟨h.hp, h.h0, h.h1, h.hg, h.len_⟩
theorem LeC.drewN (h : LeC w p po g m cs N L) (n : Nat) : LeC (w.drewN n) p po g m cs N L := ⟨h.hp, h.h0, h.h1, h.hg, h.len_⟩
theorem LeC.out (h : LeC w p po g m cs N L) (o : Out w w') : LeC w' p po g m cs N L := ⟨(o.block p h.ltp).trans h.hp, h.h0, h.h1, (o.block g h.ltg).trans h.hg, h.len_⟩
theorem LeC.set (h : LeC w p po g m cs N L) (k : Nat) (x : UInt8) : LeC (w.setCell ⟨g, k, none⟩ (.int .u8 (x.toNat : Int))) p po g m cs N (L.set k x) := by
  refine ⟨?_, h.h0, h.h1, ?_, by simpa using h.len_⟩
  · rw [Below.heap_setCell _ _ _ _ h.ne]; exact h.hp
  · rw [set_atL h.hg]
    simp [bCells, List.map_set]
theorem LeC.setN (h : LeC w p po g m cs N L) (n : Int) : LeC (w.setCell ⟨p, po + 1, none⟩ (.int .i64 n)) p po g m (cs.setIfInBounds (po + 1) (.int .i64 n)) n L := by
  have hlt : po + 1 < cs.size := (Array.getElem?_eq_some_iff.1 h.h1).1
  refine ⟨?_, ?_, ?_, ?_, h.len_⟩
  · rw [set_atL h.hp]
  · rw [Array.getElem?_setIfInBounds_ne (by omega)]; exact h.h0
  · rw [Array.getElem?_setIfInBounds_self_of_lt hlt]
  · rw [Below.heap_setCell _ _ _ _ (fun e => h.ne e.symm)]; exact h.hg
end
/-- the blocks that the lender may write -/
def SL (p g k : Nat) : Prop := k = p ∨ k = g
theorem RestAt.chg {N N' : Nat} {S : Nat → Prop} {w w' : World} {a : Option Addr} {l : List UInt8} (h : RestAt N w a l) (c : Chg S w w') (hs : ∀ k, k < N → ¬ S k) (hN : N ≤ N') : RestAt N' w' a l := by
  rcases h with h | ⟨b, o, hb, ha, hc⟩
  · exact .inl h
  · exact .inr ⟨b, o, by omega, ha, fun k x hx => c.cell (hc k x hx) (hs b hb)⟩
theorem LeC.rest {w : World} {p po g m : Nat} {cs : Array Value} {N : Int} {l L : List UInt8} (h : LeC w p po g m cs N (l ++ L)) : RestAt w.heap.size w (some ⟨g, 0, none⟩) l :=
  .inr ⟨g, 0, h.ltg, rfl, fun k x hx => by rw [Nat.zero_add]; exact h.cell (by rw [List.getElem?_append_left (List.getElem?_eq_some_iff.1 hx).1]; exact hx)⟩
end Go.Proofs.Ytmpbdakmmelmgaa
namespace Go.Proofs.Ytmpbdakmmelmgaa
open Go.RowKit
set_option linter.unusedVariables false
set_option linter.unusedSimpArgs false
theorem Chg.then_out {S : Nat → Prop} {a b c : World} (h : Chg S a b) (o : Out b c) : Chg S a c := h.trans (T := fun _ => False) (Chg.of_out o) (fun _ hx _ => hx.elim)
/-- a row does not lie in a block of another kind -/
theorem own_kind {B s n : Nat} {w : World} {e t : TypeId} {v : Value} {xs : List Value} {b : Nat} {cs : Array Value} {fr : Nat × Nat} (h : w.ownsRow B e s v n xs) (hb : w.heap[b]? = some (.cells cs t fr)) (hne : ¬ e = t) : ¬ v.ownBlock = some b := fun hv => by
  rcases h.2 with ⟨hx, _⟩ | ⟨g, cap, cur, hx, _, hg, _⟩
  · rw [hx] at hv; cases hv
  · rw [hx] at hv
    simp [Value.ownBlock] at hv
    subst hv
    rw [hb] at hg; simp at hg; exact hne hg.2.1.symm
theorem own_cells {B s n : Nat} {w : World} {e : TypeId} {v : Value} {xs : List Value} {b : Nat} (h : w.ownsRow B e s v n xs) (hb : v.ownBlock = some b) : B ≤ b ∧ ∃ cs fr, w.heap[b]? = some (.cells cs e fr) := by
  rcases h.2 with ⟨hx, _⟩ | ⟨g, cap, cur, hx, hB, hg, _⟩
  · rw [hx] at hb; cases hb
  · rw [hx] at hb
    simp [Value.ownBlock] at hb
    subst hb
    exact ⟨hB, cur, _, hg⟩
end Go.Proofs.Ytmpbdakmmelmgaa
