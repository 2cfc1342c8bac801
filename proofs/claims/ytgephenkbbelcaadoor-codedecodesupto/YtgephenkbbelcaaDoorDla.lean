import Derived.Test.YtgephenkbbelcaaDoorPl
import Derived.Lib.ConvBytes
import Derived.Laws.MakeOwn
namespace Go.Proofs.YtgephenkbbelcaaDoor
open Go.RowKit
set_option linter.unusedVariables false
set_option linter.unusedSimpArgs false
theorem own_form {B n sz : Nat} {X : World} {e : TypeId} {v : Value} {xs : List Value} (h : X.ownsRow B e sz v n xs) : ∃ ad cp, v = .slice ad n cp := by
  rcases h.2 with ⟨rfl, rfl⟩ | ⟨g, cap, cur, rfl, -⟩
  · exact ⟨_, _, rfl⟩
  · exact ⟨_, _, rfl⟩
theorem own_at {W wr : World} {B n sz : Nat} {T : TypeId} {v : Value} {xs : List Value} (h : W.ownsRow B T sz v n xs) (o : Out W wr) : wr.ownsRow B T sz v n xs := owns_chg (S := fun _ => False) h (fun _ _ h => h) (Chg.of_out o)
def OwB (B : Nat) (v : Value) (O : List UInt8) (w : World) : Prop := w.ownsRow B 5 1 v O.length (Lib.byteCells O)
/-- bytes at an address below N -/
def RestAt (N : Nat) (w : World) (a : Option Addr) (l : List UInt8) : Prop := l = [] ∨ ∃ b off, b < N ∧ a = some ⟨b, off, none⟩ ∧ ∀ k x, l[k]? = some x → w.cell? ⟨b, off + k, none⟩ = some (.int .u8 (x.toNat : Int))
theorem rest_out {w w' : World} {a : Option Addr} {l : List UInt8} (h : RestAt w.heap.size w a l) (o : Out w w') : RestAt w'.heap.size w' a l := by
  rcases h with h | ⟨b, off, hb, ha, hc⟩
  · exact .inl h
  · exact .inr ⟨b, off, Nat.lt_of_lt_of_le hb o.size, ha, fun k x hx => cell_later o (hc k x hx)⟩
def bCells (O : List UInt8) : List Value := O.map (fun b => .int .u8 (b.toNat : Int))
theorem bCells_length (O : List UInt8) : (bCells O).length = O.length := by simp [bCells]
theorem fold_bytes (O : List UInt8) : ∀ r : ByteArray, (O.map (fun b => (b.toNat : Int))).foldl (fun r n => r.push (UInt8.ofNat n.toNat)) r = ⟨r.data ++ O.toArray⟩ := by
  induction O with
  | nil => intro r; simp
  | cons b l ih =>
    intro r
    rw [List.map_cons, List.foldl_cons, ih]
    simp [ByteArray.push]
theorem conv_list (w : World) (a : Addr) (cap : Nat) (O : List UInt8) (h : ∀ j u, (bCells O)[j]? = some u → w.cell? (a.add j) = some u) : (convert 22 9 (.slice (some a) O.length cap)).run Tryd.prog w = .ok (.string ⟨O.toArray⟩) w := by
  rw [run_convert_bytes_string w 22 9 5 (some a) O.length cap Tryd.underlying22 Tryd.underlying5 Tryd.underlying9]
  have h1 := run_loadCells_list (P := Tryd.prog) w a (bCells O) h
  rw [bCells_length] at h1
  rw [run_bytesToString w a O.length cap (O.map (fun b => (b.toNat : Int))) (by rw [show (O.map (fun b => (b.toNat : Int))).map (Value.int .u8) = bCells O from by simp [bCells]]; exact h1), fold_bytes]
  simp
theorem conv_rest {N : Nat} {w : World} {a : Option Addr} {l : List UInt8} (h : RestAt N w a l) (cap : Nat) : (convert 22 9 (.slice a l.length cap)).run Tryd.prog w = .ok (.string ⟨l.toArray⟩) w := by
  rcases h with rfl | ⟨b, off, hb, rfl, hc⟩
  · cases a with
    | none =>
      rw [run_convert_bytes_string w 22 9 5 none _ _ Tryd.underlying22 Tryd.underlying5 Tryd.underlying9]
      rfl
    | some a => exact conv_list w a cap [] (fun j u hj => by simp [bCells] at hj)
  · refine conv_list w ⟨b, off, none⟩ cap l (fun j u hj => ?_)
    rw [Go.WideShapes.add_plain]
    simp only [bCells, List.getElem?_map] at hj
    cases hl : l[j]? with
    | none => rw [hl] at hj; simp at hj
    | some x => rw [hl] at hj; simp at hj; rw [← hj]; exact hc j x hl
theorem OwB.rest {B : Nat} {v : Value} {O : List UInt8} {w : World} (h : OwB B v O w) : ∃ a cp, v = .slice a O.length cp ∧ O.length ≤ cp ∧ RestAt w.heap.size w a O := by
  rcases h.2 with ⟨hv, hn⟩ | ⟨g, cap, cur, hv, hb, hg, hc, _⟩
  · exact ⟨none, 0, by rw [hv, hn], by omega, .inl (List.length_eq_zero_iff.1 hn)⟩
  · refine ⟨_, _, hv, hc, .inr ⟨g, 0, (Array.getElem?_eq_some_iff.1 hg).1, rfl, fun k x hx => ?_⟩⟩
    have h1 := World.ownsRow.cells h (g := g) (by rw [hv]; rfl) k (.int .u8 (x.toNat : Int)) (by simp [Lib.byteCells, hx])
    rw [Nat.zero_add, ← h1, Go.WideShapes.add_plain, Nat.zero_add]
/-- bytes at a place -/
def BAt (w : World) (g off : Nat) (l : List UInt8) : Prop := ∀ k x, l[k]? = some x → w.cell? ⟨g, off + k, none⟩ = some (.int .u8 (x.toNat : Int))
theorem BAt.out {w w' : World} {g off : Nat} {l : List UInt8} (h : BAt w g off l) (hg : g < w.heap.size) (o : Out w w') : BAt w' g off l := fun k x hx => (o.cells g _ hg).trans (h k x hx)
theorem BAt.rest {w : World} {g off : Nat} {l : List UInt8} (h : BAt w g off l) (hg : g < w.heap.size) : RestAt w.heap.size w (some ⟨g, off, none⟩) l := .inr ⟨g, off, hg, rfl, h⟩
theorem OwB.out {B : Nat} {v : Value} {O : List UInt8} {w w' : World} (h : OwB B v O w) (o : Out w w') : OwB B v O w' := owns_chg (S := fun _ => False) h (fun _ _ h => h) (Chg.of_out o)
theorem RestAt.at {N : Nat} {w : World} {a : Option Addr} {l : List UInt8} (h : RestAt N w a l) (hl : 0 < l.length) : ∃ g off, a = some ⟨g, off, none⟩ ∧ g < N ∧ BAt w g off l := by
  rcases h with rfl | ⟨b, off, hb, ha, hc⟩
  · simp at hl
  · exact ⟨b, off, ha, hb, hc⟩
/-- what lies behind what is lent -/
def lmB (i : Nat) : UInt8 := UInt8.ofNat ((203 - 5 * (i : Int)) % 256).toNat
theorem lmB_val (i : Nat) : (203 - 5 * (i : Int)) % 256 = ((lmB i).toNat : Int) := by
  have h0 : 0 ≤ (203 - 5 * (i : Int)) % 256 := Int.emod_nonneg _ (by omega)
  have h1 : (203 - 5 * (i : Int)) % 256 < 256 := Int.emod_lt_of_pos _ (by omega)
  unfold lmB
  rw [UInt8.toNat_ofNat_of_lt' (by show _ < 256; omega)]
  omega
theorem lmark_any (p : Value) (i : Nat) (hi : i ≤ 1000000000000000) (w : World) : Calls Tryd.prog 16 #[p, .int .i64 i] w fun e w' => e = .returned (.int .u8 ((lmB i).toNat : Int)) ∧ w = w' := by
  have hv := lmB_val i
  go_enter Tryd.func16, Tryd.ntmps16
  go_wp2
  go_ret
  exact ⟨by rw [← hv]; rfl, rfl⟩
def lmsB (a k : Nat) : List UInt8 := (List.range' a k).map lmB
theorem lmsB_len (a k : Nat) : (lmsB a k).length = k := by simp [lmsB]
theorem lmsB_succ (a k : Nat) : lmsB a (k + 1) = lmsB a k ++ [lmB (a + k)] := by simp [lmsB, List.range'_concat]
/-- a list written over another -/
def ov (A L : List UInt8) : List UInt8 := A ++ L.drop A.length
theorem ov_len {A L : List UInt8} (h : A.length ≤ L.length) : (ov A L).length = L.length := by simp [ov]; omega
theorem ov_nil (L : List UInt8) : ov [] L = L := by simp [ov]
theorem ov_set {A L : List UInt8} {k : Nat} (hk : A.length = k) (h : k < L.length) (x : UInt8) : (ov A L).set k x = ov (A ++ [x]) L := by
  subst hk
  unfold ov
  rw [List.set_append_right _ _ (Nat.le_refl _), Nat.sub_self, List.drop_eq_getElem_cons h, List.set_cons_zero]
  simp
/-- the lender's block at p, its buffer at g -/
structure LeB (w : World) (p g m : Nat) (N : Int) (L : List UInt8) : Prop where
  hp : w.heap[p]? = some (.cells #[.slice (some ⟨g, 0, none⟩) m m, .int .i64 N] 25 (0, 0))
  hg : w.heap[g]? = some (.cells (bCells L).toArray 5 (0, 0))
  len_ : L.length = m
theorem cell_atL {w : World} {p : Nat} {cs : Array Value} {t : TypeId} (h : w.heap[p]? = some (.cells cs t (0, 0))) (j : Nat) : w.cell? ⟨p, j, none⟩ = cs[j]? := by simp [World.cell?, h]
theorem frozen_atL {w : World} {p : Nat} {cs : Array Value} {t : TypeId} (h : w.heap[p]? = some (.cells cs t (0, 0))) (j : Nat) : w.frozen? ⟨p, j, none⟩ = false := by simp [World.frozen?, h]
theorem set_atL {w : World} {p : Nat} {cs : Array Value} {t : TypeId} (h : w.heap[p]? = some (.cells cs t (0, 0))) (j : Nat) (u : Value) : (w.setCell ⟨p, j, none⟩ u).heap[p]? = some (.cells (cs.setIfInBounds j u) t (0, 0)) := by
  simp [World.setCell, Array.getElem?_modify, h]
theorem LeB.ne {w : World} {p g m : Nat} {N : Int} {L : List UInt8} (h : LeB w p g m N L) : ¬ p = g := fun e => by
  have := h.hp; rw [e, h.hg] at this; simp at this
theorem LeB.c0 {w : World} {p g m : Nat} {N : Int} {L : List UInt8} (h : LeB w p g m N L) : w.cell? ⟨p, 0, none⟩ = some (.slice (some ⟨g, 0, none⟩) m m) := by rw [cell_atL h.hp]; rfl
theorem LeB.c1 {w : World} {p g m : Nat} {N : Int} {L : List UInt8} (h : LeB w p g m N L) : w.cell? ⟨p, 1, none⟩ = some (.int .i64 N) := by rw [cell_atL h.hp]; rfl
theorem LeB.cell {w : World} {p g m : Nat} {N : Int} {L : List UInt8} (h : LeB w p g m N L) {k : Nat} {x : UInt8} (hx : L[k]? = some x) : w.cell? ⟨g, k, none⟩ = some (.int .u8 (x.toNat : Int)) := by
  rw [cell_atL h.hg]; simp [bCells, hx]
theorem LeB.fp {w : World} {p g m : Nat} {N : Int} {L : List UInt8} (h : LeB w p g m N L) (j : Nat) : w.frozen? ⟨p, j, none⟩ = false := frozen_atL h.hp j
theorem LeB.fg {w : World} {p g m : Nat} {N : Int} {L : List UInt8} (h : LeB w p g m N L) (j : Nat) : w.frozen? ⟨g, j, none⟩ = false := frozen_atL h.hg j
theorem LeB.ltp {w : World} {p g m : Nat} {N : Int} {L : List UInt8} (h : LeB w p g m N L) : p < w.heap.size := (Array.getElem?_eq_some_iff.1 h.hp).1
theorem LeB.ltg {w : World} {p g m : Nat} {N : Int} {L : List UInt8} (h : LeB w p g m N L) : g < w.heap.size := (Array.getElem?_eq_some_iff.1 h.hg).1
theorem LeB.drew {w : World} {p g m : Nat} {N : Int} {L : List UInt8} (h : LeB w p g m N L) : LeB w.drew p g m N L := ⟨h.hp, h.hg, h.len_⟩
theorem LeB.drewN {w : World} {p g m : Nat} {N : Int} {L : List UInt8} (h : LeB w p g m N L) (n : Nat) : LeB (w.drewN n) p g m N L := ⟨h.hp, h.hg, h.len_⟩
theorem LeB.out {w w' : World} {p g m : Nat} {N : Int} {L : List UInt8} (h : LeB w p g m N L) (o : Out w w') : LeB w' p g m N L := ⟨(o.block p h.ltp).trans h.hp, (o.block g h.ltg).trans h.hg, h.len_⟩
theorem LeB.set {w : World} {p g m : Nat} {N : Int} {L : List UInt8} (h : LeB w p g m N L) (k : Nat) (x : UInt8) : LeB (w.setCell ⟨g, k, none⟩ (.int .u8 (x.toNat : Int))) p g m N (L.set k x) := by
  refine ⟨?_, ?_, by simpa using h.len_⟩
  · rw [Below.heap_setCell _ _ _ _ h.ne]; exact h.hp
  · rw [set_atL h.hg]
    simp [bCells, List.map_set]
theorem LeB.setN {w : World} {p g m : Nat} {N : Int} {L : List UInt8} (h : LeB w p g m N L) (n : Int) : LeB (w.setCell ⟨p, 1, none⟩ (.int .i64 n)) p g m n L := by
  refine ⟨?_, ?_, h.len_⟩
  · rw [set_atL h.hp]; rfl
  · rw [Below.heap_setCell _ _ _ _ (fun e => h.ne e.symm)]; exact h.hg
/-- the blocks that the lender may write -/
def SL (p g k : Nat) : Prop := k = p ∨ k = g
theorem RestAt.chg {N N' : Nat} {S : Nat → Prop} {w w' : World} {a : Option Addr} {l : List UInt8} (h : RestAt N w a l) (c : Chg S w w') (hs : ∀ k, k < N → ¬ S k) (hN : N ≤ N') : RestAt N' w' a l := by
  rcases h with h | ⟨b, o, hb, ha, hc⟩
  · exact .inl h
  · exact .inr ⟨b, o, by omega, ha, fun k x hx => c.cell (hc k x hx) (hs b hb)⟩
theorem LeB.rest {w : World} {p g m : Nat} {N : Int} {l L : List UInt8} (h : LeB w p g m N (l ++ L)) : RestAt w.heap.size w (some ⟨g, 0, none⟩) l :=
  .inr ⟨g, 0, h.ltg, rfl, fun k x hx => by rw [Nat.zero_add]; exact h.cell (by rw [List.getElem?_append_left (List.getElem?_eq_some_iff.1 hx).1]; exact hx)⟩
theorem Chg.then_out {S : Nat → Prop} {a b c : World} (h : Chg S a b) (o : Out b c) : Chg S a c := h.trans (T := fun _ => False) (Chg.of_out o) (fun _ hx _ => hx.elim)
/-- a row does not lie in a block of another kind -/
theorem own_kind {B s n : Nat} {w : World} {e t : TypeId} {v : Value} {xs : List Value} {b : Nat} {cs : Array Value} {fr : Nat × Nat} (h : w.ownsRow B e s v n xs) (hb : w.heap[b]? = some (.cells cs t fr)) (hne : ¬ e = t) : ¬ v.ownBlock = some b := fun hv => by
  rcases h.2 with ⟨hx, _⟩ | ⟨g, cap, cur, hx, _, hg, _⟩
  · rw [hx] at hv; cases hv
  · rw [hx] at hv
    simp [Value.ownBlock] at hv
    subst hv
    rw [hb] at hg; simp at hg; exact hne hg.2.1.symm
theorem own_cells {B s n : Nat} {w : World} {e : TypeId} {v : Value} {xs : List Value} {b : Nat} (h : w.ownsRow B e s v n xs) (hb : v.ownBlock = some b) : B ≤ b ∧ ∃ cs fr, w.heap[b]? = some (.cells cs e fr) := by
  rcases h.2 with ⟨hx, _⟩ | ⟨g, cap, cur, hx, hB, hg, _⟩
  · rw [hx] at hb; cases hb
  · rw [hx] at hb
    simp [Value.ownBlock] at hb
    subst hb
    exact ⟨hB, cur, _, hg⟩
end Go.Proofs.YtgephenkbbelcaaDoor
