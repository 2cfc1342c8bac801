import Derived.Test.YtkihaohdcgjioaaGreatDoorGp03
import Derived.Test.YtkihaohdcgjioaaGreatDoorGp05
import Derived.Deep.OwnRows
namespace Go.Proofs.YtkihaohdcgjioaaGreatDoor.Lx
open Go.RowKit
set_option linter.unusedVariables false
set_option linter.unusedSimpArgs false
theorem piece_len (c : UInt8) (r : List UInt8) (h : (pieceP (c :: r)).1 = 0) : 1 ≤ (pieceP (c :: r)).2.2 ∧ (pieceP (c :: r)).2.2 ≤ r.length + 1 := by
  have h2 := runN_le (c :: r)
  simp only [List.length_cons] at h2
  unfold pieceP at h ⊢
  simp only at h ⊢
  by_cases k1 : kindP (bI c) = 1
  · rw [if_pos k1]; simp
  rw [if_neg k1] at h ⊢
  by_cases k2 : kindP (bI c) = 2
  · rw [if_pos k2]; simp
  rw [if_neg k2] at h ⊢
  by_cases k3 : kindP (bI c) = 3
  · have := run_pos (c := c) (r := r) (.inl k3)
    rw [if_pos k3]; simp only; omega
  rw [if_neg k3] at h ⊢
  by_cases k5 : kindP (bI c) = 5
  · have := run_pos (c := c) (r := r) (.inr (.inr k5))
    rw [if_pos k5]; simp only; omega
  rw [if_neg k5] at h ⊢
  by_cases k4 : kindP (bI c) = 4
  · have := run_pos (c := c) (r := r) (.inr (.inl k4))
    rw [if_pos k4]; simp only; omega
  rw [if_neg k4] at h ⊢
  by_cases k7 : kindP (bI c) = 7
  · rw [if_pos k7]; simp
  rw [if_neg k7] at h
  simp at h
def scanF : Nat → List UInt8 → Int × List (Int × List UInt8 × Int)
  | 0, _ => (0, [])
  | _ + 1, [] => (0, [])
  | f + 1, c :: r => if (pieceP (c :: r)).1 = 0 then ((scanF f ((c :: r).drop (pieceP (c :: r)).2.2)).1, (pieceP (c :: r)).2.1.toList ++ (scanF f ((c :: r).drop (pieceP (c :: r)).2.2)).2) else ((pieceP (c :: r)).1, [])
theorem scanF_eq : ∀ (f g : Nat) (l : List UInt8), l.length ≤ f → l.length ≤ g → scanF f l = scanF g l
  | 0, 0, _, _, _ => rfl
  | 0, g + 1, [], _, _ => rfl
  | 0, g + 1, c :: r, h, _ => by simp at h
  | f + 1, 0, [], _, _ => rfl
  | f + 1, 0, c :: r, _, h => by simp at h
  | f + 1, g + 1, [], _, _ => rfl
  | f + 1, g + 1, c :: r, hf, hg => by
    unfold scanF
    by_cases h : (pieceP (c :: r)).1 = 0
    · rw [if_pos h, if_pos h]
      have := piece_len c r h
      have hd : ((c :: r).drop (pieceP (c :: r)).2.2).length ≤ r.length := by rw [List.length_drop]; simp; omega
      simp only [List.length_cons] at hf hg
      rw [scanF_eq f g _ (by omega) (by omega)]
    · rw [if_neg h, if_neg h]
def scanD (l : List UInt8) : Int × List (Int × List UInt8 × Int) := scanF l.length l
theorem scanD_nil : scanD [] = (0, []) := rfl
theorem scanD_ok (c : UInt8) (r : List UInt8) (h : (pieceP (c :: r)).1 = 0) : scanD (c :: r) = ((scanD ((c :: r).drop (pieceP (c :: r)).2.2)).1, (pieceP (c :: r)).2.1.toList ++ (scanD ((c :: r).drop (pieceP (c :: r)).2.2)).2) := by
  have := piece_len c r h
  have hd : ((c :: r).drop (pieceP (c :: r)).2.2).length ≤ r.length := by rw [List.length_drop]; simp; omega
  show scanF (r.length + 1) (c :: r) = _
  unfold scanF
  rw [if_pos h, scanF_eq r.length _ _ hd (Nat.le_refl _)]
  rfl
theorem scanD_bad (c : UInt8) (r : List UInt8) (h : ¬ (pieceP (c :: r)).1 = 0) : scanD (c :: r) = ((pieceP (c :: r)).1, []) := by
  show scanF (r.length + 1) (c :: r) = _
  unfold scanF
  rw [if_neg h]
/-- a line: the error, or its tokens -/
def lineP (l : List UInt8) : Int × List (Int × List UInt8 × Int) := if l.length ≤ 1024 then scanD l else (51, [])
theorem scanF_len : ∀ (f : Nat) (l : List UInt8), (scanF f l).2.length ≤ l.length
  | 0, _ => by simp [scanF]
  | _ + 1, [] => by simp [scanF]
  | f + 1, c :: r => by
    unfold scanF
    by_cases h : (pieceP (c :: r)).1 = 0
    · rw [if_pos h]
      have h1 := piece_len c r h
      have h2 := scanF_len f ((c :: r).drop (pieceP (c :: r)).2.2)
      rw [List.length_drop] at h2
      have h3 : (pieceP (c :: r)).2.1.toList.length ≤ 1 := by cases (pieceP (c :: r)).2.1 <;> simp
      rw [List.length_append]
      simp only [List.length_cons] at h2 ⊢
      omega
    · rw [if_neg h]; simp
theorem lineP_len (l : List UInt8) : (lineP l).2.length ≤ l.length := by
  unfold lineP
  split
  · exact scanF_len _ _
  · simp
/-- the first line, and what stands behind it -/
def cutL (l : List UInt8) : List UInt8 × List UInt8 := (l.takeWhile (fun b => !(b == 10)), (l.dropWhile (fun b => !(b == 10))).drop 1)
theorem cutL_len (l : List UInt8) (h : ¬ l = []) : (cutL l).1.length + (cutL l).2.length ≤ l.length ∧ (cutL l).2.length < l.length := by
  have h1 : (l.takeWhile (fun b => !(b == 10))).length + (l.dropWhile (fun b => !(b == 10))).length = l.length := by rw [← List.length_append, List.takeWhile_append_dropWhile]
  have hp : 0 < l.length := List.length_pos_iff.2 h
  unfold cutL
  simp only [List.length_drop]
  omega
/-- bytes at an address below N -/
def RestAt (N : Nat) (w : World) (a : Option Addr) (l : List UInt8) : Prop := l = [] ∨ ∃ b off, b < N ∧ a = some ⟨b, off, none⟩ ∧ ∀ k x, l[k]? = some x → w.cell? ⟨b, off + k, none⟩ = some (.int .u8 (x.toNat : Int))
theorem RestAt.below {N : Nat} {w w' : World} {a : Option Addr} {l : List UInt8} (h : RestAt N w a l) (b : Below N w w') : RestAt N w' a l := by
  rcases h with h | ⟨g, o, hg, ha, hc⟩
  · exact .inl h
  · exact .inr ⟨g, o, hg, ha, fun k x hx => (Below.cell b hg).trans (hc k x hx)⟩
def CutC : Prop := ∀ (N : Nat) (l : List UInt8) (a : Option Addr) (cap sb : Nat) (w : World), RestAt N w a l → ¬ l = [] → l.length ≤ cap → l.length ≤ 16777216 → w.cell? ⟨sb, 0, none⟩ = some (.int .u8 10) →
  Calls Tryz.prog 100 #[.slice a l.length cap, .slice (some ⟨sb, 0, none⟩) 1 1] w fun e w' => ∃ a1 c1 a2 c2 fd, e = .returned (.tuple #[.slice a1 (cutL l).1.length c1, .slice a2 (cutL l).2.length c2, .bool fd]) ∧ RestAt N w a1 (cutL l).1 ∧ RestAt N w a2 (cutL l).2 ∧ (cutL l).2.length ≤ c2 ∧ ∃ q, w' = w.drewN q
def mkT (n : Nat) (x : Int × List UInt8 × Int) : Tk := ⟨x.1, x.2.1, x.2.2, n⟩
def putS (s : Sn) (L : List UInt8) (a : Nat) (D : List (Int × List UInt8 × Int)) : Sn := ⟨L, s.num + 1, a, s.cnt + D.length, s.keeps, if s.keeps then s.T ++ D.map (mkT (s.num + 1)) else s.T⟩
theorem putS_adv (s : Sn) (L : List UInt8) (a : Nat) (D : List (Int × List UInt8 × Int)) (t : Option (Int × List UInt8 × Int)) (n : Nat) : (putS s L a D).adv t n = putS s L (a + n) (D ++ t.toList) := by
  cases t with
  | none => simp [putS, Sn.adv]
  | some t =>
    obtain ⟨k, x, v⟩ := t
    simp only [putS, Sn.adv, tokS, Sn.add, Option.toList, List.length_append, List.map_append, Sn.mk.injEq, true_and, List.length_cons, List.length_nil]
    refine ⟨by omega, ?_⟩
    by_cases hk : s.keeps = true
    · simp [hk, mkT]
    · simp [hk]
theorem putS_len {s : Sn} (h : s.T.length ≤ s.cnt) (L : List UInt8) (a : Nat) (D : List (Int × List UInt8 × Int)) : (putS s L a D).T.length ≤ (putS s L a D).cnt := by
  unfold putS
  by_cases hk : s.keeps = true
  · simp [hk]; omega
  · simp [hk]; omega
end Go.Proofs.YtkihaohdcgjioaaGreatDoor.Lx
namespace Go.Proofs.YtkihaohdcgjioaaGreatDoor
open Go.RowKit
set_option linter.unusedVariables false
set_option linter.unusedSimpArgs false

/-- only blocks of S, or new ones, are changed -/
structure Chg (S : Nat → Prop) (w w' : World) : Prop where
  os : w'.os = w.os
  tape : w'.tape = w.tape
  output : w'.output = w.output
  size : w.heap.size ≤ w'.heap.size
  block : ∀ k, k < w.heap.size → ¬ S k → w'.heap[k]? = w.heap[k]?
theorem Chg.refl (S : Nat → Prop) (w : World) : Chg S w w := ⟨rfl, rfl, rfl, Nat.le_refl _, fun _ _ _ => rfl⟩
theorem Chg.trans {S T : Nat → Prop} {a b c : World} (h : Chg S a b) (k : Chg T b c) (hST : ∀ x, T x → x < a.heap.size → S x) : Chg S a c :=
  ⟨k.os.trans h.os, k.tape.trans h.tape, k.output.trans h.output, Nat.le_trans h.size k.size, fun i hi hs => (k.block i (Nat.lt_of_lt_of_le hi h.size) (fun ht => hs (hST i ht hi))).trans (h.block i hi hs)⟩
theorem Chg.of_out {S : Nat → Prop} {w w' : World} (h : Out w w') : Chg S w w' := ⟨h.os, h.tape, h.output, h.size, fun k hk _ => h.block k hk⟩
theorem Chg.of_grown {S : Nat → Prop} {w w' : World} {row : Option Nat} (h : w.grownBy w' row) (hr : ∀ k, row = some k → S k) : Chg S w w' :=
  ⟨h.os, h.tape, h.output, h.size, fun k hk hs => h.block k hk (fun e => hs (hr k e.symm))⟩
theorem Chg.alloc {S : Nat → Prop} {a w : World} (h : Chg S a w) (o : Obj) : Chg S a (w.alloc o) :=
  h.trans (T := fun _ => False) ⟨rfl, rfl, rfl, by simp, fun k hk _ => Below.heap_alloc _ _ _ hk⟩ (fun _ hx _ => hx.elim)
theorem Chg.drew {S : Nat → Prop} {a w : World} (h : Chg S a w) : Chg S a w.drew := ⟨h.os, h.tape, h.output, h.size, h.block⟩
theorem Chg.setCell {S : Nat → Prop} {a w : World} (h : Chg S a w) {p : Addr} (hp : S p.block) (u : Value) : Chg S a (w.setCell p u) :=
  h.trans (T := fun k => k = p.block) ⟨rfl, rfl, rfl, by simp [World.setCell], fun k hk hs => Below.heap_setCell _ _ _ _ hs⟩ (fun x hx _ => hx ▸ hp)
theorem Chg.mono {S T : Nat → Prop} {w w' : World} (h : Chg S w w') (hST : ∀ x, S x → x < w.heap.size → T x) : Chg T w w' :=
  ⟨h.os, h.tape, h.output, h.size, fun k hk ht => h.block k hk (fun hs => ht (hST k hs hk))⟩
theorem Chg.below {S : Nat → Prop} {B : Nat} {w w' : World} (h : Chg S w w') (hB : B ≤ w.heap.size) (hS : ∀ k, S k → B ≤ k) : Below B w w' :=
  ⟨h.os, h.tape, h.output, h.size, fun k hk => h.block k (by omega) (fun hs => by have := hS k hs; omega)⟩
theorem Chg.out {S : Nat → Prop} {w0 w w' : World} (h : Chg S w w') (ho : Out w0 w) (hS : ∀ k, S k → w0.heap.size ≤ k) : Out w0 w' :=
  Below.trans ho (h.below ho.size hS)
theorem Chg.cell {S : Nat → Prop} {w w' : World} (h : Chg S w w') {a : Addr} {v : Value} (hc : w.cell? a = some v) (hs : ¬ S a.block) : w'.cell? a = some v := by
  rw [← hc]; exact World.cell?_of_block (h.block _ (World.block_lt_of_cell? w a hc) hs)
/-- the tables -/
def Tabs (w : World) : Prop := TabA w ∧ TabO w
theorem Tabs.out {w w' : World} (h : Tabs w) (o : Out w w') : Tabs w' := ⟨h.1.out o, h.2.out o⟩

/-- a slice of instructions at an address, that reads l -/
def InsA (w : World) (a : Option Addr) (l : List Ins) : Prop :=
  l = [] ∨ ∃ b off, a = some ⟨b, off, none⟩ ∧ ∀ k x, l[k]? = some x → w.cell? ⟨b, off + k * 5, none⟩ = some (.int .i64 x.o) ∧ w.cell? ⟨b, off + k * 5 + 1, none⟩ = some (.int .i64 x.d) ∧
    w.cell? ⟨b, off + k * 5 + 2, none⟩ = some (.int .i64 x.s) ∧ w.cell? ⟨b, off + k * 5 + 3, none⟩ = some (.int .i64 x.f) ∧ w.cell? ⟨b, off + k * 5 + 4, none⟩ = some (.int .i64 x.i)
theorem InsA.out {w w' : World} {a : Option Addr} {l : List Ins} (h : InsA w a l) (o : Out w w') : InsA w' a l := by
  rcases h with h | ⟨b, off, rfl, h⟩
  · exact .inl h
  · exact .inr ⟨b, off, rfl, fun k x hx => by
      obtain ⟨h0, h1, h2, h3, h4⟩ := h k x hx
      exact ⟨cell_later o h0, cell_later o h1, cell_later o h2, cell_later o h3, cell_later o h4⟩⟩
/-- bytes at an address, that read B -/
def BytA (w : World) (a : Option Addr) (B : List Int) : Prop :=
  B = [] ∨ ∃ b off, a = some ⟨b, off, none⟩ ∧ ∀ k, k < B.length → w.cell? ⟨b, off + k, none⟩ = some (.int .u8 (gB B k))
theorem BytA.out {w w' : World} {a : Option Addr} {B : List Int} (h : BytA w a B) (o : Out w w') : BytA w' a B := by
  rcases h with h | ⟨b, off, rfl, h⟩
  · exact .inl h
  · exact .inr ⟨b, off, rfl, fun k hk => cell_later o (h k hk)⟩
def may (x : Ins) : Int := mayP x.o x.d x.s x.f x.i

theorem take_filter (l : List Ins) (k : Nat) (x : Ins) (h : l[k]? = some x) : ((l.take (k + 1)).filter (fun x => isW x.o)).length = ((l.take k).filter (fun x => isW x.o)).length + (if isW x.o then 1 else 0) := by
  rw [List.take_add_one, h]
  simp only [Option.toList_some, List.filter_append, List.length_append, List.filter_cons, List.filter_nil]
  split <;> simp
end Go.Proofs.YtkihaohdcgjioaaGreatDoor
