import Derived.Test.YtcomhlimgocoaaaGreatDoorGc04
import Derived.Deep.OwnRows
import Derived.Test.YtcomhlimgocoaaaGreatDoorGc02
import Derived.Deep.RegionHeld3
import Derived.Deep.RegionLaw
namespace Go.Proofs.YtcomhlimgocoaaaGreatDoor
open Go.RowKit
set_option linter.unusedVariables false
set_option linter.unusedSimpArgs false

/-- only blocks of S, or new ones, are changed -/
structure Chg (S : Nat → Prop) (w w' : World) : Prop where
  os : w'.os = w.os
  tape : w'.tape = w.tape
  output : w'.output = w.output
  size : w.heap.size ≤ w'.heap.size
  block : ∀ k, k < w.heap.size → ¬ S k → w'.heap[k]? = w.heap[k]?
theorem Chg.refl (S : Nat → Prop) (w : World) : Chg S w w := ⟨rfl, rfl, rfl, Nat.le_refl _, fun _ _ _ => rfl⟩
theorem Chg.trans {S T : Nat → Prop} {a b c : World} (h : Chg S a b) (k : Chg T b c) (hST : ∀ x, T x → x < a.heap.size → S x) : Chg S a c :=
  ⟨k.os.trans h.os, k.tape.trans h.tape, k.output.trans h.output, Nat.le_trans h.size k.size, fun i hi hs => (k.block i (Nat.lt_of_lt_of_le hi h.size) (fun ht => hs (hST i ht hi))).trans (h.block i hi hs)⟩
theorem Chg.of_out {S : Nat → Prop} {w w' : World} (h : Out w w') : Chg S w w' := ⟨h.os, h.tape, h.output, h.size, fun k hk _ => h.block k hk⟩
theorem Chg.of_grown {S : Nat → Prop} {w w' : World} {row : Option Nat} (h : w.grownBy w' row) (hr : ∀ k, row = some k → S k) : Chg S w w' :=
  ⟨h.os, h.tape, h.output, h.size, fun k hk hs => h.block k hk (fun e => hs (hr k e.symm))⟩
theorem Chg.alloc {S : Nat → Prop} {a w : World} (h : Chg S a w) (o : Obj) : Chg S a (w.alloc o) :=
  h.trans (T := fun _ => False) ⟨rfl, rfl, rfl, by simp, fun k hk _ => Below.heap_alloc _ _ _ hk⟩ (fun _ hx _ => hx.elim)
theorem Chg.drew {S : Nat → Prop} {a w : World} (h : Chg S a w) : Chg S a w.drew := ⟨h.os, h.tape, h.output, h.size, h.block⟩
theorem Chg.setCell {S : Nat → Prop} {a w : World} (h : Chg S a w) {p : Addr} (hp : S p.block) (u : Value) : Chg S a (w.setCell p u) :=
  h.trans (T := fun k => k = p.block) ⟨rfl, rfl, rfl, by simp [World.setCell], fun k hk hs => Below.heap_setCell _ _ _ _ hs⟩ (fun x hx _ => hx ▸ hp)
theorem Chg.mono {S T : Nat → Prop} {w w' : World} (h : Chg S w w') (hST : ∀ x, S x → x < w.heap.size → T x) : Chg T w w' :=
  ⟨h.os, h.tape, h.output, h.size, fun k hk ht => h.block k hk (fun hs => ht (hST k hs hk))⟩
theorem Chg.below {S : Nat → Prop} {B : Nat} {w w' : World} (h : Chg S w w') (hB : B ≤ w.heap.size) (hS : ∀ k, S k → B ≤ k) : Below B w w' :=
  ⟨h.os, h.tape, h.output, h.size, fun k hk => h.block k (by omega) (fun hs => by have := hS k hs; omega)⟩
theorem Chg.out {S : Nat → Prop} {w0 w w' : World} (h : Chg S w w') (ho : Out w0 w) (hS : ∀ k, S k → w0.heap.size ≤ k) : Out w0 w' :=
  Below.trans ho (h.below ho.size hS)
theorem Chg.cell {S : Nat → Prop} {w w' : World} (h : Chg S w w') {a : Addr} {v : Value} (hc : w.cell? a = some v) (hs : ¬ S a.block) : w'.cell? a = some v := by
  rw [← hc]; exact World.cell?_of_block (h.block _ (World.block_lt_of_cell? w a hc) hs)
/-- the tables -/
def Tabs (w : World) : Prop := TabA w ∧ TabO w
theorem Tabs.out {w w' : World} (h : Tabs w) (o : Out w w') : Tabs w' := ⟨h.1.out o, h.2.out o⟩

/-- a slice of instructions at an address, that reads l -/
def InsA (w : World) (a : Option Addr) (l : List Ins) : Prop :=
  l = [] ∨ ∃ b off, a = some ⟨b, off, none⟩ ∧ ∀ k x, l[k]? = some x → w.cell? ⟨b, off + k * 5, none⟩ = some (.int .i64 x.o) ∧ w.cell? ⟨b, off + k * 5 + 1, none⟩ = some (.int .i64 x.d) ∧
    w.cell? ⟨b, off + k * 5 + 2, none⟩ = some (.int .i64 x.s) ∧ w.cell? ⟨b, off + k * 5 + 3, none⟩ = some (.int .i64 x.f) ∧ w.cell? ⟨b, off + k * 5 + 4, none⟩ = some (.int .i64 x.i)
theorem InsA.out {w w' : World} {a : Option Addr} {l : List Ins} (h : InsA w a l) (o : Out w w') : InsA w' a l := by
  rcases h with h | ⟨b, off, rfl, h⟩
  · exact .inl h
  · exact .inr ⟨b, off, rfl, fun k x hx => by
      obtain ⟨h0, h1, h2, h3, h4⟩ := h k x hx
      exact ⟨cell_later o h0, cell_later o h1, cell_later o h2, cell_later o h3, cell_later o h4⟩⟩
/-- bytes at an address, that read B -/
def BytA (w : World) (a : Option Addr) (B : List Int) : Prop :=
  B = [] ∨ ∃ b off, a = some ⟨b, off, none⟩ ∧ ∀ k, k < B.length → w.cell? ⟨b, off + k, none⟩ = some (.int .u8 (gB B k))
theorem BytA.out {w w' : World} {a : Option Addr} {B : List Int} (h : BytA w a B) (o : Out w w') : BytA w' a B := by
  rcases h with h | ⟨b, off, rfl, h⟩
  · exact .inl h
  · exact .inr ⟨b, off, rfl, fun k hk => cell_later o (h k hk)⟩
def may (x : Ins) : Int := mayP x.o x.d x.s x.f x.i

theorem take_filter (l : List Ins) (k : Nat) (x : Ins) (h : l[k]? = some x) : ((l.take (k + 1)).filter (fun x => isW x.o)).length = ((l.take k).filter (fun x => isW x.o)).length + (if isW x.o then 1 else 0) := by
  rw [List.take_add_one, h]
  simp only [Option.toList_some, List.filter_append, List.length_append, List.filter_cons, List.filter_nil]
  split <;> simp
end Go.Proofs.YtcomhlimgocoaaaGreatDoor
namespace Go.Proofs.YtcomhlimgocoaaaGreatDoor
open Go.RowKit
set_option linter.unusedVariables false
set_option linter.unusedSimpArgs false
/-- a text of these bytes -/
def tx (l : List UInt8) : Value := .string ⟨l.toArray⟩
/-- the reader's block -/
def RdAt (w : World) (p : Nat) (cs : Array Value) : Prop := w.heap[p]? = some (.cells cs 81 (0, 0))
theorem RdAt.cell {w : World} {p : Nat} {cs : Array Value} (h : RdAt w p cs) (j : Nat) : w.cell? ⟨p, j, none⟩ = cs[j]? := by simp [World.cell?, show w.heap[p]? = _ from h]
theorem RdAt.frozen {w : World} {p : Nat} {cs : Array Value} (h : RdAt w p cs) (j : Nat) : w.frozen? ⟨p, j, none⟩ = false := by simp [World.frozen?, show w.heap[p]? = _ from h]
theorem RdAt.lt {w : World} {p : Nat} {cs : Array Value} (h : RdAt w p cs) : p < w.heap.size := (Array.getElem?_eq_some_iff.1 h).1
theorem RdAt.set {w : World} {p : Nat} {cs : Array Value} (h : RdAt w p cs) (j : Nat) (u : Value) : RdAt (w.setCell ⟨p, j, none⟩ u) p (cs.setIfInBounds j u) := by
  show (w.setCell ⟨p, j, none⟩ u).heap[p]? = _
  simp [World.setCell, Array.getElem?_modify, show w.heap[p]? = _ from h]
theorem RdAt.below {w w' : World} {p : Nat} {cs : Array Value} (h : RdAt w p cs) (b : Below w.heap.size w w') : RdAt w' p cs := (b.block p h.lt).trans h
theorem ext_take (l : List UInt8) (n : Nat) (h : n ≤ l.length) : (⟨l.toArray⟩ : ByteArray).extract 0 n = ⟨(l.take n).toArray⟩ := by
  rw [ByteArray.ext_iff, ByteArray.data_extract]
  simp
theorem ext_drop (l : List UInt8) (n : Nat) (h : n ≤ l.length) : (⟨l.toArray⟩ : ByteArray).extract n l.length = ⟨(l.drop n).toArray⟩ := by
  rw [ByteArray.ext_iff, ByteArray.data_extract]
  simp
  exact List.take_of_length_le (by rw [List.length_drop]; exact Nat.le_refl _)
def tokP (l : List UInt8) : List UInt8 := (blankP l).take (tokN (blankP l))
def restP (l : List UInt8) : List UInt8 := (blankP l).drop (tokN (blankP l))
set_option maxHeartbeats 1000000 in
theorem next_any (w : World) (p : Nat) (l : List UInt8) (tok c2 c3 c4 c5 c6 c7 c8 c9 : Value) (h : RdAt w p #[tx l, tok, c2, c3, c4, c5, c6, c7, c8, c9]) (hl : l.length ≤ 4611686018427387904) :
    Calls Tryz.prog 35 #[.pointer (some ⟨p, 0, none⟩)] w fun e w' => (∃ r, e = .returned r) ∧ RdAt w' p #[tx (restP l), tx (tokP l), c2, c3, c4, c5, c6, c7, c8, c9] ∧ Chg (fun k => k = p) w w' := by
  obtain ⟨L, HL⟩ : ∃ L, Hid (blankP l = L) := ⟨_, hidOf rfl⟩
  have hLl : L.length ≤ 4611686018427387904 := by rw [← HL.out]; exact Nat.le_trans (blank_le l) hl
  have c0 : w.cell? ⟨p, 0, none⟩ = some (.string ⟨l.toArray⟩) := h.cell 0
  have H := hidOf h
  clear h
  have CT : Hid (Calls Tryz.prog 64 #[.string ⟨l.toArray⟩, .string ⟨#[32, 9]⟩] w fun e w' => e = .returned (.string ⟨L.toArray⟩) ∧ Below w.heap.size w w') := by
    have h := trimLeft_any ⟨l.toArray⟩ w
    rw [mk_list, HL.out] at h
    exact h
  have CR : Hid (∀ wx : World, Calls Tryz.prog 65 #[.string ⟨L.toArray⟩] wx fun e w' => e = .returned (.int .i64 (runN L : Nat)) ∧ wx = w') := fun wx => by
    have h := runSize_any ⟨L.toArray⟩ wx (by rw [mk_size]; omega)
    rw [mk_list] at h
    exact h
  go_enter Tryz.func35, Tryz.ntmps35
  obtain ⟨n, Hn⟩ : ∃ n, Hid (runN L = n) := ⟨_, hidOf rfl⟩
  have hnL : n ≤ L.length := by rw [← Hn.out]; exact runN_le L
  rw [Hn.out] at CR
  go_upto_region 2 with (first | (go_at_call 64; refine CT.out.mono ?_; rintro e w1 ⟨rfl, hb1⟩; have H1 := hidOf (H.out.below hb1); have Hb1 := hidOf hb1; have d0 : w1.cell? ⟨p, 0, none⟩ = some (.string ⟨l.toArray⟩) := H1.out.cell 0; have f0 := H1.out.frozen 0; clear hb1) | (go_at_call 65; refine (CR.out _).mono ?_; rintro e w2 ⟨rfl, rfl⟩))
  have H2 : Hid (RdAt (w1.setCell ⟨p, 0, none⟩ (.string ⟨L.toArray⟩)) p #[tx L, tok, c2, c3, c4, c5, c6, c7, c8, c9]) := H1.out.set 0 _
  have Hc2 : Hid (Chg (fun k => k = p) w (w1.setCell ⟨p, 0, none⟩ (.string ⟨L.toArray⟩))) := Chg.setCell (Chg.of_out (S := fun k => k = p) Hb1.out) (p := ⟨p, 0, none⟩) (show p = p from rfl) _
  clear d0 f0 c0 H1 Hb1
  generalize w1.setCell ⟨p, 0, none⟩ (.string ⟨L.toArray⟩) = w2 at *
  have d0 : w2.cell? ⟨p, 0, none⟩ = some (.string ⟨L.toArray⟩) := H2.out.cell 0
  have e0 : w2.drew.cell? ⟨p, 0, none⟩ = some (.string ⟨L.toArray⟩) := H2.out.cell 0
  have d1 : w2.cell? ⟨p, 1, none⟩ = some tok := H2.out.cell 1
  have f0 : w2.frozen? ⟨p, 0, none⟩ = false := H2.out.frozen 0
  have f1 : w2.frozen? ⟨p, 1, none⟩ = false := H2.out.frozen 1
  have Hset : Hid (∀ N : Nat, tokN L = N → RdAt ((w2.setCell ⟨p, 1, none⟩ (.string ((⟨L.toArray⟩ : ByteArray).extract 0 N))).setCell ⟨p, 0, none⟩ (.string ((⟨L.toArray⟩ : ByteArray).extract N L.length))).drew p #[tx (restP l), tx (tokP l), c2, c3, c4, c5, c6, c7, c8, c9]) := fun N hN => by
    have hNL : N ≤ L.length := by rw [← hN]; exact tokN_le L
    rw [ext_take L N hNL, ext_drop L N hNL]
    have hh := (H2.out.set 1 (tx (L.take N))).set 0 (tx (L.drop N))
    have e1 : restP l = L.drop N := by rw [restP, HL.out, hN]
    have e2 : tokP l = L.take N := by rw [tokP, HL.out, hN]
    rw [e1, e2]
    exact hh
  have HsetC : Hid (∀ (u v : Value), Chg (fun k => k = p) w ((w2.setCell ⟨p, 1, none⟩ u).setCell ⟨p, 0, none⟩ v).drew) := fun u v => by
    have h1 := Chg.setCell (Chg.setCell Hc2.out (p := ⟨p, 1, none⟩) (show p = p from rfl) u) (p := ⟨p, 0, none⟩) (show p = p from rfl) v
    exact h1.drew
  by_cases hn0 : n = 0
  · subst hn0
    by_cases hLe : L = []
    · have hie : L.isEmpty = true := by rw [hLe]; rfl
      have hT : tokN L = 0 := by unfold tokN; rw [if_neg (fun h => h.2 hLe), Hn.out]
      have h0L : (0 : Int) ≤ L.length := by omega
      have HT := hidOf hT
      clear hT hLe
      go_upto_region 4 with fail
      go_region_law (fail)
      all_goals (go_end0; refine ⟨⟨_, rfl⟩, ?_, HsetC.out _ _⟩; rw [show ByteArray.empty = (⟨L.toArray⟩ : ByteArray).extract 0 0 from by rw [ext_take L 0 (Nat.zero_le _)]; rfl]; exact Hset.out _ HT.out)
    · have hie : L.isEmpty = false := by cases L with | nil => exact absurd rfl hLe | cons x r => rfl
      have hT : tokN L = 1 := by unfold tokN; rw [if_pos ⟨Hn.out, hLe⟩]
      have h1L : (1 : Int) ≤ L.length := by have := tokN_le L; omega
      have HT := hidOf hT
      clear hT
      go_upto_region 4 with fail
      go_region_law (fail)
      all_goals (go_end0; exact ⟨⟨_, rfl⟩, Hset.out _ HT.out, HsetC.out _ _⟩)
  · have hT : tokN L = n := by unfold tokN; rw [if_neg (fun h => hn0 (by rw [← Hn.out]; exact h.1)), Hn.out]
    have hnz : ((n : Int) == 0) = false := by simp; omega
    have hnL' : (n : Int) ≤ L.length := by omega
    have h0n : (0 : Int) ≤ n := by omega
    have HT := hidOf hT
    clear hT
    go_upto_region 4 with fail
    go_region_law (fail)
    all_goals (go_end0; exact ⟨⟨_, rfl⟩, Hset.out _ HT.out, HsetC.out _ _⟩)
end Go.Proofs.YtcomhlimgocoaaaGreatDoor
