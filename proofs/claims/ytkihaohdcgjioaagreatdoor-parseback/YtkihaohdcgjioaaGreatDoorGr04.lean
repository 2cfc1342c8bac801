import Derived.Test.YtkihaohdcgjioaaGreatDoorGr00
import Derived.Test.YtkihaohdcgjioaaGreatDoorGr01
import Derived.Test.YtkihaohdcgjioaaGreatDoorGr02
import Derived.Deep.OwnRows
import Derived.Shelf.Strings.SlTrimAscii
import Derived.Deep.RegionHeld3
import Derived.Deep.RegionLaw
namespace Go.Proofs.YtkihaohdcgjioaaGreatDoor
open Go.RowKit
set_option linter.unusedVariables false
set_option linter.unusedSimpArgs false
def fitO (o d s f i : Int) : Bool := fitP o d s f i (formP o) (useD o (formP o)) (useS o (formP o)) (useO o (formP o)) (useI o (formP o))
def mayP (o d s f i : Int) : Int := if formP o == 0 then 20 else if fitO o d s f i then 0 else 21
theorem info_ok_lit (op : Int) (w : World) (h : TabO w) (hf : (formP op == 0) = false) : Calls Tryz.prog 123 #[.int .i64 op] w fun e w' => e = .returned (.tuple #[.agg #[.int .i64 (formP op), .int .i64 (groupP op (formP op)), .bool (useD op (formP op)), .bool (useS op (formP op)), .bool (useO op (formP op)), .bool (useI op (formP op))], .int .i64 0]) ∧
    ((w.alloc (.cells #[.int .i64 (formP op), .int .i64 (groupP op (formP op)), .bool (useD op (formP op)), .bool (useS op (formP op)), .bool (useO op (formP op)), .bool (useI op (formP op))] 167)).alloc (.cells #[.int .i64 (formP op), .int .i64 (groupP op (formP op)), .bool (useD op (formP op)), .bool (useS op (formP op)), .bool (useO op (formP op)), .bool (useI op (formP op))] 167)).alloc (.cells #[.int .i64 (formP op), .int .i64 (groupP op (formP op)), .bool (useD op (formP op)), .bool (useS op (formP op)), .bool (useO op (formP op)), .bool (useI op (formP op))] 167) = w' := info_ok op w h hf
theorem info_no_lit (op : Int) (w : World) (h : TabO w) (hf : (formP op == 0) = true) : Calls Tryz.prog 123 #[.int .i64 op] w fun e w' => e = .returned (.tuple #[.agg #[.int .i64 0, .int .i64 0, .bool false, .bool false, .bool false, .bool false], .int .i64 20]) ∧ w.alloc (.cells #[.int .i64 0, .int .i64 0, .bool false, .bool false, .bool false, .bool false] 167) = w' := info_no op w h hf
theorem fitO_lit (w : World) (hA : TabA w) (op d s f i : Int) : Calls Tryz.prog 124 #[.agg #[.int .i64 op, .int .i64 d, .int .i64 s, .int .i64 f, .int .i64 i], .agg #[.int .i64 (formP op), .int .i64 (groupP op (formP op)), .bool (useD op (formP op)), .bool (useS op (formP op)), .bool (useO op (formP op)), .bool (useI op (formP op))]] w fun e w' => e = .returned (.bool (fitO op d s f i)) ∧ Out w w' := fits_any w hA op d s f i _ _ _ _ _ _
theorem may_any (w : World) (hA : TabA w) (hO : TabO w) (o d s f i : Int) : Calls Tryz.prog 82 #[.agg (insC o d s f i)] w fun e w' => e = .returned (.int .i64 (mayP o d s f i)) ∧ Out w w' := by
  unfold insC
  cases hf : (formP o == 0)
  · cases hfit : fitO o d s f i
    · have HR : Hid (mayP o d s f i = 21) := by simp [mayP, hf, hfit, Hid]
      go_enter Tryz.func82, Tryz.ntmps82
      go_wp2_with (first | (go_at_call 123; refine (info_ok_lit _ _ (hO.alloc _) hf).mono ?_; rintro e w' ⟨rfl, rfl⟩) | (go_at_call 124; refine (fitO_lit _ (by repeat (first | exact hA | apply TabA.alloc)) _ _ _ _ _).mono ?_; rintro e w' ⟨rfl, hout⟩))
      go_ret
      exact ⟨by simp [HR.out], Out.trans (by repeat (first | exact Out.refl _ | apply Out.alloc)) hout⟩
    · have HR : Hid (mayP o d s f i = 0) := by simp [mayP, hf, hfit, Hid]
      go_enter Tryz.func82, Tryz.ntmps82
      go_wp2_with (first | (go_at_call 123; refine (info_ok_lit _ _ (hO.alloc _) hf).mono ?_; rintro e w' ⟨rfl, rfl⟩) | (go_at_call 124; refine (fitO_lit _ (by repeat (first | exact hA | apply TabA.alloc)) _ _ _ _ _).mono ?_; rintro e w' ⟨rfl, hout⟩))
      go_ret
      exact ⟨by simp [HR.out], Out.trans (by repeat (first | exact Out.refl _ | apply Out.alloc)) hout⟩
  · have HR : Hid (mayP o d s f i = 20) := by simp [mayP, hf, Hid]
    go_enter Tryz.func82, Tryz.ntmps82
    go_wp2_with (first | (go_at_call 123; refine (info_no_lit _ _ (hO.alloc _) hf).mono ?_; rintro e w' ⟨rfl, rfl⟩))
    go_ret
    exact ⟨by simp [HR.out], by repeat (first | exact Out.refl _ | apply Out.alloc)⟩
theorem may_lit (w : World) (hA : TabA w) (hO : TabO w) (o d s f i : Int) : Calls Tryz.prog 82 #[.agg #[.int .i64 o, .int .i64 d, .int .i64 s, .int .i64 f, .int .i64 i]] w fun e w' => e = .returned (.int .i64 (mayP o d s f i)) ∧ Out w w' := may_any w hA hO o d s f i
end Go.Proofs.YtkihaohdcgjioaaGreatDoor
namespace Go.Proofs.YtkihaohdcgjioaaGreatDoor
set_option linter.unusedVariables false
set_option linter.unusedSimpArgs false
structure Ins where
  o : Int
  d : Int
  s : Int
  f : Int
  i : Int
theorem Ins.same {x y : Ins} (h0 : x.o = y.o) (h1 : x.d = y.d) (h2 : x.s = y.s) (h3 : x.f = y.f) (h4 : x.i = y.i) : x = y := by
  cases x; cases y; simp_all
def gB (B : List Int) (k : Nat) : Int := B.getD k 0
def u16 (B : List Int) (k : Nat) : Int := gB B k + 256 * gB B (k + 1)
def u32 (B : List Int) (k : Nat) : Int := gB B k + 256 * gB B (k + 1) + 65536 * gB B (k + 2) + 16777216 * gB B (k + 3)
def Byts (B : List Int) : Prop := ∀ k, 0 ≤ gB B k ∧ gB B k < 256
theorem Byts.cons {a : Int} {B : List Int} (h0 : 0 ≤ a) (h1 : a < 256) (h : Byts B) : Byts (a :: B) := fun k => by
  cases k with
  | zero => exact ⟨h0, h1⟩
  | succ k => exact h k
end Go.Proofs.YtkihaohdcgjioaaGreatDoor
namespace Go.Proofs.YtkihaohdcgjioaaGreatDoor
open Go.RowKit
set_option linter.unusedVariables false
set_option linter.unusedSimpArgs false
structure Chg (S : Nat → Prop) (w w' : World) : Prop where
  os : w'.os = w.os
  tape : w'.tape = w.tape
  output : w'.output = w.output
  size : w.heap.size ≤ w'.heap.size
  block : ∀ k, k < w.heap.size → ¬ S k → w'.heap[k]? = w.heap[k]?
theorem Chg.refl (S : Nat → Prop) (w : World) : Chg S w w := ⟨rfl, rfl, rfl, Nat.le_refl _, fun _ _ _ => rfl⟩
theorem Chg.trans {S T : Nat → Prop} {a b c : World} (h : Chg S a b) (k : Chg T b c) (hST : ∀ x, T x → x < a.heap.size → S x) : Chg S a c :=
  ⟨k.os.trans h.os, k.tape.trans h.tape, k.output.trans h.output, Nat.le_trans h.size k.size, fun i hi hs => (k.block i (Nat.lt_of_lt_of_le hi h.size) (fun ht => hs (hST i ht hi))).trans (h.block i hi hs)⟩
theorem Chg.of_out {S : Nat → Prop} {w w' : World} (h : Out w w') : Chg S w w' := ⟨h.os, h.tape, h.output, h.size, fun k hk _ => h.block k hk⟩
theorem Chg.of_grown {S : Nat → Prop} {w w' : World} {row : Option Nat} (h : w.grownBy w' row) (hr : ∀ k, row = some k → S k) : Chg S w w' :=
  ⟨h.os, h.tape, h.output, h.size, fun k hk hs => h.block k hk (fun e => hs (hr k e.symm))⟩
theorem Chg.drew {S : Nat → Prop} {a w : World} (h : Chg S a w) : Chg S a w.drew := ⟨h.os, h.tape, h.output, h.size, h.block⟩
theorem Chg.setCell {S : Nat → Prop} {a w : World} (h : Chg S a w) {p : Addr} (hp : S p.block) (u : Value) : Chg S a (w.setCell p u) :=
  h.trans (T := fun k => k = p.block) ⟨rfl, rfl, rfl, by simp [World.setCell], fun k hk hs => Below.heap_setCell _ _ _ _ hs⟩ (fun x hx _ => hx ▸ hp)
theorem Chg.mono {S T : Nat → Prop} {w w' : World} (h : Chg S w w') (hST : ∀ x, S x → x < w.heap.size → T x) : Chg T w w' :=
  ⟨h.os, h.tape, h.output, h.size, fun k hk ht => h.block k hk (fun hs => ht (hST k hs hk))⟩
theorem Chg.below {S : Nat → Prop} {B : Nat} {w w' : World} (h : Chg S w w') (hB : B ≤ w.heap.size) (hS : ∀ k, S k → B ≤ k) : Below B w w' :=
  ⟨h.os, h.tape, h.output, h.size, fun k hk => h.block k (by omega) (fun hs => by have := hS k hs; omega)⟩
theorem Chg.out {S : Nat → Prop} {w0 w w' : World} (h : Chg S w w') (ho : Out w0 w) (hS : ∀ k, S k → w0.heap.size ≤ k) : Out w0 w' :=
  Below.trans ho (h.below ho.size hS)
theorem Chg.cell {S : Nat → Prop} {w w' : World} (h : Chg S w w') {a : Addr} {v : Value} (hc : w.cell? a = some v) (hs : ¬ S a.block) : w'.cell? a = some v := by
  rw [← hc]; exact World.cell?_of_block (h.block _ (World.block_lt_of_cell? w a hc) hs)
def Tabs (w : World) : Prop := TabA w ∧ TabO w
theorem Tabs.out {w w' : World} (h : Tabs w) (o : Out w w') : Tabs w' := ⟨h.1.out o, h.2.out o⟩
def may (x : Ins) : Int := mayP x.o x.d x.s x.f x.i
def blankP (l : List UInt8) : List UInt8 := Lib.trimLeftS l [32, 9]
theorem trimLeft_any (s : ByteArray) (w : World) : Calls Tryz.prog 222 #[.string s, .string ⟨#[32, 9]⟩] w fun e w' => e = .returned (.string ⟨(blankP s.toList).toArray⟩) ∧ Below w.heap.size w w' := by
  rw [ByteArray.toList_eq]
  exact Go.Proofs.Any.strings_TrimLeft_laid Tryz.lays161 (by kernel_rfl) s ⟨#[32, 9]⟩ w (by decide) (by intro j b hb; have hm := List.mem_of_getElem? hb; simp at hm; rcases hm with rfl | rfl <;> decide)
def tokN (l : List UInt8) : Nat := if runN l = 0 ∧ l ≠ [] then 1 else runN l
theorem runN_le (l : List UInt8) : runN l ≤ l.length := by
  unfold runN
  split
  · exact (List.takeWhile_prefix _).length_le
  · exact Nat.zero_le _
theorem tokN_le (l : List UInt8) : tokN l ≤ l.length := by
  unfold tokN
  split
  · rename_i h
    have : l.length ≠ 0 := fun e => h.2 (List.length_eq_zero_iff.1 e)
    omega
  · exact runN_le l
theorem mk_list (l : List UInt8) : (⟨l.toArray⟩ : ByteArray).toList = l := by rw [ByteArray.toList_eq]
theorem mk_size (l : List UInt8) : (⟨l.toArray⟩ : ByteArray).size = l.length := by rw [← lsize, mk_list]
theorem blank_le (l : List UInt8) : (blankP l).length ≤ l.length := (List.dropWhile_suffix _).length_le
def tx (l : List UInt8) : Value := .string ⟨l.toArray⟩
def RdAt (w : World) (p : Nat) (cs : Array Value) : Prop := w.heap[p]? = some (.cells cs 220 (0, 0))
theorem RdAt.cell {w : World} {p : Nat} {cs : Array Value} (h : RdAt w p cs) (j : Nat) : w.cell? ⟨p, j, none⟩ = cs[j]? := by simp [World.cell?, show w.heap[p]? = _ from h]
theorem RdAt.frozen {w : World} {p : Nat} {cs : Array Value} (h : RdAt w p cs) (j : Nat) : w.frozen? ⟨p, j, none⟩ = false := by simp [World.frozen?, show w.heap[p]? = _ from h]
theorem RdAt.lt {w : World} {p : Nat} {cs : Array Value} (h : RdAt w p cs) : p < w.heap.size := (Array.getElem?_eq_some_iff.1 h).1
theorem RdAt.set {w : World} {p : Nat} {cs : Array Value} (h : RdAt w p cs) (j : Nat) (u : Value) : RdAt (w.setCell ⟨p, j, none⟩ u) p (cs.setIfInBounds j u) := by
  show (w.setCell ⟨p, j, none⟩ u).heap[p]? = _
  simp [World.setCell, Array.getElem?_modify, show w.heap[p]? = _ from h]
theorem RdAt.below {w w' : World} {p : Nat} {cs : Array Value} (h : RdAt w p cs) (b : Below w.heap.size w w') : RdAt w' p cs := (b.block p h.lt).trans h
theorem ext_take (l : List UInt8) (n : Nat) (h : n ≤ l.length) : (⟨l.toArray⟩ : ByteArray).extract 0 n = ⟨(l.take n).toArray⟩ := by
  rw [ByteArray.ext_iff, ByteArray.data_extract]
  simp
theorem ext_drop (l : List UInt8) (n : Nat) (h : n ≤ l.length) : (⟨l.toArray⟩ : ByteArray).extract n l.length = ⟨(l.drop n).toArray⟩ := by
  rw [ByteArray.ext_iff, ByteArray.data_extract]
  simp
  exact List.take_of_length_le (by rw [List.length_drop]; exact Nat.le_refl _)
def tokP (l : List UInt8) : List UInt8 := (blankP l).take (tokN (blankP l))
def restP (l : List UInt8) : List UInt8 := (blankP l).drop (tokN (blankP l))
set_option maxHeartbeats 1000000 in
theorem next_any (w : World) (p : Nat) (l : List UInt8) (tok c2 c3 c4 c5 c6 c7 c8 c9 : Value) (h : RdAt w p #[tx l, tok, c2, c3, c4, c5, c6, c7, c8, c9]) (hl : l.length ≤ 4611686018427387904) :
    Calls Tryz.prog 178 #[.pointer (some ⟨p, 0, none⟩)] w fun e w' => (∃ r, e = .returned r) ∧ RdAt w' p #[tx (restP l), tx (tokP l), c2, c3, c4, c5, c6, c7, c8, c9] ∧ Chg (fun k => k = p) w w' := by
  obtain ⟨L, HL⟩ : ∃ L, Hid (blankP l = L) := ⟨_, hidOf rfl⟩
  have hLl : L.length ≤ 4611686018427387904 := by rw [← HL.out]; exact Nat.le_trans (blank_le l) hl
  have c0 : w.cell? ⟨p, 0, none⟩ = some (.string ⟨l.toArray⟩) := h.cell 0
  have H := hidOf h
  clear h
  have CT : Hid (Calls Tryz.prog 222 #[.string ⟨l.toArray⟩, .string ⟨#[32, 9]⟩] w fun e w' => e = .returned (.string ⟨L.toArray⟩) ∧ Below w.heap.size w w') := by
    have h := trimLeft_any ⟨l.toArray⟩ w
    rw [mk_list, HL.out] at h
    exact h
  have CR : Hid (∀ wx : World, Calls Tryz.prog 167 #[.string ⟨L.toArray⟩] wx fun e w' => e = .returned (.int .i64 (runN L : Nat)) ∧ wx = w') := fun wx => by
    have h := runSize_any ⟨L.toArray⟩ wx (by rw [mk_size]; omega)
    rw [mk_list] at h
    exact h
  go_enter Tryz.func178, Tryz.ntmps178
  obtain ⟨n, Hn⟩ : ∃ n, Hid (runN L = n) := ⟨_, hidOf rfl⟩
  have hnL : n ≤ L.length := by rw [← Hn.out]; exact runN_le L
  rw [Hn.out] at CR
  go_upto_region 2 with (first | (go_at_call 222; refine CT.out.mono ?_; rintro e w1 ⟨rfl, hb1⟩; have H1 := hidOf (H.out.below hb1); have Hb1 := hidOf hb1; have d0 : w1.cell? ⟨p, 0, none⟩ = some (.string ⟨l.toArray⟩) := H1.out.cell 0; have f0 := H1.out.frozen 0; clear hb1) | (go_at_call 167; refine (CR.out _).mono ?_; rintro e w2 ⟨rfl, rfl⟩))
  have H2 : Hid (RdAt (w1.setCell ⟨p, 0, none⟩ (.string ⟨L.toArray⟩)) p #[tx L, tok, c2, c3, c4, c5, c6, c7, c8, c9]) := H1.out.set 0 _
  have Hc2 : Hid (Chg (fun k => k = p) w (w1.setCell ⟨p, 0, none⟩ (.string ⟨L.toArray⟩))) := Chg.setCell (Chg.of_out (S := fun k => k = p) Hb1.out) (p := ⟨p, 0, none⟩) (show p = p from rfl) _
  clear d0 f0 c0 H1 Hb1
  generalize w1.setCell ⟨p, 0, none⟩ (.string ⟨L.toArray⟩) = w2 at *
  have d0 : w2.cell? ⟨p, 0, none⟩ = some (.string ⟨L.toArray⟩) := H2.out.cell 0
  have e0 : w2.drew.cell? ⟨p, 0, none⟩ = some (.string ⟨L.toArray⟩) := H2.out.cell 0
  have d1 : w2.cell? ⟨p, 1, none⟩ = some tok := H2.out.cell 1
  have f0 : w2.frozen? ⟨p, 0, none⟩ = false := H2.out.frozen 0
  have f1 : w2.frozen? ⟨p, 1, none⟩ = false := H2.out.frozen 1
  have Hset : Hid (∀ N : Nat, tokN L = N → RdAt ((w2.setCell ⟨p, 1, none⟩ (.string ((⟨L.toArray⟩ : ByteArray).extract 0 N))).setCell ⟨p, 0, none⟩ (.string ((⟨L.toArray⟩ : ByteArray).extract N L.length))).drew p #[tx (restP l), tx (tokP l), c2, c3, c4, c5, c6, c7, c8, c9]) := fun N hN => by
    have hNL : N ≤ L.length := by rw [← hN]; exact tokN_le L
    rw [ext_take L N hNL, ext_drop L N hNL]
    have hh := (H2.out.set 1 (tx (L.take N))).set 0 (tx (L.drop N))
    have e1 : restP l = L.drop N := by rw [restP, HL.out, hN]
    have e2 : tokP l = L.take N := by rw [tokP, HL.out, hN]
    rw [e1, e2]
    exact hh
  have HsetC : Hid (∀ (u v : Value), Chg (fun k => k = p) w ((w2.setCell ⟨p, 1, none⟩ u).setCell ⟨p, 0, none⟩ v).drew) := fun u v => by
    have h1 := Chg.setCell (Chg.setCell Hc2.out (p := ⟨p, 1, none⟩) (show p = p from rfl) u) (p := ⟨p, 0, none⟩) (show p = p from rfl) v
    exact h1.drew
  by_cases hn0 : n = 0
  · subst hn0
    by_cases hLe : L = []
    · have hie : L.isEmpty = true := by rw [hLe]; rfl
      have hT : tokN L = 0 := by unfold tokN; rw [if_neg (fun h => h.2 hLe), Hn.out]
      have h0L : (0 : Int) ≤ L.length := by omega
      have HT := hidOf hT
      clear hT hLe
      go_upto_region 4 with fail
      go_region_law (fail)
      all_goals (go_end0; refine ⟨⟨_, rfl⟩, ?_, HsetC.out _ _⟩; rw [show ByteArray.empty = (⟨L.toArray⟩ : ByteArray).extract 0 0 from by rw [ext_take L 0 (Nat.zero_le _)]; rfl]; exact Hset.out _ HT.out)
    · have hie : L.isEmpty = false := by cases L with | nil => exact absurd rfl hLe | cons x r => rfl
      have hT : tokN L = 1 := by unfold tokN; rw [if_pos ⟨Hn.out, hLe⟩]
      have h1L : (1 : Int) ≤ L.length := by have := tokN_le L; omega
      have HT := hidOf hT
      clear hT
      go_upto_region 4 with fail
      go_region_law (fail)
      all_goals (go_end0; exact ⟨⟨_, rfl⟩, Hset.out _ HT.out, HsetC.out _ _⟩)
  · have hT : tokN L = n := by unfold tokN; rw [if_neg (fun h => hn0 (by rw [← Hn.out]; exact h.1)), Hn.out]
    have hnz : ((n : Int) == 0) = false := by simp; omega
    have hnL' : (n : Int) ≤ L.length := by omega
    have h0n : (0 : Int) ≤ n := by omega
    have HT := hidOf hT
    clear hT
    go_upto_region 4 with fail
    go_region_law (fail)
    all_goals (go_end0; exact ⟨⟨_, rfl⟩, Hset.out _ HT.out, HsetC.out _ _⟩)
structure RS where
  rest : List UInt8
  tok : List UInt8
  o : Int
  d : Int
  s : Int
  f : Int
  i : Int
  tgt : List UInt8
  wrong : Bool
  outside : Bool
def RS.cells (r : RS) : Array Value := #[tx r.rest, tx r.tok, .int .i64 r.o, .int .i64 r.d, .int .i64 r.s, .int .i64 r.f, .int .i64 r.i, tx r.tgt, .bool r.wrong, .bool r.outside]
def RS.next (r : RS) : RS := { r with rest := restP r.rest, tok := tokP r.rest }
def Sm (r : RS) : Prop := r.rest.length ≤ 140737488355328 ∧ r.tok.length ≤ 140737488355328
theorem restP_le (l : List UInt8) : (restP l).length ≤ l.length := by
  have := blank_le l
  unfold restP
  rw [List.length_drop]; omega
theorem tokP_le (l : List UInt8) : (tokP l).length ≤ l.length := by
  have := blank_le l
  unfold tokP
  rw [List.length_take]; omega
theorem Sm.next {r : RS} (h : Sm r) : Sm r.next := ⟨Nat.le_trans (restP_le r.rest) h.1, Nat.le_trans (tokP_le r.rest) h.1⟩
def MEnd (p : Nat) (r' : RS) (w w' : World) : Prop := RdAt w' p r'.cells ∧ Chg (fun k => k = p) w w'
theorem nextR (w : World) (p : Nat) (r : RS) (h : RdAt w p r.cells) (hs : Sm r) : Calls Tryz.prog 178 #[.pointer (some ⟨p, 0, none⟩)] w fun e w' => (∃ v, e = .returned v) ∧ MEnd p r.next w w' :=
  next_any w p r.rest _ _ _ _ _ _ _ _ _ h (by have := hs.1; omega)
def skipP (m : List UInt8) (r : RS) : RS × Bool := if r.tok = m then (r.next, true) else (r, false)
theorem skip_any (w : World) (p : Nat) (r : RS) (m : List UInt8) (h : RdAt w p r.cells) (hs : Sm r) : Calls Tryz.prog 245 #[.pointer (some ⟨p, 0, none⟩), .string ⟨m.toArray⟩] w fun e w' => e = .returned (.bool (skipP m r).2) ∧ MEnd p (skipP m r).1 w w' := by
  have c1 : w.cell? ⟨p, 1, none⟩ = some (.string ⟨r.tok.toArray⟩) := h.cell 1
  by_cases hm : r.tok = m
  · have e1 : skipP m r = (r.next, true) := by simp [skipP, hm]
    rw [e1]
    have CN := hidOf (nextR w p r h hs)
    clear h hs e1
    go_enter Tryz.func245, Tryz.ntmps245
    go_wp2_with (go_at_call 178; refine CN.out.mono ?_; rintro e w1 ⟨⟨v, rfl⟩, hend⟩)
    go_ret
    exact ⟨rfl, hend⟩
  · have e1 : skipP m r = (r, false) := by simp [skipP, hm]
    rw [e1]
    have hR := hidOf h
    have hm1 : (r.tok == m) = false := by simpa using hm
    have hm2 : (r.tok != m) = true := by simpa using hm
    clear h hs e1
    go_enter Tryz.func245, Tryz.ntmps245
    go_wp2
    go_ret
    exact ⟨rfl, hR.out, Chg.refl _ _⟩
theorem Sm.skip {r : RS} (h : Sm r) (m : List UInt8) : Sm (skipP m r).1 := by
  unfold skipP
  split
  · exact h.next
  · exact h
def markS (m : List UInt8) (r : RS) : RS := if (skipP m r).2 then (skipP m r).1 else { (skipP m r).1 with wrong := true }
theorem Sm.mark {r : RS} (h : Sm r) (m : List UInt8) : Sm (markS m r) := by
  unfold markS
  split
  · exact h.skip m
  · exact h.skip m
theorem mark_any (w : World) (p : Nat) (r : RS) (m : List UInt8) (h : RdAt w p r.cells) (hs : Sm r) : Calls Tryz.prog 223 #[.pointer (some ⟨p, 0, none⟩), .string ⟨m.toArray⟩] w fun e w' => (∃ v, e = .returned v) ∧ MEnd p (markS m r) w w' := by
  have CS := hidOf (skip_any w p r m h hs)
  clear h hs
  unfold markS
  generalize hq : skipP m r = q at *
  obtain ⟨r1, b⟩ := q
  cases b
  · go_enter Tryz.func223, Tryz.ntmps223
    go_wp2_with (go_at_call 245; refine CS.out.mono ?_; rintro e w1 ⟨rfl, hend⟩; have d8 : w1.cell? ⟨p, 8, none⟩ = some (.bool r1.wrong) := hend.1.cell 8; have f8 := hend.1.frozen 8; have He := hidOf hend; clear hend)
    go_end0
    exact ⟨⟨_, rfl⟩, He.out.1.set 8 _, Chg.setCell He.out.2 (p := ⟨p, 8, none⟩) (show p = p from rfl) _⟩
  · go_enter Tryz.func223, Tryz.ntmps223
    go_wp2_with (go_at_call 245; refine CS.out.mono ?_; rintro e w1 ⟨rfl, hend⟩; have He := hidOf hend; clear hend)
    go_end0
    exact ⟨⟨_, rfl⟩, He.out⟩
theorem clone_any (s : ByteArray) (w : World) (hl : s.size ≤ 281474976710656) : Calls Tryz.prog 261 #[.string s] w fun e w' => e = .returned (.string s) ∧ Below w.heap.size w w' := by
  go_enter Tryz.func261, Tryz.ntmps261
  go_wp2_with (go_at_call 273; refine (Tryz.stringslite_Clone s _ hl).mono ?_; rintro e w1 ⟨rfl, hb⟩)
  go_ret
  exact ⟨rfl, hb⟩
def nameS (r : RS) : RS := RS.next { r with wrong := r.wrong || !nameP r.tok, tgt := r.tok }
theorem Sm.name {r : RS} (h : Sm r) : Sm (nameS r) := Sm.next (r := { r with wrong := r.wrong || !nameP r.tok, tgt := r.tok }) h
set_option maxHeartbeats 800000 in
theorem name_any (w : World) (p : Nat) (r : RS) (h : RdAt w p r.cells) (hs : Sm r) : Calls Tryz.prog 250 #[.pointer (some ⟨p, 0, none⟩)] w fun e w' => (∃ v, e = .returned v) ∧ MEnd p (nameS r) w w' := by
  have hts := hs.2
  have CI : Hid (∀ wx : World, Calls Tryz.prog 125 #[.string ⟨r.tok.toArray⟩] wx fun e w' => e = .returned (.bool (nameP r.tok)) ∧ wx = w') := fun wx => by
    have h := isName_any ⟨r.tok.toArray⟩ wx (by rw [mk_size]; omega)
    rw [mk_list] at h
    exact h
  have CC : Hid (∀ wx : World, Calls Tryz.prog 261 #[.string ⟨r.tok.toArray⟩] wx fun e w' => e = .returned (.string ⟨r.tok.toArray⟩) ∧ Below wx.heap.size wx w') := fun wx => clone_any _ wx (by rw [mk_size]; omega)
  have CX : Hid (∀ wx : World, RdAt wx p ({ r with wrong := r.wrong || !nameP r.tok, tgt := r.tok } : RS).cells → Calls Tryz.prog 178 #[.pointer (some ⟨p, 0, none⟩)] wx fun e w' => (∃ v, e = .returned v) ∧ MEnd p (nameS r) wx w') := fun wx hx => nextR wx p _ hx hs
  have H := hidOf h
  have c1 : w.cell? ⟨p, 1, none⟩ = some (.string ⟨r.tok.toArray⟩) := h.cell 1
  have c8 : w.cell? ⟨p, 8, none⟩ = some (.bool r.wrong) := h.cell 8
  have f8 := h.frozen 8
  clear h hs
  obtain ⟨b, Hb⟩ : ∃ b, Hid (nameP r.tok = b) := ⟨_, hidOf rfl⟩
  rw [Hb.out] at CI CX
  have H1 : Hid (RdAt (w.setCell ⟨p, 8, none⟩ (.bool (r.wrong || !b))) p #[tx r.rest, tx r.tok, .int .i64 r.o, .int .i64 r.d, .int .i64 r.s, .int .i64 r.f, .int .i64 r.i, tx r.tgt, .bool (r.wrong || !b), .bool r.outside]) := H.out.set 8 _
  have HC1 : Hid (Chg (fun k => k = p) w (w.setCell ⟨p, 8, none⟩ (.bool (r.wrong || !b)))) := Chg.setCell (Chg.refl (fun k => k = p) w) (p := ⟨p, 8, none⟩) (show p = p from rfl) _
  generalize hw : r.wrong = rw at *
  have HC : Hid (∀ wx : World, Below (w.setCell ⟨p, 8, none⟩ (.bool (rw || !b))).heap.size (w.setCell ⟨p, 8, none⟩ (.bool (rw || !b))) wx → RdAt wx p #[tx r.rest, tx r.tok, .int .i64 r.o, .int .i64 r.d, .int .i64 r.s, .int .i64 r.f, .int .i64 r.i, tx r.tgt, .bool (rw || !b), .bool r.outside] ∧ Chg (fun k => k = p) w wx) := fun wx hb => ⟨H1.out.below hb, HC1.out.trans (Chg.of_out (S := fun _ => False) hb) (fun _ h _ => h.elim)⟩
  cases rw <;> (
    simp only [Bool.false_or, Bool.true_or] at HC CX
    go_enter Tryz.func250, Tryz.ntmps250
    go_wp2_with (first | (go_at_call 125; refine (CI.out _).mono ?_; rintro e w1 ⟨rfl, rfl⟩) | (go_at_call 261; refine (CC.out _).mono ?_; rintro e w2 ⟨rfl, hb2⟩; obtain ⟨hR2, hC2⟩ := HC.out _ hb2; have d7 : w2.cell? ⟨p, 7, none⟩ = some (.string ⟨r.tgt.toArray⟩) := hR2.cell 7; have f7 := hR2.frozen 7; have HR2 := hidOf hR2; have HC2 := hidOf hC2; clear hR2 hC2 hb2) | (go_at_call 178; refine (CX.out _ (HR2.out.set 7 _)).mono ?_; rintro e w3 ⟨⟨v3, rfl⟩, hend⟩; have He := hidOf hend; clear hend))
    go_end0
    exact ⟨⟨_, rfl⟩, He.out.1, (Chg.setCell HC2.out (p := ⟨p, 7, none⟩) (show p = p from rfl) _).trans He.out.2 (fun k hk _ => hk)⟩)
def regL (k : Nat) : List UInt8 := if k = 10 then [114, 49, 48] else [114, UInt8.ofNat (48 + k)]
def RegT (w : World) : Prop := ∀ k, k < 11 → w.cell? ⟨1, k, none⟩ = some (.string ⟨(regL k).toArray⟩)
theorem idx11s (s : Nat → Value) (k : Nat) (hk : (k : Int) < 11) (w : World) : (Instr.index 175 (.agg #[s 0, s 1, s 2, s 3, s 4, s 5, s 6, s 7, s 8, s 9, s 10]) (.int .i64 k)).run Tryz.prog w = .ok (s k) w := by
  rcases (show k = 0 ∨ k = 1 ∨ k = 2 ∨ k = 3 ∨ k = 4 ∨ k = 5 ∨ k = 6 ∨ k = 7 ∨ k = 8 ∨ k = 9 ∨ k = 10 from by omega) with rfl | rfl | rfl | rfl | rfl | rfl | rfl | rfl | rfl | rfl | rfl <;> kernel_rfl
def regIs (l : List UInt8) (k : Nat) : Prop := k < 11 ∧ l = regL k
def registerS (r : RS) (r' : RS) (n : Int) : Prop := (∃ k, regIs r.tok k ∧ r' = r.next ∧ n = k) ∨ ((∀ k, ¬ regIs r.tok k) ∧ r' = { r with wrong := true } ∧ n = 0)
def RegEnd (p : Nat) (r : RS) (w : World) (e : Ending) (w' : World) : Prop := ∃ n r', e = .returned (.int .i64 n) ∧ registerS r r' n ∧ MEnd p r' w w'
set_option maxRecDepth 20000 in
set_option maxHeartbeats 800000 in
theorem register_any (w : World) (p : Nat) (r : RS) (h : RdAt w p r.cells) (hs : Sm r) (ht : RegT w) : Calls Tryz.prog 246 #[.pointer (some ⟨p, 0, none⟩)] w fun e w' => RegEnd p r w e w' := by
  have CN := hidOf (nextR w p r h hs)
  have H := hidOf h
  obtain ⟨g, hg⟩ : ∃ g : Nat → List UInt8, g = regL := ⟨_, rfl⟩
  have hl : ∀ k, k < 11 → w.cell? ⟨1, k, none⟩ = some (.string ⟨(g k).toArray⟩) := by rw [hg]; exact ht
  have HG := hidOf hg
  clear hg ht
  have c1 : w.cell? ⟨p, 1, none⟩ = some (.string ⟨r.tok.toArray⟩) := h.cell 1
  have c8 : w.cell? ⟨p, 8, none⟩ = some (.bool r.wrong) := h.cell 8
  have f8 := h.frozen 8
  clear h hs
  have hix := idx11s (fun k => .string ⟨(g k).toArray⟩)
  go_enter Tryz.func246, Tryz.ntmps246
  go_wp2
  clear hl
  go_loopw [6] (fun iv wr => ∃ k : Nat, k ≤ 11 ∧ iv = .int .i64 k ∧ Hid (∀ j, j < k → r.tok ≠ g j) ∧ wr = w) (fun iv _ => 11 - (intOf iv).toNat)
  case atStart => exact ⟨0, by omega, rfl, fun j hj => by omega, rfl⟩
  case round =>
    obtain ⟨k, hk, rfl, Hno, rfl⟩ := hrel
    by_cases hk11 : k < 11
    · have hlt : (k : Int) < 11 := by omega
      by_cases he : r.tok = g k
      · have He := hidOf he
        go_wp2_with (go_at_call 178; refine CN.out.mono ?_; rintro e w1 ⟨⟨v, rfl⟩, hend⟩; have Hend := hidOf hend; clear hend)
        go_ret
        exact ⟨k, r.next, rfl, .inl ⟨k, ⟨hk11, by rw [He.out, HG.out]⟩, rfl, rfl⟩, Hend.out⟩
      · have h1 : (r.tok == g k) = false := by simpa using he
        have Hno' : Hid (∀ j, j < k + 1 → r.tok ≠ g j) := fun j hj => by
          by_cases z : j = k
          · subst z; exact he
          · exact Hno.out j (by omega)
        go_wp2
        go_roundw
        case rel => exact ⟨k + 1, by omega, by simp, Hno', trivial⟩
        case measure => simp [intOf]; omega
    · have hlt : ¬ (k : Int) < 11 := by omega
      obtain rfl : k = 11 := by omega
      go_wp2
      go_ret
      refine ⟨0, { r with wrong := true }, rfl, .inr ⟨fun j hj => ?_, rfl, rfl⟩, H.out.set 8 _, Chg.setCell (Chg.refl (fun k => k = p) _) (p := ⟨p, 8, none⟩) (show p = p from rfl) _⟩
      exact Hno.out j hj.1 (by rw [HG.out]; exact hj.2)
theorem bldSize : (Tryz.prog.info? 77).map (·.size) = some 2 := Tryz.Builder_Extra_169.sizeBuilder
set_option maxRecDepth 100000 in
set_option maxHeartbeats 1000000 in
theorem chk_used (b : Nat) (w : World) (h0 : w.cell? ⟨b, 0, none⟩ = some (.pointer (some ⟨b, 0, none⟩))) : Calls Tryz.prog 89 #[.pointer (some ⟨b, 0, none⟩)] w fun e w' => e = .returned (.tuple #[]) ∧ w' = w := by
  obtain ⟨j, hj, _⟩ := Option.map_eq_some_iff.1 bldSize
  go_enter Tryz.func89, Tryz.ntmps89
  go_wp2
  rw [Lib.run_neq_ptr_same w _ Tryz.underlying75 hj]
  go_wp2
  go_end0
  exact ⟨rfl, rfl⟩
set_option maxRecDepth 100000 in
set_option maxHeartbeats 1000000 in
theorem chk_new (b : Nat) (w : World) (h0 : w.cell? ⟨b, 0, none⟩ = some (.pointer none)) (hs : w.shape? b = some (77, 2)) (hf : w.frozen? ⟨b, 0, none⟩ = false) : Calls Tryz.prog 89 #[.pointer (some ⟨b, 0, none⟩)] w fun e w' => e = .returned (.tuple #[]) ∧ w' = w.setCell ⟨b, 0, none⟩ (.pointer (some ⟨b, 0, none⟩)) := by
  obtain ⟨j, hj, hj2⟩ := Option.map_eq_some_iff.1 bldSize
  go_enter Tryz.func89, Tryz.ntmps89
  go_wp2
  rw [Lib.run_to_unsafe w ⟨b, 0, none⟩ Tryz.underlying75 Tryz.underlying181 hj (by rw [hj2]; decide) hs (Nat.zero_lt_succ 1)]
  simp only [Result.andThen]
  rw [Oper.upon_value]
  go_wp2
  rw [run_callFunc_extern Tryz.func133 (by kernel_rfl) (by kernel_rfl) (by kernel_rfl) (e := Extern.AbiNoEscape.same) (by kernel_rfl), Lib.run_noEscape]
  simp only [Result.andThen]
  rw [Oper.upon_value]
  go_wp2
  rw [Lib.run_from_unsafe w ⟨b, 0, none⟩ Tryz.underlying181 Tryz.underlying75 hj hs Tryz.Builder_Extra_169.liesBuilder]
  simp only [Result.andThen]
  rw [Oper.upon_value]
  go_wp2
  go_end0
  exact ⟨rfl, rfl⟩
end Go.Proofs.YtkihaohdcgjioaaGreatDoor
