import Derived.Test.YtekjfbmebekmeaaGreatProg
import Derived.WalkKit
import Derived.WalkSpells
import Derived.Deep.QuietTactic
import Derived.BigQuiet
import Derived.Deep.OwnRows
import Derived.Deep.RegionLaw
import Derived.Deep.AppendLies
namespace Go.Proofs.YtekjfbmebekmeaaGreat
open Go.RowKit
set_option linter.unusedVariables false
set_option linter.unusedSimpArgs false
theorem hidOf {p : Prop} (h : p) : Hid p := h
theorem ret_bool {w : World} {a b : Bool} (h : a = b) : Ending.returned (Value.bool a) = Ending.returned (Value.bool b) ∧ w = w := ⟨by rw [h], rfl⟩
theorem ret_int {w : World} {k : IntKind} {a b : Int} (h : a = b) : Ending.returned (Value.int k a) = Ending.returned (Value.int k b) ∧ w = w := ⟨by rw [h], rfl⟩
/-- of what was there nothing turns -/
def Out (w w' : World) : Prop := Below w.heap.size w w'
theorem Out.refl (w : World) : Out w w := Below.refl _ _
theorem Out.alloc {w w' : World} (h : Out w w') (o : Obj) : Out w (w'.alloc o) := Below.alloc h h.size o
theorem Out.drew {w w' : World} (h : Out w w') : Out w w'.drew := Below.drew h
theorem Out.drewN {w w' : World} (h : Out w w') (n : Nat) : Out w (w'.drewN n) := ⟨h.os, h.tape, h.output, h.size, h.block⟩
theorem Out.trans {a b c : World} (h : Out a b) (k : Out b c) : Out a c := Below.trans h (Below.mono k h.size)
theorem Out.cells {w w' : World} (h : Out w w') (b o : Nat) (hb : b < w.heap.size) : w'.cell? ⟨b, o, none⟩ = w.cell? ⟨b, o, none⟩ := Below.cell h hb
theorem Out.size {w w' : World} (h : Out w w') : w.heap.size ≤ w'.heap.size := Below.size h
theorem Out.setCell {w w' : World} (h : Out w w') {a : Addr} (ha : w.heap.size ≤ a.block) (u : Value) : Out w (w'.setCell a u) := Below.setCell h ha u
theorem cell_later {w w' : World} (o : Out w w') {a : Addr} {v : Value} (h : w.cell? a = some v) : w'.cell? a = some v := by
  rw [← h]; exact World.cell?_of_block (o.block _ (World.block_lt_of_cell? w a h))
theorem size_alloc (w : World) (o : Obj) : (w.alloc o).heap.size = w.heap.size + 1 := by
  show (w.heap.push o).size = _
  simp
theorem heap_drew' (w : World) : w.drew.heap = w.heap := rfl
theorem cell_fresh (w : World) (cs : Array Value) (t : TypeId) (j : Nat) (b : Nat) (hb : b = w.heap.size) : (w.alloc (.cells cs t)).cell? ⟨b, j, none⟩ = cs[j]? := by
  subst hb
  rw [World.cell?, show (w.alloc (.cells cs t)).heap[w.heap.size]? = some (.cells cs t) from heap_alloc_new w _]
  rfl
/-- only blocks of S, or new ones, are changed -/
structure Chg (S : Nat → Prop) (w w' : World) : Prop where
  os : w'.os = w.os
  tape : w'.tape = w.tape
  output : w'.output = w.output
  size : w.heap.size ≤ w'.heap.size
  block : ∀ k, k < w.heap.size → ¬ S k → w'.heap[k]? = w.heap[k]?
theorem Chg.refl (S : Nat → Prop) (w : World) : Chg S w w := ⟨rfl, rfl, rfl, Nat.le_refl _, fun _ _ _ => rfl⟩
theorem Chg.trans {S T : Nat → Prop} {a b c : World} (h : Chg S a b) (k : Chg T b c) (hST : ∀ x, T x → x < a.heap.size → S x) : Chg S a c :=
  ⟨k.os.trans h.os, k.tape.trans h.tape, k.output.trans h.output, Nat.le_trans h.size k.size, fun i hi hs => (k.block i (Nat.lt_of_lt_of_le hi h.size) (fun ht => hs (hST i ht hi))).trans (h.block i hi hs)⟩
theorem Chg.of_out {S : Nat → Prop} {w w' : World} (h : Out w w') : Chg S w w' := ⟨h.os, h.tape, h.output, h.size, fun k hk _ => h.block k hk⟩
theorem Chg.of_grown {S : Nat → Prop} {w w' : World} {row : Option Nat} (h : w.grownBy w' row) (hr : ∀ k, row = some k → S k) : Chg S w w' :=
  ⟨h.os, h.tape, h.output, h.size, fun k hk hs => h.block k hk (fun e => hs (hr k e.symm))⟩
theorem Chg.alloc {S : Nat → Prop} {a w : World} (h : Chg S a w) (o : Obj) : Chg S a (w.alloc o) :=
  h.trans (T := fun _ => False) ⟨rfl, rfl, rfl, by simp, fun k hk _ => Below.heap_alloc _ _ _ hk⟩ (fun _ hx _ => hx.elim)
theorem Chg.drew {S : Nat → Prop} {a w : World} (h : Chg S a w) : Chg S a w.drew := ⟨h.os, h.tape, h.output, h.size, h.block⟩
theorem Chg.setCell {S : Nat → Prop} {a w : World} (h : Chg S a w) {p : Addr} (hp : S p.block) (u : Value) : Chg S a (w.setCell p u) :=
  h.trans (T := fun k => k = p.block) ⟨rfl, rfl, rfl, by simp [World.setCell], fun k hk hs => Below.heap_setCell _ _ _ _ hs⟩ (fun x hx _ => hx ▸ hp)
theorem Chg.mono {S T : Nat → Prop} {w w' : World} (h : Chg S w w') (hST : ∀ x, S x → x < w.heap.size → T x) : Chg T w w' :=
  ⟨h.os, h.tape, h.output, h.size, fun k hk ht => h.block k hk (fun hs => ht (hST k hs hk))⟩
theorem Chg.below {S : Nat → Prop} {B : Nat} {w w' : World} (h : Chg S w w') (hB : B ≤ w.heap.size) (hS : ∀ k, S k → B ≤ k) : Below B w w' :=
  ⟨h.os, h.tape, h.output, h.size, fun k hk => h.block k (by omega) (fun hs => by have := hS k hs; omega)⟩
theorem Chg.out {S : Nat → Prop} {w0 w w' : World} (h : Chg S w w') (ho : Out w0 w) (hS : ∀ k, S k → w0.heap.size ≤ k) : Out w0 w' :=
  Below.trans ho (h.below ho.size hS)
theorem Chg.cell {S : Nat → Prop} {w w' : World} (h : Chg S w w') {a : Addr} {v : Value} (hc : w.cell? a = some v) (hs : ¬ S a.block) : w'.cell? a = some v := by
  rw [← hc]; exact World.cell?_of_block (h.block _ (World.block_lt_of_cell? w a hc) hs)
/-- bytes by their kinds -/
def letP (c : Int) : Bool := decide (97 ≤ c) && decide (c ≤ 122) || decide (65 ≤ c) && decide (c ≤ 90) || c == 95
def digP (c : Int) : Bool := decide (48 ≤ c) && decide (c ≤ 57)
def runP (c : Int) : Bool := letP c || digP c || c == 46 || c == 36
def hexP (c : Int) : Bool := digP c || decide (97 ≤ c) && decide (c ≤ 102) || decide (65 ≤ c) && decide (c ≤ 70)
def bI (b : UInt8) : Int := b.toNat
def runU (b : UInt8) : Bool := runP (bI b)
def kindP (c : Int) : Int :=
  if letP c = true then 3 else if digP c = true then 4 else if c = 32 ∨ c = 9 ∨ c = 13 then 1 else if c = 59 ∨ c = 35 then 2
  else if c = 46 then 5 else if c = 36 then 6 else if c = 58 ∨ c = 44 ∨ c = 91 ∨ c = 93 ∨ c = 43 ∨ c = 45 then 7 else 0
theorem lsize (s : ByteArray) : s.toList.length = s.size := by rw [ByteArray.toList_eq]; rfl
theorem lget (s : ByteArray) (k : Nat) (h : k < s.size) : s.toList[k]? = some s[k] := by
  rw [ByteArray.toList_eq]
  simp [ByteArray.getElem_eq_getElem_data, show k < s.data.size from h]
theorem mk_list (l : List UInt8) : (⟨l.toArray⟩ : ByteArray).toList = l := by rw [ByteArray.toList_eq]
theorem mk_size (l : List UInt8) : (⟨l.toArray⟩ : ByteArray).size = l.length := by rw [← lsize, mk_list]
theorem runP_kind (c : Int) : runP c = (kindP c == 3 || kindP c == 4 || kindP c == 5 || kindP c == 6) := by
  unfold runP kindP
  cases h1 : letP c <;> cases h2 : digP c <;> simp
  by_cases a : c = 46
  · subst a; decide
  by_cases b : c = 36
  · subst b; decide
  simp [a, b]
  repeat' split
  all_goals simp [a, b]
end Go.Proofs.YtekjfbmebekmeaaGreat
