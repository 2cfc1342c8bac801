import Derived.Test.YtbdmbicnlfcclaaProg
import Derived.Lib.UnsafeStr
import Derived.WalkKit
import Derived.WalkSpells
import Derived.Deep.QuietTactic
import Derived.BigQuiet
import Derived.Deep.OwnRows
import Derived.Deep.RegionLaw
import Derived.Deep.AppendLies
import Derived.OwnWalk
import Derived.Deep.RegionHeld3
import Derived.Deep.Cut
import Derived.Maps.OwnSet
import Derived.Lib.IndexLaws
import Derived.Laws.MakeOwn
import Derived.Lib.AppendStr
import Derived.Lib.MinMax
import Derived.Lib.ConvBytes
import Derived.Laws.BytesString
import Derived.Laws.Bits64b
import Derived.Deep.MidRow
import Derived.Deep.WholeRow
namespace Go.Proofs.Ytbdmbicnlfcclaa
open Go.RowKit
set_option linter.unusedVariables false
set_option linter.unusedSimpArgs false
theorem hidOf {p : Prop} (h : p) : Hid p := h
theorem ret_bool {w : World} {a b : Bool} (h : a = b) : Ending.returned (Value.bool a) = Ending.returned (Value.bool b) ∧ w = w := ⟨by rw [h], rfl⟩
theorem ret_int {w : World} {k : IntKind} {a b : Int} (h : a = b) : Ending.returned (Value.int k a) = Ending.returned (Value.int k b) ∧ w = w := ⟨by rw [h], rfl⟩
/-- of what was there nothing turns -/
def Out (w w' : World) : Prop := Below w.heap.size w w'
theorem Out.refl (w : World) : Out w w := Below.refl _ _
theorem Out.alloc {w w' : World} (h : Out w w') (o : Obj) : Out w (w'.alloc o) := Below.alloc h h.size o
theorem Out.drew {w w' : World} (h : Out w w') : Out w w'.drew := Below.drew h
theorem Out.drewN {w w' : World} (h : Out w w') (n : Nat) : Out w (w'.drewN n) := ⟨h.os, h.tape, h.output, h.size, h.block⟩
theorem Out.trans {a b c : World} (h : Out a b) (k : Out b c) : Out a c := Below.trans h (Below.mono k h.size)
theorem Out.cells {w w' : World} (h : Out w w') (b o : Nat) (hb : b < w.heap.size) : w'.cell? ⟨b, o, none⟩ = w.cell? ⟨b, o, none⟩ := Below.cell h hb
theorem Out.size {w w' : World} (h : Out w w') : w.heap.size ≤ w'.heap.size := Below.size h
theorem Out.setCell {w w' : World} (h : Out w w') {a : Addr} (ha : w.heap.size ≤ a.block) (u : Value) : Out w (w'.setCell a u) := Below.setCell h ha u
theorem cell_later {w w' : World} (o : Out w w') {a : Addr} {v : Value} (h : w.cell? a = some v) : w'.cell? a = some v := by
  rw [← h]; exact World.cell?_of_block (o.block _ (World.block_lt_of_cell? w a h))
theorem size_alloc (w : World) (o : Obj) : (w.alloc o).heap.size = w.heap.size + 1 := by
  show (w.heap.push o).size = _
  simp
theorem heap_drew' (w : World) : w.drew.heap = w.heap := rfl
theorem cell_fresh (w : World) (cs : Array Value) (t : TypeId) (j : Nat) (b : Nat) (hb : b = w.heap.size) : (w.alloc (.cells cs t)).cell? ⟨b, j, none⟩ = cs[j]? := by
  subst hb
  rw [World.cell?, show (w.alloc (.cells cs t)).heap[w.heap.size]? = some (.cells cs t) from heap_alloc_new w _]
  rfl
/-- only blocks of S, or new ones, are changed -/
structure Chg (S : Nat → Prop) (w w' : World) : Prop where
  os : w'.os = w.os
  tape : w'.tape = w.tape
  output : w'.output = w.output
  size : w.heap.size ≤ w'.heap.size
  block : ∀ k, k < w.heap.size → ¬ S k → w'.heap[k]? = w.heap[k]?
theorem Chg.refl (S : Nat → Prop) (w : World) : Chg S w w := ⟨rfl, rfl, rfl, Nat.le_refl _, fun _ _ _ => rfl⟩
theorem Chg.trans {S T : Nat → Prop} {a b c : World} (h : Chg S a b) (k : Chg T b c) (hST : ∀ x, T x → x < a.heap.size → S x) : Chg S a c :=
  ⟨k.os.trans h.os, k.tape.trans h.tape, k.output.trans h.output, Nat.le_trans h.size k.size, fun i hi hs => (k.block i (Nat.lt_of_lt_of_le hi h.size) (fun ht => hs (hST i ht hi))).trans (h.block i hi hs)⟩
theorem Chg.of_out {S : Nat → Prop} {w w' : World} (h : Out w w') : Chg S w w' := ⟨h.os, h.tape, h.output, h.size, fun k hk _ => h.block k hk⟩
theorem Chg.of_grown {S : Nat → Prop} {w w' : World} {row : Option Nat} (h : w.grownBy w' row) (hr : ∀ k, row = some k → S k) : Chg S w w' :=
  ⟨h.os, h.tape, h.output, h.size, fun k hk hs => h.block k hk (fun e => hs (hr k e.symm))⟩
theorem Chg.alloc {S : Nat → Prop} {a w : World} (h : Chg S a w) (o : Obj) : Chg S a (w.alloc o) :=
  h.trans (T := fun _ => False) ⟨rfl, rfl, rfl, by simp, fun k hk _ => Below.heap_alloc _ _ _ hk⟩ (fun _ hx _ => hx.elim)
theorem Chg.drew {S : Nat → Prop} {a w : World} (h : Chg S a w) : Chg S a w.drew := ⟨h.os, h.tape, h.output, h.size, h.block⟩
theorem Chg.setCell {S : Nat → Prop} {a w : World} (h : Chg S a w) {p : Addr} (hp : S p.block) (u : Value) : Chg S a (w.setCell p u) :=
  h.trans (T := fun k => k = p.block) ⟨rfl, rfl, rfl, by simp [World.setCell], fun k hk hs => Below.heap_setCell _ _ _ _ hs⟩ (fun x hx _ => hx ▸ hp)
theorem Chg.mono {S T : Nat → Prop} {w w' : World} (h : Chg S w w') (hST : ∀ x, S x → x < w.heap.size → T x) : Chg T w w' :=
  ⟨h.os, h.tape, h.output, h.size, fun k hk ht => h.block k hk (fun hs => ht (hST k hs hk))⟩
theorem Chg.below {S : Nat → Prop} {B : Nat} {w w' : World} (h : Chg S w w') (hB : B ≤ w.heap.size) (hS : ∀ k, S k → B ≤ k) : Below B w w' :=
  ⟨h.os, h.tape, h.output, h.size, fun k hk => h.block k (by omega) (fun hs => by have := hS k hs; omega)⟩
theorem Chg.out {S : Nat → Prop} {w0 w w' : World} (h : Chg S w w') (ho : Out w0 w) (hS : ∀ k, S k → w0.heap.size ≤ k) : Out w0 w' :=
  Below.trans ho (h.below ho.size hS)
theorem Chg.cell {S : Nat → Prop} {w w' : World} (h : Chg S w w') {a : Addr} {v : Value} (hc : w.cell? a = some v) (hs : ¬ S a.block) : w'.cell? a = some v := by
  rw [← hc]; exact World.cell?_of_block (h.block _ (World.block_lt_of_cell? w a hc) hs)
/-- bytes by their kinds -/
def letP (c : Int) : Bool := decide (97 ≤ c) && decide (c ≤ 122) || decide (65 ≤ c) && decide (c ≤ 90) || c == 95
def digP (c : Int) : Bool := decide (48 ≤ c) && decide (c ≤ 57)
def hexP (c : Int) : Bool := digP c || decide (97 ≤ c) && decide (c ≤ 102) || decide (65 ≤ c) && decide (c ≤ 70)
def bI (b : UInt8) : Int := b.toNat
theorem lsize (s : ByteArray) : s.toList.length = s.size := by rw [ByteArray.toList_eq]; rfl
theorem lget (s : ByteArray) (k : Nat) (h : k < s.size) : s.toList[k]? = some s[k] := by
  rw [ByteArray.toList_eq]
  simp [ByteArray.getElem_eq_getElem_data, show k < s.data.size from h]
theorem mk_list (l : List UInt8) : (⟨l.toArray⟩ : ByteArray).toList = l := by rw [ByteArray.toList_eq]
theorem mk_size (l : List UInt8) : (⟨l.toArray⟩ : ByteArray).size = l.length := by rw [← lsize, mk_list]
/-- names, in plain words: the size of what stands behind a place -/
def szF : Nat → List (List UInt8) → Nat
  | a, [] => a
  | a, y :: r => szF (a + y.length + 1) r
def stF : Nat → List (List UInt8) → List Int
  | _, [] => []
  | a, y :: r => (a : Int) :: stF (a + y.length + 1) r
def plF : Nat → List (List UInt8) → List UInt8 → Nat
  | _, [], _ => 0
  | a, y :: r, x => if y = x then a else plF (a + y.length + 1) r x
def atF : Nat → List (List UInt8) → Int → Option (List UInt8)
  | _, [], _ => none
  | a, y :: r, p => if (a : Int) = p then some y else atF (a + y.length + 1) r p
theorem stF_len : ∀ (N : List (List UInt8)) (a : Nat), (stF a N).length = N.length
  | [], _ => rfl
  | y :: r, a => by simp only [stF, List.length_cons]; rw [stF_len r]
theorem stF_ge : ∀ (N : List (List UInt8)) (a : Nat) (z : Int), z ∈ stF a N → (a : Int) ≤ z
  | [], _, _, h => by simp [stF] at h
  | y :: r, a, z, h => by
    simp only [stF, List.mem_cons] at h
    rcases h with rfl | h
    · exact Int.le_refl _
    · have := stF_ge r _ z h; omega
theorem stF_rise : ∀ (N : List (List UInt8)) (a : Nat), (stF a N).Pairwise (· ≤ ·)
  | [], _ => List.Pairwise.nil
  | y :: r, a => List.Pairwise.cons (fun z hz => by have := stF_ge r _ z hz; omega) (stF_rise r _)
theorem plF_zero : ∀ (N : List (List UInt8)) (a : Nat) (x : List UInt8), 1 ≤ a → (x ∈ N ↔ 0 < plF a N x)
  | [], _, _, _ => by simp [plF]
  | y :: r, a, x, h => by
    unfold plF
    by_cases e : y = x
    · rw [if_pos e]; simp [e]; omega
    · rw [if_neg e, ← plF_zero r _ x (by omega)]; simp [Ne.symm e]
/-- a place, found by halving -/
theorem at_search : ∀ (N : List (List UInt8)) (a : Nat) (p : Int), (stF a N).contains p = (atF a N p).isSome ∧ ∀ x, atF a N p = some x → N[(stF a N).countP (· < p)]? = some x
  | [], _, _ => by simp [stF, atF]
  | y :: r, a, p => by
    obtain ⟨h1, h2⟩ := at_search r (a + y.length + 1) p
    unfold stF atF
    by_cases e : (a : Int) = p
    · rw [if_pos e]
      refine ⟨by simp [e], fun x hx => ?_⟩
      have h0 : (stF (a + y.length + 1) r).countP (· < p) = 0 := by
        rw [List.countP_eq_zero]
        intro z hz
        have := stF_ge r _ z hz
        simp; omega
      rw [List.countP_cons, h0]
      simp [e]
      exact Option.some.inj hx
    · rw [if_neg e]
      refine ⟨by rw [← h1]; simp [Ne.symm e], fun x hx => ?_⟩
      have h3 := h2 x hx
      by_cases hl : (a : Int) < p
      · rw [List.countP_cons_of_pos (by simpa using hl)]
        simpa using h3
      · exfalso
        have hc : (stF (a + y.length + 1) r).contains p = true := by rw [h1, hx]; rfl
        have := stF_ge r _ p (by simpa using hc)
        omega
/-- the bytes -/
def byF (N : List (List UInt8)) : List UInt8 := N.flatMap fun x => x ++ [0]
def nameOk (x : List UInt8) : Bool := !x.isEmpty && decide (x.length ≤ 64) && !x.contains 0
/-- the name that bytes begin with -/
def nmP (l : List UInt8) : List UInt8 := if (l.take 65).contains 0 then l.takeWhile (fun b => b != 0) else []
def strV (l : List UInt8) : Value := .string ⟨l.toArray⟩
theorem owns_chg {B size : Nat} {S : Nat → Prop} {w w' : World} {e : TypeId} {v : Value} {n : Nat} {xs : List Value} (h : w.ownsRow B e size v n xs) (hs : ∀ k, v.ownBlock = some k → ¬ S k) (hc : Chg S w w') : w'.ownsRow B e size v n xs := by
  refine ⟨h.1, ?_⟩
  rcases h.2 with hn | ⟨g, cap, cur, rfl, hb, hg, rest⟩
  · exact .inl hn
  · refine .inr ⟨g, cap, cur, rfl, hb, ?_, rest⟩
    rw [hc.block g (Array.getElem?_eq_some_iff.1 hg).1 (hs g rfl)]
    exact hg
theorem own_form {B n sz : Nat} {X : World} {e : TypeId} {v : Value} {xs : List Value} (h : X.ownsRow B e sz v n xs) : ∃ ad cp, v = .slice ad n cp := by
  rcases h.2 with ⟨rfl, rfl⟩ | ⟨g, cap, cur, rfl, _⟩
  · exact ⟨none, 0, rfl⟩
  · exact ⟨_, _, rfl⟩
theorem own_le {B n sz : Nat} {X : World} {e : TypeId} {v : Value} {xs : List Value} (h : X.ownsRow B e sz v n xs) : ∀ k, v.ownBlock = some k → B ≤ k := fun k hk => (h.lt k hk).1
theorem news_new (w : World) (cs : Array Value) (t : TypeId) (b : Nat) (hb : b = w.heap.size) : ∀ j u, cs.toList[j]? = some u → (w.alloc (.cells cs t)).cell? ((⟨b, 0, none⟩ : Addr).add j) = some u := by
  intro j u hu
  rw [WideShapes.add_plain, Nat.zero_add, cell_fresh _ _ _ _ _ hb]
  simpa using hu
/-- a block of cells is of one type -/
theorem own_type {B n sz : Nat} {w : World} {e t : TypeId} {v : Value} {xs : List Value} {k : Nat} {cs : Array Value} (h : w.ownsRow B e sz v n xs) (hk : w.heap[k]? = some (.cells cs t (0, 0))) (he : ¬ e = t) : ¬ v.ownBlock = some k := fun hv => by
  rcases h.2 with ⟨rfl, rfl⟩ | ⟨g, cap, cur, rfl, _, hg, _⟩
  · cases hv
  · simp [Value.ownBlock] at hv
    subst hv
    rw [hg] at hk
    simp at hk
    exact he hk.2
theorem own_apart {B B' s s' n n' : Nat} {w : World} {e e' : TypeId} {v v' : Value} {xs xs' : List Value} (he : ¬ e = e') (h : w.ownsRow B e s v n xs) (h' : w.ownsRow B' e' s' v' n' xs') : ∀ k, v.ownBlock = some k → ¬ v'.ownBlock = some k := fun k hk hk' => by
  rcases h.2 with ⟨hv, _⟩ | ⟨g, cap, cur, hv, _, hg, _⟩
  · rw [hv] at hk; cases hk
  · rw [hv] at hk
    simp [Value.ownBlock] at hk
    subst hk
    exact own_type h' hg (Ne.symm he) hk'
theorem infoStr : (Try.prog.info? 9).map (fun i => (i.zero, i.size, i.bytes)) = some (some (.string ⟨#[]⟩), 1, 16) := by kernel_rfl
theorem infoInt : (Try.prog.info? 3).map (fun i => (i.zero, i.size, i.bytes)) = some (some (.int .i64 0), 1, 8) := by kernel_rfl
theorem keyOf_tx (l : List UInt8) (h : l.length ≤ 1000000000000) : keyOf Try.prog 9 (.string ⟨l.toArray⟩) = some (.string l) := by
  have := WideMaps.keyOf_string_mk (P := Try.prog) (k := 9) Try.underlying9 (s := ⟨l.toArray⟩) (by show l.toArray.size ≤ _; rw [List.size_toArray]; unfold maxLen; omega)
  simpa using this
noncomputable def PE : Value → Option (DataW Unit × List MemPlace) := plainElem Try.prog 3
/-- a map that tells the places of names -/
def MapIs (D : DataW Unit) (N : List (List UInt8)) : Prop := Maps.IsMap D ∧ ∀ x, Maps.has D (.string x) = decide (x ∈ N) ∧ (x ∈ N → D.atKey (.string x) (.lit (.int .i64 0)) = .lit (.int .i64 (plF 1 N x : Nat)))
theorem isKey (x : List UInt8) : WideAt.IsKeyLit (.string x) := by simp [WideAt.IsKeyLit]
def mapBlk : Value → Option Nat
  | .map b => b
  | _ => none
/-- a table's blocks -/
def fp (p : Nat) (nv sv mv : Value) (k : Nat) : Prop := k = p ∨ nv.ownBlock = some k ∨ sv.ownBlock = some k ∨ mapBlk mv = some k
theorem own_cell {B n : Nat} {w : World} {e : TypeId} {v : Value} {xs : List Value} (h : w.ownsRow B e 1 v n xs) {k : Nat} {u : Value} (hk : xs[k]? = some u) : ∃ g cap, v = .slice (some ⟨g, 0, none⟩) n cap ∧ n ≤ cap ∧ w.cell? ⟨g, k, none⟩ = some u := by
  rcases h.2 with ⟨rfl, rfl⟩ | ⟨g, cap, cur, rfl, hb, hg, hc, _⟩
  · have := h.1; simp at this; rw [this] at hk; simp at hk
  · refine ⟨g, cap, rfl, hc, ?_⟩
    have := World.ownsRow.cells h (g := g) rfl k u hk
    rwa [WideShapes.add_plain, Nat.zero_add] at this
theorem list_cases {α : Type} (l : List α) : l = [] ∨ ∃ M x, l = M ++ [x] := by
  rcases List.eq_nil_or_concat l with h | ⟨M, x, h⟩
  · exact .inl h
  · exact .inr ⟨M, x, by simpa using h⟩
theorem int_one (x : Int) : ∀ u ∈ [Value.int .i64 x], u.oneCell' = true := by intro u hu; simp at hu; subst hu; rfl
theorem pe_int (x : Nat) (h : x ≤ 1000000000000) : PE (.int .i64 x) = some (.lit (.int .i64 x), []) := by
  have h1 : (IntKind.i64.min ≤ (x : Int)) := by rw [show IntKind.i64.min = -9223372036854775808 by rfl]; omega
  have h2 : ((x : Int) ≤ IntKind.i64.max) := by rw [show IntKind.i64.max = 9223372036854775807 by rfl]; omega
  exact plainElem_int Try.underlying3 (by simp only [Lit.wf, decide_eq_true h1, decide_eq_true h2]; rfl)
theorem Chg.of_drewN {S : Nat → Prop} {a w : World} (h : Chg S a w) (n : Nat) : Chg S a (w.drewN n) := ⟨h.os, h.tape, h.output, h.size, h.block⟩
theorem snoc_one (N : List (List UInt8)) (x : List UInt8) : (N ++ [x]).length = N.length + 1 := by simp
def InF (w : World) (O C : Nat → Prop) : Prop := ∀ k, C k → O k ∨ w.heap.size ≤ k
theorem InF.chg {w a b : World} {O C : Nat → Prop} (h : InF w O C) (h1 : Chg O w a) (h2 : Chg C a b) : Chg O w b := h1.trans h2 (fun k hk hl => (h k hk).resolve_right (by omega))
theorem in_names {w : World} {O : Nat → Prop} {p g n c : Nat} {nv sv mv : Value} (h : InF w O (fp p nv sv mv)) (hg : nv.ownBlock = some g ∨ w.heap.size ≤ g) : InF w O (fp p (.slice (some ⟨g, 0, none⟩) n c) sv mv) := fun k hk => by
  rcases hk with hk | hk | hk | hk
  · exact h k (.inl hk)
  · simp [Value.ownBlock] at hk
    subst hk
    rcases hg with hg | hg
    · exact h g (.inr (.inl hg))
    · exact .inr hg
  · exact h k (.inr (.inr (.inl hk)))
  · exact h k (.inr (.inr (.inr hk)))
theorem in_starts {w : World} {O : Nat → Prop} {p g n c : Nat} {nv sv mv : Value} (h : InF w O (fp p nv sv mv)) (hg : sv.ownBlock = some g ∨ w.heap.size ≤ g) : InF w O (fp p nv (.slice (some ⟨g, 0, none⟩) n c) mv) := fun k hk => by
  rcases hk with hk | hk | hk | hk
  · exact h k (.inl hk)
  · exact h k (.inr (.inl hk))
  · simp [Value.ownBlock] at hk
    subst hk
    rcases hg with hg | hg
    · exact h g (.inr (.inr (.inl hg)))
    · exact .inr hg
  · exact h k (.inr (.inr (.inr hk)))
theorem fp_in {p b : Nat} {w : World} {nv sv mv : Value} (h : mapBlk mv = some b ∨ b = w.heap.size) : InF w (fp p nv sv mv) (fp p nv sv (.map (some b))) := fun k hk => by
  rcases hk with hk | hk | hk | hk
  · exact .inl (.inl hk)
  · exact .inl (.inr (.inl hk))
  · exact .inl (.inr (.inr (.inl hk)))
  · rcases h with h | h
    · exact .inl (.inr (.inr (.inr (by rw [h]; exact hk))))
    · cases hk; exact .inr (by omega)
/-- F, and what has been made since -/
def FN (F : Nat → Prop) (w w' : World) (k : Nat) : Prop := F k ∨ (w.heap.size ≤ k ∧ k < w'.heap.size)
theorem idx_neg (x : List UInt8) : decide (Lib.indexByte x 0 < 0) = !x.contains 0 := by
  have hge := Lib.indexByte_ge x 0
  by_cases h : Lib.indexByte x 0 < 0
  · have hn := Lib.indexByte_none (l := x) (c := 0) (by omega)
    have : ¬ (0 : UInt8) ∈ x := fun hm => by
      obtain ⟨k, hk⟩ := List.mem_iff_getElem?.1 hm
      exact hn k hk
    simp [h, this]
  · obtain ⟨o, ho⟩ : ∃ o : Nat, Lib.indexByte x 0 = o := ⟨(Lib.indexByte x 0).toNat, by omega⟩
    have := (Lib.indexByte_some (l := x) (c := 0) ho).1
    have hm : (0 : UInt8) ∈ x := List.mem_of_getElem? this
    simp [hm]; omega
theorem zeroI (w : World) : (zeroValue 3).run Try.prog w = .ok (.int .i64 0) w := by kernel_rfl
theorem name_len {x : List UInt8} (h : nameOk x = true) : x.length ≤ 64 := by
  unfold nameOk at h
  simp at h
  exact h.1.2
theorem getD_of {l : List Int} {j : Nat} {x : Int} (h : l[j]? = some x) : l.getD j 0 = x := by simp [List.getD, h]
def OwB (B : Nat) (v : Value) (O : List UInt8) (w : World) : Prop := w.ownsRow B 5 1 v O.length (Lib.byteCells O)
theorem infoB : (Try.prog.info? 5).map (fun i => (i.zero, i.size, i.bytes)) = some (some (.int .u8 0), 1, 1) := by kernel_rfl
theorem run_make_b1 (n : Nat) (h1 : 1 ≤ n) (hn : n ≤ 1000000000000) (w : World) : ∃ cur : Array Value, (Instr.makeSlice 37 (.int .i64 1) (.int .i64 (n : Int))).run Try.prog w = .ok (.slice (some ⟨w.heap.size, 0, none⟩) 1 n) (w.alloc (.cells cur 5)) ∧ OwB w.heap.size (.slice (some ⟨w.heap.size, 0, none⟩) 1 n) [0] (w.alloc (.cells cur 5)) := by
  obtain ⟨i0, hi, hz0, hz1, hz2⟩ := info_parts infoB
  have h := run_make (P := Try.prog) w 37 5 i0 _ Try.underlying37 hi hz0 .i64 .i64 1 (n : Int) (by omega) (by omega) (by rw [hz2]; omega) (by omega)
  rw [hz1, Nat.mul_one] at h
  refine ⟨_, h, rfl, .inr ⟨w.heap.size, n, _, rfl, Nat.le_refl _, heap_alloc_new w _, h1, by unfold maxLen; omega, by simp [madeCells], ?_⟩⟩
  simp only [madeCells, Int.toNat_natCast]
  obtain ⟨m, rfl⟩ : ∃ m, n = m + 1 := ⟨n - 1, by omega⟩
  simp [Lib.byteCells, Value.cells, List.range_succ_eq_map, List.take]
theorem bc_app (O P : List UInt8) : Lib.byteCells (O ++ P) = Lib.byteCells O ++ Lib.byteCells P := by simp [Lib.byteCells]
theorem bc_str (x : List UInt8) : Lib.strCells ⟨x.toArray⟩ = Lib.byteCells x := by simp [Lib.strCells, Lib.byteCells]
theorem bc_one (O : List UInt8) : ∀ u ∈ Lib.byteCells O, u.oneCell' = true := fun u hu => by
  simp only [Lib.byteCells, List.mem_map] at hu
  obtain ⟨b, _, rfl⟩ := hu
  rfl
theorem take_snoc {α : Type} {l : List α} {k : Nat} {x : α} (h : l[k]? = some x) : l.take (k + 1) = l.take k ++ [x] := by
  rw [List.take_add_one, h]; rfl
theorem out_row {w0 X w' : World} {v : Value} {e n : Nat} {xs : List Value} (h : Out w0 X) (hown : X.ownsRow w0.heap.size e 1 v n xs) (hg : X.grownBy w' v.ownBlock) : Out w0 w' := Below.grown h hg h.size (fun k hk => (hown.lt k hk).1)
/-- bytes at an address below N -/
def RestAt (N : Nat) (w : World) (a : Option Addr) (l : List UInt8) : Prop := l = [] ∨ ∃ b off, b < N ∧ a = some ⟨b, off, none⟩ ∧ ∀ k x, l[k]? = some x → w.cell? ⟨b, off + k, none⟩ = some (.int .u8 (x.toNat : Int))
theorem RestAt.below {N : Nat} {w w' : World} {a : Option Addr} {l : List UInt8} (h : RestAt N w a l) (b : Below N w w') : RestAt N w' a l := by
  rcases h with h | ⟨g, o, hg, ha, hc⟩
  · exact .inl h
  · exact .inr ⟨g, o, hg, ha, fun k x hx => (Below.cell b hg).trans (hc k x hx)⟩
def bCells (O : List UInt8) : List Value := O.map (fun b => .int .u8 (b.toNat : Int))
theorem bCells_length (O : List UInt8) : (bCells O).length = O.length := by simp [bCells]
theorem fold_bytes (O : List UInt8) : ∀ r : ByteArray, (O.map (fun b => (b.toNat : Int))).foldl (fun r n => r.push (UInt8.ofNat n.toNat)) r = ⟨r.data ++ O.toArray⟩ := by
  induction O with
  | nil => intro r; simp
  | cons b l ih =>
    intro r
    rw [List.map_cons, List.foldl_cons, ih]
    simp [ByteArray.push]
theorem conv_list (w : World) (a : Addr) (cap : Nat) (O : List UInt8) (h : ∀ j u, (bCells O)[j]? = some u → w.cell? (a.add j) = some u) : (convert 37 9 (.slice (some a) O.length cap)).run Try.prog w = .ok (.string ⟨O.toArray⟩) w := by
  rw [run_convert_bytes_string w 37 9 5 (some a) O.length cap Try.underlying37 Try.underlying5 Try.underlying9]
  have h1 := run_loadCells_list (P := Try.prog) w a (bCells O) h
  rw [bCells_length] at h1
  rw [run_bytesToString w a O.length cap (O.map (fun b => (b.toNat : Int))) (by rw [show (O.map (fun b => (b.toNat : Int))).map (Value.int .u8) = bCells O from by simp [bCells]]; exact h1), fold_bytes]
  simp
theorem conv_rest {N : Nat} {w : World} {a : Option Addr} {l : List UInt8} (h : RestAt N w a l) (cap : Nat) : (convert 37 9 (.slice a l.length cap)).run Try.prog w = .ok (.string ⟨l.toArray⟩) w := by
  rcases h with rfl | ⟨b, off, hb, rfl, hc⟩
  · cases a with
    | none =>
      rw [run_convert_bytes_string w 37 9 5 none _ _ Try.underlying37 Try.underlying5 Try.underlying9]
      rfl
    | some a => exact conv_list w a cap [] (fun j u hj => by simp [bCells] at hj)
  · refine conv_list w ⟨b, off, none⟩ cap l (fun j u hj => ?_)
    rw [Go.WideShapes.add_plain]
    simp only [bCells, List.getElem?_map] at hj
    cases hl : l[j]? with
    | none => rw [hl] at hj; simp at hj
    | some x => rw [hl] at hj; simp at hj; rw [← hj]; exact hc j x hl
theorem idx_tw : ∀ l : List UInt8, Lib.indexByte l 0 = if (0 : UInt8) ∈ l then ((l.takeWhile (fun b => b != 0)).length : Int) else -1
  | [] => by simp [Lib.indexByte]
  | b :: r => by
    unfold Lib.indexByte
    by_cases h : b = 0
    · subst h; simp
    · have h1 : (b == 0) = false := by simpa using h
      have h2 : (b != 0) = true := by simpa using h
      rw [idx_tw r]
      simp only [h1, List.takeWhile, h2]
      by_cases hr : (0 : UInt8) ∈ r
      · simp [hr]
      · simp [hr, Ne.symm h]
theorem tw_take (p : UInt8 → Bool) : ∀ (l : List UInt8) (k : Nat) (x : UInt8), x ∈ l.take k → p x = false → (l.take k).takeWhile p = l.takeWhile p
  | [], k, x, h, _ => by simp at h
  | y :: r, 0, x, h, _ => by simp at h
  | y :: r, k + 1, x, h, hp => by
    simp only [List.take_succ_cons, List.takeWhile]
    cases hy : p y
    · rfl
    · simp only [List.take_succ_cons, List.mem_cons] at h
      rw [tw_take p r k x (h.resolve_left (fun e => by rw [e, hy] at hp; cases hp)) hp]
theorem tw_all (p : UInt8 → Bool) : ∀ (l : List UInt8), ∀ b ∈ l.takeWhile p, p b = true
  | [], b, h => by simp at h
  | y :: r, b, h => by
    simp only [List.takeWhile] at h
    cases hy : p y
    · rw [hy] at h; simp at h
    · rw [hy] at h
      rcases List.mem_cons.1 h with rfl | h
      · exact hy
      · exact tw_all p r b h
def toZ (l : List UInt8) : List Int := l.map fun b => (b.toNat : Int)
theorem name_ne {x : List UInt8} (h : nameOk x = true) : ¬ x = [] := fun e => by rw [e] at h; cases h
theorem OwB.rest {B : Nat} {v : Value} {O : List UInt8} {w : World} (h : OwB B v O w) : ∃ a cp, v = .slice a O.length cp ∧ O.length ≤ cp ∧ RestAt w.heap.size w a O := by
  rcases h.2 with ⟨hv, hn⟩ | ⟨g, cap, cur, hv, hb, hg, hc, _⟩
  · exact ⟨none, 0, by rw [hv, hn], by omega, .inl (List.length_eq_zero_iff.1 hn)⟩
  · refine ⟨_, _, hv, hc, .inr ⟨g, 0, (Array.getElem?_eq_some_iff.1 hg).1, rfl, fun k x hx => ?_⟩⟩
    have h1 := World.ownsRow.cells h (g := g) (by rw [hv]; rfl) k (.int .u8 (x.toNat : Int)) (by simp [Lib.byteCells, hx])
    rw [Nat.zero_add, ← h1, Go.WideShapes.add_plain, Nat.zero_add]
/-- a number, its lowest byte first -/
def nmB : List UInt8 → Nat
  | [] => 0
  | b :: r => b.toNat + 256 * nmB r
theorem nmB_lt : ∀ l : List UInt8, nmB l < 256 ^ l.length
  | [] => by simp [nmB]
  | b :: r => by
    have := nmB_lt r
    have hb := b.toNat_lt
    simp only [nmB, List.length_cons, Nat.pow_succ]
    omega
theorem nmB_snoc : ∀ (l : List UInt8) (b : UInt8), nmB (l ++ [b]) = nmB l + 256 ^ l.length * b.toNat
  | [], b => by simp [nmB]
  | c :: r, b => by
    simp only [List.cons_append, nmB, nmB_snoc r b, List.length_cons, Nat.pow_succ]
    rw [Nat.mul_add, Nat.mul_comm (256 ^ r.length) 256, ← Nat.mul_assoc, Nat.add_assoc]
theorem nmB_or (l : List UInt8) (b : UInt8) (h : l.length ≤ 7) : nmB (l ++ [b]) = nmB l ||| (b.toNat <<< (8 * l.length)) % 18446744073709551616 := by
  have h1 := nmB_lt l
  have e : (256 : Nat) ^ l.length = 2 ^ (8 * l.length) := by rw [Nat.pow_mul]
  rw [e] at h1
  have hb := b.toNat_lt
  have h2 : b.toNat <<< (8 * l.length) < 18446744073709551616 := by
    rw [Nat.shiftLeft_eq]
    have : 2 ^ (8 * l.length) ≤ 2 ^ 56 := Nat.pow_le_pow_right (by omega) (by omega)
    calc b.toNat * 2 ^ (8 * l.length) ≤ 255 * 2 ^ 56 := Nat.mul_le_mul (by omega) this
      _ < _ := by omega
  rw [Nat.mod_eq_of_lt h2, Nat.shiftLeft_eq, nmB_snoc, e, Nat.or_comm, Nat.mul_comm b.toNat, ← Nat.two_pow_add_eq_or_of_lt h1, Nat.add_comm]
def jw (n : Int) : Nat := (n % 18446744073709551616).toNat
theorem jw_wrap (n : Int) : IntKind.u64.wrap n = (jw n : Nat) := by rw [IntKind.wrap_u64]; unfold jw; omega
theorem jw_nat (n : Nat) (h : n < 18446744073709551616) : jw n = n := by unfold jw; omega
def up8 (n : Nat) : Nat := (n + 7) / 8 * 8
/-- the bytes of a number -/
def leB (n : Nat) : Nat → List UInt8
  | 0 => []
  | k + 1 => UInt8.ofNat (n % 256) :: leB (n / 256) k
theorem leB_len (k : Nat) : ∀ n, (leB n k).length = k := by
  induction k with
  | zero => intro n; rfl
  | succ k ih => intro n; simp [leB, ih]
theorem leB_snoc (k : Nat) : ∀ n, leB n (k + 1) = leB n k ++ [UInt8.ofNat (n / 256 ^ k % 256)] := by
  induction k with
  | zero => intro n; simp [leB]
  | succ k ih => intro n; rw [leB, ih (n / 256)]; simp [leB, Nat.div_div_eq_div_mul, Nat.pow_succ, Nat.mul_comm]
theorem nm_le (k : Nat) : ∀ n, nmB (leB n k) = n % 256 ^ k := by
  induction k with
  | zero => intro n; simp [leB, nmB, Nat.mod_one]
  | succ k ih =>
    intro n
    have h : (UInt8.ofNat (n % 256)).toNat = n % 256 := by simp
    rw [leB, nmB, ih, h, Nat.pow_succ, Nat.mul_comm (256 ^ k) 256, Nat.mod_mul]
theorem le_nm : ∀ l : List UInt8, leB (nmB l) l.length = l
  | [] => rfl
  | b :: r => by
    have hb := b.toNat_lt
    simp only [nmB, List.length_cons, leB]
    have h1 : (b.toNat + 256 * nmB r) % 256 = b.toNat := by omega
    have h2 : (b.toNat + 256 * nmB r) / 256 = nmB r := by omega
    rw [h1, h2, le_nm r]
    simp
/-- a field: its width, and what it may be -/
structure Fd where
  w : Nat
  lo : Nat
  hi : Nat
theorem shr_byte (n k : Nat) (hk : k < 8) : IntKind.u8.wrap ((n : Int) / 2 ^ (8 * k)) = ((UInt8.ofNat (n / 256 ^ k % 256)).toNat : Int) := by
  have e : (256 : Nat) ^ k = 2 ^ (8 * k) := by rw [Nat.pow_mul]
  rw [e]
  have h1 : ((n : Int) / 2 ^ (8 * k)) = ((n / 2 ^ (8 * k) : Nat) : Int) := by
    rw [Int.natCast_ediv, Int.natCast_pow]; rfl
  rw [h1]
  generalize n / 2 ^ (8 * k) = m
  simp [IntKind.wrap, IntKind.bits, IntKind.signed]
theorem Below.grownB {N : Nat} {w X w' : World} {v : Value} {O : List UInt8} (hb : Below N w X) (hN : N ≤ w.heap.size) (ho : OwB N v O X) (hg : X.grownBy w' v.ownBlock) : Below N w w' :=
  Below.trans hb ((Chg.of_grown (S := fun k => N ≤ k) hg (fun k hk => (World.ownsRow.lt ho k hk).1)).below (Nat.le_trans hN hb.size) (fun k h => h))
/-- bytes at a place -/
def BAt (w : World) (g off : Nat) (l : List UInt8) : Prop := ∀ k x, l[k]? = some x → w.cell? ⟨g, off + k, none⟩ = some (.int .u8 (x.toNat : Int))
theorem BAt.out {w w' : World} {g off : Nat} {l : List UInt8} (h : BAt w g off l) (hg : g < w.heap.size) (o : Out w w') : BAt w' g off l := fun k x hx => (o.cells g _ hg).trans (h k x hx)
theorem BAt.cut {w : World} {g off : Nat} {l : List UInt8} (h : BAt w g off l) (i n : Nat) : BAt w g (off + i) ((l.drop i).take n) := fun k x hx => by
  have hk : (l.drop i)[k]? = some x := by
    rw [List.getElem?_take] at hx
    split at hx
    · exact hx
    · cases hx
  rw [List.getElem?_drop] at hk
  have := h (i + k) x hk
  rwa [← Nat.add_assoc] at this
theorem BAt.rest {w : World} {g off : Nat} {l : List UInt8} (h : BAt w g off l) (hg : g < w.heap.size) : RestAt w.heap.size w (some ⟨g, off, none⟩) l := .inr ⟨g, off, hg, rfl, h⟩
def OwI (B : Nat) (v : Value) (zs : List Int) (w : World) : Prop := w.ownsRow B 3 1 v zs.length (zs.map (Value.int .i64))
theorem run_make_i0 (n : Nat) (hn : n ≤ 1000000000000) (w : World) : ∃ cur : Array Value, (Instr.makeSlice 30 (.int .i64 0) (.int .i64 (n : Int))).run Try.prog w = .ok (.slice (some ⟨w.heap.size, 0, none⟩) 0 n) (w.alloc (.cells cur 3)) ∧ OwI w.heap.size (.slice (some ⟨w.heap.size, 0, none⟩) 0 n) [] (w.alloc (.cells cur 3)) := by
  obtain ⟨i0, hi, hz0, hz1, hz2⟩ := info_parts infoInt
  have h := run_make (P := Try.prog) w 30 3 i0 _ Try.underlying30 hi hz0 .i64 .i64 0 (n : Int) (by omega) (by omega) (by rw [hz2]; omega) (by omega)
  rw [hz1, Nat.mul_one] at h
  refine ⟨_, h, rfl, .inr ⟨w.heap.size, n, _, rfl, Nat.le_refl _, heap_alloc_new w _, by simp, by unfold maxLen; omega, by simp [madeCells], ?_⟩⟩
  simp
/-- an entry of the table: what each field may be -/
structure Rw where
  n : Nat × Nat
  k : Nat × Nat
  f : Nat × Nat
  p : Nat × Nat
  s : Nat × Nat
  l : Nat × Nat
  i : Nat × Nat
  a : Nat × Nat
  e : Nat × Nat
theorem own_mk {Y : World} {g B n sz : Nat} {cs : Array Value} {T : TypeId} (h : Y.heap[g]? = some (.cells cs T (0, 0))) (hB : B ≤ g) (hs : cs.size = n * sz) (hm : n ≤ 1000000000000) : Y.ownsRow B T sz (.slice (some ⟨g, 0, none⟩) n n) n cs.toList := by
  refine ⟨by simp [hs], .inr ⟨g, n, cs, rfl, hB, h, Nat.le_refl _, by unfold maxLen; omega, hs, ?_⟩⟩
  rw [← hs, ← Array.length_toList, List.take_length]
theorem heap_new2 (W : World) (A B : Obj) : ((W.alloc A).alloc B).heap[W.heap.size + 1]? = some B := by rw [← size_alloc W A]; exact heap_alloc_new _ _
theorem own_base {w : World} {base base' : Nat} {e : TypeId} {size : Nat} {v : Value} {n : Nat} {xs : List Value} (h : w.ownsRow base e size v n xs) (hb : base' ≤ base) : w.ownsRow base' e size v n xs := by
  refine ⟨h.1, ?_⟩
  rcases h.2 with h | ⟨g, cap, cur, h1, h2, h3⟩
  · exact .inl h
  · exact .inr ⟨g, cap, cur, h1, Nat.le_trans hb h2, h3⟩
theorem out_rowN {w0 X w' : World} {v : Value} {e n sz : Nat} {xs : List Value} (h : Out w0 X) (hown : X.ownsRow w0.heap.size e sz v n xs) (hg : X.grownBy w' v.ownBlock) : Out w0 w' := Below.grown h hg h.size (fun k hk => (hown.lt k hk).1)
theorem box_cell {w : World} {p : Nat} {cs : Array Value} {t : TypeId} (h : w.heap[p]? = some (.cells cs t (0, 0))) (j : Nat) : w.cell? ⟨p, j, none⟩ = cs[j]? := by simp [World.cell?, h]
theorem add_block (ad : Addr) (j : Nat) : (ad.add j).block = ad.block := by cases ad; unfold Addr.add; first | rfl | (split <;> rfl)
theorem own_some {w : World} {B n sz : Nat} {T : TypeId} {v : Value} {xs : List Value} (h : w.ownsRow B T sz v n xs) (hn : 0 < n) : ∃ g c, v = .slice (some ⟨g, 0, none⟩) n c := by
  rcases h.2 with ⟨_, h0⟩ | ⟨g, cap, cur, rfl, _⟩
  · omega
  · exact ⟨g, cap, rfl⟩
/-- the bytes that are being written -/
structure WS (W wr : World) (v : Value) (P : List UInt8) : Prop where
  own : OwB W.heap.size v P wr
  bel : Out W wr
theorem WS.on {W wr w' : World} {v : Value} {P : List UInt8} (h : WS W wr v P) (o : Out wr w') : WS W w' v P := ⟨owns_chg (S := fun _ => False) h.own (fun _ _ h => h) (Chg.of_out o), h.bel.trans o⟩
theorem WS.low {W wr w' : World} {v v' : Value} {P P' : List UInt8} (h : WS W wr v P) (ho : OwB W.heap.size v' P' w') (b : Below W.heap.size wr w') : WS W w' v' P' := ⟨ho, Below.trans h.bel b⟩
theorem own_at {W wr : World} {B n sz : Nat} {T : TypeId} {v : Value} {xs : List Value} (h : W.ownsRow B T sz v n xs) (o : Out W wr) : wr.ownsRow B T sz v n xs := owns_chg (S := fun _ => False) h (fun _ _ h => h) (Chg.of_out o)
theorem wpList_alloc_new {P : Program} {ops : Array Oper} {rest : List Oper} {op : Oper} {a : Act} {w : World} {Q : Exit → Act → World → Prop} (hgd : op.guard = none) (ty : TypeId) (ho : op.op = .alloc ty) (z : Value) (hz : ∀ w, (zeroValue ty).run P w = .ok z w)
    (h : wpList P ops Q rest (a.put op.dst (.pointer (some ⟨w.heap.size, 0, none⟩))) (w.alloc (.cells z.cells ty))) : wpList P ops Q (op :: rest) a w :=
  wpList_plain hgd fun K hK => by
    unfold Oper.wp execOp
    simp only [ho, Instr.alloc, Sem.run_bind, hz, Result.andThen_ok]
    exact hK _ _ h
theorem wpList_store_new {P : Program} {ops : Array Oper} {rest : List Oper} {op : Oper} {a : Act} {w : World} {Q : Exit → Act → World → Prop} (hgd : op.guard = none) (ty : TypeId) (x y : Operand) (ho : op.op = .store ty x y) (c c' : Array Value) (hx : a.eval x = .pointer (some ⟨w.heap.size, 0, none⟩)) (hy : a.eval y = .agg c')
    (hi : (P.info? ty).map (·.size) = some c'.size) (hs : c.size = c'.size) (h1 : c'.all (·.oneCell') = true)
    (h : wpList P ops Q rest (a.put op.dst undef) (w.alloc (.cells c' ty))) : wpList P ops Q (op :: rest) a (w.alloc (.cells c ty)) :=
  wpList_plain hgd fun K hK => by
    unfold Oper.wp execOp
    simp only [ho, hx, hy, Sem.run_bind, run_storeAt_new w ty c c' hi hs h1, Result.andThen_ok, Sem.run_pure]
    exact hK _ _ h
theorem num_any (k : Int) (w : World) : Calls Try.prog 16 #[.int .i64 k] w fun e w' => e = .returned (.int .i64 k) ∧ w = w' := by
  go_enter Try.func16, Try.ntmps16
  go_wp2
  go_ret
  exact ⟨rfl, rfl⟩
theorem owns_void (w : World) (B size : Nat) (e : TypeId) (hB : B ≤ w.heap.size) : (w.alloc (.cells #[] e)).ownsRow B e size (.slice (some ⟨w.heap.size, 0, none⟩) 0 0) 0 [] :=
  ⟨by simp, .inr ⟨w.heap.size, 0, #[], rfl, hB, heap_alloc_new w _, Nat.le_refl _, by decide, by simp, by simp⟩⟩
theorem OwB.out {B : Nat} {v : Value} {O : List UInt8} {w w' : World} (h : OwB B v O w) (o : Out w w') : OwB B v O w' := owns_chg (S := fun _ => False) h (fun _ _ h => h) (Chg.of_out o)
set_option maxHeartbeats 800000 in
theorem copyBytes_any (w : World) (a : Option Addr) (cap : Nat) (l : List UInt8) (hr : RestAt w.heap.size w a l) (hll : l.length ≤ 140737488351232) : Calls Try.prog 12 #[.slice a l.length cap] w fun e w' => ∃ v, e = .returned v ∧ OwB w.heap.size v l w' ∧ Out w w' := by
  obtain ⟨i0, hi, hz0, hz1, hz2⟩ := info_parts infoB
  have H0 := hidOf (owns_void w w.heap.size 1 5 (Nat.le_refl _))
  cases a with
  | none =>
    obtain rfl : l = [] := by
      rcases hr with h | ⟨b, off, _, h, _⟩
      · exact h
      · cases h
    simp only [List.length_nil]
    go_enter Try.func12, Try.ntmps12
    go_wp2
    go_ret
    exact ⟨_, rfl, H0.out, Out.alloc (Out.refl _) _⟩
  | some ad =>
    have HC : Hid (∀ j u, (Lib.byteCells l)[j]? = some u → (w.alloc (.cells #[] 5)).cell? (ad.add j) = some u) := fun j u hu => by
      simp only [Lib.byteCells, List.getElem?_map, Option.map_eq_some_iff] at hu
      obtain ⟨x, hx, rfl⟩ := hu
      rcases hr with rfl | ⟨b, off, _, h, hc⟩
      · simp at hx
      · cases h
        rw [WideShapes.add_plain]
        exact cell_later ((Out.refl w).alloc _) (hc j x hx)
    clear hr
    go_enter Try.func12, Try.ntmps12
    go_wp2_with (at_builtin; refine wpList_append_own _ rfl (.tmp 3) (.tmp 4) 37 rfl w.heap.size 5 i0 _ 1 1 Try.underlying37 hi hz0 hz1 hz2 rfl (by decide) (.slice (some ⟨w.heap.size, 0, none⟩) 0 0) 0 [] rfl H0.out ad l.length cap (Lib.byteCells l) rfl (by rw [Lib.byteCells_length, Nat.mul_one]) HC.out (bc_one l) (by unfold maxLen; omega) (by omega) (by rw [size_alloc]; omega) ?_; intro v' w3 hown' hgrow _; have H3 := hidOf (out_row ((Out.refl w).alloc _) H0.out hgrow); have HN := hidOf hown'; clear hown' hgrow)
    go_ret
    refine ⟨_, rfl, ?_, H3.out⟩
    have := HN.out
    rw [Nat.zero_add, List.nil_append] at this
    exact this
theorem drewN_one (w : World) : w.drew = w.drewN 1 := rfl
end Go.Proofs.Ytbdmbicnlfcclaa
