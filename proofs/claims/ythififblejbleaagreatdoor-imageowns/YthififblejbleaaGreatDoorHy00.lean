import Derived.Test.YthififblejbleaaGreatDoorProg
import Derived.WalkKit
import Derived.WalkSpells
import Derived.Deep.QuietTactic
import Derived.BigQuiet
import Derived.Deep.OwnRows
import Derived.Deep.RegionLaw
import Derived.Deep.AppendLies
import Derived.OwnWalk
import Derived.Deep.RegionHeld3
import Derived.Deep.Cut
import Derived.Maps.OwnSet
namespace Go.Proofs.YthififblejbleaaGreatDoor
open Go.RowKit
set_option linter.unusedVariables false
set_option linter.unusedSimpArgs false
theorem hidOf {p : Prop} (h : p) : Hid p := h
theorem ret_bool {w : World} {a b : Bool} (h : a = b) : Ending.returned (Value.bool a) = Ending.returned (Value.bool b) ∧ w = w := ⟨by rw [h], rfl⟩
def Out (w w' : World) : Prop := Below w.heap.size w w'
theorem Out.refl (w : World) : Out w w := Below.refl _ _
theorem Out.alloc {w w' : World} (h : Out w w') (o : Obj) : Out w (w'.alloc o) := Below.alloc h h.size o
theorem Out.drew {w w' : World} (h : Out w w') : Out w w'.drew := Below.drew h
theorem Out.drewN {w w' : World} (h : Out w w') (n : Nat) : Out w (w'.drewN n) := ⟨h.os, h.tape, h.output, h.size, h.block⟩
theorem Out.trans {a b c : World} (h : Out a b) (k : Out b c) : Out a c := Below.trans h (Below.mono k h.size)
theorem Out.cells {w w' : World} (h : Out w w') (b o : Nat) (hb : b < w.heap.size) : w'.cell? ⟨b, o, none⟩ = w.cell? ⟨b, o, none⟩ := Below.cell h hb
theorem Out.size {w w' : World} (h : Out w w') : w.heap.size ≤ w'.heap.size := Below.size h
theorem Out.setCell {w w' : World} (h : Out w w') {a : Addr} (ha : w.heap.size ≤ a.block) (u : Value) : Out w (w'.setCell a u) := Below.setCell h ha u
theorem cell_later {w w' : World} (o : Out w w') {a : Addr} {v : Value} (h : w.cell? a = some v) : w'.cell? a = some v := by
  rw [← h]; exact World.cell?_of_block (o.block _ (World.block_lt_of_cell? w a h))
theorem size_alloc (w : World) (o : Obj) : (w.alloc o).heap.size = w.heap.size + 1 := by
  show (w.heap.push o).size = _
  simp
theorem heap_drew' (w : World) : w.drew.heap = w.heap := rfl
theorem cell_fresh (w : World) (cs : Array Value) (t : TypeId) (j : Nat) (b : Nat) (hb : b = w.heap.size) : (w.alloc (.cells cs t)).cell? ⟨b, j, none⟩ = cs[j]? := by
  subst hb
  rw [World.cell?, show (w.alloc (.cells cs t)).heap[w.heap.size]? = some (.cells cs t) from heap_alloc_new w _]
  rfl
structure Chg (S : Nat → Prop) (w w' : World) : Prop where
  os : w'.os = w.os
  tape : w'.tape = w.tape
  output : w'.output = w.output
  size : w.heap.size ≤ w'.heap.size
  block : ∀ k, k < w.heap.size → ¬ S k → w'.heap[k]? = w.heap[k]?
theorem Chg.refl (S : Nat → Prop) (w : World) : Chg S w w := ⟨rfl, rfl, rfl, Nat.le_refl _, fun _ _ _ => rfl⟩
theorem Chg.trans {S T : Nat → Prop} {a b c : World} (h : Chg S a b) (k : Chg T b c) (hST : ∀ x, T x → x < a.heap.size → S x) : Chg S a c :=
  ⟨k.os.trans h.os, k.tape.trans h.tape, k.output.trans h.output, Nat.le_trans h.size k.size, fun i hi hs => (k.block i (Nat.lt_of_lt_of_le hi h.size) (fun ht => hs (hST i ht hi))).trans (h.block i hi hs)⟩
theorem Chg.of_out {S : Nat → Prop} {w w' : World} (h : Out w w') : Chg S w w' := ⟨h.os, h.tape, h.output, h.size, fun k hk _ => h.block k hk⟩
theorem Chg.of_grown {S : Nat → Prop} {w w' : World} {row : Option Nat} (h : w.grownBy w' row) (hr : ∀ k, row = some k → S k) : Chg S w w' :=
  ⟨h.os, h.tape, h.output, h.size, fun k hk hs => h.block k hk (fun e => hs (hr k e.symm))⟩
theorem Chg.alloc {S : Nat → Prop} {a w : World} (h : Chg S a w) (o : Obj) : Chg S a (w.alloc o) :=
  h.trans (T := fun _ => False) ⟨rfl, rfl, rfl, by simp, fun k hk _ => Below.heap_alloc _ _ _ hk⟩ (fun _ hx _ => hx.elim)
theorem Chg.drew {S : Nat → Prop} {a w : World} (h : Chg S a w) : Chg S a w.drew := ⟨h.os, h.tape, h.output, h.size, h.block⟩
theorem Chg.setCell {S : Nat → Prop} {a w : World} (h : Chg S a w) {p : Addr} (hp : S p.block) (u : Value) : Chg S a (w.setCell p u) :=
  h.trans (T := fun k => k = p.block) ⟨rfl, rfl, rfl, by simp [World.setCell], fun k hk hs => Below.heap_setCell _ _ _ _ hs⟩ (fun x hx _ => hx ▸ hp)
theorem Chg.mono {S T : Nat → Prop} {w w' : World} (h : Chg S w w') (hST : ∀ x, S x → x < w.heap.size → T x) : Chg T w w' :=
  ⟨h.os, h.tape, h.output, h.size, fun k hk ht => h.block k hk (fun hs => ht (hST k hs hk))⟩
theorem Chg.below {S : Nat → Prop} {B : Nat} {w w' : World} (h : Chg S w w') (hB : B ≤ w.heap.size) (hS : ∀ k, S k → B ≤ k) : Below B w w' :=
  ⟨h.os, h.tape, h.output, h.size, fun k hk => h.block k (by omega) (fun hs => by have := hS k hs; omega)⟩
theorem Chg.out {S : Nat → Prop} {w0 w w' : World} (h : Chg S w w') (ho : Out w0 w) (hS : ∀ k, S k → w0.heap.size ≤ k) : Out w0 w' :=
  Below.trans ho (h.below ho.size hS)
theorem Chg.cell {S : Nat → Prop} {w w' : World} (h : Chg S w w') {a : Addr} {v : Value} (hc : w.cell? a = some v) (hs : ¬ S a.block) : w'.cell? a = some v := by
  rw [← hc]; exact World.cell?_of_block (h.block _ (World.block_lt_of_cell? w a hc) hs)
def letP (c : Int) : Bool := decide (97 ≤ c) && decide (c ≤ 122) || decide (65 ≤ c) && decide (c ≤ 90) || c == 95
def digP (c : Int) : Bool := decide (48 ≤ c) && decide (c ≤ 57)
def runP (c : Int) : Bool := letP c || digP c || c == 46 || c == 36
def bI (b : UInt8) : Int := b.toNat
def runU (b : UInt8) : Bool := runP (bI b)
def kindP (c : Int) : Int :=
  if letP c = true then 3 else if digP c = true then 4 else if c = 32 ∨ c = 9 ∨ c = 13 then 1 else if c = 59 ∨ c = 35 then 2
  else if c = 46 then 5 else if c = 36 then 6 else if c = 58 ∨ c = 44 ∨ c = 91 ∨ c = 93 ∨ c = 43 ∨ c = 45 then 7 else 0
theorem lsize (s : ByteArray) : s.toList.length = s.size := by rw [ByteArray.toList_eq]; rfl
theorem lget (s : ByteArray) (k : Nat) (h : k < s.size) : s.toList[k]? = some s[k] := by
  rw [ByteArray.toList_eq]
  simp [ByteArray.getElem_eq_getElem_data, show k < s.data.size from h]
theorem mk_list (l : List UInt8) : (⟨l.toArray⟩ : ByteArray).toList = l := by rw [ByteArray.toList_eq]
theorem mk_size (l : List UInt8) : (⟨l.toArray⟩ : ByteArray).size = l.length := by rw [← lsize, mk_list]
def szF : Nat → List (List UInt8) → Nat
  | a, [] => a
  | a, y :: r => szF (a + y.length + 1) r
def stF : Nat → List (List UInt8) → List Int
  | _, [] => []
  | a, y :: r => (a : Int) :: stF (a + y.length + 1) r
def plF : Nat → List (List UInt8) → List UInt8 → Nat
  | _, [], _ => 0
  | a, y :: r, x => if y = x then a else plF (a + y.length + 1) r x
def atF : Nat → List (List UInt8) → Int → Option (List UInt8)
  | _, [], _ => none
  | a, y :: r, p => if (a : Int) = p then some y else atF (a + y.length + 1) r p
theorem szF_ge : ∀ (N : List (List UInt8)) (a : Nat), a + N.length ≤ szF a N
  | [], a => by simp [szF]
  | y :: r, a => by have := szF_ge r (a + y.length + 1); simp only [szF, List.length_cons]; omega
theorem szF_add : ∀ (N M : List (List UInt8)) (a : Nat), szF a (N ++ M) = szF (szF a N) M
  | [], _, _ => rfl
  | y :: r, M, a => by simp only [List.cons_append, szF]; exact szF_add r M _
theorem szF_snoc (N : List (List UInt8)) (x : List UInt8) (a : Nat) : szF a (N ++ [x]) = szF a N + x.length + 1 := by rw [szF_add]; rfl
theorem stF_add : ∀ (N M : List (List UInt8)) (a : Nat), stF a (N ++ M) = stF a N ++ stF (szF a N) M
  | [], _, _ => rfl
  | y :: r, M, a => by simp only [List.cons_append, stF, szF]; rw [stF_add r M]
theorem stF_snoc (N : List (List UInt8)) (x : List UInt8) (a : Nat) : stF a (N ++ [x]) = stF a N ++ [(szF a N : Int)] := by rw [stF_add]; rfl
theorem stF_len : ∀ (N : List (List UInt8)) (a : Nat), (stF a N).length = N.length
  | [], _ => rfl
  | y :: r, a => by simp only [stF, List.length_cons]; rw [stF_len r]
theorem stF_ge : ∀ (N : List (List UInt8)) (a : Nat) (z : Int), z ∈ stF a N → (a : Int) ≤ z
  | [], _, _, h => by simp [stF] at h
  | y :: r, a, z, h => by
    simp only [stF, List.mem_cons] at h
    rcases h with rfl | h
    · exact Int.le_refl _
    · have := stF_ge r _ z h; omega
theorem stF_rise : ∀ (N : List (List UInt8)) (a : Nat), (stF a N).Pairwise (· ≤ ·)
  | [], _ => List.Pairwise.nil
  | y :: r, a => List.Pairwise.cons (fun z hz => by have := stF_ge r _ z hz; omega) (stF_rise r _)
theorem plF_zero : ∀ (N : List (List UInt8)) (a : Nat) (x : List UInt8), 1 ≤ a → (x ∈ N ↔ 0 < plF a N x)
  | [], _, _, _ => by simp [plF]
  | y :: r, a, x, h => by
    unfold plF
    by_cases e : y = x
    · rw [if_pos e]; simp [e]; omega
    · rw [if_neg e, ← plF_zero r _ x (by omega)]; simp [Ne.symm e]
theorem plF_snoc : ∀ (N : List (List UInt8)) (a : Nat) (y x : List UInt8), plF a (N ++ [y]) x = if x ∈ N then plF a N x else if y = x then szF a N else 0
  | [], a, y, x => by simp [plF, szF]
  | z :: r, a, y, x => by
    simp only [List.cons_append, plF, szF]
    by_cases e : z = x
    · rw [if_pos e]; simp [e]
    · rw [if_neg e, plF_snoc r _ y x, if_neg e]
      simp [Ne.symm e]
theorem at_search : ∀ (N : List (List UInt8)) (a : Nat) (p : Int), (stF a N).contains p = (atF a N p).isSome ∧ ∀ x, atF a N p = some x → N[(stF a N).countP (· < p)]? = some x
  | [], _, _ => by simp [stF, atF]
  | y :: r, a, p => by
    obtain ⟨h1, h2⟩ := at_search r (a + y.length + 1) p
    unfold stF atF
    by_cases e : (a : Int) = p
    · rw [if_pos e]
      refine ⟨by simp [e], fun x hx => ?_⟩
      have h0 : (stF (a + y.length + 1) r).countP (· < p) = 0 := by
        rw [List.countP_eq_zero]
        intro z hz
        have := stF_ge r _ z hz
        simp; omega
      rw [List.countP_cons, h0]
      simp [e]
      exact Option.some.inj hx
    · rw [if_neg e]
      refine ⟨by rw [← h1]; simp [Ne.symm e], fun x hx => ?_⟩
      have h3 := h2 x hx
      by_cases hl : (a : Int) < p
      · rw [List.countP_cons_of_pos (by simpa using hl)]
        simpa using h3
      · exfalso
        have hc : (stF (a + y.length + 1) r).contains p = true := by rw [h1, hx]; rfl
        have := stF_ge r _ p (by simpa using hc)
        omega
theorem plF_at : ∀ (N : List (List UInt8)) (a : Nat) (x : List UInt8), x ∈ N → ∃ k, N[k]? = some x ∧ plF a N x = szF a (N.take k)
  | [], _, _, h => by simp at h
  | y :: r, a, x, h => by
    unfold plF
    by_cases e : y = x
    · exact ⟨0, by simp [e], by rw [if_pos e]; rfl⟩
    · rw [if_neg e]
      obtain ⟨k, h1, h2⟩ := plF_at r (a + y.length + 1) x (by simpa [Ne.symm e] using h)
      exact ⟨k + 1, by simpa using h1, by rw [h2]; rfl⟩
def byF (N : List (List UInt8)) : List UInt8 := N.flatMap fun x => x ++ [0]
def byP (N : List (List UInt8)) : List UInt8 := 0 :: byF N
theorem byF_snoc (N : List (List UInt8)) (x : List UInt8) : byF (N ++ [x]) = byF N ++ (x ++ [0]) := by simp [byF]
theorem byF_len : ∀ (N : List (List UInt8)) (a : Nat), a + (byF N).length = szF a N
  | [], _ => rfl
  | y :: r, a => by
    have := byF_len r (a + y.length + 1)
    simp only [byF, List.flatMap_cons, List.length_append, List.length_cons, List.length_nil, szF] at this ⊢
    omega
theorem byP_len (N : List (List UInt8)) : (byP N).length = szF 1 N := by rw [← byF_len N 1]; simp [byP]; omega
def nameOk (x : List UInt8) : Bool := !x.isEmpty && decide (x.length ≤ 64) && !x.contains 0
def nmP (l : List UInt8) : List UInt8 := if (l.take 65).contains 0 then l.takeWhile (fun b => b != 0) else []
def rdF : Nat → List UInt8 → List (List UInt8) → Option (List (List UInt8)) × Nat
  | 0, _, N => (some N, 0)
  | _ + 1, [], N => (some N, 0)
  | f + 1, c :: r, N => if nmP (c :: r) ∈ N ∨ nmP (c :: r) = [] then (none, szF 1 N) else rdF f ((c :: r).drop ((nmP (c :: r)).length + 1)) (N ++ [nmP (c :: r)])
def rdP : List UInt8 → Option (List (List UInt8)) × Nat
  | [] => (none, 0)
  | c :: r => if c = 0 then rdF r.length r [] else (none, 0)
theorem rdF_fuel : ∀ (f g : Nat) (l : List UInt8) (N : List (List UInt8)), l.length ≤ f → l.length ≤ g → rdF f l N = rdF g l N
  | 0, 0, _, _, _, _ => rfl
  | 0, g + 1, [], _, _, _ => rfl
  | 0, g + 1, c :: r, _, h, _ => by simp at h
  | f + 1, 0, [], _, _, _ => rfl
  | f + 1, 0, c :: r, _, _, h => by simp at h
  | f + 1, g + 1, [], _, _, _ => rfl
  | f + 1, g + 1, c :: r, N, hf, hg => by
    unfold rdF
    have hd : ((c :: r).drop ((nmP (c :: r)).length + 1)).length ≤ r.length := by rw [List.length_drop]; simp
    simp only [List.length_cons] at hf hg
    rw [rdF_fuel f g _ _ (by omega) (by omega)]
end Go.Proofs.YthififblejbleaaGreatDoor
namespace Go.Proofs.YthififblejbleaaGreatDoor
open Go.RowKit
open Go.Maps (Keyed)
set_option linter.unusedVariables false
set_option linter.unusedSimpArgs false
def strV (l : List UInt8) : Value := .string ⟨l.toArray⟩
theorem owns_chg {B size : Nat} {S : Nat → Prop} {w w' : World} {e : TypeId} {v : Value} {n : Nat} {xs : List Value} (h : w.ownsRow B e size v n xs) (hs : ∀ k, v.ownBlock = some k → ¬ S k) (hc : Chg S w w') : w'.ownsRow B e size v n xs := by
  refine ⟨h.1, ?_⟩
  rcases h.2 with hn | ⟨g, cap, cur, rfl, hb, hg, rest⟩
  · exact .inl hn
  · refine .inr ⟨g, cap, cur, rfl, hb, ?_, rest⟩
    rw [hc.block g (Array.getElem?_eq_some_iff.1 hg).1 (hs g rfl)]
    exact hg
theorem own_form {B n sz : Nat} {X : World} {e : TypeId} {v : Value} {xs : List Value} (h : X.ownsRow B e sz v n xs) : ∃ ad cp, v = .slice ad n cp := by
  rcases h.2 with ⟨rfl, rfl⟩ | ⟨g, cap, cur, rfl, _⟩
  · exact ⟨none, 0, rfl⟩
  · exact ⟨_, _, rfl⟩
theorem news_new (w : World) (cs : Array Value) (t : TypeId) (b : Nat) (hb : b = w.heap.size) : ∀ j u, cs.toList[j]? = some u → (w.alloc (.cells cs t)).cell? ((⟨b, 0, none⟩ : Addr).add j) = some u := by
  intro j u hu
  rw [WideShapes.add_plain, Nat.zero_add, cell_fresh _ _ _ _ _ hb]
  simpa using hu
theorem own_type {B n sz : Nat} {w : World} {e t : TypeId} {v : Value} {xs : List Value} {k : Nat} {cs : Array Value} (h : w.ownsRow B e sz v n xs) (hk : w.heap[k]? = some (.cells cs t (0, 0))) (he : ¬ e = t) : ¬ v.ownBlock = some k := fun hv => by
  rcases h.2 with ⟨rfl, rfl⟩ | ⟨g, cap, cur, rfl, _, hg, _⟩
  · cases hv
  · simp [Value.ownBlock] at hv
    subst hv
    rw [hg] at hk
    simp at hk
    exact he hk.2
theorem own_apart {B B' s s' n n' : Nat} {w : World} {e e' : TypeId} {v v' : Value} {xs xs' : List Value} (he : ¬ e = e') (h : w.ownsRow B e s v n xs) (h' : w.ownsRow B' e' s' v' n' xs') : ∀ k, v.ownBlock = some k → ¬ v'.ownBlock = some k := fun k hk hk' => by
  rcases h.2 with ⟨hv, _⟩ | ⟨g, cap, cur, hv, _, hg, _⟩
  · rw [hv] at hk; cases hk
  · rw [hv] at hk
    simp [Value.ownBlock] at hk
    subst hk
    exact own_type h' hg (Ne.symm he) hk'
theorem infoStr : (Tryz.prog.info? 9).map (fun i => (i.zero, i.size, i.bytes)) = some (some (.string ⟨#[]⟩), 1, 16) := by kernel_rfl
theorem infoInt : (Tryz.prog.info? 3).map (fun i => (i.zero, i.size, i.bytes)) = some (some (.int .i64 0), 1, 8) := by kernel_rfl
theorem strLaw : Keyed Tryz.prog 9 := Maps.string_keyed Tryz.underlying9
theorem keyOf_tx (l : List UInt8) (h : l.length ≤ 1000000000000) : keyOf Tryz.prog 9 (.string ⟨l.toArray⟩) = some (.string l) := by
  have := WideMaps.keyOf_string_mk (P := Tryz.prog) (k := 9) Tryz.underlying9 (s := ⟨l.toArray⟩) (by show l.toArray.size ≤ _; rw [List.size_toArray]; unfold maxLen; omega)
  simpa using this
noncomputable def PE : Value → Option (DataW Unit × List MemPlace) := plainElem Tryz.prog 3
def MapIs (D : DataW Unit) (N : List (List UInt8)) : Prop := Maps.IsMap D ∧ ∀ x, Maps.has D (.string x) = decide (x ∈ N) ∧ (x ∈ N → D.atKey (.string x) (.lit (.int .i64 0)) = .lit (.int .i64 (plF 1 N x : Nat)))
theorem MapIs.nil : MapIs (.map []) [] := ⟨⟨_, rfl⟩, fun x => ⟨by simp [Maps.has_eq], by simp⟩⟩
theorem isKey (x : List UInt8) : WideAt.IsKeyLit (.string x) := by simp [WideAt.IsKeyLit]
theorem MapIs.snoc {D : DataW Unit} {N : List (List UInt8)} (h : MapIs D N) {x : List UInt8} (hx : ¬ x ∈ N) : MapIs (D.put (.string x) (.lit (.int .i64 (szF 1 N : Nat)))) (N ++ [x]) := by
  refine ⟨h.1.put _ _, fun y => ?_⟩
  by_cases e : y = x
  · subst e
    refine ⟨by rw [Maps.has_put_same h.1 (isKey y)]; simp, fun _ => ?_⟩
    rw [Maps.atKey_put_same h.1 (isKey y), plF_snoc, if_neg hx, if_pos rfl]
  · have hne : (Lit.string y) ≠ .string x := by intro h; cases h; exact e rfl
    refine ⟨by rw [Maps.has_put_other hne, (h.2 y).1]; simp [e], fun hy => ?_⟩
    have hy' : y ∈ N := by simpa [e] using hy
    rw [Maps.atKey_put_other hne, (h.2 y).2 hy', plF_snoc, if_pos hy']
def mapBlk : Value → Option Nat
  | .map b => b
  | _ => none
def MapOk (w : World) (mv : Value) (N : List (List UInt8)) : Prop := (mv = .map none ∧ N = []) ∨ ∃ b D, mv = .map (some b) ∧ w.ownsMap Tryz.prog 9 PE b N.length D ∧ MapIs D N
def fp (p : Nat) (nv sv mv : Value) (k : Nat) : Prop := k = p ∨ nv.ownBlock = some k ∨ sv.ownBlock = some k ∨ mapBlk mv = some k
structure T3 (p : Nat) (w : World) (A B C : List (List UInt8)) (nv sv mv : Value) : Prop where
  at_ : w.heap[p]? = some (.cells #[nv, sv, mv] 158 (0, 0))
  nm : w.ownsRow 0 9 1 nv A.length (A.map strV)
  st : w.ownsRow 0 3 1 sv B.length ((stF 1 B).map (Value.int .i64))
  mp : MapOk w mv C
theorem MapOk.chg {w w' : World} {mv : Value} {N : List (List UInt8)} {S : Nat → Prop} (h : MapOk w mv N) (hc : Chg S w w') (hs : ∀ k, mapBlk mv = some k → ¬ S k) : MapOk w' mv N := by
  rcases h with h | ⟨b, D, rfl, ho, hm⟩
  · exact .inl h
  · refine .inr ⟨b, D, rfl, ?_, hm⟩
    have hlt := ho.lt
    obtain ⟨es, clock, hb, r⟩ := ho
    exact ⟨es, clock, (hc.block b hlt (hs b rfl)).trans hb, r⟩
theorem T3.chg {p : Nat} {w w' : World} {A B C : List (List UInt8)} {nv sv mv : Value} {S : Nat → Prop} (h : T3 p w A B C nv sv mv) (hc : Chg S w w') (hs : ∀ k, fp p nv sv mv k → ¬ S k) : T3 p w' A B C nv sv mv :=
  ⟨(hc.block p (Array.getElem?_eq_some_iff.1 h.at_).1 (hs p (.inl rfl))).trans h.at_, owns_chg h.nm (fun k hk => hs k (.inr (.inl hk))) hc, owns_chg h.st (fun k hk => hs k (.inr (.inr (.inl hk)))) hc, h.mp.chg hc (fun k hk => hs k (.inr (.inr (.inr hk))))⟩
theorem T3.out {p : Nat} {w w' : World} {A B C : List (List UInt8)} {nv sv mv : Value} (h : T3 p w A B C nv sv mv) (o : Out w w') : T3 p w' A B C nv sv mv := h.chg (S := fun _ => False) (Chg.of_out o) (fun _ _ h => h)
theorem T3.cell {p : Nat} {w : World} {A B C : List (List UInt8)} {nv sv mv : Value} (h : T3 p w A B C nv sv mv) (j : Nat) : w.cell? ⟨p, j, none⟩ = (#[nv, sv, mv] : Array Value)[j]? := by simp [World.cell?, h.at_]
theorem T3.frozen {p : Nat} {w : World} {A B C : List (List UInt8)} {nv sv mv : Value} (h : T3 p w A B C nv sv mv) (j : Nat) : w.frozen? ⟨p, j, none⟩ = false := by simp [World.frozen?, h.at_]
theorem T3.lt {p : Nat} {w : World} {A B C : List (List UInt8)} {nv sv mv : Value} (h : T3 p w A B C nv sv mv) : p < w.heap.size := (Array.getElem?_eq_some_iff.1 h.at_).1
theorem MapOk.lt {w : World} {mv : Value} {N : List (List UInt8)} (h : MapOk w mv N) : ∀ k, mapBlk mv = some k → k < w.heap.size := fun k hk => by
  rcases h with ⟨rfl, _⟩ | ⟨b, D, rfl, ho, hm⟩
  · cases hk
  · cases hk; exact ho.lt
theorem T3.fp_lt {p : Nat} {w : World} {A B C : List (List UInt8)} {nv sv mv : Value} (h : T3 p w A B C nv sv mv) : ∀ k, fp p nv sv mv k → k < w.heap.size := fun k hk => by
  rcases hk with rfl | hk | hk | hk
  · exact h.lt
  · exact (h.nm.lt k hk).2
  · exact (h.st.lt k hk).2
  · exact h.mp.lt k hk
theorem T3.np {p : Nat} {w : World} {A B C : List (List UInt8)} {nv sv mv : Value} (h : T3 p w A B C nv sv mv) : ¬ nv.ownBlock = some p := own_type h.nm h.at_ (by decide)
theorem T3.sp {p : Nat} {w : World} {A B C : List (List UInt8)} {nv sv mv : Value} (h : T3 p w A B C nv sv mv) : ¬ sv.ownBlock = some p := own_type h.st h.at_ (by decide)
theorem map_cells {w : World} {mv : Value} {N : List (List UInt8)} (h : MapOk w mv N) {k : Nat} {cs : Array Value} {t : TypeId} {z : Nat × Nat} (hk : w.heap[k]? = some (.cells cs t z)) : ¬ mapBlk mv = some k := fun e => by
  rcases h with ⟨rfl, _⟩ | ⟨b, D, rfl, ho, hm⟩
  · cases e
  · cases e
    obtain ⟨es, clock, hb, _⟩ := ho
    rw [hb] at hk
    cases hk
theorem map_row {w : World} {mv v : Value} {N : List (List UInt8)} {B n sz : Nat} {e : TypeId} {xs : List Value} (h : MapOk w mv N) (ho : w.ownsRow B e sz v n xs) : ∀ k, v.ownBlock = some k → ¬ mapBlk mv = some k := fun k hk => by
  rcases ho.2 with ⟨rfl, rfl⟩ | ⟨g, cap, cur, rfl, _, hg, _⟩
  · cases hk
  · simp [Value.ownBlock] at hk
    subst hk
    exact map_cells h hg
theorem T3.names {p g cap : Nat} {X w' : World} {A B C : List (List UInt8)} {nv sv mv v' : Value} {x : List UInt8} (h : T3 p X A B C nv sv mv) (hg : X.grownBy w' nv.ownBlock) (hv : v' = .slice (some ⟨g, 0, none⟩) (A.length + 1) cap) (ho : w'.ownsRow 0 9 1 v' (A.length + 1) (A.map strV ++ [strV x])) (hw : nv.ownBlock = some g ∨ g = X.heap.size) :
    T3 p (w'.setCell ⟨p, 0, none⟩ v') (A ++ [x]) B C v' sv mv ∧ Chg (fp p nv sv mv) X (w'.setCell ⟨p, 0, none⟩ v') := by
  have hc : Chg (fun k => nv.ownBlock = some k) X w' := Chg.of_grown hg (fun k hk => hk)
  have hp : w'.heap[p]? = X.heap[p]? := hc.block p h.lt h.np
  have hne : ¬ g = p := by
    rcases hw with hw | hw
    · intro e; exact h.np (by rw [hw, e])
    · have := h.lt; omega
  have c2 : Chg (fun k => k = p) w' (w'.setCell ⟨p, 0, none⟩ v') := Chg.setCell (S := fun k => k = p) (Chg.refl _ w') (p := ⟨p, 0, none⟩) rfl v'
  refine ⟨⟨?_, ?_, ?_, ?_⟩, ?_⟩
  · simp [World.setCell, Array.getElem?_modify, hp, h.at_]
  · have := owns_chg ho (fun k hk e => by rw [hv] at hk; simp [Value.ownBlock] at hk; exact hne (by rw [hk, e])) c2
    simpa using this
  · exact owns_chg (owns_chg h.st (fun k hk hk' => own_apart (by decide) h.st h.nm k hk hk') hc) (fun k hk e => h.sp (by rw [← e]; exact hk)) c2
  · refine (h.mp.chg hc (fun k hk hk' => map_row h.mp h.nm k hk' hk)).chg c2 (fun k hk e => ?_)
    exact map_cells h.mp h.at_ (by rw [← e]; exact hk)
  · exact (hc.mono (fun k hk _ => .inr (.inl hk))).trans c2 (fun k hk _ => .inl hk)
theorem T3.starts {p g cap : Nat} {X w' : World} {A B C : List (List UInt8)} {nv sv mv v' : Value} {x : List UInt8} (h : T3 p X A B C nv sv mv) (hg : X.grownBy w' sv.ownBlock) (hv : v' = .slice (some ⟨g, 0, none⟩) (B.length + 1) cap) (ho : w'.ownsRow 0 3 1 v' (B.length + 1) ((stF 1 B).map (Value.int .i64) ++ [.int .i64 (szF 1 B : Nat)])) (hw : sv.ownBlock = some g ∨ g = X.heap.size) :
    T3 p (w'.setCell ⟨p, 1, none⟩ v') A (B ++ [x]) C nv v' mv ∧ Chg (fp p nv sv mv) X (w'.setCell ⟨p, 1, none⟩ v') := by
  have hc : Chg (fun k => sv.ownBlock = some k) X w' := Chg.of_grown hg (fun k hk => hk)
  have hp : w'.heap[p]? = X.heap[p]? := hc.block p h.lt h.sp
  have hne : ¬ g = p := by
    rcases hw with hw | hw
    · intro e; exact h.sp (by rw [hw, e])
    · have := h.lt; omega
  have c2 : Chg (fun k => k = p) w' (w'.setCell ⟨p, 1, none⟩ v') := Chg.setCell (S := fun k => k = p) (Chg.refl _ w') (p := ⟨p, 1, none⟩) rfl v'
  refine ⟨⟨?_, ?_, ?_, ?_⟩, ?_⟩
  · simp [World.setCell, Array.getElem?_modify, hp, h.at_]
  · exact owns_chg (owns_chg h.nm (fun k hk hk' => own_apart (by decide) h.nm h.st k hk hk') hc) (fun k hk e => h.np (by rw [← e]; exact hk)) c2
  · have := owns_chg ho (fun k hk e => by rw [hv] at hk; simp [Value.ownBlock] at hk; exact hne (by rw [hk, e])) c2
    rw [stF_snoc]
    simpa using this
  · refine (h.mp.chg hc (fun k hk hk' => map_row h.mp h.st k hk' hk)).chg c2 (fun k hk e => ?_)
    exact map_cells h.mp h.at_ (by rw [← e]; exact hk)
  · exact (hc.mono (fun k hk _ => .inr (.inr (.inl hk)))).trans c2 (fun k hk _ => .inl hk)
theorem T3.put {p b : Nat} {X w' : World} {A B C : List (List UInt8)} {nv sv : Value} {D : DataW Unit} {x : List UInt8} (h : T3 p X A B C nv sv (.map (some b))) (hg : X.grownBy w' (some b)) (ho : w'.ownsMap Tryz.prog 9 PE b (C.length + 1) D) (hm : MapIs D (C ++ [x])) :
    T3 p w' A B (C ++ [x]) nv sv (.map (some b)) ∧ Chg (fp p nv sv (.map (some b))) X w' := by
  have hc : Chg (fun k => k = b) X w' := Chg.of_grown hg (fun k hk => by cases hk; rfl)
  refine ⟨⟨?_, ?_, ?_, ?_⟩, hc.mono (fun k hk _ => .inr (.inr (.inr (by rw [hk]; rfl))))⟩
  · exact (hc.block p h.lt (fun e => map_cells h.mp h.at_ (by rw [e]; rfl))).trans h.at_
  · exact owns_chg h.nm (fun k hk e => map_row h.mp h.nm k hk (by rw [e]; rfl)) hc
  · exact owns_chg h.st (fun k hk e => map_row h.mp h.st k hk (by rw [e]; rfl)) hc
  · exact .inr ⟨b, D, rfl, by simpa using ho, hm⟩
theorem T3.made {p : Nat} {w : World} {A B : List (List UInt8)} {nv sv : Value} (h : T3 p w A B [] nv sv (.map none)) :
    T3 p ((w.alloc (.map #[] 0)).setCell ⟨p, 2, none⟩ (.map (some w.heap.size))) A B [] nv sv (.map (some w.heap.size)) ∧ Chg (fp p nv sv (.map none)) w ((w.alloc (.map #[] 0)).setCell ⟨p, 2, none⟩ (.map (some w.heap.size))) := by
  have h1 := h.out ((Out.refl w).alloc (.map #[] 0))
  have hm := World.ownsMap_made w Tryz.prog 9 PE
  generalize hX : w.alloc (.map #[] 0) = X at *
  have c2 : Chg (fun k => k = p) X (X.setCell ⟨p, 2, none⟩ (.map (some w.heap.size))) := Chg.setCell (S := fun k => k = p) (Chg.refl _ X) (p := ⟨p, 2, none⟩) rfl _
  have hlt := h.lt
  refine ⟨⟨?_, ?_, ?_, ?_⟩, ?_⟩
  · simp [World.setCell, Array.getElem?_modify, h1.at_]
  · exact owns_chg h1.nm (fun k hk e => h1.np (by rw [← e]; exact hk)) c2
  · exact owns_chg h1.st (fun k hk e => h1.sp (by rw [← e]; exact hk)) c2
  · exact .inr ⟨w.heap.size, .map [], rfl, hm.setCell (a := ⟨p, 2, none⟩) (by show w.heap.size ≠ p; omega) _, MapIs.nil⟩
  · rw [← hX]
    exact Chg.setCell ((Chg.refl _ w).alloc _) (p := ⟨p, 2, none⟩) (.inl rfl) _
end Go.Proofs.YthififblejbleaaGreatDoor
