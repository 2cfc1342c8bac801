import Derived.Test.YtekjfbmebekmeaaGreatProg
import Derived.WalkKit
import Derived.WalkSpells
import Derived.Deep.QuietTactic
import Derived.BigQuiet
import Derived.Deep.OwnRows
import Derived.Deep.RegionLaw
import Derived.Deep.AppendLies
import Derived.OwnWalk
import Derived.Deep.RegionHeld3
import Derived.Deep.Cut
import Derived.Maps.OwnSet
namespace Go.Proofs.YtekjfbmebekmeaaGreat
open Go.RowKit
set_option linter.unusedVariables false
set_option linter.unusedSimpArgs false
theorem hidOf {p : Prop} (h : p) : Hid p := h
theorem ret_bool {w : World} {a b : Bool} (h : a = b) : Ending.returned (Value.bool a) = Ending.returned (Value.bool b) ∧ w = w := ⟨by rw [h], rfl⟩
theorem ret_int {w : World} {k : IntKind} {a b : Int} (h : a = b) : Ending.returned (Value.int k a) = Ending.returned (Value.int k b) ∧ w = w := ⟨by rw [h], rfl⟩
/-- of what was there nothing turns -/
def Out (w w' : World) : Prop := Below w.heap.size w w'
theorem Out.refl (w : World) : Out w w := Below.refl _ _
theorem Out.alloc {w w' : World} (h : Out w w') (o : Obj) : Out w (w'.alloc o) := Below.alloc h h.size o
theorem Out.drew {w w' : World} (h : Out w w') : Out w w'.drew := Below.drew h
theorem Out.drewN {w w' : World} (h : Out w w') (n : Nat) : Out w (w'.drewN n) := ⟨h.os, h.tape, h.output, h.size, h.block⟩
theorem Out.trans {a b c : World} (h : Out a b) (k : Out b c) : Out a c := Below.trans h (Below.mono k h.size)
theorem Out.cells {w w' : World} (h : Out w w') (b o : Nat) (hb : b < w.heap.size) : w'.cell? ⟨b, o, none⟩ = w.cell? ⟨b, o, none⟩ := Below.cell h hb
theorem Out.size {w w' : World} (h : Out w w') : w.heap.size ≤ w'.heap.size := Below.size h
theorem Out.setCell {w w' : World} (h : Out w w') {a : Addr} (ha : w.heap.size ≤ a.block) (u : Value) : Out w (w'.setCell a u) := Below.setCell h ha u
theorem cell_later {w w' : World} (o : Out w w') {a : Addr} {v : Value} (h : w.cell? a = some v) : w'.cell? a = some v := by
  rw [← h]; exact World.cell?_of_block (o.block _ (World.block_lt_of_cell? w a h))
theorem size_alloc (w : World) (o : Obj) : (w.alloc o).heap.size = w.heap.size + 1 := by
  show (w.heap.push o).size = _
  simp
theorem heap_drew' (w : World) : w.drew.heap = w.heap := rfl
theorem cell_fresh (w : World) (cs : Array Value) (t : TypeId) (j : Nat) (b : Nat) (hb : b = w.heap.size) : (w.alloc (.cells cs t)).cell? ⟨b, j, none⟩ = cs[j]? := by
  subst hb
  rw [World.cell?, show (w.alloc (.cells cs t)).heap[w.heap.size]? = some (.cells cs t) from heap_alloc_new w _]
  rfl
/-- only blocks of S, or new ones, are changed -/
structure Chg (S : Nat → Prop) (w w' : World) : Prop where
  os : w'.os = w.os
  tape : w'.tape = w.tape
  output : w'.output = w.output
  size : w.heap.size ≤ w'.heap.size
  block : ∀ k, k < w.heap.size → ¬ S k → w'.heap[k]? = w.heap[k]?
theorem Chg.refl (S : Nat → Prop) (w : World) : Chg S w w := ⟨rfl, rfl, rfl, Nat.le_refl _, fun _ _ _ => rfl⟩
theorem Chg.trans {S T : Nat → Prop} {a b c : World} (h : Chg S a b) (k : Chg T b c) (hST : ∀ x, T x → x < a.heap.size → S x) : Chg S a c :=
  ⟨k.os.trans h.os, k.tape.trans h.tape, k.output.trans h.output, Nat.le_trans h.size k.size, fun i hi hs => (k.block i (Nat.lt_of_lt_of_le hi h.size) (fun ht => hs (hST i ht hi))).trans (h.block i hi hs)⟩
theorem Chg.of_out {S : Nat → Prop} {w w' : World} (h : Out w w') : Chg S w w' := ⟨h.os, h.tape, h.output, h.size, fun k hk _ => h.block k hk⟩
theorem Chg.of_grown {S : Nat → Prop} {w w' : World} {row : Option Nat} (h : w.grownBy w' row) (hr : ∀ k, row = some k → S k) : Chg S w w' :=
  ⟨h.os, h.tape, h.output, h.size, fun k hk hs => h.block k hk (fun e => hs (hr k e.symm))⟩
theorem Chg.alloc {S : Nat → Prop} {a w : World} (h : Chg S a w) (o : Obj) : Chg S a (w.alloc o) :=
  h.trans (T := fun _ => False) ⟨rfl, rfl, rfl, by simp, fun k hk _ => Below.heap_alloc _ _ _ hk⟩ (fun _ hx _ => hx.elim)
theorem Chg.drew {S : Nat → Prop} {a w : World} (h : Chg S a w) : Chg S a w.drew := ⟨h.os, h.tape, h.output, h.size, h.block⟩
theorem Chg.setCell {S : Nat → Prop} {a w : World} (h : Chg S a w) {p : Addr} (hp : S p.block) (u : Value) : Chg S a (w.setCell p u) :=
  h.trans (T := fun k => k = p.block) ⟨rfl, rfl, rfl, by simp [World.setCell], fun k hk hs => Below.heap_setCell _ _ _ _ hs⟩ (fun x hx _ => hx ▸ hp)
theorem Chg.mono {S T : Nat → Prop} {w w' : World} (h : Chg S w w') (hST : ∀ x, S x → x < w.heap.size → T x) : Chg T w w' :=
  ⟨h.os, h.tape, h.output, h.size, fun k hk ht => h.block k hk (fun hs => ht (hST k hs hk))⟩
theorem Chg.below {S : Nat → Prop} {B : Nat} {w w' : World} (h : Chg S w w') (hB : B ≤ w.heap.size) (hS : ∀ k, S k → B ≤ k) : Below B w w' :=
  ⟨h.os, h.tape, h.output, h.size, fun k hk => h.block k (by omega) (fun hs => by have := hS k hs; omega)⟩
theorem Chg.out {S : Nat → Prop} {w0 w w' : World} (h : Chg S w w') (ho : Out w0 w) (hS : ∀ k, S k → w0.heap.size ≤ k) : Out w0 w' :=
  Below.trans ho (h.below ho.size hS)
theorem Chg.cell {S : Nat → Prop} {w w' : World} (h : Chg S w w') {a : Addr} {v : Value} (hc : w.cell? a = some v) (hs : ¬ S a.block) : w'.cell? a = some v := by
  rw [← hc]; exact World.cell?_of_block (h.block _ (World.block_lt_of_cell? w a hc) hs)
/-- bytes by their kinds -/
def letP (c : Int) : Bool := decide (97 ≤ c) && decide (c ≤ 122) || decide (65 ≤ c) && decide (c ≤ 90) || c == 95
def digP (c : Int) : Bool := decide (48 ≤ c) && decide (c ≤ 57)
def runP (c : Int) : Bool := letP c || digP c || c == 46 || c == 36
def hexP (c : Int) : Bool := digP c || decide (97 ≤ c) && decide (c ≤ 102) || decide (65 ≤ c) && decide (c ≤ 70)
def bI (b : UInt8) : Int := b.toNat
def runU (b : UInt8) : Bool := runP (bI b)
def kindP (c : Int) : Int :=
  if letP c = true then 3 else if digP c = true then 4 else if c = 32 ∨ c = 9 ∨ c = 13 then 1 else if c = 59 ∨ c = 35 then 2
  else if c = 46 then 5 else if c = 36 then 6 else if c = 58 ∨ c = 44 ∨ c = 91 ∨ c = 93 ∨ c = 43 ∨ c = 45 then 7 else 0
theorem lsize (s : ByteArray) : s.toList.length = s.size := by rw [ByteArray.toList_eq]; rfl
theorem lget (s : ByteArray) (k : Nat) (h : k < s.size) : s.toList[k]? = some s[k] := by
  rw [ByteArray.toList_eq]
  simp [ByteArray.getElem_eq_getElem_data, show k < s.data.size from h]
theorem mk_list (l : List UInt8) : (⟨l.toArray⟩ : ByteArray).toList = l := by rw [ByteArray.toList_eq]
theorem mk_size (l : List UInt8) : (⟨l.toArray⟩ : ByteArray).size = l.length := by rw [← lsize, mk_list]
theorem runP_kind (c : Int) : runP c = (kindP c == 3 || kindP c == 4 || kindP c == 5 || kindP c == 6) := by
  unfold runP kindP
  cases h1 : letP c <;> cases h2 : digP c <;> simp
  by_cases a : c = 46
  · subst a; decide
  by_cases b : c = 36
  · subst b; decide
  simp [a, b]
  repeat' split
  all_goals simp [a, b]
end Go.Proofs.YtekjfbmebekmeaaGreat
namespace Go.Proofs.YtekjfbmebekmeaaGreat
open Go.RowKit
set_option linter.unusedVariables false
set_option linter.unusedSimpArgs false
/-- names, in plain words: the size of what stands behind a place -/
def szF : Nat → List (List UInt8) → Nat
  | a, [] => a
  | a, y :: r => szF (a + y.length + 1) r
def stF : Nat → List (List UInt8) → List Int
  | _, [] => []
  | a, y :: r => (a : Int) :: stF (a + y.length + 1) r
def plF : Nat → List (List UInt8) → List UInt8 → Nat
  | _, [], _ => 0
  | a, y :: r, x => if y = x then a else plF (a + y.length + 1) r x
def atF : Nat → List (List UInt8) → Int → Option (List UInt8)
  | _, [], _ => none
  | a, y :: r, p => if (a : Int) = p then some y else atF (a + y.length + 1) r p
theorem szF_ge : ∀ (N : List (List UInt8)) (a : Nat), a + N.length ≤ szF a N
  | [], a => by simp [szF]
  | y :: r, a => by have := szF_ge r (a + y.length + 1); simp only [szF, List.length_cons]; omega
theorem szF_add : ∀ (N M : List (List UInt8)) (a : Nat), szF a (N ++ M) = szF (szF a N) M
  | [], _, _ => rfl
  | y :: r, M, a => by simp only [List.cons_append, szF]; exact szF_add r M _
theorem szF_snoc (N : List (List UInt8)) (x : List UInt8) (a : Nat) : szF a (N ++ [x]) = szF a N + x.length + 1 := by rw [szF_add]; rfl
theorem stF_add : ∀ (N M : List (List UInt8)) (a : Nat), stF a (N ++ M) = stF a N ++ stF (szF a N) M
  | [], _, _ => rfl
  | y :: r, M, a => by simp only [List.cons_append, stF, szF]; rw [stF_add r M]
theorem stF_snoc (N : List (List UInt8)) (x : List UInt8) (a : Nat) : stF a (N ++ [x]) = stF a N ++ [(szF a N : Int)] := by rw [stF_add]; rfl
theorem stF_len : ∀ (N : List (List UInt8)) (a : Nat), (stF a N).length = N.length
  | [], _ => rfl
  | y :: r, a => by simp only [stF, List.length_cons]; rw [stF_len r]
theorem stF_ge : ∀ (N : List (List UInt8)) (a : Nat) (z : Int), z ∈ stF a N → (a : Int) ≤ z
  | [], _, _, h => by simp [stF] at h
  | y :: r, a, z, h => by
    simp only [stF, List.mem_cons] at h
    rcases h with rfl | h
    · exact Int.le_refl _
    · have := stF_ge r _ z h; omega
theorem stF_rise : ∀ (N : List (List UInt8)) (a : Nat), (stF a N).Pairwise (· ≤ ·)
  | [], _ => List.Pairwise.nil
  | y :: r, a => List.Pairwise.cons (fun z hz => by have := stF_ge r _ z hz; omega) (stF_rise r _)
theorem plF_zero : ∀ (N : List (List UInt8)) (a : Nat) (x : List UInt8), 1 ≤ a → (x ∈ N ↔ 0 < plF a N x)
  | [], _, _, _ => by simp [plF]
  | y :: r, a, x, h => by
    unfold plF
    by_cases e : y = x
    · rw [if_pos e]; simp [e]; omega
    · rw [if_neg e, ← plF_zero r _ x (by omega)]; simp [Ne.symm e]
theorem plF_snoc : ∀ (N : List (List UInt8)) (a : Nat) (y x : List UInt8), plF a (N ++ [y]) x = if x ∈ N then plF a N x else if y = x then szF a N else 0
  | [], a, y, x => by simp [plF, szF]
  | z :: r, a, y, x => by
    simp only [List.cons_append, plF, szF]
    by_cases e : z = x
    · rw [if_pos e]; simp [e]
    · rw [if_neg e, plF_snoc r _ y x, if_neg e]
      simp [Ne.symm e]
/-- a place, found by halving -/
theorem at_search : ∀ (N : List (List UInt8)) (a : Nat) (p : Int), (stF a N).contains p = (atF a N p).isSome ∧ ∀ x, atF a N p = some x → N[(stF a N).countP (· < p)]? = some x
  | [], _, _ => by simp [stF, atF]
  | y :: r, a, p => by
    obtain ⟨h1, h2⟩ := at_search r (a + y.length + 1) p
    unfold stF atF
    by_cases e : (a : Int) = p
    · rw [if_pos e]
      refine ⟨by simp [e], fun x hx => ?_⟩
      have h0 : (stF (a + y.length + 1) r).countP (· < p) = 0 := by
        rw [List.countP_eq_zero]
        intro z hz
        have := stF_ge r _ z hz
        simp; omega
      rw [List.countP_cons, h0]
      simp [e]
      exact Option.some.inj hx
    · rw [if_neg e]
      refine ⟨by rw [← h1]; simp [Ne.symm e], fun x hx => ?_⟩
      have h3 := h2 x hx
      by_cases hl : (a : Int) < p
      · rw [List.countP_cons_of_pos (by simpa using hl)]
        simpa using h3
      · exfalso
        have hc : (stF (a + y.length + 1) r).contains p = true := by rw [h1, hx]; rfl
        have := stF_ge r _ p (by simpa using hc)
        omega
theorem atF_end : ∀ (N : List (List UInt8)) (a : Nat) (x : List UInt8) (k : Nat), N[k]? = some x → atF a N (szF a (N.take k)) = some x
  | [], _, _, _, h => by simp at h
  | y :: r, a, x, 0, h => by simp at h; subst h; simp [atF, szF]
  | y :: r, a, x, k + 1, h => by
    simp only [List.take_succ_cons, szF]
    unfold atF
    have h1 := szF_ge (r.take k) (a + y.length + 1)
    rw [if_neg (by omega)]
    exact atF_end r _ x k (by simpa using h)
theorem plF_at : ∀ (N : List (List UInt8)) (a : Nat) (x : List UInt8), x ∈ N → ∃ k, N[k]? = some x ∧ plF a N x = szF a (N.take k)
  | [], _, _, h => by simp at h
  | y :: r, a, x, h => by
    unfold plF
    by_cases e : y = x
    · exact ⟨0, by simp [e], by rw [if_pos e]; rfl⟩
    · rw [if_neg e]
      obtain ⟨k, h1, h2⟩ := plF_at r (a + y.length + 1) x (by simpa [Ne.symm e] using h)
      exact ⟨k + 1, by simpa using h1, by rw [h2]; rfl⟩
/-- the bytes -/
def byF (N : List (List UInt8)) : List UInt8 := N.flatMap fun x => x ++ [0]
def byP (N : List (List UInt8)) : List UInt8 := 0 :: byF N
theorem byF_snoc (N : List (List UInt8)) (x : List UInt8) : byF (N ++ [x]) = byF N ++ (x ++ [0]) := by simp [byF]
theorem byF_len : ∀ (N : List (List UInt8)) (a : Nat), a + (byF N).length = szF a N
  | [], _ => rfl
  | y :: r, a => by
    have := byF_len r (a + y.length + 1)
    simp only [byF, List.flatMap_cons, List.length_append, List.length_cons, List.length_nil, szF] at this ⊢
    omega
theorem byP_len (N : List (List UInt8)) : (byP N).length = szF 1 N := by rw [← byF_len N 1]; simp [byP]; omega
def nameOk (x : List UInt8) : Bool := !x.isEmpty && decide (x.length ≤ 64) && !x.contains 0
/-- the name that bytes begin with -/
def nmP (l : List UInt8) : List UInt8 := if (l.take 65).contains 0 then l.takeWhile (fun b => b != 0) else []
def rdF : Nat → List UInt8 → List (List UInt8) → Option (List (List UInt8)) × Nat
  | 0, _, N => (some N, 0)
  | _ + 1, [], N => (some N, 0)
  | f + 1, c :: r, N => if nmP (c :: r) ∈ N ∨ nmP (c :: r) = [] then (none, szF 1 N) else rdF f ((c :: r).drop ((nmP (c :: r)).length + 1)) (N ++ [nmP (c :: r)])
def rdP : List UInt8 → Option (List (List UInt8)) × Nat
  | [] => (none, 0)
  | c :: r => if c = 0 then rdF r.length r [] else (none, 0)
theorem rdF_fuel : ∀ (f g : Nat) (l : List UInt8) (N : List (List UInt8)), l.length ≤ f → l.length ≤ g → rdF f l N = rdF g l N
  | 0, 0, _, _, _, _ => rfl
  | 0, g + 1, [], _, _, _ => rfl
  | 0, g + 1, c :: r, _, h, _ => by simp at h
  | f + 1, 0, [], _, _, _ => rfl
  | f + 1, 0, c :: r, _, _, h => by simp at h
  | f + 1, g + 1, [], _, _, _ => rfl
  | f + 1, g + 1, c :: r, N, hf, hg => by
    unfold rdF
    have hd : ((c :: r).drop ((nmP (c :: r)).length + 1)).length ≤ r.length := by rw [List.length_drop]; simp
    simp only [List.length_cons] at hf hg
    rw [rdF_fuel f g _ _ (by omega) (by omega)]
end Go.Proofs.YtekjfbmebekmeaaGreat
namespace Go.Proofs.YtekjfbmebekmeaaGreat
open Go.RowKit
set_option linter.unusedVariables false
set_option linter.unusedSimpArgs false
/-- does a region of n bytes at f have no byte behind the last address? -/
def mayR (f n : Nat) : Bool := n == 0 || decide (n - 1 ≤ 18446744073709551615 - f)
theorem isEmptyR (w : World) (f n c : Nat) (a : Option Addr) : Calls Tryz.prog 52 #[.agg #[.int .u64 f, .slice a n c]] w fun e w' => e = .returned (.bool (n == 0)) ∧ Out w w' := by
  go_enter Tryz.func52, Tryz.ntmps52
  go_wp2
  go_ret
  refine ⟨?_, Out.alloc (Out.refl _) _⟩
  congr 2
  by_cases h : n = 0
  · subst h; rfl
  · rw [beq_eq_false_iff_ne.2 h]; simp; omega
theorem lastR (w : World) (f n c : Nat) (a : Option Addr) (hn : 0 < n) (hn2 : n ≤ 140737488355328) (hf : f + (n - 1) < 18446744073709551616) : Calls Tryz.prog 79 #[.agg #[.int .u64 f, .slice a n c]] w fun e w' => e = .returned (.int .u64 ((f + (n - 1) : Nat) : Int)) ∧ Out w w' := by
  obtain ⟨k, rfl⟩ : ∃ k, n = k + 1 := ⟨n - 1, by omega⟩
  rw [show k + 1 - 1 = k by omega] at hf ⊢
  have h1 : IntKind.u64.wrap (k : Int) = k := by rw [IntKind.wrap_u64]; omega
  have h2 : IntKind.u64.wrap ((f : Int) + k) = (f : Int) + k := by rw [IntKind.wrap_u64]; omega
  go_enter Tryz.func79, Tryz.ntmps79
  go_wp2
  go_ret
  exact ⟨by simp, Out.alloc (Out.refl _) _⟩
theorem hasR (w : World) (f n c at_ : Nat) (a : Option Addr) (hn2 : n ≤ 140737488355328) (hf : f ≤ at_) (ha : at_ < 18446744073709551616) : Calls Tryz.prog 97 #[.agg #[.int .u64 f, .slice a n c], .int .u64 at_] w fun e w' => e = .returned (.bool (decide (at_ - f < n))) ∧ Out w w' := by
  obtain ⟨k, rfl⟩ : ∃ k, at_ = f + k := ⟨at_ - f, by omega⟩
  rw [show f + k - f = k by omega]
  have h1 : IntKind.u64.wrap (n : Int) = n := by rw [IntKind.wrap_u64]; omega
  have h2 : IntKind.u64.wrap (((f + k : Nat) : Int) - f) = k := by rw [IntKind.wrap_u64]; omega
  have h3 : IntKind.u64.wrap ((f : Int) + k - f) = k := by rw [IntKind.wrap_u64]; omega
  go_enter Tryz.func97, Tryz.ntmps97
  go_wp2
  go_ret
  exact ⟨by simp, Out.alloc (Out.refl _) _⟩
end Go.Proofs.YtekjfbmebekmeaaGreat
namespace Go.Proofs.YtekjfbmebekmeaaGreat
open Go.RowKit
set_option linter.unusedVariables false
set_option linter.unusedSimpArgs false
theorem mayBeR (w : World) (f n c : Nat) (a : Option Addr) (hn2 : n ≤ 140737488355328) (hf : f < 18446744073709551616) : Calls Tryz.prog 49 #[.agg #[.int .u64 f, .slice a n c]] w fun e w' => e = .returned (.bool (mayR f n)) ∧ Out w w' := by
  obtain ⟨q, hq⟩ : ∃ q, Hid (q = w.heap.size) := ⟨_, rfl⟩
  obtain ⟨wA, hwA⟩ : ∃ wA, Hid (wA = w.alloc (.cells #[.int .u64 f, .slice a n c] 36)) := ⟨_, rfl⟩
  have OA : Out w wA := by rw [hwA.out]; exact Out.alloc (Out.refl _) _
  have q0 : wA.cell? ⟨q, 0, none⟩ = some (.int .u64 f) := by rw [hwA.out]; exact cell_fresh w _ _ 0 q hq.out
  have q1 : wA.cell? ⟨q, 1, none⟩ = some (.slice a n c) := by rw [hwA.out]; exact cell_fresh w _ _ 1 q hq.out
  by_cases h0 : n = 0
  · subst h0
    go_enter Tryz.func49, Tryz.ntmps49
    go_upto_region 1 with fail
    rw [← hwA.out, ← hq.out]
    go_wp2_with (go_at_call 52; refine (isEmptyR _ _ _ _ _).mono ?_; rintro e w2 ⟨rfl, ho⟩; have O2 := hidOf ho; clear ho)
    go_ret
    exact ⟨rfl, Out.trans OA O2.out⟩
  · obtain ⟨k, rfl⟩ : ∃ k, n = k + 1 := ⟨n - 1, by omega⟩
    have hb : ((k + 1 : Nat) == 0) = false := rfl
    have h1 : IntKind.u64.wrap (k : Int) = k := by rw [IntKind.wrap_u64]; omega
    have h2 : IntKind.u64.wrap (18446744073709551615 - (f : Int)) = 18446744073709551615 - (f : Int) := by rw [IntKind.wrap_u64]; omega
    go_enter Tryz.func49, Tryz.ntmps49
    go_upto_region 1 with fail
    rw [← hwA.out, ← hq.out]
    go_wp2_with (go_at_call 52; refine (isEmptyR _ _ _ _ _).mono ?_; rintro e w2 ⟨rfl, ho⟩; have O2 := hidOf ho; have q0 := cell_later ho q0; have q1 := cell_later ho q1; clear ho)
    go_ret
    refine ⟨?_, Out.trans OA O2.out⟩
    unfold mayR
    rw [hb]
    congr 2
    simp
    omega
set_option maxRecDepth 20000 in
theorem len8 (w : World) : Calls Tryz.prog 109 #[.int .u64 255] w fun e w' => e = .returned (.int .i64 8) ∧ w = w' := by
  go_enter Tryz.func109, Tryz.ntmps109
  go_wp2
  go_ret
  exact ⟨by kernel_rfl, rfl⟩
theorem size8 (w : World) : Calls Tryz.prog 85 #[] w fun e w' => e = .returned (.int .i64 1) ∧ w = w' := by
  go_enter Tryz.func85, Tryz.ntmps85
  go_wp2_with (go_at_call 109; refine (len8 _).mono ?_; rintro e w2 ⟨rfl, hw⟩; subst hw)
  go_ret
  exact ⟨rfl, rfl⟩
set_option maxRecDepth 20000 in
theorem len16 (w : World) : Calls Tryz.prog 109 #[.int .u64 65535] w fun e w' => e = .returned (.int .i64 16) ∧ w = w' := by
  go_enter Tryz.func109, Tryz.ntmps109
  go_wp2
  go_ret
  exact ⟨by kernel_rfl, rfl⟩
theorem size16 (w : World) : Calls Tryz.prog 87 #[] w fun e w' => e = .returned (.int .i64 2) ∧ w = w' := by
  go_enter Tryz.func87, Tryz.ntmps87
  go_wp2_with (go_at_call 109; refine (len16 _).mono ?_; rintro e w2 ⟨rfl, hw⟩; subst hw)
  go_ret
  exact ⟨rfl, rfl⟩
set_option maxRecDepth 20000 in
theorem len32 (w : World) : Calls Tryz.prog 109 #[.int .u64 4294967295] w fun e w' => e = .returned (.int .i64 32) ∧ w = w' := by
  go_enter Tryz.func109, Tryz.ntmps109
  go_wp2
  go_ret
  exact ⟨by kernel_rfl, rfl⟩
theorem size32 (w : World) : Calls Tryz.prog 89 #[] w fun e w' => e = .returned (.int .i64 4) ∧ w = w' := by
  go_enter Tryz.func89, Tryz.ntmps89
  go_wp2_with (go_at_call 109; refine (len32 _).mono ?_; rintro e w2 ⟨rfl, hw⟩; subst hw)
  go_ret
  exact ⟨rfl, rfl⟩
set_option maxRecDepth 20000 in
theorem len64 (w : World) : Calls Tryz.prog 109 #[.int .u64 18446744073709551615] w fun e w' => e = .returned (.int .i64 64) ∧ w = w' := by
  go_enter Tryz.func109, Tryz.ntmps109
  go_wp2
  go_ret
  exact ⟨by kernel_rfl, rfl⟩
theorem size64 (w : World) : Calls Tryz.prog 91 #[] w fun e w' => e = .returned (.int .i64 8) ∧ w = w' := by
  go_enter Tryz.func91, Tryz.ntmps91
  go_wp2_with (go_at_call 109; refine (len64 _).mono ?_; rintro e w2 ⟨rfl, hw⟩; subst hw)
  go_ret
  exact ⟨rfl, rfl⟩
end Go.Proofs.YtekjfbmebekmeaaGreat
