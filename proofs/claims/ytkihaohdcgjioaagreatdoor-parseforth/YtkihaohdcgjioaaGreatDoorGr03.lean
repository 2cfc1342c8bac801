import Derived.Test.YtkihaohdcgjioaaGreatDoorGr02
import Derived.WalkKit
import Derived.WalkSpells
import Derived.Deep.QuietTactic
import Derived.BigQuiet
import Derived.Deep.OwnRows
import Derived.Deep.RegionLaw
import Derived.Deep.AppendLies
import Derived.OwnWalk
import Derived.Deep.RegionHeld3
import Derived.Deep.Cut
import Derived.Shelf.Bytes.SlSearch1
import Derived.Shelf.Bytes.SlSearch2
import Derived.Shelf.Bytes.SlIndexWhole
import Derived.Ground.SlbtProg
import Derived.Shelf.Bytes.SlCut
import Derived.Test.YtkihaohdcgjioaaGreatDoorRows
import Derived.WalkLawsBesides
import Derived.Outline
namespace Go.Proofs.YtkihaohdcgjioaaGreatDoor.Lx
open Go.RowKit
set_option linter.unusedVariables false
set_option linter.unusedSimpArgs false
theorem hidOf {p : Prop} (h : p) : Hid p := h
theorem ret_bool {w : World} {a b : Bool} (h : a = b) : Ending.returned (Value.bool a) = Ending.returned (Value.bool b) ∧ w = w := ⟨by rw [h], rfl⟩
theorem ret_int {w : World} {k : IntKind} {a b : Int} (h : a = b) : Ending.returned (Value.int k a) = Ending.returned (Value.int k b) ∧ w = w := ⟨by rw [h], rfl⟩
def Out (w w' : World) : Prop := Below w.heap.size w w'
theorem Out.refl (w : World) : Out w w := Below.refl _ _
theorem Out.alloc {w w' : World} (h : Out w w') (o : Obj) : Out w (w'.alloc o) := Below.alloc h h.size o
theorem Out.drew {w w' : World} (h : Out w w') : Out w w'.drew := Below.drew h
theorem Out.drewN {w w' : World} (h : Out w w') (n : Nat) : Out w (w'.drewN n) := ⟨h.os, h.tape, h.output, h.size, h.block⟩
theorem Out.trans {a b c : World} (h : Out a b) (k : Out b c) : Out a c := Below.trans h (Below.mono k h.size)
theorem Out.size {w w' : World} (h : Out w w') : w.heap.size ≤ w'.heap.size := Below.size h
theorem Out.setCell {w w' : World} (h : Out w w') {a : Addr} (ha : w.heap.size ≤ a.block) (u : Value) : Out w (w'.setCell a u) := Below.setCell h ha u
theorem cell_later {w w' : World} (o : Out w w') {a : Addr} {v : Value} (h : w.cell? a = some v) : w'.cell? a = some v := by
  rw [← h]; exact World.cell?_of_block (o.block _ (World.block_lt_of_cell? w a h))
theorem size_alloc (w : World) (o : Obj) : (w.alloc o).heap.size = w.heap.size + 1 := by
  show (w.heap.push o).size = _
  simp
theorem heap_drew' (w : World) : w.drew.heap = w.heap := rfl
theorem cell_fresh (w : World) (cs : Array Value) (t : TypeId) (j : Nat) (b : Nat) (hb : b = w.heap.size) : (w.alloc (.cells cs t)).cell? ⟨b, j, none⟩ = cs[j]? := by
  subst hb
  rw [World.cell?, show (w.alloc (.cells cs t)).heap[w.heap.size]? = some (.cells cs t) from heap_alloc_new w _]
  rfl
structure Chg (S : Nat → Prop) (w w' : World) : Prop where
  os : w'.os = w.os
  tape : w'.tape = w.tape
  output : w'.output = w.output
  size : w.heap.size ≤ w'.heap.size
  block : ∀ k, k < w.heap.size → ¬ S k → w'.heap[k]? = w.heap[k]?
theorem Chg.refl (S : Nat → Prop) (w : World) : Chg S w w := ⟨rfl, rfl, rfl, Nat.le_refl _, fun _ _ _ => rfl⟩
theorem Chg.trans {S T : Nat → Prop} {a b c : World} (h : Chg S a b) (k : Chg T b c) (hST : ∀ x, T x → x < a.heap.size → S x) : Chg S a c :=
  ⟨k.os.trans h.os, k.tape.trans h.tape, k.output.trans h.output, Nat.le_trans h.size k.size, fun i hi hs => (k.block i (Nat.lt_of_lt_of_le hi h.size) (fun ht => hs (hST i ht hi))).trans (h.block i hi hs)⟩
theorem Chg.of_out {S : Nat → Prop} {w w' : World} (h : Out w w') : Chg S w w' := ⟨h.os, h.tape, h.output, h.size, fun k hk _ => h.block k hk⟩
theorem Chg.of_grown {S : Nat → Prop} {w w' : World} {row : Option Nat} (h : w.grownBy w' row) (hr : ∀ k, row = some k → S k) : Chg S w w' :=
  ⟨h.os, h.tape, h.output, h.size, fun k hk hs => h.block k hk (fun e => hs (hr k e.symm))⟩
theorem Chg.drew {S : Nat → Prop} {a w : World} (h : Chg S a w) : Chg S a w.drew := ⟨h.os, h.tape, h.output, h.size, h.block⟩
theorem Chg.setCell {S : Nat → Prop} {a w : World} (h : Chg S a w) {p : Addr} (hp : S p.block) (u : Value) : Chg S a (w.setCell p u) :=
  h.trans (T := fun k => k = p.block) ⟨rfl, rfl, rfl, by simp [World.setCell], fun k hk hs => Below.heap_setCell _ _ _ _ hs⟩ (fun x hx _ => hx ▸ hp)
theorem Chg.mono {S T : Nat → Prop} {w w' : World} (h : Chg S w w') (hST : ∀ x, S x → x < w.heap.size → T x) : Chg T w w' :=
  ⟨h.os, h.tape, h.output, h.size, fun k hk ht => h.block k hk (fun hs => ht (hST k hs hk))⟩
theorem Chg.below {S : Nat → Prop} {B : Nat} {w w' : World} (h : Chg S w w') (hB : B ≤ w.heap.size) (hS : ∀ k, S k → B ≤ k) : Below B w w' :=
  ⟨h.os, h.tape, h.output, h.size, fun k hk => h.block k (by omega) (fun hs => by have := hS k hs; omega)⟩
theorem Chg.out {S : Nat → Prop} {w0 w w' : World} (h : Chg S w w') (ho : Out w0 w) (hS : ∀ k, S k → w0.heap.size ≤ k) : Out w0 w' :=
  Below.trans ho (h.below ho.size hS)
theorem Chg.cell {S : Nat → Prop} {w w' : World} (h : Chg S w w') {a : Addr} {v : Value} (hc : w.cell? a = some v) (hs : ¬ S a.block) : w'.cell? a = some v := by
  rw [← hc]; exact World.cell?_of_block (h.block _ (World.block_lt_of_cell? w a hc) hs)
def letP (c : Int) : Bool := decide (97 ≤ c) && decide (c ≤ 122) || decide (65 ≤ c) && decide (c ≤ 90) || c == 95
def digP (c : Int) : Bool := decide (48 ≤ c) && decide (c ≤ 57)
def runP (c : Int) : Bool := letP c || digP c || c == 46 || c == 36
def hexP (c : Int) : Bool := digP c || decide (97 ≤ c) && decide (c ≤ 102) || decide (65 ≤ c) && decide (c ≤ 70)
def bI (b : UInt8) : Int := b.toNat
def runU (b : UInt8) : Bool := runP (bI b)
def kindP (c : Int) : Int :=
  if letP c = true then 3 else if digP c = true then 4 else if c = 32 ∨ c = 9 ∨ c = 13 then 1 else if c = 59 ∨ c = 35 then 2
  else if c = 46 then 5 else if c = 36 then 6 else if c = 58 ∨ c = 44 ∨ c = 91 ∨ c = 93 ∨ c = 43 ∨ c = 45 then 7 else 0
theorem lsize (s : ByteArray) : s.toList.length = s.size := by rw [ByteArray.toList_eq]; rfl
theorem lget (s : ByteArray) (k : Nat) (h : k < s.size) : s.toList[k]? = some s[k] := by
  rw [ByteArray.toList_eq]
  simp [ByteArray.getElem_eq_getElem_data, show k < s.data.size from h]
theorem mk_list (l : List UInt8) : (⟨l.toArray⟩ : ByteArray).toList = l := by rw [ByteArray.toList_eq]
theorem mk_size (l : List UInt8) : (⟨l.toArray⟩ : ByteArray).size = l.length := by rw [← lsize, mk_list]
theorem kindOf_any (c : Int) (w : World) : Calls Tryz.prog 140 #[.int .u8 c] w fun e w' => e = .returned (.int .i64 (kindP c)) ∧ w = w' := by
  go_enter Tryz.func140, Tryz.ntmps140
  go_wp2
  all_goals (go_ret; refine ret_int ?_; simp only [kindP, letP, digP]; simp_all <;> omega)
theorem kind_of {c k : Int} (h : kindP c = k) (w : World) : Calls Tryz.prog 140 #[.int .u8 c] w fun e w' => e = .returned (.int .i64 k) ∧ w = w' := h ▸ kindOf_any c w
theorem runP_kind (c : Int) : runP c = (kindP c == 3 || kindP c == 4 || kindP c == 5 || kindP c == 6) := by
  unfold runP kindP
  cases h1 : letP c <;> cases h2 : digP c <;> simp
  by_cases a : c = 46
  · subst a; decide
  by_cases b : c = 36
  · subst b; decide
  simp [a, b]
  repeat' split
  all_goals simp [a, b]
theorem inRun_any (c : Int) (w : World) : Calls Tryz.prog 238 #[.int .u8 c] w fun e w' => e = .returned (.bool (runP c)) ∧ w = w' := by
  rw [runP_kind]
  generalize hk : kindP c = k
  go_enter Tryz.func238, Tryz.ntmps238
  go_wp2_with (go_at_call 140; refine (kind_of hk _).mono ?_; rintro e w1 ⟨rfl, rfl⟩)
  all_goals (go_ret; refine ret_bool ?_; simp_all)
def runN (l : List UInt8) : Nat := (l.takeWhile runU).length
theorem runN_le (l : List UInt8) : runN l ≤ l.length := (List.takeWhile_sublist _).length_le
theorem tw_len {α : Type} (p : α → Bool) : ∀ (l : List α) (k : Nat), (l.take k).all p = true → k ≤ l.length → (k = l.length ∨ ∃ b, l[k]? = some b ∧ p b = false) → (l.takeWhile p).length = k
  | [], k, _, h, _ => by simp at h; simp [h]
  | x :: r, 0, _, _, h => by
    rcases h with h | ⟨b, hb, hp⟩
    · simp at h
    · simp at hb; subst hb; simp [List.takeWhile, hp]
  | x :: r, k + 1, ha, hk, h => by
    simp only [List.take_succ_cons, List.all_cons, Bool.and_eq_true] at ha
    simp only [List.takeWhile, ha.1, List.length_cons]
    rw [tw_len p r k ha.2 (by simpa using hk) (by simpa using h)]
theorem all_step {α : Type} (p : α → Bool) (l : List α) (k : Nat) (b : α) (h : (l.take k).all p = true) (hb : l[k]? = some b) (hp : p b = true) : (l.take (k + 1)).all p = true := by
  rw [List.take_add_one, List.all_append, h, hb]; simp [hp]
theorem inRun_of {c : Int} {b : Bool} (h : runP c = b) (w : World) : Calls Tryz.prog 238 #[.int .u8 c] w fun e w' => e = .returned (.bool b) ∧ w = w' := h ▸ inRun_any c w
theorem runSize_any (s : ByteArray) (w : World) (hs : s.size ≤ 4611686018427387904) : Calls Tryz.prog 219 #[.string s] w fun e w' => e = .returned (.int .i64 (runN s.toList : Nat)) ∧ w = w' := by
  have HN : Hid (∀ k, (s.toList.take k).all runU = true → k ≤ s.size → (k = s.size ∨ ∃ b, s.toList[k]? = some b ∧ runU b = false) → runN s.toList = k) := fun k ha hk hs => tw_len _ _ k ha (by rw [lsize]; exact hk) (by rw [lsize]; exact hs)
  go_enter Tryz.func219, Tryz.ntmps219
  go_wp2
  go_loopw [6] (fun nv wr => ∃ k : Nat, k ≤ s.size ∧ nv = .int .i64 k ∧ Hid ((s.toList.take k).all runU = true) ∧ wr = w) (fun nv _ => s.size - (intOf nv).toNat)
  case atStart => exact ⟨0, by omega, rfl, hidOf (by simp), rfl⟩
  case round =>
    obtain ⟨k, hk2, rfl, Ha, rfl⟩ := hrel
    by_cases hk : k < s.size
    · have hlt : (k : Int) < s.size := by omega
      have h0k : (0 : Int) ≤ k := by omega
      have Hg := hidOf (lget s k hk)
      cases hr : runP (bI s[k])
      · have Hfin := hidOf (HN.out k Ha.out hk2 (.inr ⟨_, Hg.out, hr⟩))
        go_wp2_with (go_at_call 238; refine (inRun_of hr _).mono ?_; rintro e w3 ⟨rfl, rfl⟩)
        go_ret
        exact ⟨by rw [Hfin.out]; rfl, rfl⟩
      · have Ha' := hidOf (all_step runU _ k _ Ha.out Hg.out hr)
        go_wp2_with (go_at_call 238; refine (inRun_of hr _).mono ?_; rintro e w3 ⟨rfl, rfl⟩)
        go_roundw
        case rel => exact ⟨k + 1, by omega, by simp, Ha', trivial⟩
        case measure => simp [intOf]; omega
    · have hlt : ¬ (k : Int) < s.size := by omega
      have hks : k = s.size := by omega
      have Hfin := hidOf (HN.out k Ha.out hk2 (.inl (by omega)))
      go_wp2
      go_ret
      exact ⟨by rw [Hfin.out, hks]; rfl, rfl⟩
def startP (l : List UInt8) : Bool := match l with | [] => false | c :: _ => kindP (bI c) == 3
def wordP (l : List UInt8) : Bool := decide (l.length ≤ 64) && startP l && l.all runU
theorem isEmpty_of {s : ByteArray} (h : ¬ s.size = 0) : s.toList.isEmpty = false ∧ ¬ s.toList = [] := by
  have hne : ¬ s.toList = [] := fun h' => by have := lsize s; rw [h'] at this; simp at this; omega
  exact ⟨by cases hl : s.toList with | nil => exact absurd hl hne | cons x r => rfl, hne⟩
theorem head_of {s : ByteArray} (h : 0 < s.size) : ∃ r, s.toList = s[0] :: r := by
  have hb := lget s 0 h
  cases hl : s.toList with
  | nil => rw [hl] at hb; simp at hb
  | cons x r => rw [hl] at hb; simp at hb; exact ⟨r, by rw [hb]⟩
theorem startsWord_any (s : ByteArray) (w : World) : Calls Tryz.prog 187 #[.string s] w fun e w' => e = .returned (.bool (startP s.toList)) ∧ w = w' := by
  by_cases h0 : s.size = 0
  · have hl : s.toList = [] := List.length_eq_zero_iff.1 (by rw [lsize, h0])
    have hN : startP s.toList = false := by rw [hl]; rfl
    rw [hN]
    go_enter Tryz.func187, Tryz.ntmps187
    go_wp2
    go_ret
    exact ⟨rfl, rfl⟩
  · have h0' : (0 : Int) < s.size := by omega
    obtain ⟨hie, hne⟩ := isEmpty_of h0
    obtain ⟨r, hr⟩ := head_of (s := s) (by omega)
    have hN : startP s.toList = (kindP (bI s[0]) == 3) := by rw [hr]; rfl
    rw [hN]
    generalize hk : kindP (bI s[0]) = k
    clear hN hr
    go_enter Tryz.func187, Tryz.ntmps187
    go_wp2_with (go_at_call 140; refine (kind_of hk _).mono ?_; rintro e w1 ⟨rfl, rfl⟩)
    go_ret
    exact ⟨rfl, rfl⟩
theorem tw_all {α : Type} (p : α → Bool) : ∀ l : List α, ((l.takeWhile p).length = l.length) ↔ (l.all p = true)
  | [] => by simp
  | x :: l => by
    have ih := tw_all p l
    cases hp : p x
    · simp [List.takeWhile, hp]
    · simp only [List.takeWhile, hp, List.length_cons, List.all_cons, Bool.true_and, ← ih]; omega
theorem isWord_any (s : ByteArray) (w : World) (hs : s.size ≤ 4611686018427387904) : Calls Tryz.prog 170 #[.string s] w fun e w' => e = .returned (.bool (wordP s.toList)) ∧ w = w' := by
  have hl := lsize s
  by_cases h64 : s.size ≤ 64
  · have h64' : (s.size : Int) ≤ 64 := by omega
    cases h1 : startP s.toList
    · have hN : wordP s.toList = false := by simp [wordP, h1]
      rw [hN]
      clear hN
      go_enter Tryz.func170, Tryz.ntmps170
      go_wp2_with (go_at_call 187; refine (startsWord_any _ _).mono ?_; rw [h1]; rintro e w1 ⟨rfl, rfl⟩)
      go_ret
      exact ⟨rfl, rfl⟩
    · have hN : wordP s.toList = (runN s.toList == s.size) := by
        have h2 := tw_all runU s.toList
        rw [hl] at h2
        rw [Bool.eq_iff_iff, beq_iff_eq, runN, h2]
        simp [wordP, h1, hl, h64]
      rw [hN]
      clear hN
      go_enter Tryz.func170, Tryz.ntmps170
      go_wp2_with (first | (go_at_call 187; refine (startsWord_any _ _).mono ?_; rw [h1]; rintro e w1 ⟨rfl, rfl⟩) | (go_at_call 219; refine (runSize_any _ _ hs).mono ?_; rintro e w2 ⟨rfl, rfl⟩))
      go_ret
      refine ret_bool ?_
      rw [Bool.eq_iff_iff]; simp; omega
  · have h64' : ¬ (s.size : Int) ≤ 64 := by omega
    have hN : wordP s.toList = false := by simp [wordP, hl, h64]
    rw [hN]
    clear hN
    go_enter Tryz.func170, Tryz.ntmps170
    go_wp2
    go_ret
    exact ⟨rfl, rfl⟩
def markB (l : List UInt8) : Bool := match l with | [c] => kindP (bI c) == 7 | _ => false
theorem isMark_any (s : ByteArray) (w : World) : Calls Tryz.prog 172 #[.string s] w fun e w' => e = .returned (.bool (markB s.toList)) ∧ w = w' := by
  have hl := lsize s
  by_cases h1 : s.size = 1
  · have h1' : ((s.size : Int) == 1) = true := by simp; omega
    have hlt : (0 : Int) < s.size := by omega
    obtain ⟨r, hr⟩ := head_of (s := s) (by omega)
    have hr0 : r = [] := by rw [hr] at hl; simp at hl; exact List.length_eq_zero_iff.1 (by omega)
    have hN : markB s.toList = (kindP (bI s[0]) == 7) := by rw [hr, hr0]; rfl
    rw [hN]
    generalize hk : kindP (bI s[0]) = k
    clear hN hr hl hr0
    go_enter Tryz.func172, Tryz.ntmps172
    go_wp2_with (go_at_call 140; refine (kind_of hk _).mono ?_; rintro e w1 ⟨rfl, rfl⟩)
    go_ret
    exact ⟨rfl, rfl⟩
  · have h1' : ((s.size : Int) == 1) = false := by simp; omega
    have hN : markB s.toList = false := by
      unfold markB
      split
      · rename_i c hc; rw [hc] at hl; simp at hl; omega
      · rfl
    rw [hN]
    clear hN
    go_enter Tryz.func172, Tryz.ntmps172
    go_wp2
    go_ret
    exact ⟨rfl, rfl⟩
structure Tk where
  k : Int
  t : List UInt8
  n : Int
  l : Int
def Tk.cs (x : Tk) : List Value := [.int .i64 x.k, .string ⟨x.t.toArray⟩, .int .u64 x.n, .int .i64 x.l]
def tkV (l : List Tk) : List Value := l.flatMap Tk.cs
theorem tkV_snoc (l : List Tk) (x : Tk) : tkV (l ++ [x]) = tkV l ++ x.cs := by simp [tkV, List.flatMap_append]
theorem tk_one (x : Tk) : ∀ u ∈ x.cs, u.oneCell' = true := by
  intro u hu
  simp [Tk.cs] at hu
  rcases hu with rfl | rfl | rfl | rfl <;> rfl
theorem infoTk : (Tryz.prog.info? 117).map (fun i => (i.zero, i.size, i.bytes)) = some (some (.agg #[.int .i64 0, .string ⟨#[]⟩, .int .u64 0, .int .i64 0]), 4, 40) := by kernel_rfl
theorem owns_chg {B size : Nat} {S : Nat → Prop} {w w' : World} {e : TypeId} {v : Value} {n : Nat} {xs : List Value} (h : w.ownsRow B e size v n xs) (hs : ∀ k, v.ownBlock = some k → ¬ S k) (hc : Chg S w w') : w'.ownsRow B e size v n xs := by
  refine ⟨h.1, ?_⟩
  rcases h.2 with hn | ⟨g, cap, cur, rfl, hb, hg, rest⟩
  · exact .inl hn
  · refine .inr ⟨g, cap, cur, rfl, hb, ?_, rest⟩
    rw [hc.block g (Array.getElem?_eq_some_iff.1 hg).1 (hs g rfl)]
    exact hg
structure Sn where
  line : List UInt8
  num : Nat
  at' : Nat
  cnt : Nat
  keeps : Bool
  T : List Tk
def Sn.cells (s : Sn) (rv tv : Value) : Array Value := #[rv, .string ⟨s.line.toArray⟩, .int .i64 s.num, .int .i64 s.at', .int .i64 s.cnt, .bool s.keeps, tv]
structure Sc (N p : Nat) (w : World) (rv tv : Value) (s : Sn) : Prop where
  le : N ≤ p
  at_ : w.heap[p]? = some (.cells (s.cells rv tv) 88 (0, 0))
  own : w.ownsRow N 117 4 tv s.T.length (tkV s.T)
  ne : ∀ k, tv.ownBlock = some k → ¬ k = p
theorem Sc.cell {N p : Nat} {w : World} {rv tv : Value} {s : Sn} (h : Sc N p w rv tv s) (j : Nat) : w.cell? ⟨p, j, none⟩ = (s.cells rv tv)[j]? := by simp [World.cell?, h.at_]
theorem Sc.frozen {N p : Nat} {w : World} {rv tv : Value} {s : Sn} (h : Sc N p w rv tv s) (j : Nat) : w.frozen? ⟨p, j, none⟩ = false := by simp [World.frozen?, h.at_]
theorem Sc.lt {N p : Nat} {w : World} {rv tv : Value} {s : Sn} (h : Sc N p w rv tv s) : p < w.heap.size := (Array.getElem?_eq_some_iff.1 h.at_).1
theorem Sc.base {N p : Nat} {w : World} {rv tv : Value} {s : Sn} (h : Sc N p w rv tv s) : N ≤ w.heap.size := by have := h.lt; have := h.le; omega
theorem Sc.drew {N p : Nat} {w : World} {rv tv : Value} {s : Sn} (h : Sc N p w rv tv s) : Sc N p w.drew rv tv s := ⟨h.le, h.at_, owns_chg (S := fun _ => False) h.own (fun _ _ h => h) ((Chg.refl _ w).drew), h.ne⟩
theorem Sc.drewN {N p : Nat} {w : World} {rv tv : Value} {s : Sn} (h : Sc N p w rv tv s) (n : Nat) : Sc N p (w.drewN n) rv tv s := ⟨h.le, h.at_, owns_chg (S := fun _ => False) h.own (fun _ _ h => h) (Chg.of_out ((Out.refl w).drewN n)), h.ne⟩
theorem Sc.out {N p : Nat} {w w' : World} {rv tv : Value} {s : Sn} (h : Sc N p w rv tv s) (o : Out w w') : Sc N p w' rv tv s := ⟨h.le, (o.block p h.lt).trans h.at_, owns_chg (S := fun _ => False) h.own (fun _ _ h => h) (Chg.of_out o), h.ne⟩
theorem Sc.set {N p : Nat} {w : World} {rv tv rv' : Value} {s : Sn} (h : Sc N p w rv tv s) (j : Nat) (u : Value) (s' : Sn) (hT : s'.T = s.T) (hc : (s.cells rv tv).setIfInBounds j u = s'.cells rv' tv) : Sc N p (w.setCell ⟨p, j, none⟩ u) rv' tv s' := by
  refine ⟨h.le, ?_, ?_, h.ne⟩
  · rw [← hc]
    simp [World.setCell, Array.getElem?_modify, h.at_]
  · rw [hT]
    exact owns_chg (S := fun k => k = p) h.own h.ne (Chg.setCell (S := fun k => k = p) (Chg.refl _ w) (p := ⟨p, j, none⟩) rfl u)
theorem Below.set_own {N : Nat} {w w' : World} (h : Below N w w') {p j : Nat} (hp : N ≤ p) (u : Value) : Below N w (w'.setCell ⟨p, j, none⟩ u) := Below.setCell h hp u
def Sn.add (s : Sn) (k : Int) (t : List UInt8) (n : Int) : Sn := { s with cnt := s.cnt + 1, T := if s.keeps then s.T ++ [⟨k, t, n, s.num⟩] else s.T }
theorem own_form {B n sz : Nat} {X : World} {e : TypeId} {v : Value} {xs : List Value} (h : X.ownsRow B e sz v n xs) : ∃ ad cp, v = .slice ad n cp := by
  rcases h.2 with ⟨rfl, rfl⟩ | ⟨g, cap, cur, rfl, _⟩
  · exact ⟨none, 0, rfl⟩
  · exact ⟨_, _, rfl⟩
theorem news_new (w : World) (cs : Array Value) (t : TypeId) (b : Nat) (hb : b = w.heap.size) : ∀ j u, cs.toList[j]? = some u → (w.alloc (.cells cs t)).cell? ((⟨b, 0, none⟩ : Addr).add j) = some u := by
  intro j u hu
  rw [WideShapes.add_plain, Nat.zero_add, cell_fresh _ _ _ _ _ hb]
  simpa using hu
theorem news_drew (w : World) (cs : Array Value) (t : TypeId) (b : Nat) (hb : b = w.heap.size) : ∀ j u, cs.toList[j]? = some u → (w.alloc (.cells cs t)).drew.cell? ((⟨b, 0, none⟩ : Addr).add j) = some u := news_new w cs t b hb
theorem Sc.grown {N p : Nat} {X w' : World} {rv tv v' : Value} {s s' : Sn} {g cap : Nat} (h : Sc N p X rv tv s) (hg : X.grownBy w' tv.ownBlock) (hv : v' = .slice (some ⟨g, 0, none⟩) s'.T.length cap) (ho : w'.ownsRow N 117 4 v' s'.T.length (tkV s'.T)) (hw : tv.ownBlock = some g ∨ g = X.heap.size) (hc : ∀ u, s.cells rv u = s'.cells rv u) : Sc N p (w'.setCell ⟨p, 6, none⟩ v') rv v' s' := by
  have hp : w'.heap[p]? = X.heap[p]? := hg.block p h.lt (fun e => h.ne p e.symm rfl)
  have hne : ¬ g = p := by
    rcases hw with hw | hw
    · exact h.ne g hw
    · have := h.lt; omega
  refine ⟨h.le, ?_, ?_, ?_⟩
  · rw [← hc]
    simp [World.setCell, Array.getElem?_modify, hp, h.at_, Sn.cells]
  · exact owns_chg (S := fun k => k = p) ho (fun k hk e => by rw [hv] at hk; simp [Value.ownBlock] at hk; exact hne (by rw [hk, e])) (Chg.setCell (S := fun k => k = p) (Chg.refl _ _) (p := ⟨p, 6, none⟩) rfl _)
  · intro k hk e
    rw [hv] at hk
    simp [Value.ownBlock] at hk
    exact hne (by rw [hk, e])
theorem Sc.cell_grown {N p : Nat} {X w' : World} {rv tv : Value} {s : Sn} (h : Sc N p X rv tv s) (hg : X.grownBy w' tv.ownBlock) : w'.cell? ⟨p, 6, none⟩ = some tv ∧ w'.frozen? ⟨p, 6, none⟩ = false := by
  have e : ¬ some p = tv.ownBlock := fun e => h.ne p e.symm rfl
  exact ⟨(hg.cell_far ⟨p, 6, none⟩ h.lt e).trans (h.cell 6), (hg.frozen_far ⟨p, 6, none⟩ h.lt e).trans (h.frozen 6)⟩
theorem Below.of_grown {N : Nat} {w X w' : World} {row : Option Nat} (hb : Below N w X) (hN : N ≤ w.heap.size) (hg : X.grownBy w' row) (hr : ∀ k, row = some k → N ≤ k) : Below N w w' :=
  Below.trans hb ((Chg.of_grown (S := fun k => N ≤ k) hg hr).below (Nat.le_trans hN hb.size) (fun k h => h))
theorem own_le {B n sz : Nat} {X : World} {e : TypeId} {v : Value} {xs : List Value} (h : X.ownsRow B e sz v n xs) : ∀ k, v.ownBlock = some k → B ≤ k := fun k hk => (h.lt k hk).1
def SEnd (N p : Nat) (rv : Value) (w : World) (s' : Sn) (w' : World) : Prop := (∃ tv', Sc N p w' rv tv' s') ∧ Below N w w'
set_option maxHeartbeats 1000000 in
theorem add_any (N p : Nat) (w : World) (rv tv : Value) (s : Sn) (k : Int) (t : List UInt8) (n : Int) (h : Sc N p w rv tv s) (hc : s.cnt ≤ 1000000000) (hT : s.T.length ≤ s.cnt) :
    Calls Tryz.prog 66 #[.pointer (some ⟨p, 0, none⟩), .int .i64 k, .string ⟨t.toArray⟩, .int .u64 n] w fun e w' => (∃ v, e = .returned v) ∧ SEnd N p rv w (s.add k t n) w' := by
  have c4 : w.cell? ⟨p, 4, none⟩ = some (.int .i64 s.cnt) := h.cell 4
  have f4 := h.frozen 4
  have hcI : (s.cnt : Int) ≤ 1000000000 := by omega
  have H := hidOf h
  have H1 : Hid (Sc N p (w.setCell ⟨p, 4, none⟩ (.int .i64 (s.cnt + 1))) rv tv { s with cnt := s.cnt + 1 }) := h.set 4 _ _ rfl (by simp [Sn.cells])
  have hB1 : Hid (Below N w (w.setCell ⟨p, 4, none⟩ (.int .i64 (s.cnt + 1)))) := Below.set_own (Below.refl _ _) h.le _
  clear h
  go_enter Tryz.func66, Tryz.ntmps66
  go_upto_region 1 with fail
  generalize w.setCell ⟨p, 4, none⟩ (.int .i64 (s.cnt + 1)) = w1 at *
  have c5 : w1.cell? ⟨p, 5, none⟩ = some (.bool s.keeps) := H1.out.cell 5
  cases hk : s.keeps
  · rw [hk] at c5
    go_wp2
    go_end0
    refine ⟨⟨_, rfl⟩, ⟨tv, ?_⟩, hB1.out⟩
    have h1 := H1.out
    unfold Sn.add
    rw [hk]
    rw [hk] at h1
    exact h1
  · rw [hk] at c5
    obtain ⟨i0, hi, hz0, hz1, hz2⟩ := info_parts infoTk
    obtain ⟨ad, cp, rfl⟩ : ∃ ad cp, tv = .slice ad s.T.length cp := own_form H1.out.own
    have c6 : w1.cell? ⟨p, 6, none⟩ = some (.slice ad s.T.length cp) := H1.out.cell 6
    have c2 : w1.cell? ⟨p, 2, none⟩ = some (.int .i64 s.num) := H1.out.cell 2
    have f6 := H1.out.frozen 6
    have a6 : ∀ O, (w1.alloc O).cell? ⟨p, 6, none⟩ = some (.slice ad s.T.length cp) := fun O => (H1.out.out ((Out.refl _).alloc O)).cell 6
    go_upto_region 2 with fail
    go_region_law (refine step_append_lies _ rfl (.tmp 23) (.tmp 32) 65 rfl N 117 i0 _ 4 40 Tryz.underlying65 hi hz0 hz1 hz2 rfl (by decide) (.slice ad s.T.length cp) s.T.length (tkV s.T) rfl (((H1.out.out ((Out.refl _).alloc _)).drew).own) ⟨w1.heap.size, 0, none⟩ 1 1 (Tk.cs ⟨k, t, n, s.num⟩) rfl rfl (news_drew _ _ _ _ rfl) (tk_one _) (by decide) (by unfold maxLen; omega) (by omega) (((H1.out.out ((Out.refl _).alloc _)).drew).base) _ rfl ?_; intro g cap w' hown' hgrow hg hlt; obtain ⟨q6, qf6⟩ := ((H1.out.out ((Out.refl _).alloc _)).drew).cell_grown hgrow; have Hown := hidOf hown'; have Hgrow := hidOf hgrow; have Hg := hidOf hg; clear hown' hgrow hg hlt)
    all_goals
      go_wp2
      go_end0
      have eT : (s.add k t n).T = s.T ++ [⟨k, t, n, s.num⟩] := by unfold Sn.add; rw [hk]; rfl
      have eL : (s.add k t n).T.length = s.T.length + 1 := by rw [eT]; simp
      have hS := (H1.out.out ((Out.refl _).alloc (.cells #[.int .i64 k, .string ⟨t.toArray⟩, .int .u64 n, .int .i64 s.num] 117))).drew
      refine ⟨⟨_, rfl⟩, ⟨_, hS.grown (s' := s.add k t n) Hgrow.out (by rw [eL]) (by rw [eL, eT, tkV_snoc]; exact Hown.out) Hg.out (fun u => rfl)⟩, ?_⟩
      exact Below.set_own (Below.of_grown ((hB1.out.alloc (Nat.le_trans H.out.base hB1.out.size) _).drew) H.out.base Hgrow.out (own_le hS.own)) H.out.le _
end Go.Proofs.YtkihaohdcgjioaaGreatDoor.Lx
namespace Go.Proofs
open Go.Shelf
def Tryz.lays185_ren : Go.Shelf.Ren := ⟨fun | 185 => 139 | 187 => 60 | 115 => 182 | 253 => 183 | 224 => 184 | 254 => 185 | 255 => 90 | 291 => 225 | n => n, fun | 37 => 24 | 3 => 3 | 4 => 4 | 0 => 0 | 5 => 5 | 46 => 171 | 9 => 9 | 146 => 250 | 51 => 249 | n => n, fun | 1 => 2 | n => n⟩
theorem Tryz.lays185 : Go.Proofs.Lays.n185 Tryz.prog Tryz.lays185_ren := {
  mixed := by kernel_rfl
  f115 := Tryz.func182.trans (congrArg some (by kernel_rfl))
  f185 := Tryz.func139.trans (congrArg some (by kernel_rfl))
  f187 := Tryz.func60.trans (congrArg some (by kernel_rfl))
  f224 := Tryz.func184.trans (congrArg some (by kernel_rfl))
  f253 := Tryz.func183.trans (congrArg some (by kernel_rfl))
  f254 := Tryz.func185.trans (congrArg some (by kernel_rfl))
  f255 := Tryz.func90.trans (congrArg some (by kernel_rfl))
  f291 := Tryz.func225.trans (congrArg some (by kernel_rfl))
  t0 := Tryz.underlying0
  a0 := Tryz.isAgg0
  z0 := Tryz.sizeOf0
  v0 := Tryz.zeroValue0
  t3 := Tryz.underlying3
  a3 := Tryz.isAgg3
  z3 := Tryz.sizeOf3
  v3 := Tryz.zeroValue3
  t4 := Tryz.underlying4
  a4 := Tryz.isAgg4
  z4 := Tryz.sizeOf4
  v4 := Tryz.zeroValue4
  t5 := Tryz.underlying5
  a5 := Tryz.isAgg5
  z5 := Tryz.sizeOf5
  v5 := Tryz.zeroValue5
  t9 := Tryz.underlying9
  a9 := Tryz.isAgg9
  z9 := Tryz.sizeOf9
  v9 := Tryz.zeroValue9
  t37 := Tryz.underlying24
  a37 := Tryz.isAgg24
  z37 := Tryz.sizeOf24
  v37 := Tryz.zeroValue24
  t46 := Tryz.underlying171
  a46 := Tryz.isAgg171
  z46 := Tryz.sizeOf171
  v46 := Tryz.zeroValue171
  t51 := Tryz.underlying249
  a51 := Tryz.isAgg249
  z51 := Tryz.sizeOf249
  v51 := Tryz.zeroValue249
  t146 := Tryz.underlying250
  a146 := Tryz.isAgg250
  z146 := Tryz.sizeOf250
  v146 := Tryz.zeroValue250
  g1 := by kernel_rfl }
open Go.RowKit Go.Lib in
theorem Tryz.bytes_Index_one (b o n c b2 o2 d : Nat) (xs : List Int) (cv : Int) (w : World) (hx : xs.length = n) (hc : ∀ i, i < n → w.cell? ⟨b, o + i, none⟩ = some (.int .u8 (xs.getD i 0))) (hc2 : w.cell? ⟨b2, o2, none⟩ = some (.int .u8 cv)) :
    Calls Tryz.prog 139 #[.slice (some ⟨b, o, none⟩) n c, .slice (some ⟨b2, o2, none⟩) 1 d] w fun e w' => e = .returned (.int .i64 (Lib.indexByte (Lib.bytesOf xs) cv.toNat.toUInt8)) ∧ w' = w := Any.bytes_Index_one Tryz.lays185 b o n c b2 o2 d xs cv w hx hc hc2
def Tryz.laysSlT4_ren : Go.Shelf.Ren := ⟨fun | 4 => 100 | 5 => 139 | 6 => 60 | 7 => 182 | 8 => 183 | 9 => 184 | 10 => 185 | 11 => 90 | 12 => 225 | n => n, fun | 22 => 24 | 4 => 4 | 3 => 3 | 0 => 0 | 5 => 5 | 29 => 171 | 9 => 9 | 31 => 250 | 30 => 249 | n => n, fun | 0 => 2 | n => n⟩
theorem Tryz.laysSlT4 : Go.Proofs.SlLaysT.n4 Tryz.prog Tryz.laysSlT4_ren := {
  mixed := by kernel_rfl
  f4 := Tryz.func100.trans (congrArg some (by kernel_rfl))
  f5 := Tryz.func139.trans (congrArg some (by kernel_rfl))
  f6 := Tryz.func60.trans (congrArg some (by kernel_rfl))
  f7 := Tryz.func182.trans (congrArg some (by kernel_rfl))
  f8 := Tryz.func183.trans (congrArg some (by kernel_rfl))
  f9 := Tryz.func184.trans (congrArg some (by kernel_rfl))
  f10 := Tryz.func185.trans (congrArg some (by kernel_rfl))
  f11 := Tryz.func90.trans (congrArg some (by kernel_rfl))
  f12 := Tryz.func225.trans (congrArg some (by kernel_rfl))
  t0 := Tryz.underlying0
  a0 := Tryz.isAgg0
  z0 := Tryz.sizeOf0
  v0 := Tryz.zeroValue0
  t3 := Tryz.underlying3
  a3 := Tryz.isAgg3
  z3 := Tryz.sizeOf3
  v3 := Tryz.zeroValue3
  t4 := Tryz.underlying4
  a4 := Tryz.isAgg4
  z4 := Tryz.sizeOf4
  v4 := Tryz.zeroValue4
  t5 := Tryz.underlying5
  a5 := Tryz.isAgg5
  z5 := Tryz.sizeOf5
  v5 := Tryz.zeroValue5
  t9 := Tryz.underlying9
  a9 := Tryz.isAgg9
  z9 := Tryz.sizeOf9
  v9 := Tryz.zeroValue9
  t22 := Tryz.underlying24
  a22 := Tryz.isAgg24
  z22 := Tryz.sizeOf24
  v22 := Tryz.zeroValue24
  t29 := Tryz.underlying171
  a29 := Tryz.isAgg171
  z29 := Tryz.sizeOf171
  v29 := Tryz.zeroValue171
  t30 := Tryz.underlying249
  a30 := Tryz.isAgg249
  z30 := Tryz.sizeOf249
  v30 := Tryz.zeroValue249
  t31 := Tryz.underlying250
  a31 := Tryz.isAgg250
  z31 := Tryz.sizeOf250
  v31 := Tryz.zeroValue250
  g0 := by kernel_rfl }
theorem Tryz.bytes_Cut_of (p1 p2 : Option Addr) (n c1 k c2 : Nat) (i : Int) (w : World) (hcap : n ≤ c1) (hlo : -1 ≤ i) (hroom : 0 ≤ i → i + k ≤ n) (hn : n ≤ 4611686018427387904) (hidx : Calls Tryz.prog 139 #[.slice p1 n c1, .slice p2 k c2] w fun e w' => e = .returned (.int .i64 i) ∧ ∃ q, w' = w.drewN q) :
    Calls Tryz.prog 100 #[.slice p1 n c1, .slice p2 k c2] w fun e w' => e = .returned (Lib.cutV p1 n c1 k i) ∧ ∃ q, w' = w.drewN q := Any.bytes_Cut_of Tryz.laysSlT4 p1 p2 n c1 k c2 i w hcap hlo hroom hn hidx
end Go.Proofs
namespace Go.Proofs.YtkihaohdcgjioaaGreatDoor.Wo
/-! PLAIN: the words' functions on numbers. n, d: narrowed words; m: 2 to the width; h: half of it. -/
def negM (h n : Int) : Bool := decide (h ≤ n)
def magM (h m n : Int) : Int := if h ≤ n then m - n else n
def sgnM (h m n : Int) : Int := if h ≤ n then 18446744073709551616 - m + n else n
def divM (n d : Int) : Int := if d = 0 then 0 else n / d
def modM (n d : Int) : Int := if d = 0 then n else n % d
def sdivM (h m n d : Int) : Int := if d = 0 then 0 else if negM h n = negM h d then magM h m n / magM h m d else (-(magM h m n / magM h m d)) % m
def smodM (h m n d : Int) : Int := if d = 0 then n else if h ≤ n then (-(magM h m n % magM h m d)) % m else magM h m n % magM h m d
def shlM (m n k : Int) : Int := n * 2 ^ k.toNat % m
def shrM (n k : Int) : Int := n / 2 ^ k.toNat
def sarM (h m n k : Int) : Int := if h ≤ n then m - 1 - (m - 1 - n) / 2 ^ k.toNat else n / 2 ^ k.toNat
def lessM (n d : Int) : Bool := decide (n < d)
def slessM (h m n d : Int) : Bool := decide ((if h ≤ n then n - m else n) < (if h ≤ d then d - m else d))
def mW (width : Int) : Int := if width = 8 then 256 else if width = 16 then 65536 else if width = 32 then 4294967296 else 18446744073709551616
def hW (width : Int) : Int := if width = 8 then 128 else if width = 16 then 32768 else if width = 32 then 2147483648 else 9223372036854775808
def bW (width : Int) : Int := if width = 8 then 8 else if width = 16 then 16 else if width = 32 then 32 else 64
def negW (a : Int) : Int := IntKind.u64.wrap (-a)
def sgnW (width a : Int) : Int := sgnM (hW width) (mW width) (a % mW width)
theorem mag_bd {h m n : Int} (hm : m = 2 * h) (h0 : 0 ≤ n) (h1 : n < m) : 0 ≤ magM h m n ∧ magM h m n ≤ h := by
  unfold magM; split <;> omega
theorem mag_pos {h m n : Int} (hm : m = 2 * h) (h0 : 0 < n) (h1 : n < m) : 0 < magM h m n := by
  unfold magM; split <;> omega
theorem div_bd {x y B : Int} (h0 : 0 ≤ x) (h1 : x ≤ B) (h2 : 0 < y) : 0 ≤ x / y ∧ x / y ≤ B := by
  have a := Int.ediv_nonneg h0 (Int.le_of_lt h2)
  have b := Int.ediv_le_self y h0
  omega
theorem rem_bd {x y : Int} (h2 : 0 < y) : 0 ≤ x % y ∧ x % y < y := ⟨Int.emod_nonneg _ (by omega), Int.emod_lt_of_pos _ h2⟩
theorem pow_pos2 (k : Nat) : (0 : Int) < 2 ^ k := by
  have := Nat.two_pow_pos k
  have e : ((2 ^ k : Nat) : Int) = 2 ^ k := by simp
  omega
theorem wide_cases (width : Int) : width = 8 ∨ width = 16 ∨ width = 32 ∨ (width ≠ 8 ∧ width ≠ 16 ∧ width ≠ 32) := by omega
theorem W8 : mW 8 = 256 ∧ hW 8 = 128 ∧ bW 8 = 8 := ⟨rfl, rfl, rfl⟩
theorem W64 {width : Int} (a : width ≠ 8) (b : width ≠ 16) (c : width ≠ 32) : mW width = 18446744073709551616 ∧ hW width = 9223372036854775808 ∧ bW width = 64 := by
  simp [mW, hW, bW, a, b, c]
theorem ret_int {k : IntKind} {a b : Int} (h : a = b) : Ending.returned (.int k a) = .returned (.int k b) := by rw [h]
theorem ret_bool {a b : Bool} (h : a = b) : Ending.returned (.bool a) = .returned (.bool b) := by rw [h]
theorem not_u8 (a : Int) (h0 : 0 ≤ a) (h1 : a < 256) : bits .xor .u8 IntKind.u8.max a = 255 - a := by
  obtain ⟨n, rfl⟩ := Int.eq_ofNat_of_zero_le h0
  show IntKind.u8.wrap ((BitVec.ofInt 8 255 ^^^ BitVec.ofInt 8 (n : Int)).toNat : Int) = _
  have e : BitVec.ofInt 8 255 = BitVec.allOnes 8 := by decide
  rw [e, BitVec.allOnes_xor, BitVec.toNat_not, ofInt_u8 n (by omega), IntKind.wrap_u8']
  omega
theorem not_u16 (a : Int) (h0 : 0 ≤ a) (h1 : a < 65536) : bits .xor .u16 IntKind.u16.max a = 65535 - a := by
  obtain ⟨n, rfl⟩ := Int.eq_ofNat_of_zero_le h0
  show IntKind.u16.wrap ((BitVec.ofInt 16 65535 ^^^ BitVec.ofInt 16 (n : Int)).toNat : Int) = _
  have e : BitVec.ofInt 16 65535 = BitVec.allOnes 16 := by decide
  rw [e, BitVec.allOnes_xor, BitVec.toNat_not, ofInt_u16 n (by omega), IntKind.wrap_u16]
  omega
theorem not_u32 (a : Int) (h0 : 0 ≤ a) (h1 : a < 4294967296) : bits .xor .u32 IntKind.u32.max a = 4294967295 - a := by
  obtain ⟨n, rfl⟩ := Int.eq_ofNat_of_zero_le h0
  show IntKind.u32.wrap ((BitVec.ofInt 32 4294967295 ^^^ BitVec.ofInt 32 (n : Int)).toNat : Int) = _
  have e : BitVec.ofInt 32 4294967295 = BitVec.allOnes 32 := by decide
  rw [e, BitVec.allOnes_xor, BitVec.toNat_not, ofInt_u32 n (by omega), IntKind.wrap_u32']
  omega
theorem not_u64 (a : Int) (h0 : 0 ≤ a) (h1 : a < 18446744073709551616) : bits .xor .u64 IntKind.u64.max a = 18446744073709551615 - a := by
  obtain ⟨n, rfl⟩ := Int.eq_ofNat_of_zero_le h0
  show IntKind.u64.wrap ((BitVec.ofInt 64 18446744073709551615 ^^^ BitVec.ofInt 64 (n : Int)).toNat : Int) = _
  have e : BitVec.ofInt 64 18446744073709551615 = BitVec.allOnes 64 := by decide
  rw [e, BitVec.allOnes_xor, BitVec.toNat_not, ofInt_u64 n (by omega), IntKind.wrap_u64]
  omega
end Go.Proofs.YtkihaohdcgjioaaGreatDoor.Wo
namespace Go.Proofs.YtkihaohdcgjioaaGreatDoor.Wo
open Go.RowKit
set_option linter.unusedVariables false
set_option linter.unusedSimpArgs false
attribute [local go_sem] IntKind.wrap_u16 IntKind.wrap_u32' IntKind.wrap_u64 IntKind.wrap_u8'
theorem neg_8 (n : Int) (w : World) :
    Calls Tryz.prog 288 #[.int .u8 n] w fun e w' => e = .returned (.bool (negM 128 n)) ∧ w' = w := by
  go_enter Tryz.func288, Tryz.ntmps288
  go_wp2
  go_ret
  exact ⟨ret_bool (by rw [not_u8 0 (by omega) (by omega)]; unfold negM; rw [decide_eq_decide]; omega), rfl⟩
theorem sgn_8 (a : Int) (w : World) (h0 : 0 ≤ a) (h1 : a < 18446744073709551616) :
    Calls Tryz.prog 283 #[.int .u64 a] w fun e w' => e = .returned (.int .u64 (sgnM 128 256 (a % 256))) ∧ w' = w := by
  skip
  by_cases hn : 128 ≤ (a % 256)
  · have hb : negM 128 (a % 256) = true := by simp [negM, hn]
    go_enter Tryz.func283, Tryz.ntmps283
    go_wp2_with (go_at_call 288; refine (neg_8 _ _).mono ?_; rintro e w' ⟨rfl, rfl⟩)
    go_ret
    exact ⟨ret_int (by
      unfold sgnM; rw [if_pos hn, not_u8 (a % 256) (by omega) (by omega), not_u64 _ (by omega) (by omega)]; omega), rfl⟩
  · have hb : negM 128 (a % 256) = false := by simp [negM]; omega
    go_enter Tryz.func283, Tryz.ntmps283
    go_wp2_with (go_at_call 288; refine (neg_8 _ _).mono ?_; rintro e w' ⟨rfl, rfl⟩)
    go_ret
    exact ⟨ret_int (by unfold sgnM; rw [if_neg (by omega)]; (try omega)), rfl⟩
set_option maxRecDepth 100000 in
theorem len_8 (w : World) : Calls Tryz.prog 231 #[.int .u64 (256 - 1)] w fun e w' => e = .returned (.int .i64 8) ∧ w' = w := by
  go_enter Tryz.func231, Tryz.ntmps231
  go_wp2
  go_ret
  exact ⟨ret_int (by decide +kernel), rfl⟩
theorem neg_16 (n : Int) (w : World) :
    Calls Tryz.prog 289 #[.int .u16 n] w fun e w' => e = .returned (.bool (negM 32768 n)) ∧ w' = w := by
  go_enter Tryz.func289, Tryz.ntmps289
  go_wp2
  go_ret
  exact ⟨ret_bool (by rw [not_u16 0 (by omega) (by omega)]; unfold negM; rw [decide_eq_decide]; omega), rfl⟩
theorem sgn_16 (a : Int) (w : World) (h0 : 0 ≤ a) (h1 : a < 18446744073709551616) :
    Calls Tryz.prog 284 #[.int .u64 a] w fun e w' => e = .returned (.int .u64 (sgnM 32768 65536 (a % 65536))) ∧ w' = w := by
  skip
  by_cases hn : 32768 ≤ (a % 65536)
  · have hb : negM 32768 (a % 65536) = true := by simp [negM, hn]
    go_enter Tryz.func284, Tryz.ntmps284
    go_wp2_with (go_at_call 289; refine (neg_16 _ _).mono ?_; rintro e w' ⟨rfl, rfl⟩)
    go_ret
    exact ⟨ret_int (by
      unfold sgnM; rw [if_pos hn, not_u16 (a % 65536) (by omega) (by omega), not_u64 _ (by omega) (by omega)]; omega), rfl⟩
  · have hb : negM 32768 (a % 65536) = false := by simp [negM]; omega
    go_enter Tryz.func284, Tryz.ntmps284
    go_wp2_with (go_at_call 289; refine (neg_16 _ _).mono ?_; rintro e w' ⟨rfl, rfl⟩)
    go_ret
    exact ⟨ret_int (by unfold sgnM; rw [if_neg (by omega)]; (try omega)), rfl⟩
set_option maxRecDepth 100000 in
theorem len_16 (w : World) : Calls Tryz.prog 231 #[.int .u64 (65536 - 1)] w fun e w' => e = .returned (.int .i64 16) ∧ w' = w := by
  go_enter Tryz.func231, Tryz.ntmps231
  go_wp2
  go_ret
  exact ⟨ret_int (by decide +kernel), rfl⟩
theorem neg_32 (n : Int) (w : World) :
    Calls Tryz.prog 290 #[.int .u32 n] w fun e w' => e = .returned (.bool (negM 2147483648 n)) ∧ w' = w := by
  go_enter Tryz.func290, Tryz.ntmps290
  go_wp2
  go_ret
  exact ⟨ret_bool (by rw [not_u32 0 (by omega) (by omega)]; unfold negM; rw [decide_eq_decide]; omega), rfl⟩
theorem sgn_32 (a : Int) (w : World) (h0 : 0 ≤ a) (h1 : a < 18446744073709551616) :
    Calls Tryz.prog 285 #[.int .u64 a] w fun e w' => e = .returned (.int .u64 (sgnM 2147483648 4294967296 (a % 4294967296))) ∧ w' = w := by
  skip
  by_cases hn : 2147483648 ≤ (a % 4294967296)
  · have hb : negM 2147483648 (a % 4294967296) = true := by simp [negM, hn]
    go_enter Tryz.func285, Tryz.ntmps285
    go_wp2_with (go_at_call 290; refine (neg_32 _ _).mono ?_; rintro e w' ⟨rfl, rfl⟩)
    go_ret
    exact ⟨ret_int (by
      unfold sgnM; rw [if_pos hn, not_u32 (a % 4294967296) (by omega) (by omega), not_u64 _ (by omega) (by omega)]; omega), rfl⟩
  · have hb : negM 2147483648 (a % 4294967296) = false := by simp [negM]; omega
    go_enter Tryz.func285, Tryz.ntmps285
    go_wp2_with (go_at_call 290; refine (neg_32 _ _).mono ?_; rintro e w' ⟨rfl, rfl⟩)
    go_ret
    exact ⟨ret_int (by unfold sgnM; rw [if_neg (by omega)]; (try omega)), rfl⟩
set_option maxRecDepth 100000 in
theorem len_32 (w : World) : Calls Tryz.prog 231 #[.int .u64 (4294967296 - 1)] w fun e w' => e = .returned (.int .i64 32) ∧ w' = w := by
  go_enter Tryz.func231, Tryz.ntmps231
  go_wp2
  go_ret
  exact ⟨ret_int (by decide +kernel), rfl⟩
theorem neg_64 (n : Int) (w : World) :
    Calls Tryz.prog 291 #[.int .u64 n] w fun e w' => e = .returned (.bool (negM 9223372036854775808 n)) ∧ w' = w := by
  go_enter Tryz.func291, Tryz.ntmps291
  go_wp2
  go_ret
  exact ⟨ret_bool (by rw [not_u64 0 (by omega) (by omega)]; unfold negM; rw [decide_eq_decide]; omega), rfl⟩
theorem sgn_64 (a : Int) (w : World) (h0 : 0 ≤ a) (h1 : a < 18446744073709551616) :
    Calls Tryz.prog 286 #[.int .u64 a] w fun e w' => e = .returned (.int .u64 (sgnM 9223372036854775808 18446744073709551616 (a % 18446744073709551616))) ∧ w' = w := by
  rw [show a % 18446744073709551616 = a from by omega]
  by_cases hn : 9223372036854775808 ≤ a
  · have hb : negM 9223372036854775808 a = true := by simp [negM, hn]
    go_enter Tryz.func286, Tryz.ntmps286
    go_wp2_with (go_at_call 291; refine (neg_64 _ _).mono ?_; rintro e w' ⟨rfl, rfl⟩)
    go_ret
    exact ⟨ret_int (by
      unfold sgnM; rw [if_pos hn, not_u64 a (by omega) (by omega), not_u64 _ (by omega) (by omega)]; omega), rfl⟩
  · have hb : negM 9223372036854775808 a = false := by simp [negM]; omega
    go_enter Tryz.func286, Tryz.ntmps286
    go_wp2_with (go_at_call 291; refine (neg_64 _ _).mono ?_; rintro e w' ⟨rfl, rfl⟩)
    go_ret
    exact ⟨ret_int (by unfold sgnM; rw [if_neg (by omega)]; (try omega)), rfl⟩
set_option maxRecDepth 100000 in
theorem len_64 (w : World) : Calls Tryz.prog 231 #[.int .u64 (18446744073709551616 - 1)] w fun e w' => e = .returned (.int .i64 64) ∧ w' = w := by
  go_enter Tryz.func231, Tryz.ntmps231
  go_wp2
  go_ret
  exact ⟨ret_int (by decide +kernel), rfl⟩
end Go.Proofs.YtkihaohdcgjioaaGreatDoor.Wo
