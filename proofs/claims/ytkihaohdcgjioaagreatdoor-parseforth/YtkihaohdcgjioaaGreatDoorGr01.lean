import Derived.Test.YtkihaohdcgjioaaGreatDoorProg
import Derived.WalkKit
import Derived.Deep.QuietTactic
import Derived.BigQuiet
import Derived.RangeFuncNested
import Derived.RangeFuncBound
import Derived.RangeFuncCalls
import Derived.RangeFuncLeaves
import Derived.Shelf.Abstract
import Derived.Shelf.RegionOpen
import Derived.OwnWalkIn
import Derived.TacticsInMore
import Derived.LoopNIn
import Derived.LoopIn
namespace Go.Proofs.YtkihaohdcgjioaaGreatDoor
open Go.RowKit
set_option linter.unusedVariables false
set_option linter.unusedSimpArgs false
theorem hidOf {p : Prop} (h : p) : Hid p := h
theorem ret_bool {w : World} {a b : Bool} (h : a = b) : Ending.returned (Value.bool a) = Ending.returned (Value.bool b) ∧ w = w := ⟨by rw [h], rfl⟩
def letP (c : Int) : Bool := decide (97 ≤ c) && decide (c ≤ 122) || decide (65 ≤ c) && decide (c ≤ 90) || c == 95
def digP (c : Int) : Bool := decide (48 ≤ c) && decide (c ≤ 57)
def runP (c : Int) : Bool := letP c || digP c || c == 46 || c == 36
def hexP (c : Int) : Bool := digP c || decide (97 ≤ c) && decide (c ≤ 102) || decide (65 ≤ c) && decide (c ≤ 70)
theorem letter_any (c : Int) (w : World) : Calls Tryz.prog 216 #[.int .u8 c] w fun e w' => e = .returned (.bool (letP c)) ∧ w = w' := by
  go_enter Tryz.func216, Tryz.ntmps216
  go_wp2
  all_goals (go_ret; refine ret_bool ?_; unfold letP; rw [Bool.eq_iff_iff]; simp; omega)
theorem digit_any (c : Int) (w : World) : Calls Tryz.prog 217 #[.int .u8 c] w fun e w' => e = .returned (.bool (digP c)) ∧ w = w' := by
  go_enter Tryz.func217, Tryz.ntmps217
  go_wp2
  all_goals (go_ret; refine ret_bool ?_; unfold digP; rw [Bool.eq_iff_iff]; simp; omega)
theorem inRun_any (c : Int) (w : World) : Calls Tryz.prog 218 #[.int .u8 c] w fun e w' => e = .returned (.bool (runP c)) ∧ w = w' := by
  cases h1 : letP c <;> cases h2 : digP c <;> (
    go_enter Tryz.func218, Tryz.ntmps218
    go_wp2_with (first | (go_at_call 216; refine (letter_any _ _).mono ?_; rw [h1]; rintro e w1 ⟨rfl, rfl⟩) | (go_at_call 217; refine (digit_any _ _).mono ?_; rw [h2]; rintro e w2 ⟨rfl, rfl⟩))
    all_goals (go_ret; refine ret_bool ?_; unfold runP; first | (simp [h1, h2]; done) | (simp [h1, h2]; omega)))
theorem hexDigit_any (c : Int) (w : World) : Calls Tryz.prog 279 #[.int .u8 c] w fun e w' => e = .returned (.bool (hexP c)) ∧ w = w' := by
  cases h2 : digP c <;> (
    go_enter Tryz.func279, Tryz.ntmps279
    go_wp2_with (go_at_call 217; refine (digit_any _ _).mono ?_; rw [h2]; rintro e w2 ⟨rfl, rfl⟩)
    all_goals (go_ret; refine ret_bool ?_; unfold hexP; rw [h2, Bool.eq_iff_iff]; simp; try omega))
def bI (b : UInt8) : Int := b.toNat
def headOk (l : List UInt8) : Bool := match l with | [] => false | c :: _ => letP (bI c) || digP (bI c)
def runN (l : List UInt8) : Nat := if headOk l then (l.takeWhile fun b => runP (bI b)).length else 0
theorem lsize (s : ByteArray) : s.toList.length = s.size := by rw [ByteArray.toList_eq]; rfl
theorem lget (s : ByteArray) (k : Nat) (h : k < s.size) : s.toList[k]? = some s[k] := by
  rw [ByteArray.toList_eq]
  have h' : k < s.data.toList.length := h
  rw [List.getElem?_eq_getElem h']
  rfl
theorem tw_len {α : Type} (p : α → Bool) : ∀ (l : List α) (k : Nat), (l.take k).all p = true → k ≤ l.length → (k = l.length ∨ ∃ b, l[k]? = some b ∧ p b = false) → (l.takeWhile p).length = k
  | [], k, _, hk, _ => by simp at hk; simp [hk]
  | x :: l, 0, _, _, h => by
    rcases h with h | ⟨b, hb, hp⟩
    · simp at h
    · simp at hb; subst hb; simp [List.takeWhile, hp]
  | x :: l, k + 1, ha, hk, h => by
    simp only [List.take_succ_cons, List.all_cons, Bool.and_eq_true] at ha
    simp only [List.length_cons] at hk
    have := tw_len p l k ha.2 (by omega) (by
      rcases h with h | ⟨b, hb, hp⟩
      · left; simp at h; omega
      · right; exact ⟨b, by simpa using hb, hp⟩)
    simp [List.takeWhile, ha.1, this]
theorem all_step {α : Type} (p : α → Bool) (l : List α) (k : Nat) (b : α) (h : (l.take k).all p = true) (hb : l[k]? = some b) (hp : p b = true) : (l.take (k + 1)).all p = true := by
  rw [List.take_add_one, hb]; simp [List.all_append, h, hp]
theorem letter_of {c : Int} {b : Bool} (h : letP c = b) (w : World) : Calls Tryz.prog 216 #[.int .u8 c] w fun e w' => e = .returned (.bool b) ∧ w = w' := h ▸ letter_any c w
theorem digit_of {c : Int} {b : Bool} (h : digP c = b) (w : World) : Calls Tryz.prog 217 #[.int .u8 c] w fun e w' => e = .returned (.bool b) ∧ w = w' := h ▸ digit_any c w
theorem inRun_of {c : Int} {b : Bool} (h : runP c = b) (w : World) : Calls Tryz.prog 218 #[.int .u8 c] w fun e w' => e = .returned (.bool b) ∧ w = w' := h ▸ inRun_any c w
theorem runSize_any (s : ByteArray) (w : World) (hs : s.size ≤ 9223372036854775807) : Calls Tryz.prog 167 #[.string s] w fun e w' => e = .returned (.int .i64 (runN s.toList : Nat)) ∧ w = w' := by
  by_cases h0 : s.size = 0
  · have hl : s.toList = [] := List.length_eq_zero_iff.1 (by rw [lsize, h0])
    have hN : runN s.toList = 0 := by rw [hl]; rfl
    rw [hN]
    go_enter Tryz.func167, Tryz.ntmps167
    go_wp2
    go_ret
    exact ⟨rfl, rfl⟩
  · have h0' : (0 : Int) < s.size := by omega
    have hne : ¬ s.toList = [] := fun h => by have := lsize s; rw [h] at this; simp at this; omega
    have hie : s.toList.isEmpty = false := by cases hl : s.toList with | nil => exact absurd hl hne | cons x r => rfl
    have hb := lget s 0 (by omega)
    have hhead : headOk s.toList = (letP (bI s[0]) || digP (bI s[0])) := by
      cases hl : s.toList with
      | nil => exact absurd hl hne
      | cons x r => rw [hl] at hb; simp at hb; subst hb; rfl
    have Hb := hidOf hb
    have Hh := hidOf hhead
    clear hb hhead
    cases h1 : letP (bI s[0]) <;> cases h2 : digP (bI s[0])
    · have hN : runN s.toList = 0 := by unfold runN; rw [Hh.out, h1, h2]; rfl
      rw [hN]
      go_enter Tryz.func167, Tryz.ntmps167
      go_wp2_with (first | (go_at_call 216; refine (letter_of h1 _).mono ?_; rintro e w1 ⟨rfl, rfl⟩) | (go_at_call 217; refine (digit_of h2 _).mono ?_; rintro e w2 ⟨rfl, rfl⟩))
      go_ret
      exact ⟨rfl, rfl⟩
    all_goals
      have hr0 : runP (bI s[0]) = true := by simp [runP, h1, h2]
      have HN : Hid (∀ k, (s.toList.take k).all (fun b => runP (bI b)) = true → k ≤ s.size → (k = s.size ∨ ∃ b, s.toList[k]? = some b ∧ runP (bI b) = false) → runN s.toList = k) := fun k ha hk hs => by
        unfold runN
        rw [Hh.out, h1, h2]
        exact tw_len _ _ k ha (by rw [lsize]; exact hk) (by rw [lsize]; exact hs)
      have HA1 : Hid ((s.toList.take 1).all (fun b => runP (bI b)) = true) := all_step _ _ 0 _ (by simp) Hb.out hr0
      go_enter Tryz.func167, Tryz.ntmps167
      go_wp2_with (first | (go_at_call 216; refine (letter_of h1 _).mono ?_; rintro e w1 ⟨rfl, rfl⟩) | (go_at_call 217; refine (digit_of h2 _).mono ?_; rintro e w2 ⟨rfl, rfl⟩))
      go_loopw [3] (fun nv wr => ∃ k : Nat, 1 ≤ k ∧ k ≤ s.size ∧ nv = .int .i64 k ∧ Hid ((s.toList.take k).all (fun b => runP (bI b)) = true) ∧ wr = w) (fun nv _ => s.size - (intOf nv).toNat)
      case atStart => exact ⟨1, by omega, by omega, rfl, HA1, rfl⟩
      case round =>
        obtain ⟨k, hk1, hk2, rfl, Ha, rfl⟩ := hrel
        by_cases hk : k < s.size
        · have hlt : (k : Int) < s.size := by omega
          have h0k : (0 : Int) ≤ k := by omega
          have Hg := hidOf (lget s k hk)
          cases hr : runP (bI s[k])
          · have Hfin := hidOf (HN.out k Ha.out hk2 (.inr ⟨_, Hg.out, hr⟩))
            go_wp2_with (go_at_call 218; refine (inRun_of hr _).mono ?_; rintro e w3 ⟨rfl, rfl⟩)
            go_ret
            exact ⟨by rw [Hfin.out]; rfl, rfl⟩
          · have Ha' := hidOf (all_step (fun b => runP (bI b)) _ k _ Ha.out Hg.out hr)
            go_wp2_with (go_at_call 218; refine (inRun_of hr _).mono ?_; rintro e w3 ⟨rfl, rfl⟩)
            go_roundw
            case rel => exact ⟨k + 1, by omega, by omega, by simp, Ha', trivial⟩
            case measure => simp [intOf]; omega
        · have hlt : ¬ (k : Int) < s.size := by omega
          have Hfin := hidOf (HN.out k Ha.out hk2 (.inl (by omega)))
          go_wp2
          go_ret
          exact ⟨by rw [Hfin.out]; rfl, rfl⟩
def startP (l : List UInt8) : Bool := match l with | [] => false | c :: _ => letP (bI c)
def nameP (l : List UInt8) : Bool := decide (l.length ≤ 64) && startP l && l.all (fun b => runP (bI b))
theorem isEmpty_of {s : ByteArray} (h : ¬ s.size = 0) : s.toList.isEmpty = false ∧ ¬ s.toList = [] := by
  have hne : ¬ s.toList = [] := fun h' => by have := lsize s; rw [h'] at this; simp at this; omega
  exact ⟨by cases hl : s.toList with | nil => exact absurd hl hne | cons x r => rfl, hne⟩
theorem head_of {s : ByteArray} (h : 0 < s.size) : ∃ r, s.toList = s[0] :: r := by
  have hb := lget s 0 h
  cases hl : s.toList with
  | nil => rw [hl] at hb; simp at hb
  | cons x r => rw [hl] at hb; simp at hb; exact ⟨r, by rw [hb]⟩
theorem startsWord_any (s : ByteArray) (w : World) : Calls Tryz.prog 166 #[.string s] w fun e w' => e = .returned (.bool (startP s.toList)) ∧ w = w' := by
  by_cases h0 : s.size = 0
  · have hl : s.toList = [] := List.length_eq_zero_iff.1 (by rw [lsize, h0])
    have hN : startP s.toList = false := by rw [hl]; rfl
    rw [hN]
    go_enter Tryz.func166, Tryz.ntmps166
    go_wp2
    go_ret
    exact ⟨rfl, rfl⟩
  · have h0' : (0 : Int) < s.size := by omega
    obtain ⟨hie, hne⟩ := isEmpty_of h0
    obtain ⟨r, hr⟩ := head_of (s := s) (by omega)
    cases h1 : letP (bI s[0]) <;> (
      have hN : startP s.toList = letP (bI s[0]) := by rw [hr]; rfl
      rw [hN, h1]
      clear hN hr
      go_enter Tryz.func166, Tryz.ntmps166
      go_wp2_with (go_at_call 216; refine (letter_of h1 _).mono ?_; rintro e w1 ⟨rfl, rfl⟩)
      go_ret
      exact ⟨rfl, rfl⟩)
theorem tw_all {α : Type} (p : α → Bool) : ∀ l : List α, ((l.takeWhile p).length = l.length) ↔ (l.all p = true)
  | [] => by simp
  | x :: l => by
    have ih := tw_all p l
    cases hp : p x
    · simp [List.takeWhile, hp]
    · simp only [List.takeWhile, hp, List.length_cons, List.all_cons, Bool.true_and, ← ih]; omega
theorem run_all {l : List UInt8} (h : startP l = true) : (runN l = l.length) ↔ (l.all (fun b => runP (bI b)) = true) := by
  have hh : headOk l = true := by
    cases l with
    | nil => simp [startP] at h
    | cons x r => simp only [startP] at h; simp [headOk, h]
  unfold runN
  rw [if_pos hh]
  exact tw_all _ l
theorem isName_any (s : ByteArray) (w : World) (hs : s.size ≤ 9223372036854775807) : Calls Tryz.prog 125 #[.string s] w fun e w' => e = .returned (.bool (nameP s.toList)) ∧ w = w' := by
  have hl := lsize s
  by_cases h64 : s.size ≤ 64
  · have h64' : (s.size : Int) ≤ 64 := by omega
    cases h1 : startP s.toList
    · have hN : nameP s.toList = false := by simp [nameP, h1]
      rw [hN]
      clear hN
      go_enter Tryz.func125, Tryz.ntmps125
      go_wp2_with (go_at_call 166; refine (startsWord_any _ _).mono ?_; rw [h1]; rintro e w1 ⟨rfl, rfl⟩)
      go_ret
      exact ⟨rfl, rfl⟩
    · have hN : nameP s.toList = (runN s.toList == s.size) := by
        have h2 := run_all h1
        rw [hl] at h2
        rw [Bool.eq_iff_iff, beq_iff_eq, h2]
        simp [nameP, h1, hl, h64]
      rw [hN]
      clear hN
      go_enter Tryz.func125, Tryz.ntmps125
      go_wp2_with (first | (go_at_call 166; refine (startsWord_any _ _).mono ?_; rw [h1]; rintro e w1 ⟨rfl, rfl⟩) | (go_at_call 167; refine (runSize_any _ _ hs).mono ?_; rintro e w2 ⟨rfl, rfl⟩))
      go_ret
      refine ret_bool ?_
      rw [Bool.eq_iff_iff]; simp; omega
  · have h64' : ¬ (s.size : Int) ≤ 64 := by omega
    have hN : nameP s.toList = false := by simp [nameP, hl, h64]
    rw [hN]
    clear hN
    go_enter Tryz.func125, Tryz.ntmps125
    go_wp2
    go_ret
    exact ⟨rfl, rfl⟩
end Go.Proofs.YtkihaohdcgjioaaGreatDoor
namespace Go.Proofs.YtkihaohdcgjioaaGreatDoor
open Go.RowKit Go.Shelf
set_option linter.unusedVariables false
set_option linter.unusedSimpArgs false
attribute [local go_sem] Oper.semAt_some
theorem room_of_none {F : Fence} (hd : F.depth = none) (k : Nat) : F.room k := fun d h => by rw [hd] at h; cases h
theorem round_any {F : Fence} (hd : F.depth = none) {m m' : Nat} {P : Program} {l : Nat} {f : FuncId} {tmps : Array Value} {assign body : Code} {w : World} {R : Ending → World → Prop} (h : RoundIn F m P l f tmps assign body w R) : RoundIn F m' P l f tmps assign body w R := ⟨h.1, fun c cs _ => h.2 c cs (room_of_none hd _)⟩
theorem yield_any {F : Fence} (hd : F.depth = none) {m : Nat} (m' : Nat) {P : Program} {l : Nat} {args : Array Value} {W : World} {R : Ending → World → Prop} (h : YieldAt F m P l args W R) : YieldAt F m' P l args W R := by
  obtain ⟨fn, tmps, assign, body, hy, hR⟩ := h
  exact ⟨fn, tmps, assign, body, hy, round_any hd hR⟩
theorem tell_nil (F : Fence) (hf : F.fn 240) (hro : F.round = none) (n : Nat) (m : Value) (o s f i : Int) (hm : m = .agg #[.int .u8 o, .int .u8 s, .int .u8 f, .int .u8 i]) (q : Value) (W : World) :
    CallsIn F n Tryz.prog 240 #[.string ⟨#[]⟩, m, q] W fun e W' => e = .returned (.bool true) ∧ W' = W.alloc (.cells #[.int .u8 o, .int .u8 s, .int .u8 f, .int .u8 i] 216) := by
  subst hm
  refine callsIn_of_wp Tryz.func240 rfl hf ?_ hro
  simp only [Tryz.ntmps240, List.size_toArray, List.length_cons, List.length_nil, Nat.reduceAdd, Nat.reduceSub, Array.replicate_succ, Array.replicate_zero, List.push_toArray, List.append_toArray, List.nil_append, List.cons_append]
  gi_wp2
  refine ⟨fun _ h => (by cases h), ?_⟩
  gi_wp2
  go_ret
  exact ⟨rfl, rfl⟩
theorem tell_some (F : Fence) (hd : F.depth = none) (hf : F.fn 240) (hro : F.round = none) (n l Bq : Nat) (t : List UInt8) (ht : t.isEmpty = false) (o s f i : Int) (W : World) (hB : W.cell? ⟨Bq, 0, none⟩ = some (.func (.yield l) #[] #[])) (A B : World → Prop)
    (hY : YieldAt F (n - 1) Tryz.prog l #[.string ⟨t.toArray⟩, .agg #[.int .u8 o, .int .u8 s, .int .u8 f, .int .u8 i]] (W.alloc (.cells #[.int .u8 o, .int .u8 s, .int .u8 f, .int .u8 i] 216)) fun e W' => (e = .returned (.bool true) ∧ A W') ∨ (e = .returned (.bool false) ∧ B W')) :
    CallsIn F n Tryz.prog 240 #[.string ⟨t.toArray⟩, .agg #[.int .u8 o, .int .u8 s, .int .u8 f, .int .u8 i], .pointer (some ⟨Bq, 0, none⟩)] W fun e W' => (e = .returned (.bool true) ∧ A W') ∨ (e = .returned (.bool false) ∧ B W') := by
  have hdd : ∀ k : Nat, (F.depth.isSome = true → 1 ≤ k) := fun k h => by rw [hd] at h; cases h
  obtain ⟨fn, tmps, assign, body, hy, hR⟩ := hY
  refine callsIn_of_wp Tryz.func240 rfl hf ?_ hro
  simp only [Tryz.ntmps240, List.size_toArray, List.length_cons, List.length_nil, Nat.reduceAdd, Nat.reduceSub, Array.replicate_succ, Array.replicate_zero, List.push_toArray, List.append_toArray, List.nil_append, List.cons_append]
  have hB2 : (W.alloc (.cells #[.int .u8 o, .int .u8 s, .int .u8 f, .int .u8 i] 216)).cell? ⟨Bq, 0, none⟩ = some (.func (.yield l) #[] #[]) := cell_kept hB (World.grownBy_alloc W _ none) (by simp)
  gi_wp2_with ((try refine ⟨hdd _, ?_⟩); refine hR.mono ?_; clear hR; rintro e W2 (⟨rfl, hA⟩ | ⟨rfl, hBb⟩))
  · go_ret
    exact .inl ⟨rfl, hA⟩
  · go_ret
    exact .inr ⟨rfl, hBb⟩
end Go.Proofs.YtkihaohdcgjioaaGreatDoor
