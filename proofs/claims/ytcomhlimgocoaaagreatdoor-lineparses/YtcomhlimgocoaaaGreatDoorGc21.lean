import Derived.Test.YtcomhlimgocoaaaGreatDoorGc20
import Derived.Lib.AppendIntMem
import Derived.RangeFuncNested
import Derived.RangeFuncBound
import Derived.RangeFuncCalls
import Derived.RangeFuncLeaves
import Derived.Shelf.Abstract
import Derived.Shelf.RegionOpen
import Derived.WalkKit
import Derived.OwnWalkIn
import Derived.TacticsInMore
import Derived.LoopNIn
import Derived.LoopIn
import Derived.Test.YtcomhlimgocoaaaGreatDoorProg
namespace Go.Proofs.YtcomhlimgocoaaaGreatDoor
open Go.RowKit
set_option linter.unusedVariables false
set_option linter.unusedSimpArgs false
def Pow (w : World) : Prop := Lib.TabIs Tryz.prog w "internal/strconv.uint64pow10" .u64 Lib.pow10Tab
theorem Pow.out {w w' : World} (h : Pow w) (o : Out w w') : Pow w' := Lib.tabBelow_of_tabIs h w' o
theorem itoa_any (f : Int) (h : -9223372036854775808 ≤ f ∧ f < 9223372036854775808) (w : World) (ht : Pow w) : Calls Tryz.prog 57 #[.int .i64 f] w fun e w' => e = .returned (.string ⟨(Lib.itoa f).toArray⟩) ∧ Out w w' :=
  (Tryz.strconv_Itoa f h.1 (by omega) w ht).mono fun e w' ⟨he, k, os, hw⟩ => ⟨he, by rw [hw]; exact Lib.below_grow _ w (Nat.le_refl _) k os⟩
theorem dd_len : ∀ (k u : Nat), u < 10 ^ (k + 1) → (Lib.decDigits u).length ≤ k + 1
  | 0, u, h => by rw [dd_small (by omega)]; simp
  | k + 1, u, h => by
    by_cases hu : u < 10
    · rw [dd_small hu]; simp
    · rw [dd_big hu, List.length_append]
      have := dd_len k (u / 10) (by rw [Nat.pow_succ] at h; omega)
      simp; omega
theorem itoa_len (f : Int) (h : -9223372036854775808 ≤ f ∧ f < 9223372036854775808) : (Lib.itoa f).length ≤ 100 := by
  by_cases hf : f < 0
  · rw [itoa_neg f hf]
    have := dd_len 19 f.natAbs (by omega)
    simp; omega
  · rw [itoa_pos f hf]
    have := dd_len 19 f.toNat (by omega)
    omega
theorem add_lists (x y z : List UInt8) (hz : z = x ++ y) (h : x.length + y.length ≤ 9223372036854775807) (w : World) : (Op.stringOp .add ⟨x.toArray⟩ ⟨y.toArray⟩).run Tryz.prog w = .ok (.string ⟨z.toArray⟩) w := by
  rw [run_string_add_sum w _ _ (by simp [ByteArray.size]; omega), ByteArray.mk_append_mk, hz]
theorem regL_len (k : Nat) : (regL k).length ≤ 3 := by unfold regL; split <;> simp
theorem place_at0 (f : Int) (w : World) (k : Nat) (l m : List UInt8) (hl : l.length ≤ 3) (hm : m.length ≤ 100) (h11 : (k : Int) < 11) (c0 : w.cell? ⟨1, k, none⟩ = some (.string ⟨l.toArray⟩)) (CI : Hid (∀ wx, Out w wx → Calls Tryz.prog 57 #[.int .i64 f] wx fun e w' => e = .returned (.string ⟨m.toArray⟩) ∧ Out wx w')) : Calls Tryz.prog 58 #[.int .i64 k, .int .i64 f] w fun e w' => e = .returned (.string ⟨([91] ++ l ++ (if 0 ≤ f then [43] else []) ++ m ++ [93]).toArray⟩) ∧ Out w w' := by
  obtain ⟨sg, hsg⟩ : ∃ sg : List UInt8, sg = if 0 ≤ f then [43] else [] := ⟨_, rfl⟩
  rw [← hsg]
  obtain ⟨l1, h1⟩ : ∃ l1, l1 = [91] ++ l := ⟨_, rfl⟩
  obtain ⟨l2, h2⟩ : ∃ l2, l2 = l1 ++ sg := ⟨_, rfl⟩
  obtain ⟨l3, h3⟩ : ∃ l3, l3 = l2 ++ m := ⟨_, rfl⟩
  obtain ⟨l4, h4⟩ : ∃ l4, l4 = l3 ++ [93] := ⟨_, rfl⟩
  have zs : sg.length ≤ 1 := by rw [hsg]; split <;> simp
  have z1 : l1.length ≤ 4 := by rw [h1]; simp; omega
  have z2 : l2.length ≤ 5 := by rw [h2]; simp; omega
  have z3 : l3.length ≤ 105 := by rw [h3]; simp; omega
  have a1 : ∀ w, (Op.stringOp .add ⟨#[91]⟩ ⟨l.toArray⟩).run Tryz.prog w = .ok (.string ⟨l1.toArray⟩) w := add_lists [91] l l1 h1 (by simp; omega)
  have a2 : ∀ w, (Op.stringOp .add ⟨l1.toArray⟩ ⟨sg.toArray⟩).run Tryz.prog w = .ok (.string ⟨l2.toArray⟩) w := add_lists l1 sg l2 h2 (by omega)
  have a3 : ∀ w, (Op.stringOp .add ⟨l2.toArray⟩ ⟨m.toArray⟩).run Tryz.prog w = .ok (.string ⟨l3.toArray⟩) w := add_lists l2 m l3 h3 (by omega)
  have a4 : ∀ w, (Op.stringOp .add ⟨l3.toArray⟩ ⟨#[93]⟩).run Tryz.prog w = .ok (.string ⟨l4.toArray⟩) w := add_lists l3 [93] l4 h4 (by simp; omega)
  rw [← h1, ← h2, ← h3, ← h4]
  clear h1 h2 h3 h4 z1 z2 z3 hl hm zs
  by_cases hf : 0 ≤ f
  · rw [if_pos hf] at hsg
    subst hsg
    have hp : (decide (0 ≤ f)) = true := by simpa using hf
    go_enter Tryz.func58, Tryz.ntmps58
    go_wp2
    go_region_held3 (fun w' => w'.cell? ⟨1, k, none⟩ = some (.string ⟨l.toArray⟩)) (first | exact c0 | exact d0 | go_keep) (first | (go_at_call 57; refine (CI.out _ (by first | exact Out.refl _ | exact (Out.refl _).drew)).mono ?_; rintro e w1 ⟨rfl, ho1⟩; have Ho1 := hidOf ho1; have d0 := cell_later ho1 c0; clear ho1))
    all_goals go_wp2
    all_goals go_ret
    all_goals exact ⟨rfl, Out.trans (Out.refl w).drew Ho1.out⟩
  · rw [if_neg hf] at hsg
    subst hsg
    have hp : (decide (0 ≤ f)) = false := by simpa using hf
    go_enter Tryz.func58, Tryz.ntmps58
    go_wp2
    go_region_held3 (fun w' => w'.cell? ⟨1, k, none⟩ = some (.string ⟨l.toArray⟩)) (first | exact c0 | exact d0 | go_keep) (first | (go_at_call 57; refine (CI.out _ (by first | exact Out.refl _ | exact (Out.refl _).drew)).mono ?_; rintro e w1 ⟨rfl, ho1⟩; have Ho1 := hidOf ho1; have d0 := cell_later ho1 c0; clear ho1))
    all_goals go_wp2
    all_goals go_ret
    all_goals exact ⟨rfl, Out.trans (Out.refl w).drew Ho1.out⟩
theorem placeText_any (k : Nat) (hk : k < 11) (f : Int) (h : -9223372036854775808 ≤ f ∧ f < 9223372036854775808) (w : World) (hR : RegT w) (ht : Pow w) : Calls Tryz.prog 58 #[.int .i64 k, .int .i64 f] w fun e w' => e = .returned (.string ⟨(placeTx k f).toArray⟩) ∧ Out w w' := by
  have := place_at0 f w k (regL k) (Lib.itoa f) (regL_len k) (itoa_len f h) (by omega) (hR k hk) (fun wx ho => itoa_any f h wx (ht.out ho))
  rw [show [91] ++ regL k ++ (if 0 ≤ f then [43] else []) ++ Lib.itoa f ++ [93] = placeTx k f from by unfold placeTx; simp [List.append_assoc]] at this
  exact this
def txOk (o d s f i c : Int) : Prop := (c = 1 ∧ isReg d = true) ∨ (c = 2 ∧ isReg s = true) ∨ c = 3 ∨ (c = 4 ∧ (hasSrc o = true → isReg s = true)) ∨ (c = 5 ∧ isReg s = true) ∨ (c = 6 ∧ isReg d = true) ∨ c = 7 ∨ c = 8
set_option maxHeartbeats 1600000 in
theorem operandText_any (o d s f i c : Int) (t : List UInt8) (hc : txOk o d s f i c) (hf : -9223372036854775808 ≤ f ∧ f < 9223372036854775808) (hi : -9223372036854775808 ≤ i ∧ i < 9223372036854775808) (w : World) (hR : RegT w) (ht : Pow w) : Calls Tryz.prog 24 #[.agg #[.int .i64 o, .int .i64 d, .int .i64 s, .int .i64 f, .int .i64 i], .int .u8 c, .string ⟨t.toArray⟩] w fun e w' => e = .returned (.string ⟨(opdTx o d s f i t c).toArray⟩) ∧ Out w w' := by
  have CI : Hid (∀ wx, Out w wx → Calls Tryz.prog 57 #[.int .i64 i] wx fun e w' => e = .returned (.string ⟨(Lib.itoa i).toArray⟩) ∧ Out wx w') := fun wx ho => itoa_any i hi wx (ht.out ho)
  rcases hc with ⟨rfl, hr⟩ | ⟨rfl, hr⟩ | rfl | ⟨rfl, hr⟩ | ⟨rfl, hr⟩ | ⟨rfl, hr⟩ | rfl | rfl
  · rw [show opdTx o d s f i t 1 = regL d.toNat from rfl]
    obtain ⟨hk, he⟩ := isReg_nat hr
    generalize d.toNat = k at *
    subst he
    have hlt : (k : Int) < 11 := by omega
    have c0 : ∀ O, (w.alloc O).cell? ⟨1, k, none⟩ = some (.string ⟨(regL k).toArray⟩) := fun O => cell_later ((Out.refl w).alloc O) (hR k hk)
    clear hR ht hr hf hi CI hk
    generalize regL k = l at *
    go_enter Tryz.func24, Tryz.ntmps24
    go_wp2
    go_ret
    exact ⟨rfl, (Out.refl w).alloc _⟩
  · rw [show opdTx o d s f i t 2 = regL s.toNat from rfl]
    obtain ⟨hk, he⟩ := isReg_nat hr
    generalize s.toNat = k at *
    subst he
    have hlt : (k : Int) < 11 := by omega
    have c0 : ∀ O, (w.alloc O).cell? ⟨1, k, none⟩ = some (.string ⟨(regL k).toArray⟩) := fun O => cell_later ((Out.refl w).alloc O) (hR k hk)
    clear hR ht hr hf hi CI hk
    generalize regL k = l at *
    go_enter Tryz.func24, Tryz.ntmps24
    go_wp2
    go_ret
    exact ⟨rfl, (Out.refl w).alloc _⟩
  · rw [show opdTx o d s f i t 3 = Lib.itoa i from rfl]
    generalize Lib.itoa i = l at *
    clear hR ht hf hi
    go_enter Tryz.func24, Tryz.ntmps24
    go_wp2_with (go_at_call 57; refine (CI.out _ ((Out.refl w).alloc _)).mono ?_; rintro e w1 ⟨rfl, ho1⟩; have Ho1 := hidOf ho1; clear ho1)
    go_ret
    exact ⟨rfl, Out.trans ((Out.refl w).alloc _) Ho1.out⟩
  · cases hh : hasSrc o
    · rw [show opdTx o d s f i t 4 = Lib.itoa i from by show (if hasSrc o then _ else _) = _; rw [hh]; rfl]
      have hb : (bits .and .i64 o 8 != 0) = false := hh
      generalize Lib.itoa i = l at *
      clear hR ht hf hi hr hh
      go_enter Tryz.func24, Tryz.ntmps24
      go_wp2_with (go_at_call 57; refine (CI.out _ ((Out.refl w).alloc _)).mono ?_; rintro e w1 ⟨rfl, ho1⟩; have Ho1 := hidOf ho1; clear ho1)
      go_ret
      exact ⟨rfl, Out.trans ((Out.refl w).alloc _) Ho1.out⟩
    · rw [show opdTx o d s f i t 4 = regL s.toNat from by show (if hasSrc o then _ else _) = _; rw [hh]; rfl]
      have hb : (bits .and .i64 o 8 != 0) = true := hh
      obtain ⟨hk, he⟩ := isReg_nat (hr hh)
      generalize s.toNat = k at *
      subst he
      have hlt : (k : Int) < 11 := by omega
      have c0 : ∀ O, (w.alloc O).cell? ⟨1, k, none⟩ = some (.string ⟨(regL k).toArray⟩) := fun O => cell_later ((Out.refl w).alloc O) (hR k hk)
      clear hR ht hr hf hi CI hk hh
      generalize regL k = l at *
      go_enter Tryz.func24, Tryz.ntmps24
      go_wp2
      go_ret
      exact ⟨rfl, (Out.refl w).alloc _⟩
  · rw [show opdTx o d s f i t 5 = placeTx s.toNat f from rfl]
    obtain ⟨hk, he⟩ := isReg_nat hr
    have CP : Hid (∀ wx, Out w wx → Calls Tryz.prog 58 #[.int .i64 s, .int .i64 f] wx fun e w' => e = .returned (.string ⟨(placeTx s.toNat f).toArray⟩) ∧ Out wx w') := fun wx ho => by
      have := placeText_any s.toNat hk f hf wx (hR.out ho) (ht.out ho)
      rw [he] at this
      exact this
    generalize placeTx s.toNat f = l at *
    clear hR ht hf hi CI hr hk he
    go_enter Tryz.func24, Tryz.ntmps24
    go_wp2_with (go_at_call 58; refine (CP.out _ ((Out.refl w).alloc _)).mono ?_; rintro e w1 ⟨rfl, ho1⟩; have Ho1 := hidOf ho1; clear ho1)
    go_ret
    exact ⟨rfl, Out.trans ((Out.refl w).alloc _) Ho1.out⟩
  · rw [show opdTx o d s f i t 6 = placeTx d.toNat f from rfl]
    obtain ⟨hk, he⟩ := isReg_nat hr
    have CP : Hid (∀ wx, Out w wx → Calls Tryz.prog 58 #[.int .i64 d, .int .i64 f] wx fun e w' => e = .returned (.string ⟨(placeTx d.toNat f).toArray⟩) ∧ Out wx w') := fun wx ho => by
      have := placeText_any d.toNat hk f hf wx (hR.out ho) (ht.out ho)
      rw [he] at this
      exact this
    generalize placeTx d.toNat f = l at *
    clear hR ht hf hi CI hr hk he
    go_enter Tryz.func24, Tryz.ntmps24
    go_wp2_with (go_at_call 58; refine (CP.out _ ((Out.refl w).alloc _)).mono ?_; rintro e w1 ⟨rfl, ho1⟩; have Ho1 := hidOf ho1; clear ho1)
    go_ret
    exact ⟨rfl, Out.trans ((Out.refl w).alloc _) Ho1.out⟩
  · rw [show opdTx o d s f i t 7 = t from rfl]
    clear hR ht hf hi CI
    go_enter Tryz.func24, Tryz.ntmps24
    go_wp2
    go_ret
    exact ⟨rfl, (Out.refl w).alloc _⟩
  · by_cases hs : s = 1
    · rw [show opdTx o d s f i t 8 = t from by show (if s = 1 then _ else _) = _; rw [if_pos hs]]
      subst hs
      clear hR ht hf hi CI
      go_enter Tryz.func24, Tryz.ntmps24
      go_wp2
      go_ret
      exact ⟨rfl, (Out.refl w).alloc _⟩
    · rw [show opdTx o d s f i t 8 = Lib.itoa i from by show (if s = 1 then _ else _) = _; rw [if_neg hs]]
      have hb : (s != 1) = true := by simpa using hs
      generalize Lib.itoa i = l at *
      clear hR ht hf hi hs
      go_enter Tryz.func24, Tryz.ntmps24
      go_wp2_with (go_at_call 57; refine (CI.out _ ((Out.refl w).alloc _)).mono ?_; rintro e w1 ⟨rfl, ho1⟩; have Ho1 := hidOf ho1; clear ho1)
      go_ret
      exact ⟨rfl, Out.trans ((Out.refl w).alloc _) Ho1.out⟩
end Go.Proofs.YtcomhlimgocoaaaGreatDoor
namespace Go.Proofs.YtcomhlimgocoaaaGreatDoor
open Go.RowKit Go.Shelf
set_option linter.unusedVariables false
set_option linter.unusedSimpArgs false
attribute [local go_sem] Oper.semAt_some
theorem room_of_none {F : Fence} (hd : F.depth = none) (k : Nat) : F.room k := fun d h => by rw [hd] at h; cases h
/-- a round wants no depth of its own where the fence has none -/
theorem round_any {F : Fence} (hd : F.depth = none) {m m' : Nat} {P : Program} {l : Nat} {f : FuncId} {tmps : Array Value} {assign body : Code} {w : World} {R : Ending → World → Prop} (h : RoundIn F m P l f tmps assign body w R) : RoundIn F m' P l f tmps assign body w R := ⟨h.1, fun c cs _ => h.2 c cs (room_of_none hd _)⟩
theorem yield_any {F : Fence} (hd : F.depth = none) {m : Nat} (m' : Nat) {P : Program} {l : Nat} {args : Array Value} {W : World} {R : Ending → World → Prop} (h : YieldAt F m P l args W R) : YieldAt F m' P l args W R := by
  obtain ⟨fn, tmps, assign, body, hy, hR⟩ := h
  exact ⟨fn, tmps, assign, body, hy, round_any hd hR⟩
/-- what tell says of an empty word -/
theorem tell_nil (F : Fence) (hf : F.fn 102) (hro : F.round = none) (n : Nat) (m : Value) (o s f i : Int) (hm : m = .agg #[.int .u8 o, .int .u8 s, .int .u8 f, .int .u8 i]) (q : Value) (W : World) :
    CallsIn F n Tryz.prog 102 #[.string ⟨#[]⟩, m, q] W fun e W' => e = .returned (.bool true) ∧ W' = W.alloc (.cells #[.int .u8 o, .int .u8 s, .int .u8 f, .int .u8 i] 77) := by
  subst hm
  refine callsIn_of_wp Tryz.func102 rfl hf ?_ hro
  simp only [Tryz.ntmps102, List.size_toArray, List.length_cons, List.length_nil, Nat.reduceAdd, Nat.reduceSub, Array.replicate_succ, Array.replicate_zero, List.push_toArray, List.append_toArray, List.nil_append, List.cons_append]
  gi_wp2
  refine ⟨fun _ h => (by cases h), ?_⟩
  gi_wp2
  go_ret
  exact ⟨rfl, rfl⟩
/-- what tell does with a word -/
theorem tell_some (F : Fence) (hd : F.depth = none) (hf : F.fn 102) (hro : F.round = none) (n l Bq : Nat) (t : List UInt8) (ht : t.isEmpty = false) (o s f i : Int) (W : World) (hB : W.cell? ⟨Bq, 0, none⟩ = some (.func (.yield l) #[] #[])) (A B : World → Prop)
    (hY : YieldAt F (n - 1) Tryz.prog l #[.string ⟨t.toArray⟩, .agg #[.int .u8 o, .int .u8 s, .int .u8 f, .int .u8 i]] (W.alloc (.cells #[.int .u8 o, .int .u8 s, .int .u8 f, .int .u8 i] 77)) fun e W' => (e = .returned (.bool true) ∧ A W') ∨ (e = .returned (.bool false) ∧ B W')) :
    CallsIn F n Tryz.prog 102 #[.string ⟨t.toArray⟩, .agg #[.int .u8 o, .int .u8 s, .int .u8 f, .int .u8 i], .pointer (some ⟨Bq, 0, none⟩)] W fun e W' => (e = .returned (.bool true) ∧ A W') ∨ (e = .returned (.bool false) ∧ B W') := by
  have hdd : ∀ k : Nat, (F.depth.isSome = true → 1 ≤ k) := fun k h => by rw [hd] at h; cases h
  obtain ⟨fn, tmps, assign, body, hy, hR⟩ := hY
  refine callsIn_of_wp Tryz.func102 rfl hf ?_ hro
  simp only [Tryz.ntmps102, List.size_toArray, List.length_cons, List.length_nil, Nat.reduceAdd, Nat.reduceSub, Array.replicate_succ, Array.replicate_zero, List.push_toArray, List.append_toArray, List.nil_append, List.cons_append]
  have hB2 : (W.alloc (.cells #[.int .u8 o, .int .u8 s, .int .u8 f, .int .u8 i] 77)).cell? ⟨Bq, 0, none⟩ = some (.func (.yield l) #[] #[]) := cell_kept hB (World.grownBy_alloc W _ none) (by simp)
  gi_wp2_with ((try refine ⟨hdd _, ?_⟩); refine hR.mono ?_; clear hR; rintro e W2 (⟨rfl, hA⟩ | ⟨rfl, hBb⟩))
  · go_ret
    exact .inl ⟨rfl, hA⟩
  · go_ret
    exact .inr ⟨rfl, hBb⟩
end Go.Proofs.YtcomhlimgocoaaaGreatDoor
