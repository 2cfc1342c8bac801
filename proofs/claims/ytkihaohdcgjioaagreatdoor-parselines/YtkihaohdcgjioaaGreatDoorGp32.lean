import Derived.Test.YtkihaohdcgjioaaGreatDoorGp23
import Derived.Lib.AppendIntMem
import Derived.Test.YtkihaohdcgjioaaGreatDoorGp31
import Derived.Maps.OwnSet
namespace Go.Proofs.YtkihaohdcgjioaaGreatDoor
open Go.RowKit
set_option linter.unusedVariables false
set_option linter.unusedSimpArgs false
def Pow (w : World) : Prop := Lib.TabIs Tryz.prog w "internal/strconv.uint64pow10" .u64 Lib.pow10Tab
theorem Pow.out {w w' : World} (h : Pow w) (o : Out w w') : Pow w' := Lib.tabBelow_of_tabIs h w' o
theorem itoa_any (f : Int) (h : -9223372036854775808 ≤ f ∧ f < 9223372036854775808) (w : World) (ht : Pow w) : Calls Tryz.prog 81 #[.int .i64 f] w fun e w' => e = .returned (.string ⟨(Lib.itoa f).toArray⟩) ∧ Out w w' :=
  (Tryz.strconv_Itoa f h.1 (by omega) w ht).mono fun e w' ⟨he, k, os, hw⟩ => ⟨he, by rw [hw]; exact Lib.below_grow _ w (Nat.le_refl _) k os⟩
theorem dd_len : ∀ (k u : Nat), u < 10 ^ (k + 1) → (Lib.decDigits u).length ≤ k + 1
  | 0, u, h => by rw [dd_small (by omega)]; simp
  | k + 1, u, h => by
    by_cases hu : u < 10
    · rw [dd_small hu]; simp
    · rw [dd_big hu, List.length_append]
      have := dd_len k (u / 10) (by rw [Nat.pow_succ] at h; omega)
      simp; omega
theorem itoa_len (f : Int) (h : -9223372036854775808 ≤ f ∧ f < 9223372036854775808) : (Lib.itoa f).length ≤ 100 := by
  by_cases hf : f < 0
  · rw [itoa_neg f hf]
    have := dd_len 19 f.natAbs (by omega)
    simp; omega
  · rw [itoa_pos f hf]
    have := dd_len 19 f.toNat (by omega)
    omega
theorem add_lists (x y z : List UInt8) (hz : z = x ++ y) (h : x.length + y.length ≤ 9223372036854775807) (w : World) : (Op.stringOp .add ⟨x.toArray⟩ ⟨y.toArray⟩).run Tryz.prog w = .ok (.string ⟨z.toArray⟩) w := by
  rw [run_string_add_sum w _ _ (by simp [ByteArray.size]; omega), ByteArray.mk_append_mk, hz]
theorem regL_len (k : Nat) : (regL k).length ≤ 3 := by unfold regL; split <;> simp
theorem place_at0 (f : Int) (w : World) (k : Nat) (l m : List UInt8) (hl : l.length ≤ 3) (hm : m.length ≤ 100) (h11 : (k : Int) < 11) (c0 : w.cell? ⟨1, k, none⟩ = some (.string ⟨l.toArray⟩)) (CI : Hid (∀ wx, Out w wx → Calls Tryz.prog 81 #[.int .i64 f] wx fun e w' => e = .returned (.string ⟨m.toArray⟩) ∧ Out wx w')) : Calls Tryz.prog 129 #[.int .i64 k, .int .i64 f] w fun e w' => e = .returned (.string ⟨([91] ++ l ++ (if 0 ≤ f then [43] else []) ++ m ++ [93]).toArray⟩) ∧ Out w w' := by
  obtain ⟨sg, hsg⟩ : ∃ sg : List UInt8, sg = if 0 ≤ f then [43] else [] := ⟨_, rfl⟩
  rw [← hsg]
  obtain ⟨l1, h1⟩ : ∃ l1, l1 = [91] ++ l := ⟨_, rfl⟩
  obtain ⟨l2, h2⟩ : ∃ l2, l2 = l1 ++ sg := ⟨_, rfl⟩
  obtain ⟨l3, h3⟩ : ∃ l3, l3 = l2 ++ m := ⟨_, rfl⟩
  obtain ⟨l4, h4⟩ : ∃ l4, l4 = l3 ++ [93] := ⟨_, rfl⟩
  have zs : sg.length ≤ 1 := by rw [hsg]; split <;> simp
  have z1 : l1.length ≤ 4 := by rw [h1]; simp; omega
  have z2 : l2.length ≤ 5 := by rw [h2]; simp; omega
  have z3 : l3.length ≤ 105 := by rw [h3]; simp; omega
  have a1 : ∀ w, (Op.stringOp .add ⟨#[91]⟩ ⟨l.toArray⟩).run Tryz.prog w = .ok (.string ⟨l1.toArray⟩) w := add_lists [91] l l1 h1 (by simp; omega)
  have a2 : ∀ w, (Op.stringOp .add ⟨l1.toArray⟩ ⟨sg.toArray⟩).run Tryz.prog w = .ok (.string ⟨l2.toArray⟩) w := add_lists l1 sg l2 h2 (by omega)
  have a3 : ∀ w, (Op.stringOp .add ⟨l2.toArray⟩ ⟨m.toArray⟩).run Tryz.prog w = .ok (.string ⟨l3.toArray⟩) w := add_lists l2 m l3 h3 (by omega)
  have a4 : ∀ w, (Op.stringOp .add ⟨l3.toArray⟩ ⟨#[93]⟩).run Tryz.prog w = .ok (.string ⟨l4.toArray⟩) w := add_lists l3 [93] l4 h4 (by simp; omega)
  rw [← h1, ← h2, ← h3, ← h4]
  clear h1 h2 h3 h4 z1 z2 z3 hl hm zs
  by_cases hf : 0 ≤ f
  · rw [if_pos hf] at hsg
    subst hsg
    have hp : (decide (0 ≤ f)) = true := by simpa using hf
    go_enter Tryz.func129, Tryz.ntmps129
    go_wp2
    go_region_held3 (fun w' => w'.cell? ⟨1, k, none⟩ = some (.string ⟨l.toArray⟩)) (first | exact c0 | exact d0 | go_keep) (first | (go_at_call 81; refine (CI.out _ (by first | exact Out.refl _ | exact (Out.refl _).drew)).mono ?_; rintro e w1 ⟨rfl, ho1⟩; have Ho1 := hidOf ho1; have d0 := cell_later ho1 c0; clear ho1))
    all_goals go_wp2
    all_goals go_ret
    all_goals exact ⟨rfl, Out.trans (Out.refl w).drew Ho1.out⟩
  · rw [if_neg hf] at hsg
    subst hsg
    have hp : (decide (0 ≤ f)) = false := by simpa using hf
    go_enter Tryz.func129, Tryz.ntmps129
    go_wp2
    go_region_held3 (fun w' => w'.cell? ⟨1, k, none⟩ = some (.string ⟨l.toArray⟩)) (first | exact c0 | exact d0 | go_keep) (first | (go_at_call 81; refine (CI.out _ (by first | exact Out.refl _ | exact (Out.refl _).drew)).mono ?_; rintro e w1 ⟨rfl, ho1⟩; have Ho1 := hidOf ho1; have d0 := cell_later ho1 c0; clear ho1))
    all_goals go_wp2
    all_goals go_ret
    all_goals exact ⟨rfl, Out.trans (Out.refl w).drew Ho1.out⟩
theorem placeText_any (k : Nat) (hk : k < 11) (f : Int) (h : -9223372036854775808 ≤ f ∧ f < 9223372036854775808) (w : World) (hR : RegT w) (ht : Pow w) : Calls Tryz.prog 129 #[.int .i64 k, .int .i64 f] w fun e w' => e = .returned (.string ⟨(placeTx k f).toArray⟩) ∧ Out w w' := by
  have := place_at0 f w k (regL k) (Lib.itoa f) (regL_len k) (itoa_len f h) (by omega) (hR k hk) (fun wx ho => itoa_any f h wx (ht.out ho))
  rw [show [91] ++ regL k ++ (if 0 ≤ f then [43] else []) ++ Lib.itoa f ++ [93] = placeTx k f from by unfold placeTx; simp [List.append_assoc]] at this
  exact this
def txOk (o d s f i c : Int) : Prop := (c = 1 ∧ isReg d = true) ∨ (c = 2 ∧ isReg s = true) ∨ c = 3 ∨ (c = 4 ∧ (hasSrc o = true → isReg s = true)) ∨ (c = 5 ∧ isReg s = true) ∨ (c = 6 ∧ isReg d = true) ∨ c = 7 ∨ c = 8
set_option maxHeartbeats 1600000 in
theorem operandText_any (o d s f i c : Int) (t : List UInt8) (hc : txOk o d s f i c) (hf : -9223372036854775808 ≤ f ∧ f < 9223372036854775808) (hi : -9223372036854775808 ≤ i ∧ i < 9223372036854775808) (w : World) (hR : RegT w) (ht : Pow w) : Calls Tryz.prog 86 #[.agg #[.int .i64 o, .int .i64 d, .int .i64 s, .int .i64 f, .int .i64 i], .int .u8 c, .string ⟨t.toArray⟩] w fun e w' => e = .returned (.string ⟨(opdTx o d s f i t c).toArray⟩) ∧ Out w w' := by
  have CI : Hid (∀ wx, Out w wx → Calls Tryz.prog 81 #[.int .i64 i] wx fun e w' => e = .returned (.string ⟨(Lib.itoa i).toArray⟩) ∧ Out wx w') := fun wx ho => itoa_any i hi wx (ht.out ho)
  rcases hc with ⟨rfl, hr⟩ | ⟨rfl, hr⟩ | rfl | ⟨rfl, hr⟩ | ⟨rfl, hr⟩ | ⟨rfl, hr⟩ | rfl | rfl
  · rw [show opdTx o d s f i t 1 = regL d.toNat from rfl]
    obtain ⟨hk, he⟩ := isReg_nat hr
    generalize d.toNat = k at *
    subst he
    have hlt : (k : Int) < 11 := by omega
    have c0 : ∀ O, (w.alloc O).cell? ⟨1, k, none⟩ = some (.string ⟨(regL k).toArray⟩) := fun O => cell_later ((Out.refl w).alloc O) (hR k hk)
    clear hR ht hr hf hi CI hk
    generalize regL k = l at *
    go_enter Tryz.func86, Tryz.ntmps86
    go_wp2
    go_ret
    exact ⟨rfl, (Out.refl w).alloc _⟩
  · rw [show opdTx o d s f i t 2 = regL s.toNat from rfl]
    obtain ⟨hk, he⟩ := isReg_nat hr
    generalize s.toNat = k at *
    subst he
    have hlt : (k : Int) < 11 := by omega
    have c0 : ∀ O, (w.alloc O).cell? ⟨1, k, none⟩ = some (.string ⟨(regL k).toArray⟩) := fun O => cell_later ((Out.refl w).alloc O) (hR k hk)
    clear hR ht hr hf hi CI hk
    generalize regL k = l at *
    go_enter Tryz.func86, Tryz.ntmps86
    go_wp2
    go_ret
    exact ⟨rfl, (Out.refl w).alloc _⟩
  · rw [show opdTx o d s f i t 3 = Lib.itoa i from rfl]
    generalize Lib.itoa i = l at *
    clear hR ht hf hi
    go_enter Tryz.func86, Tryz.ntmps86
    go_wp2_with (go_at_call 81; refine (CI.out _ ((Out.refl w).alloc _)).mono ?_; rintro e w1 ⟨rfl, ho1⟩; have Ho1 := hidOf ho1; clear ho1)
    go_ret
    exact ⟨rfl, Out.trans ((Out.refl w).alloc _) Ho1.out⟩
  · cases hh : hasSrc o
    · rw [show opdTx o d s f i t 4 = Lib.itoa i from by show (if hasSrc o then _ else _) = _; rw [hh]; rfl]
      have hb : (bits .and .i64 o 8 != 0) = false := hh
      generalize Lib.itoa i = l at *
      clear hR ht hf hi hr hh
      go_enter Tryz.func86, Tryz.ntmps86
      go_wp2_with (go_at_call 81; refine (CI.out _ ((Out.refl w).alloc _)).mono ?_; rintro e w1 ⟨rfl, ho1⟩; have Ho1 := hidOf ho1; clear ho1)
      go_ret
      exact ⟨rfl, Out.trans ((Out.refl w).alloc _) Ho1.out⟩
    · rw [show opdTx o d s f i t 4 = regL s.toNat from by show (if hasSrc o then _ else _) = _; rw [hh]; rfl]
      have hb : (bits .and .i64 o 8 != 0) = true := hh
      obtain ⟨hk, he⟩ := isReg_nat (hr hh)
      generalize s.toNat = k at *
      subst he
      have hlt : (k : Int) < 11 := by omega
      have c0 : ∀ O, (w.alloc O).cell? ⟨1, k, none⟩ = some (.string ⟨(regL k).toArray⟩) := fun O => cell_later ((Out.refl w).alloc O) (hR k hk)
      clear hR ht hr hf hi CI hk hh
      generalize regL k = l at *
      go_enter Tryz.func86, Tryz.ntmps86
      go_wp2
      go_ret
      exact ⟨rfl, (Out.refl w).alloc _⟩
  · rw [show opdTx o d s f i t 5 = placeTx s.toNat f from rfl]
    obtain ⟨hk, he⟩ := isReg_nat hr
    have CP : Hid (∀ wx, Out w wx → Calls Tryz.prog 129 #[.int .i64 s, .int .i64 f] wx fun e w' => e = .returned (.string ⟨(placeTx s.toNat f).toArray⟩) ∧ Out wx w') := fun wx ho => by
      have := placeText_any s.toNat hk f hf wx (hR.out ho) (ht.out ho)
      rw [he] at this
      exact this
    generalize placeTx s.toNat f = l at *
    clear hR ht hf hi CI hr hk he
    go_enter Tryz.func86, Tryz.ntmps86
    go_wp2_with (go_at_call 129; refine (CP.out _ ((Out.refl w).alloc _)).mono ?_; rintro e w1 ⟨rfl, ho1⟩; have Ho1 := hidOf ho1; clear ho1)
    go_ret
    exact ⟨rfl, Out.trans ((Out.refl w).alloc _) Ho1.out⟩
  · rw [show opdTx o d s f i t 6 = placeTx d.toNat f from rfl]
    obtain ⟨hk, he⟩ := isReg_nat hr
    have CP : Hid (∀ wx, Out w wx → Calls Tryz.prog 129 #[.int .i64 d, .int .i64 f] wx fun e w' => e = .returned (.string ⟨(placeTx d.toNat f).toArray⟩) ∧ Out wx w') := fun wx ho => by
      have := placeText_any d.toNat hk f hf wx (hR.out ho) (ht.out ho)
      rw [he] at this
      exact this
    generalize placeTx d.toNat f = l at *
    clear hR ht hf hi CI hr hk he
    go_enter Tryz.func86, Tryz.ntmps86
    go_wp2_with (go_at_call 129; refine (CP.out _ ((Out.refl w).alloc _)).mono ?_; rintro e w1 ⟨rfl, ho1⟩; have Ho1 := hidOf ho1; clear ho1)
    go_ret
    exact ⟨rfl, Out.trans ((Out.refl w).alloc _) Ho1.out⟩
  · rw [show opdTx o d s f i t 7 = t from rfl]
    clear hR ht hf hi CI
    go_enter Tryz.func86, Tryz.ntmps86
    go_wp2
    go_ret
    exact ⟨rfl, (Out.refl w).alloc _⟩
  · by_cases hs : s = 1
    · rw [show opdTx o d s f i t 8 = t from by show (if s = 1 then _ else _) = _; rw [if_pos hs]]
      subst hs
      clear hR ht hf hi CI
      go_enter Tryz.func86, Tryz.ntmps86
      go_wp2
      go_ret
      exact ⟨rfl, (Out.refl w).alloc _⟩
    · rw [show opdTx o d s f i t 8 = Lib.itoa i from by show (if s = 1 then _ else _) = _; rw [if_neg hs]]
      have hb : (s != 1) = true := by simpa using hs
      generalize Lib.itoa i = l at *
      clear hR ht hf hi hs
      go_enter Tryz.func86, Tryz.ntmps86
      go_wp2_with (go_at_call 81; refine (CI.out _ ((Out.refl w).alloc _)).mono ?_; rintro e w1 ⟨rfl, ho1⟩; have Ho1 := hidOf ho1; clear ho1)
      go_ret
      exact ⟨rfl, Out.trans ((Out.refl w).alloc _) Ho1.out⟩
end Go.Proofs.YtkihaohdcgjioaaGreatDoor
namespace Go.Proofs.YtkihaohdcgjioaaGreatDoor
open Go.RowKit
open Go.Maps (Keyed)
set_option linter.unusedVariables false
set_option linter.unusedSimpArgs false
/-- every value reads as itself -/
def RV (v : Value) : Option (DataW Value × List MemPlace) := some (.held v, [])
theorem strLaw6 : Keyed Tryz.prog 9 := Maps.string_keyed Tryz.underlying9
theorem keyOf6 (l : List UInt8) (h : l.length ≤ 1000000) : keyOf Tryz.prog 9 (.string ⟨l.toArray⟩) = some (.string l) := by
  have := WideMaps.keyOf_string_mk (P := Tryz.prog) (k := 9) Tryz.underlying9 (s := ⟨l.toArray⟩) (by show l.toArray.size ≤ _; rw [List.size_toArray]; unfold maxLen; omega)
  simpa using this
def fnV (kb : Nat) : Value := .func (.func 134) #[] #[.pointer (some ⟨kb, 0, none⟩)]
def tbV : Value := .func (.func 92) #[] #[]
def DirD (a b c : Nat) : DataW Value := ((((DataW.map []).put (.string funcB) (.held (fnV a))).put (.string globB) (.held (fnV b))).put (.string extB) (.held (fnV c))).put (.string mapB) (.held tbV)
def BxI (w : World) (k : Nat) (c : Int) : Prop := w.heap[k]? = some (.cells #[.int .i64 c] 3 (0, 0))
/-- the map of directives -/
def DirM (w : World) (mb : Nat) : Prop := ∃ a b c, w.ownsMap Tryz.prog 9 RV mb 4 (DirD a b c) ∧ BxI w a 2 ∧ BxI w b 3 ∧ BxI w c 4
theorem zfn (w : World) : (zeroValue 137).run Tryz.prog w = .ok .nilFunc w := by kernel_rfl
theorem mkDir (w : World) : (Instr.makeMap 110 none).run Tryz.prog w = .ok (.map (some w.heap.size)) (w.alloc (.map #[] 0)) := by kernel_rfl
theorem undDir : Tryz.prog.underlying 110 = some (.map 9 137) := by kernel_rfl
theorem BxI.out {w w' : World} {k : Nat} {c : Int} (h : BxI w k c) (o : Out w w') : BxI w' k c := (o.block k (Array.getElem?_eq_some_iff.1 h).1).trans h
theorem own_map_block {H : Type} {P : Program} {k : TypeId} {R : Value → Option (DataW H × List MemPlace)} {b n : Nat} {D : DataW H} {w w' : World} (h : w.ownsMap P k R b n D) (e : w'.heap[b]? = w.heap[b]?) : w'.ownsMap P k R b n D := by
  obtain ⟨es, cl, h1, h2, h3, h4⟩ := h
  exact ⟨es, cl, e.trans h1, h2, h3, h4⟩
theorem own_map_form {H : Type} {P : Program} {k : TypeId} {R : Value → Option (DataW H × List MemPlace)} {b n : Nat} {D : DataW H} {w : World} (h : w.ownsMap P k R b n D) : ∃ es cl, w.heap[b]? = some (.map es cl) := by
  obtain ⟨es, cl, h1, h2, h3, h4⟩ := h
  exact ⟨es, cl, h1⟩
/-- what turns neither maps nor numbers' boxes keeps the map of directives -/
theorem DirM.on {S : Nat → Prop} {w w' : World} {mb : Nat} (h : DirM w mb) (c : Chg S w w') (hS : ∀ b, S b → ∃ cs t fr, w.heap[b]? = some (.cells cs t fr) ∧ ¬ t = 3) : DirM w' mb := by
  obtain ⟨x, y, z, h1, h2, h3, h4⟩ := h
  have bx : ∀ k v, BxI w k v → BxI w' k v := fun k v hb => (c.block k (Array.getElem?_eq_some_iff.1 hb).1 (fun hs => by
    obtain ⟨cs, t, fr, e, hn⟩ := hS k hs
    rw [show w.heap[k]? = _ from hb] at e
    simp at e
    exact hn e.2.1.symm)).trans hb
  refine ⟨x, y, z, own_map_block h1 (c.block mb h1.lt (fun hs => ?_)), bx _ _ h2, bx _ _ h3, bx _ _ h4⟩
  obtain ⟨cs, t, fr, e, hn⟩ := hS mb hs
  obtain ⟨es, cl, e2⟩ := own_map_form h1
  rw [e2] at e
  cases e
theorem DirM.out {w w' : World} {mb : Nat} (h : DirM w mb) (o : Out w w') : DirM w' mb := h.on (S := fun _ => False) (Chg.of_out o) (fun _ h => h.elim)
theorem DirM.kq {B : Nat} {w w' : World} {mb : Nat} (h : DirM w mb) (c : Chg (KQ B w) w w') : DirM w' mb := h.on c (fun b hb => by
  obtain ⟨_, cs, t, fr, e, ht⟩ := hb
  refine ⟨cs, t, fr, e, fun e2 => ?_⟩
  rcases ht with ht | ht
  · rw [ht] at e2; exact absurd e2 (by decide)
  · rw [ht] at e2; exact absurd e2 (by decide))
theorem DirM.atp {w w' : World} {p mb : Nat} {tv mv sv : Value} (h : DirM w mb) (hR : RB w p tv mv sv) (c : Chg (fun b => b = p) w w') : DirM w' mb := h.on c (fun b hb => by
  subst hb
  exact ⟨_, _, _, hR, by decide⟩)
theorem named_any (w : World) (k : Int) : Calls Tryz.prog 91 #[.int .i64 k] w fun e w' => e = .returned (fnV w.heap.size) ∧ w' = w.alloc (.cells #[.int .i64 k] 3) := by
  unfold fnV
  go_enter Tryz.func91, Tryz.ntmps91
  go_wp2
  go_ret
  exact ⟨rfl, rfl⟩
set_option maxRecDepth 20000 in
set_option maxHeartbeats 1000000 in
theorem directives_any (w : World) : Calls Tryz.prog 61 #[] w fun e w' => e = .returned (.map (some w.heap.size)) ∧ DirM w' w.heap.size ∧ Out w w' := by
  have hmk := mkDir w
  obtain ⟨m, hm⟩ : ∃ m, m = w.heap.size := ⟨_, rfl⟩
  obtain ⟨w1, hw1⟩ : ∃ w1, w1 = w.alloc (.map #[] 0) := ⟨_, rfl⟩
  have h1 : w1.ownsMap Tryz.prog 9 RV m 0 (.map []) := by rw [hw1, hm]; exact World.ownsMap_made w Tryz.prog 9 RV
  have o1 : Out w w1 := by rw [hw1]; exact (Out.refl w).alloc _
  rw [← hw1, ← hm] at hmk
  have step : ∀ (wx : World) (n : Nat) (D : DataW Value) (key : List UInt8) (val : Value), key.length ≤ 1000000 → n < 100 → Out w wx → wx.ownsMap Tryz.prog 9 RV m n D → ∃ w', (Instr.mapUpdate 110 (.map (some m)) (.string ⟨key.toArray⟩) val).run Tryz.prog wx = .ok () w' ∧ w'.ownsMap Tryz.prog 9 RV m (n + 1) (D.put (.string key) (.held val)) ∧ Out w w' ∧ ∀ k c, BxI wx k c → BxI w' k c := fun wx n D key val hk hn o h => by
    obtain ⟨w', hrun, hown, hg⟩ := h.update (t := 110) (val := val) strLaw6 undDir (by unfold maxLen; omega) (keyOf6 key hk) (show RV val = some (.held val, []) from rfl)
    refine ⟨w', hrun, hown, Below.trans o (Below.grown (Below.refl w.heap.size wx) hg o.size (fun k e => by cases e; rw [hm]; exact Nat.le_refl _)), fun k c hb => (hg.block k (Array.getElem?_eq_some_iff.1 hb).1 (fun e => ?_)).trans hb⟩
    cases e
    obtain ⟨es, cl, e2⟩ := own_map_form h
    rw [show wx.heap[m]? = _ from hb] at e2
    cases e2
  obtain ⟨w2, hw2⟩ : ∃ w2, w2 = w1.alloc (.cells #[.int .i64 2] 3) := ⟨_, rfl⟩
  have c2 : BxI w2 w1.heap.size 2 := by rw [hw2]; exact heap_alloc_new w1 _
  obtain ⟨w3, r3, h3, o3, k3⟩ := step w2 0 _ funcB (fnV w1.heap.size) (by decide) (by omega) (by rw [hw2]; exact o1.alloc _) (by rw [hw2]; exact h1.alloc _)
  obtain ⟨w4, hw4⟩ : ∃ w4, w4 = w3.alloc (.cells #[.int .i64 3] 3) := ⟨_, rfl⟩
  have c4 : BxI w4 w3.heap.size 3 := by rw [hw4]; exact heap_alloc_new w3 _
  have g4 : Out w3 w4 := by rw [hw4]; exact (Out.refl w3).alloc _
  obtain ⟨w5, r5, h5, o5, k5⟩ := step w4 1 _ globB (fnV w3.heap.size) (by decide) (by omega) (o3.trans g4) (by rw [hw4]; exact h3.alloc _)
  obtain ⟨w6, hw6⟩ : ∃ w6, w6 = w5.alloc (.cells #[.int .i64 4] 3) := ⟨_, rfl⟩
  have c6 : BxI w6 w5.heap.size 4 := by rw [hw6]; exact heap_alloc_new w5 _
  have g6 : Out w5 w6 := by rw [hw6]; exact (Out.refl w5).alloc _
  obtain ⟨w7, r7, h7, o7, k7⟩ := step w6 2 _ extB (fnV w5.heap.size) (by decide) (by omega) (o5.trans g6) (by rw [hw6]; exact h5.alloc _)
  obtain ⟨w8, r8, h8, o8, k8⟩ := step w7 3 _ mapB tbV (by decide) (by omega) o7 h7
  have HD : Hid (DirM w8 m) := hidOf ⟨w1.heap.size, w3.heap.size, w5.heap.size, h8, k8 _ _ (k7 _ _ ((k5 _ _ ((k3 _ _ c2).out g4)).out g6)), k8 _ _ (k7 _ _ ((k5 _ _ c4).out g6)), k8 _ _ (k7 _ _ c6)⟩
  have HO := hidOf o8
  have C1 := hidOf (named_any w1 2)
  have C3 := hidOf (named_any w3 3)
  have C5 := hidOf (named_any w5 4)
  rw [← hw2] at C1
  rw [← hw4] at C3
  rw [← hw6] at C5
  have R3 : (Instr.mapUpdate 110 (.map (some m)) (.string ⟨#[46, 102, 117, 110, 99]⟩) (fnV w1.heap.size)).run Tryz.prog w2 = .ok () w3 := r3
  have R5 : (Instr.mapUpdate 110 (.map (some m)) (.string ⟨#[46, 103, 108, 111, 98, 97, 108]⟩) (fnV w3.heap.size)).run Tryz.prog w4 = .ok () w5 := r5
  have R7 : (Instr.mapUpdate 110 (.map (some m)) (.string ⟨#[46, 101, 120, 116, 101, 114, 110]⟩) (fnV w5.heap.size)).run Tryz.prog w6 = .ok () w7 := r7
  have R8 : (Instr.mapUpdate 110 (.map (some m)) (.string ⟨#[46, 109, 97, 112]⟩) (.func (.func 92) #[] #[])).run Tryz.prog w7 = .ok () w8 := r8
  have Hm := hidOf hm
  rw [← hm]
  generalize fnV w1.heap.size = F1 at *
  generalize fnV w3.heap.size = F3 at *
  generalize fnV w5.heap.size = F5 at *
  clear step r3 r5 r7 r8 h1 h3 h5 h7 h8 o1 o3 o5 o7 o8 k3 k5 k7 k8 c2 c4 c6 g4 g6 hw2 hw4 hw6 hw1 hm
  go_enter Tryz.func61, Tryz.ntmps61
  go_wp2_with (go_at_call 91; first | (refine C1.out.mono ?_; rintro e wx ⟨rfl, hx⟩; subst hx) | (refine C3.out.mono ?_; rintro e wx ⟨rfl, hx⟩; subst hx) | (refine C5.out.mono ?_; rintro e wx ⟨rfl, hx⟩; subst hx))
  go_ret
  exact ⟨rfl, HD.out, HO.out⟩
/-- the look-up of a word -/
theorem dir_look {w : World} {mb : Nat} (h : DirM w mb) (x : List UInt8) (hx : x.length ≤ 1000000) :
    (restQ x = (fun ts => .no 60 ts) ∧ ∀ w', w'.heap[mb]? = w.heap[mb]? → (Instr.lookup 110 (.map (some mb)) (.string ⟨x.toArray⟩) true).run Tryz.prog w' = .ok (.tuple #[.nilFunc, .bool false]) w')
    ∨ (∃ kb kd, BxI w kb kd ∧ restQ x = nmQ kd ∧ ∀ w', w'.heap[mb]? = w.heap[mb]? → (Instr.lookup 110 (.map (some mb)) (.string ⟨x.toArray⟩) true).run Tryz.prog w' = .ok (.tuple #[fnV kb, .bool true]) w')
    ∨ (restQ x = tbQ ∧ ∀ w', w'.heap[mb]? = w.heap[mb]? → (Instr.lookup 110 (.map (some mb)) (.string ⟨x.toArray⟩) true).run Tryz.prog w' = .ok (.tuple #[tbV, .bool true]) w') := by
  obtain ⟨a, b, c, h1, h2, h3, h4⟩ := h
  have key : ∀ w', w'.heap[mb]? = w.heap[mb]? → ∃ v, (Instr.lookup 110 (.map (some mb)) (.string ⟨x.toArray⟩) true).run Tryz.prog w' = .ok (.tuple #[v, .bool (Maps.has (DirD a b c) (.string x))]) w' ∧ (DirD a b c).atKey (.string x) (.held .nilFunc) = .held v := fun w' e => by
    obtain ⟨v, ps, hrun, hv⟩ := (own_map_block h1 e).look_ok (t := 110) strLaw6 undDir (zfn w') (show RV .nilFunc = some (.held .nilFunc, []) from rfl) (keyOf6 x hx)
    unfold RV at hv
    simp at hv
    exact ⟨v, hrun, hv.1.symm⟩
  have fin : ∀ V bb, Maps.has (DirD a b c) (.string x) = bb → (DirD a b c).atKey (.string x) (.held .nilFunc) = .held V → ∀ w', w'.heap[mb]? = w.heap[mb]? → (Instr.lookup 110 (.map (some mb)) (.string ⟨x.toArray⟩) true).run Tryz.prog w' = .ok (.tuple #[V, .bool bb]) w' := fun V bb e1 e2 w' e => by
    obtain ⟨v, hrun, hv⟩ := key w' e
    rw [e2] at hv
    cases hv
    rw [← e1]
    exact hrun
  by_cases e1 : x = funcB
  · refine .inr (.inl ⟨a, 2, h2, by funext ts; unfold restQ; rw [if_pos e1], fin _ _ ?_ ?_⟩)
    · subst e1; rfl
    · subst e1; rfl
  by_cases e2 : x = globB
  · refine .inr (.inl ⟨b, 3, h3, by funext ts; unfold restQ; rw [if_neg e1, if_pos e2], fin _ _ ?_ ?_⟩)
    · subst e2; rfl
    · subst e2; rfl
  by_cases e3 : x = extB
  · refine .inr (.inl ⟨c, 4, h4, by funext ts; unfold restQ; rw [if_neg e1, if_neg e2, if_pos e3], fin _ _ ?_ ?_⟩)
    · subst e3; rfl
    · subst e3; rfl
  by_cases e4 : x = mapB
  · refine .inr (.inr ⟨by funext ts; unfold restQ; rw [if_neg e1, if_neg e2, if_neg e3, if_pos e4], fin _ _ ?_ ?_⟩)
    · subst e4; rfl
    · subst e4; rfl
  refine .inl ⟨by funext ts; unfold restQ; rw [if_neg e1, if_neg e2, if_neg e3, if_neg e4], fin _ _ ?_ ?_⟩
  · unfold DirD
    rw [Maps.has_put_other (by simpa using e4), Maps.has_put_other (by simpa using e3), Maps.has_put_other (by simpa using e2), Maps.has_put_other (by simpa using e1)]
    rfl
  · unfold DirD
    rw [Maps.atKey_put_other (by simpa using e4), Maps.atKey_put_other (by simpa using e3), Maps.atKey_put_other (by simpa using e2), Maps.atKey_put_other (by simpa using e1)]
    rfl
end Go.Proofs.YtkihaohdcgjioaaGreatDoor
