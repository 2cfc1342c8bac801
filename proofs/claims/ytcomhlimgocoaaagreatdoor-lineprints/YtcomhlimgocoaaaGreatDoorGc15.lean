import Derived.Test.YtcomhlimgocoaaaGreatDoorGc13
import Derived.Test.YtcomhlimgocoaaaGreatDoorGc14
import Derived.Test.YtcomhlimgocoaaaGreatDoorGc06
import Derived.Test.YtcomhlimgocoaaaGreatDoorGc08
import Derived.Lib.ItoaNum
import Derived.Maps.OwnSet
namespace Go.Proofs.YtcomhlimgocoaaaGreatDoor
open Go.RowKit
set_option linter.unusedVariables false
set_option linter.unusedSimpArgs false
/-- tokens, in plain words -/
def runU (b : UInt8) : Bool := runP (bI b)
/-- a run ends here -/
def stopP (l : List UInt8) : Bool := match l with | [] => true | c :: _ => !runU c
theorem blank_of (c : UInt8) (l : List UInt8) (h : c = 32 ∨ c = 9) : blankP (c :: l) = blankP l := by
  unfold blankP Lib.trimLeftS
  rcases h with rfl | rfl <;> rfl
theorem blank_no (c : UInt8) (l : List UInt8) (h : ¬ c = 32) (h' : ¬ c = 9) : blankP (c :: l) = c :: l := by
  unfold blankP Lib.trimLeftS
  rw [List.dropWhile_cons]
  have : ([32, 9] : List UInt8).contains c = false := by simp [h, h']
  rw [if_neg (by rw [this]; decide)]
theorem tok_blank (c : UInt8) (l : List UInt8) (h : c = 32 ∨ c = 9) : tokP (c :: l) = tokP l ∧ restP (c :: l) = restP l := by
  unfold tokP restP
  rw [blank_of c l h]
  exact ⟨rfl, rfl⟩
theorem tok_nil : tokP [] = [] ∧ restP [] = [] := ⟨rfl, rfl⟩
theorem take_all (t u : List UInt8) (ha : t.all runU = true) (hu : stopP u = true) : ((t ++ u).takeWhile runU) = t := by
  induction t with
  | nil =>
    cases u with
    | nil => rfl
    | cons c u =>
      have : runU c = false := by simpa [stopP] using hu
      simp [this]
  | cons b t ih =>
    simp only [List.all_cons, Bool.and_eq_true] at ha
    rw [List.cons_append, List.takeWhile_cons, if_pos ha.1, ih ha.2]
theorem head_not_blank {c : UInt8} (h : letP (bI c) = true ∨ digP (bI c) = true) : ¬ c = 32 ∧ ¬ c = 9 := by
  constructor <;> (rintro rfl; revert h; decide)
theorem tok_run (t u : List UInt8) (ht : headOk t = true) (ha : t.all runU = true) (hu : stopP u = true) : tokP (t ++ u) = t ∧ restP (t ++ u) = u := by
  cases t with
  | nil => simp [headOk] at ht
  | cons c t =>
    have hc : letP (bI c) = true ∨ digP (bI c) = true := by simpa [headOk] using ht
    have hb := head_not_blank hc
    have hB : blankP ((c :: t) ++ u) = (c :: t) ++ u := blank_no c (t ++ u) hb.1 hb.2
    have hh : headOk ((c :: t) ++ u) = true := by simpa [headOk] using hc
    have hr : runN ((c :: t) ++ u) = (c :: t).length := by
      unfold runN
      rw [if_pos hh]
      have := take_all (c :: t) u ha hu
      show (((c :: t) ++ u).takeWhile runU).length = _
      rw [this]
    have hn : tokN ((c :: t) ++ u) = (c :: t).length := by
      unfold tokN
      rw [if_neg (by rw [hr]; simp), hr]
    unfold tokP restP
    rw [hB, hn]
    exact ⟨List.take_left' rfl, List.drop_left' rfl⟩
theorem tok_mark (c : UInt8) (u : List UInt8) (h : headOk [c] = false) (h1 : ¬ c = 32) (h2 : ¬ c = 9) : tokP (c :: u) = [c] ∧ restP (c :: u) = u := by
  have hB := blank_no c u h1 h2
  have hh : headOk (c :: u) = false := h
  have hn : tokN (c :: u) = 1 := by
    unfold tokN runN
    rw [hh]
    simp
  unfold tokP restP
  rw [hB, hn]
  exact ⟨rfl, rfl⟩
/-- decimal digits -/
theorem digU_lt (n : Nat) (h : n < 10) : digU (UInt8.ofNat (48 + n)) = true ∧ (UInt8.ofNat (48 + n)).toNat = 48 + n := by
  have h1 : (UInt8.ofNat (48 + n)).toNat = 48 + n := by rw [UInt8.toNat_ofNat']; omega
  exact ⟨(digU_iff _).2 (by omega), h1⟩
theorem decV_app (l m : List UInt8) : ∀ a, decV a (l ++ m) = decV (decV a l) m := by
  induction l with
  | nil => intro a; rfl
  | cons b l ih => intro a; exact ih _
theorem dd_small {u : Nat} (h : u < 10) : Lib.decDigits u = [UInt8.ofNat (48 + u)] := by rw [Lib.decDigits, dif_pos h]
theorem dd_big {u : Nat} (h : ¬ u < 10) : Lib.decDigits u = Lib.decDigits (u / 10) ++ [UInt8.ofNat (48 + u % 10)] := by rw [Lib.decDigits, dif_neg h]
theorem dd_all (u : Nat) : (Lib.decDigits u).all digU = true ∧ decV 0 (Lib.decDigits u) = u ∧ (∃ c l, Lib.decDigits u = c :: l ∧ (¬ u = 0 → ¬ c = 48)) := by
  induction u using Nat.strongRecOn with
  | _ u ih =>
    by_cases h : u < 10
    · have hd := digU_lt u h
      rw [dd_small h]
      refine ⟨by rw [List.all_cons, hd.1]; rfl, ?_, _, _, rfl, fun h0 e => ?_⟩
      · show 0 * 10 + ((UInt8.ofNat (48 + u)).toNat - 48) = u
        omega
      · have e2 := congrArg UInt8.toNat e
        rw [hd.2] at e2
        have : (48 : UInt8).toNat = 48 := rfl
        omega
    · obtain ⟨i1, i2, c, l, i3, i4⟩ := ih (u / 10) (by omega)
      have hd := digU_lt (u % 10) (by omega)
      rw [dd_big h]
      refine ⟨by rw [List.all_append, i1, List.all_cons, hd.1]; rfl, ?_, c, l ++ [UInt8.ofNat (48 + u % 10)], by rw [i3]; rfl, fun _ => i4 (by omega)⟩
      rw [decV_app, i2]
      show u / 10 * 10 + ((UInt8.ofNat (48 + u % 10)).toNat - 48) = u
      omega
theorem dig_run {b : UInt8} (h : digU b = true) : runU b = true := by
  have h' : digP (bI b) = true := h
  simp [runU, runP, h']
theorem all_run {l : List UInt8} (h : l.all digU = true) : l.all runU = true := by
  rw [List.all_eq_true] at h ⊢
  exact fun x hx => dig_run (h x hx)
theorem val_dd (u : Nat) (h : u ≤ 18446744073709551615) : valP (Lib.decDigits u) = ((u : Int), false, true) := by
  obtain ⟨h1, h2, c, l, h3, h4⟩ := dd_all u
  by_cases h0 : u = 0
  · subst h0
    rw [dd_small (by decide)]
    rfl
  · have hc : ¬ c = 48 := h4 h0
    have e1 : ¬ Lib.decDigits u = [48] := by rw [h3]; intro e; injection e with e _; exact hc e
    have e2 : Lib.hasPrefix (Lib.decDigits u) [48, 120] = false := by
      rw [h3]
      have hc' : ((48 : UInt8) == c) = false := by simpa using fun e => hc e.symm
      simp [Lib.hasPrefix, List.isPrefixOf, hc']
    have e3 : Lib.hasPrefix (Lib.decDigits u) [48] = false := by
      rw [h3]
      have hc' : ((48 : UInt8) == c) = false := by simpa using fun e => hc e.symm
      simp [Lib.hasPrefix, List.isPrefixOf, hc']
    unfold valP
    rw [if_neg e1, e2, e3]
    simp only [Bool.false_eq_true, if_false]
    unfold dig10
    rw [if_neg (by rw [h3]; simp), if_pos h1, h2, if_pos h]
theorem dd_tok (u : Nat) (l : List UInt8) (hl : stopP l = true) : tokP (Lib.decDigits u ++ l) = Lib.decDigits u ∧ restP (Lib.decDigits u ++ l) = l := by
  obtain ⟨h1, _, c, m, h3, _⟩ := dd_all u
  refine tok_run _ _ ?_ (all_run h1) hl
  rw [h3] at h1 ⊢
  simp only [List.all_cons, Bool.and_eq_true] at h1
  have : digP (bI c) = true := h1.1
  simp [headOk, this]
end Go.Proofs.YtcomhlimgocoaaaGreatDoor
namespace Go.Proofs.YtcomhlimgocoaaaGreatDoor
open Go.RowKit
open Go.Maps (Keyed)
set_option linter.unusedVariables false
set_option linter.unusedSimpArgs false
/-- what a mnemonic means: opcode, Src, Off, Imm -/
abbrev Mn := Int × Int × Int × Int
def mnV (m : Mn) : Value := .agg #[.int .u8 m.1, .int .u8 m.2.1, .int .u8 m.2.2.1, .int .u8 m.2.2.2]
def mnD (m : Mn) : DataW Unit := .agg [.lit (.int .u8 m.1), .lit (.int .u8 m.2.1), .lit (.int .u8 m.2.2.1), .lit (.int .u8 m.2.2.2)]
def R4 (v : Value) : Option (DataW Unit × List MemPlace) :=
  match v with
  | .agg ⟨[.int .u8 o, .int .u8 s, .int .u8 f, .int .u8 i]⟩ => some (mnD (o, s, f, i), [])
  | _ => none
theorem R4_mk (m : Mn) : R4 (mnV m) = some (mnD m, []) := rfl
theorem R4_inv {v : Value} {m : Mn} {ps : List MemPlace} (h : R4 v = some (mnD m, ps)) : v = mnV m := by
  unfold R4 at h
  split at h
  · simp only [mnD, Option.some.injEq, Prod.mk.injEq, DataW.agg.injEq, List.cons.injEq, DataW.lit.injEq, Lit.int.injEq, true_and, and_true] at h
    obtain ⟨⟨h1, h2, h3, h4⟩, _⟩ := h
    rw [h1, h2, h3, h4]
    rfl
  · cases h
/-- the map after these stores -/
def DL (L : List (List UInt8 × Mn)) : DataW Unit := L.foldl (fun m x => m.put (.string x.1) (mnD x.2)) (.map [])
theorem DL_snoc (L : List (List UInt8 × Mn)) (k : List UInt8) (m : Mn) : (DL L).put (.string k) (mnD m) = DL (L ++ [(k, m)]) := by simp [DL, List.foldl_append]
theorem isMap_DL_aux : ∀ (L : List (List UInt8 × Mn)) (D : DataW Unit), Maps.IsMap D → Maps.IsMap (L.foldl (fun m x => m.put (.string x.1) (mnD x.2)) D)
  | [], _, h => h
  | x :: L, D, h => isMap_DL_aux L _ (h.put _ _)
theorem isMap_DL (L : List (List UInt8 × Mn)) : Maps.IsMap (DL L) := isMap_DL_aux L _ Maps.isMap_empty
/-- the last one that is stored at a key -/
def lastAt (L : List (List UInt8 × Mn)) (k : List UInt8) : Option Mn := (L.reverse.find? (fun x => x.1 == k)).map (·.2)
theorem lastAt_snoc (L : List (List UInt8 × Mn)) (k' : List UInt8) (m : Mn) (k : List UInt8) : lastAt (L ++ [(k', m)]) k = if k' = k then some m else lastAt L k := by
  unfold lastAt
  rw [List.reverse_append]
  simp only [List.reverse_cons, List.reverse_nil, List.nil_append, List.singleton_append, List.find?_cons]
  by_cases h : k' = k
  · simp [h]
  · have : (k' == k) = false := by simpa using h
    simp [h, this]
theorem lit_str (k : List UInt8) : WideAt.IsKeyLit (Lit.string k) := by unfold WideAt.IsKeyLit; trivial
theorem at_DL_rev (k : List UInt8) (z : DataW Unit) (R : List (List UInt8 × Mn)) : (DL R.reverse).atKey (.string k) z = (match lastAt R.reverse k with | some m => mnD m | none => z) ∧ Maps.has (DL R.reverse) (.string k) = (lastAt R.reverse k).isSome := by
  induction R with
  | nil => exact ⟨rfl, rfl⟩
  | cons x R ih =>
    obtain ⟨k', m⟩ := x
    rw [List.reverse_cons, ← DL_snoc, lastAt_snoc]
    by_cases h : k' = k
    · subst h
      rw [if_pos rfl]
      exact ⟨Maps.atKey_put_same (isMap_DL _) (lit_str _) _ _, Maps.has_put_same (isMap_DL _) (lit_str _) _⟩
    · rw [if_neg h]
      have hne : Lit.string k ≠ Lit.string k' := fun e => h (by cases e; rfl)
      rw [Maps.atKey_put_other hne, Maps.has_put_other hne]
      exact ih
theorem at_DL (L : List (List UInt8 × Mn)) (k : List UInt8) (z : DataW Unit) : (DL L).atKey (.string k) z = (match lastAt L k with | some m => mnD m | none => z) ∧ Maps.has (DL L) (.string k) = (lastAt L k).isSome := by
  have h := at_DL_rev k z L.reverse
  rw [List.reverse_reverse] at h
  exact h
def reckT : List (List UInt8 × List UInt8) := [([97, 100, 100], [97, 100, 100, 51, 50]), ([115, 117, 98], [115, 117, 98, 51, 50]), ([109, 117, 108], [109, 117, 108, 51, 50]), ([100, 105, 118], [100, 105, 118, 51, 50]), ([111, 114], [111, 114, 51, 50]), ([97, 110, 100], [97, 110, 100, 51, 50]), ([108, 115, 104], [108, 115, 104, 51, 50]), ([114, 115, 104], [114, 115, 104, 51, 50]), ([110, 101, 103], [110, 101, 103, 51, 50]), ([109, 111, 100], [109, 111, 100, 51, 50]), ([120, 111, 114], [120, 111, 114, 51, 50]), ([109, 111, 118], [109, 111, 118, 51, 50]), ([97, 114, 115, 104], [97, 114, 115, 104, 51, 50])]
def jumpT : List (List UInt8 × List UInt8) := [([106, 97], [106, 97, 51, 50]), ([106, 101, 113], [106, 101, 113, 51, 50]), ([106, 103, 116], [106, 103, 116, 51, 50]), ([106, 103, 101], [106, 103, 101, 51, 50]), ([106, 115, 101, 116], [106, 115, 101, 116, 51, 50]), ([106, 110, 101], [106, 110, 101, 51, 50]), ([106, 115, 103, 116], [106, 115, 103, 116, 51, 50]), ([106, 115, 103, 101], [106, 115, 103, 101, 51, 50]), ([99, 97, 108, 108], []), ([101, 120, 105, 116], []), ([106, 108, 116], [106, 108, 116, 51, 50]), ([106, 108, 101], [106, 108, 101, 51, 50]), ([106, 115, 108, 116], [106, 115, 108, 116, 51, 50]), ([106, 115, 108, 101], [106, 115, 108, 101, 51, 50])]
def memT : List (Int × List (List UInt8)) := [(97, [[108, 100, 120, 119], [108, 100, 120, 104], [108, 100, 120, 98], [108, 100, 120, 100, 119]]), (129, [[108, 100, 120, 115, 119], [108, 100, 120, 115, 104], [108, 100, 120, 115, 98], []]), (98, [[115, 116, 119], [115, 116, 104], [115, 116, 98], [115, 116, 100, 119]]), (99, [[115, 116, 120, 119], [115, 116, 120, 104], [115, 116, 120, 98], [115, 116, 120, 100, 119]])]
def offT : List (Int × Int × List UInt8) := [(55, 1, [115, 100, 105, 118]), (151, 1, [115, 109, 111, 100]), (52, 1, [115, 100, 105, 118, 51, 50]), (148, 1, [115, 109, 111, 100, 51, 50]), (191, 8, [109, 111, 118, 115, 56]), (191, 16, [109, 111, 118, 115, 49, 54]), (191, 32, [109, 111, 118, 115, 51, 50]), (188, 8, [109, 111, 118, 115, 56, 119]), (188, 16, [109, 111, 118, 115, 49, 54, 119])]
def immT : List (Int × Int × List UInt8) := [(212, 16, [108, 101, 49, 54]), (212, 32, [108, 101, 51, 50]), (212, 64, [108, 101, 54, 52]), (220, 16, [98, 101, 49, 54]), (220, 32, [98, 101, 51, 50]), (220, 64, [98, 101, 54, 52]), (215, 16, [115, 119, 97, 112, 49, 54]), (215, 32, [115, 119, 97, 112, 51, 50]), (215, 64, [115, 119, 97, 112, 54, 52]), (219, 0, [97, 97, 100, 100]), (219, 64, [97, 111, 114]), (219, 80, [97, 97, 110, 100]), (219, 160, [97, 120, 111, 114]), (219, 1, [97, 102, 97, 100, 100]), (219, 65, [97, 102, 111, 114]), (219, 81, [97, 102, 97, 110, 100]), (219, 161, [97, 102, 120, 111, 114]), (219, 225, [97, 120, 99, 104, 103]), (219, 241, [97, 99, 109, 112, 120, 99, 104, 103]), (195, 0, [97, 97, 100, 100, 51, 50]), (195, 64, [97, 111, 114, 51, 50]), (195, 80, [97, 97, 110, 100, 51, 50]), (195, 160, [97, 120, 111, 114, 51, 50]), (195, 1, [97, 102, 97, 100, 100, 51, 50]), (195, 65, [97, 102, 111, 114, 51, 50]), (195, 81, [97, 102, 97, 110, 100, 51, 50]), (195, 161, [97, 102, 120, 111, 114, 51, 50]), (195, 225, [97, 120, 99, 104, 103, 51, 50]), (195, 241, [97, 99, 109, 112, 120, 99, 104, 103, 51, 50])]
/-- what a table's row puts in -/
def entA (T : List (List UInt8 × List UInt8)) (x y : Int) (k : Nat) : List (List UInt8 × Mn) :=
  match T[k]? with
  | some r => [(r.1, (k * 16 + x, 0, 0, 0)), (r.2, (k * 16 + y, 0, 0, 0))]
  | none => []
def mnR (k : Nat) : List (List UInt8 × Mn) := (List.range k).flatMap (entA reckT 7 4)
def mnJ (k : Nat) : List (List UInt8 × Mn) := mnR 13 ++ (List.range k).flatMap (entA jumpT 5 6)
def entM (k j : Nat) : List (List UInt8 × Mn) :=
  match memT[k]? with
  | some r => (match r.2[j]? with | some s => [(s, (r.1 + j * 8, 0, 0, 0))] | none => [])
  | none => []
def mnM (k j : Nat) : List (List UInt8 × Mn) := mnJ 14 ++ (List.range k).flatMap (fun k => (List.range 4).flatMap (entM k)) ++ (List.range j).flatMap (entM k)
def entO (k : Nat) : List (List UInt8 × Mn) :=
  match offT[k]? with
  | some r => [(r.2.2, (r.1, 0, r.2.1, 0))]
  | none => []
def mnO (k : Nat) : List (List UInt8 × Mn) := mnM 4 0 ++ (List.range k).flatMap entO
def entI (k : Nat) : List (List UInt8 × Mn) :=
  match immT[k]? with
  | some r => [(r.2.2, (r.1, 0, 0, r.2.1))]
  | none => []
def mnI (k : Nat) : List (List UInt8 × Mn) := mnO 9 ++ (List.range k).flatMap entI
def mnAll : List (List UInt8 × Mn) := mnI 29 ++ [([108, 100, 100, 119], (24, 0, 0, 0)), ([108, 100, 109, 97, 112], (24, 1, 0, 0))]
/-- the mnemonics' meaning -/
def meanOf (k : List UInt8) : Option Mn := if k = [] then none else lastAt mnAll k
def mnDat : DataW Unit := (DL mnAll).del (.string [])
theorem at_mn (k : List UInt8) (z : DataW Unit) : mnDat.atKey (.string k) z = (match meanOf k with | some m => mnD m | none => z) ∧ Maps.has mnDat (.string k) = (meanOf k).isSome := by
  unfold mnDat meanOf
  by_cases h : k = []
  · subst h
    rw [if_pos rfl]
    exact ⟨Maps.atKey_del_same _, Maps.has_del_same⟩
  · have hne : Lit.string k ≠ Lit.string [] := fun e => h (by cases e; rfl)
    rw [if_neg h, Maps.atKey_del_other hne, Maps.has_del_other hne]
    exact at_DL mnAll k z
theorem mnR_step (k : Nat) : mnR (k + 1) = mnR k ++ entA reckT 7 4 k := by simp [mnR, List.range_succ]
theorem mnJ_step (k : Nat) : mnJ (k + 1) = mnJ k ++ entA jumpT 5 6 k := by simp [mnJ, List.range_succ, List.append_assoc]
theorem mnM_step (k j : Nat) : mnM k (j + 1) = mnM k j ++ entM k j := by simp [mnM, List.range_succ (n := j), List.append_assoc]
theorem mnM_next (k : Nat) : mnM (k + 1) 0 = mnM k 4 := by simp [mnM, List.range_succ (n := k)]
theorem mnO_step (k : Nat) : mnO (k + 1) = mnO k ++ entO k := by simp [mnO, List.range_succ, List.append_assoc]
theorem mnI_step (k : Nat) : mnI (k + 1) = mnI k ++ entI k := by simp [mnI, List.range_succ, List.append_assoc]
theorem mnR_0 : mnR 0 = [] := rfl
theorem mnJ_0 : mnJ 0 = mnR 13 := by simp [mnJ]
theorem mnM_0 : mnM 0 0 = mnJ 14 := by simp [mnM]
theorem mnO_0 : mnO 0 = mnM 4 0 := by simp [mnO]
theorem mnI_0 : mnI 0 = mnO 9 := by simp [mnI]
end Go.Proofs.YtcomhlimgocoaaaGreatDoor
