import Derived.Lib.ConvBytes
import Derived.Test.YtcomhlimgocoaaaGreatDoorGc37
import Derived.Test.YtcomhlimgocoaaaGreatDoorGc06
import Derived.Lib.ItoaNum
import Derived.Deep.RegionLaw
import Derived.Deep.RegionHeld3
import Derived.Test.YtcomhlimgocoaaaGreatDoorGc19
import Derived.Test.YtcomhlimgocoaaaGreatDoorGc00
import Derived.Test.YtcomhlimgocoaaaGreatDoorGc39
import Derived.Test.YtcomhlimgocoaaaGreatDoorGc05
import Derived.BigQuiet
import Derived.Deep.QuietTactic
import Derived.Test.YtcomhlimgocoaaaGreatDoorGc16
namespace Go.Proofs.YtcomhlimgocoaaaGreatDoor
open Go.RowKit
set_option linter.unusedVariables false
set_option linter.unusedSimpArgs false
theorem fold_b4 (O : List UInt8) : ∀ r : ByteArray, (O.map (fun b => (b.toNat : Int))).foldl (fun r n => r.push (UInt8.ofNat n.toNat)) r = ⟨r.data ++ O.toArray⟩ := by
  induction O with
  | nil => intro r; simp
  | cons b l ih =>
    intro r
    rw [List.map_cons, List.foldl_cons, ih]
    simp [ByteArray.push]
theorem conv_l4 (w : World) (a : Addr) (cap : Nat) (O : List UInt8) (h : ∀ j u, (Lib.byteCells O)[j]? = some u → w.cell? (a.add j) = some u) : (convert 53 9 (.slice (some a) O.length cap)).run Tryz.prog w = .ok (.string ⟨O.toArray⟩) w := by
  rw [run_convert_bytes_string w 53 9 5 (some a) O.length cap Tryz.underlying53 Tryz.underlying5 Tryz.underlying9]
  have h1 := run_loadCells_list (P := Tryz.prog) w a (Lib.byteCells O) h
  rw [Lib.byteCells_length] at h1
  rw [run_bytesToString w a O.length cap (O.map (fun b => (b.toNat : Int))) (by rw [show (O.map (fun b => (b.toNat : Int))).map (Value.int .u8) = Lib.byteCells O from by simp [Lib.byteCells]]; exact h1), fold_b4]
  simp
/-- one byte as a string -/
theorem conv_one (w : World) (q : Nat) (b : UInt8) (h : w.cell? ⟨q, 0, none⟩ = some (.int .u8 (b.toNat : Int))) : (convert 53 9 (.slice (some ⟨q, 0, none⟩) 1 1)).run Tryz.prog w = .ok (.string ⟨#[b]⟩) w :=
  conv_l4 w ⟨q, 0, none⟩ 1 [b] (fun j u hu => by
    match j, hu with
    | 0, hu => simp [Lib.byteCells] at hu; subst hu; simpa [Addr.add] using h
    | j + 1, hu => simp [Lib.byteCells] at hu)
theorem conv_fresh (X : World) (b : UInt8) : (convert 53 9 (.slice (some ⟨X.heap.size, 0, none⟩) 1 1)).run Tryz.prog (X.alloc (.cells #[.int .u8 (b.toNat : Int)] 5)) = .ok (.string ⟨#[b]⟩) (X.alloc (.cells #[.int .u8 (b.toNat : Int)] 5)) :=
  conv_one _ _ b (by rw [new_cell]; rfl)
theorem dig_byte (k : Nat) (h : k < 10) : ((UInt8.ofNat (48 + k)).toNat : Int) = 48 + (k : Int) := by
  rw [UInt8.toNat_ofNat_of_lt' (by show _ < 256; omega)]; omega
theorem dec_len (u : Nat) (h : u < 18446744073709551616) : (Lib.decDigits u).length ≤ 20 := by
  rw [Lib.decDigits_eq, List.length_map, List.length_range]
  by_cases h0 : Lib.nDigits u ≤ 20
  · exact h0
  · exfalso
    have : ∀ (k u : Nat), u < 10 ^ k → 0 < k → Lib.nDigits u ≤ k := by
      intro k
      induction k with
      | zero => intro u _ h0; omega
      | succ k ih =>
        intro u hu _
        by_cases h1 : u < 10
        · rw [Lib.nDigits_small h1]; omega
        · rw [Lib.nDigits_big h1]
          have hk : 0 < k := by
            rcases Nat.eq_zero_or_pos k with e | e
            · subst e; simp at hu; omega
            · exact e
          have := ih (u / 10) (by rw [Nat.pow_succ] at hu; omega) hk
          omega
    have h2 := this 20 u (by omega) (by omega)
    omega
set_option maxRecDepth 8000 in
set_option maxHeartbeats 1000000 in
theorem decimal_any : ∀ (u : Nat), u < 18446744073709551616 → ∀ w : World, Calls Tryz.prog 62 #[.int .u64 (u : Int)] w fun e w' => e = .returned (.string ⟨(Lib.decDigits u).toArray⟩) ∧ Out w w' := by
  intro u
  induction u using Nat.strongRecOn with
  | _ u ih =>
    intro hu w
    have hl := dec_len u hu
    by_cases h : u < 10
    · have hD : Lib.decDigits u = [UInt8.ofNat (48 + u)] := by rw [Lib.decDigits, dif_pos h]
      obtain ⟨b, hb⟩ : ∃ b, b = UInt8.ofNat (48 + u) := ⟨_, rfl⟩
      have e2 : 48 + (u : Int) = (b.toNat : Int) := by rw [hb, dig_byte u h]
      have e3 : (b.toNat : Int) % 256 = (b.toNat : Int) := by have := b.toNat_lt; omega
      have hI : (u : Int) < 10 := by omega
      have h0 : (0 : Int) ≤ u := by omega
      have kc := conv_fresh w b
      rw [hD, ← hb]
      clear hb hD ih hl
      go_enter Tryz.func62, Tryz.ntmps62
      go_wp2
      go_ret
      exact ⟨rfl, (Out.refl w).alloc _⟩
    · have hD : Lib.decDigits u = Lib.decDigits (u / 10) ++ [UInt8.ofNat (48 + u % 10)] := by rw [Lib.decDigits, dif_neg h]
      obtain ⟨b, hb⟩ : ∃ b, b = UInt8.ofNat (48 + u % 10) := ⟨_, rfl⟩
      have hbt := dig_byte (u % 10) (by omega)
      rw [← hb] at hbt
      obtain ⟨m, hm⟩ : ∃ m : Int, (u : Int).tmod 10 = m := ⟨_, rfl⟩
      have hm2 : m = ((u % 10 : Nat) : Int) := by rw [← hm, Int.tmod_eq_emod_of_nonneg (by omega)]; omega
      have t2 : IntKind.u64.wrap (48 + m) = (b.toNat : Int) := by rw [hbt, hm2]; unfold IntKind.wrap; simp [IntKind.bits]; omega
      have t3 : IntKind.u8.wrap (b.toNat : Int) = (b.toNat : Int) := by rw [hbt]; unfold IntKind.wrap; simp [IntKind.bits]; omega
      clear hm2 hbt
      have hI : ¬ (u : Int) < 10 := by omega
      have h0 : (0 : Int) ≤ u := by omega
      have huI : (u : Int) < 18446744073709551616 := by omega
      obtain ⟨D, hDD⟩ : ∃ D, D = Lib.decDigits (u / 10) := ⟨_, rfl⟩
      have CD : Hid (∀ wx, Calls Tryz.prog 62 #[.int .u64 (IntKind.u64.wrap ((u : Int) / 10))] wx fun e w' => e = .returned (.string ⟨D.toArray⟩) ∧ Out wx w') := hidOf (fun wx => by rw [hDD, show IntKind.u64.wrap ((u : Int) / 10) = ((u / 10 : Nat) : Int) by unfold IntKind.wrap; simp [IntKind.bits]; omega]; exact ih (u / 10) (by omega) (by omega) wx)
      obtain ⟨Z, hZ⟩ : ∃ Z, Z = D ++ [b] := ⟨_, rfl⟩
      have hDl : D.length ≤ 20 := by rw [hDD]; exact dec_len _ (by omega)
      have a1 : ∀ w, (Op.stringOp .add ⟨D.toArray⟩ ⟨#[b]⟩).run Tryz.prog w = .ok (.string ⟨Z.toArray⟩) w := add_l4 D [b] Z hZ (by simp; omega)
      have kc : ∀ X : World, (convert 53 9 (.slice (some ⟨X.heap.size, 0, none⟩) 1 1)).run Tryz.prog (X.alloc (.cells #[.int .u8 (b.toNat : Int)] 5)) = .ok (.string ⟨#[b]⟩) (X.alloc (.cells #[.int .u8 (b.toNat : Int)] 5)) := fun X => conv_fresh X b
      have kd : (convert 53 9 (.slice (some ⟨w.heap.size, 0, none⟩) 1 1)).run Tryz.prog (w.alloc (.cells #[.int .u8 (b.toNat : Int)] 5)).drew = .ok (.string ⟨#[b]⟩) (w.alloc (.cells #[.int .u8 (b.toNat : Int)] 5)).drew := conv_one _ _ b (show (w.alloc (.cells #[.int .u8 (b.toNat : Int)] 5)).cell? ⟨w.heap.size, 0, none⟩ = _ from by rw [new_cell]; rfl)
      rw [hD, ← hb, ← hDD, ← hZ]
      clear hb hD ih hl hDD hZ hDl
      go_enter Tryz.func62, Tryz.ntmps62
      go_upto_region 3 with fail
      go_region_law (first | (go_simp; go_at_call 62; refine (CD.out _).mono ?_; rintro e w1 ⟨rfl, ho⟩; (try dsimp only); have O1 := hidOf ho; (try have kc1 := conv_one w1 w.heap.size b (cell_later O1.out (show (w.alloc (.cells #[.int .u8 (b.toNat : Int)] 5)).cell? ⟨w.heap.size, 0, none⟩ = some (.int .u8 (b.toNat : Int)) from by rw [new_cell]; rfl))); clear ho))
      all_goals
        go_wp2
        go_ret
        refine ⟨rfl, ?_⟩
        first | exact (Out.trans ((Out.refl w).drew) O1.out).alloc _ | exact Out.trans (((Out.refl w).alloc _).drew) O1.out
theorem itoa_len4 (x : Int) (h0 : -9223372036854775808 ≤ x) (h1 : x < 9223372036854775808) : (Lib.itoa x).length ≤ 21 := by
  unfold Lib.itoa
  split
  · have := dec_len x.natAbs (by omega)
    simp; omega
  · have := dec_len x.toNat (by omega)
    omega
set_option maxRecDepth 8000 in
theorem Decimal_any (x : Int) (h0 : -9223372036854775808 ≤ x) (h1 : x < 9223372036854775808) (w : World) : Calls Tryz.prog 28 #[.int .i64 x] w fun e w' => e = .returned (.string ⟨(Lib.itoa x).toArray⟩) ∧ Out w w' := by
  by_cases h : x < 0
  · obtain ⟨D, hD⟩ : ∃ D, D = Lib.decDigits x.natAbs := ⟨_, rfl⟩
    obtain ⟨Z, hZ⟩ : ∃ Z, Z = [45] ++ D := ⟨_, rfl⟩
    have hl : D.length ≤ 20 := by rw [hD]; exact dec_len _ (by omega)
    have hI : Lib.itoa x = Z := by rw [hZ, hD]; simp [Lib.itoa, h]
    have a1 : ∀ w, (Op.stringOp .add ⟨#[45]⟩ ⟨D.toArray⟩).run Tryz.prog w = .ok (.string ⟨Z.toArray⟩) w := add_l4 [45] D Z hZ (by simp; omega)
    obtain ⟨y, hy⟩ : ∃ y : Int, IntKind.u64.wrap x = y := ⟨_, rfl⟩
    have hy2 : y = x + 18446744073709551616 := by rw [← hy, IntKind.wrap_u64]; omega
    have hz : IntKind.u64.wrap (0 - y) = (x.natAbs : Int) := by rw [hy2, IntKind.wrap_u64]; omega
    have hz2 : IntKind.u64.wrap (-y) = (x.natAbs : Int) := by rw [hy2, IntKind.wrap_u64]; omega
    have CD := hidOf (fun wx => decimal_any x.natAbs (by omega) wx)
    rw [← hD] at CD
    obtain ⟨v, hv⟩ : ∃ v : Int, (x.natAbs : Int) = v := ⟨_, rfl⟩
    rw [hv] at hz hz2 CD
    rw [hI]
    clear hD hZ hI hl hy2 hv
    go_enter Tryz.func28, Tryz.ntmps28
    go_wp2_with (go_at_call 62; refine (CD.out _).mono ?_; rintro e w1 ⟨rfl, ho⟩; have O1 := hidOf ho; clear ho)
    go_ret
    exact ⟨rfl, O1.out⟩
  · have CD := hidOf (fun wx => decimal_any x.toNat (by omega) wx)
    have hI : Lib.itoa x = Lib.decDigits x.toNat := by simp [Lib.itoa, h]
    rw [hI]
    rw [show ((x.toNat : Nat) : Int) = x by omega] at CD
    generalize Lib.decDigits x.toNat = D at *
    have hw : IntKind.u64.wrap x = x := by rw [IntKind.wrap_u64]; omega
    clear hI
    go_enter Tryz.func28, Tryz.ntmps28
    go_wp2_with (go_at_call 62; refine (CD.out _).mono ?_; rintro e w1 ⟨rfl, ho⟩; have O1 := hidOf ho; clear ho)
    go_ret
    exact ⟨rfl, O1.out⟩
theorem reg_itoa : ∀ k : Fin 11, 114 :: Lib.itoa (k.val : Int) = regL k.val := by
  intro k
  match k with
  | 0 | 1 | 2 | 3 | 4 | 5 | 6 | 7 | 8 | 9 =>
    simp [Lib.itoa, regL]
    rw [Lib.decDigits, dif_pos (by decide)]
    try rfl
  | 10 =>
    simp [Lib.itoa, regL]
    rw [Lib.decDigits, dif_neg (by decide), Lib.decDigits, dif_pos (by decide)]
    rfl
set_option maxRecDepth 8000 in
theorem register4_any (x : Int) (h0 : 0 ≤ x) (h1 : x ≤ 10) (w : World) : Calls Tryz.prog 30 #[.int .i64 x] w fun e w' => e = .returned (.string ⟨(regL x.toNat).toArray⟩) ∧ Out w w' := by
  have CD := hidOf (fun wx => Decimal_any x (by omega) (by omega) wx)
  obtain ⟨D, hD⟩ : ∃ D, D = Lib.itoa x := ⟨_, rfl⟩
  obtain ⟨Z, hZ⟩ : ∃ Z, Z = [114] ++ D := ⟨_, rfl⟩
  have hl : D.length ≤ 21 := by rw [hD]; exact itoa_len4 x (by omega) (by omega)
  have hR : regL x.toNat = Z := by
    have := reg_itoa ⟨x.toNat, by omega⟩
    rw [hZ, hD, ← this]
    simp [show ((x.toNat : Nat) : Int) = x by omega]
  have a1 : ∀ w, (Op.stringOp .add ⟨#[114]⟩ ⟨D.toArray⟩).run Tryz.prog w = .ok (.string ⟨Z.toArray⟩) w := add_l4 [114] D Z hZ (by simp; omega)
  rw [← hD] at CD
  rw [hR]
  clear hD hZ hl hR
  go_enter Tryz.func30, Tryz.ntmps30
  go_wp2_with (go_at_call 28; refine (CD.out _).mono ?_; rintro e w1 ⟨rfl, ho⟩; have O1 := hidOf ho; clear ho)
  go_ret
  exact ⟨rfl, O1.out⟩
end Go.Proofs.YtcomhlimgocoaaaGreatDoor
namespace Go.Proofs.YtcomhlimgocoaaaGreatDoor
open Go.RowKit
set_option linter.unusedVariables false
set_option linter.unusedSimpArgs false
theorem regL_len4 : ∀ k : Fin 11, (regL k.val).length ≤ 3 := by decide
set_option maxRecDepth 8000 in
theorem place4_any (k f : Int) (h0 : 0 ≤ k) (h1 : k ≤ 10) (f0 : -9223372036854775808 ≤ f) (f1 : f < 9223372036854775808) (w : World) : Calls Tryz.prog 31 #[.int .i64 k, .int .i64 f] w fun e w' => e = .returned (.string ⟨(placeTx k.toNat f).toArray⟩) ∧ Out w w' := by
  have CR := hidOf (fun wx => register4_any k h0 h1 wx)
  have CD := hidOf (fun wx => Decimal_any f f0 f1 wx)
  have hl := itoa_len4 f f0 f1
  have hr : (regL k.toNat).length ≤ 3 := regL_len4 ⟨k.toNat, by omega⟩
  by_cases h : f < 0
  · have hP : placeTx k.toNat f = (([91] ++ regL k.toNat) ++ Lib.itoa f) ++ [93] := by simp [placeTx, h]
    obtain ⟨P, hPP⟩ : ∃ P, placeTx k.toNat f = P := ⟨_, rfl⟩
    rw [hPP] at hP ⊢
    generalize regL k.toNat = R at *
    generalize Lib.itoa f = D at *
    obtain ⟨Z1, e1⟩ : ∃ Z, Z = [91] ++ R := ⟨_, rfl⟩
    obtain ⟨Z2, e2⟩ : ∃ Z, Z = Z1 ++ D := ⟨_, rfl⟩
    have l1 : Z1.length ≤ 4 := by rw [e1]; simp; omega
    have l2 : Z2.length ≤ 25 := by rw [e2]; simp; omega
    have a1 : ∀ w, (Op.stringOp .add ⟨#[91]⟩ ⟨R.toArray⟩).run Tryz.prog w = .ok (.string ⟨Z1.toArray⟩) w := add_l4 [91] R Z1 e1 (by simp; omega)
    have a2 : ∀ w, (Op.stringOp .add ⟨Z1.toArray⟩ ⟨D.toArray⟩).run Tryz.prog w = .ok (.string ⟨Z2.toArray⟩) w := add_l4 Z1 D Z2 e2 (by omega)
    have a3 : ∀ w, (Op.stringOp .add ⟨Z2.toArray⟩ ⟨#[93]⟩).run Tryz.prog w = .ok (.string ⟨P.toArray⟩) w := add_l4 Z2 [93] P (by rw [hP, e2, e1]) (by simp; omega)
    clear hPP hP e1 e2 l1 l2 hl hr h0 h1 f0 f1
    go_enter Tryz.func31, Tryz.ntmps31
    go_wp2_with (first | (go_at_call 30; refine (CR.out _).mono ?_; rintro e w1 ⟨rfl, ho⟩; have O1 := hidOf ho; clear ho) | (go_at_call 28; refine (CD.out _).mono ?_; rintro e w2 ⟨rfl, ho⟩; have O2 := hidOf ho; clear ho))
    go_ret
    exact ⟨rfl, Out.trans O1.out O2.out⟩
  · have hP : placeTx k.toNat f = ((([91] ++ regL k.toNat) ++ [43]) ++ Lib.itoa f) ++ [93] := by simp [placeTx, show 0 ≤ f by omega]
    obtain ⟨P, hPP⟩ : ∃ P, placeTx k.toNat f = P := ⟨_, rfl⟩
    rw [hPP] at hP ⊢
    generalize regL k.toNat = R at *
    generalize Lib.itoa f = D at *
    obtain ⟨Z1, e1⟩ : ∃ Z, Z = [91] ++ R := ⟨_, rfl⟩
    obtain ⟨Z2, e2⟩ : ∃ Z, Z = Z1 ++ [43] := ⟨_, rfl⟩
    obtain ⟨Z3, e3⟩ : ∃ Z, Z = Z2 ++ D := ⟨_, rfl⟩
    have l1 : Z1.length ≤ 4 := by rw [e1]; simp; omega
    have l2 : Z2.length ≤ 5 := by rw [e2]; simp; omega
    have l3 : Z3.length ≤ 26 := by rw [e3]; simp; omega
    have a1 : ∀ w, (Op.stringOp .add ⟨#[91]⟩ ⟨R.toArray⟩).run Tryz.prog w = .ok (.string ⟨Z1.toArray⟩) w := add_l4 [91] R Z1 e1 (by simp; omega)
    have a2 : ∀ w, (Op.stringOp .add ⟨Z1.toArray⟩ ⟨#[43]⟩).run Tryz.prog w = .ok (.string ⟨Z2.toArray⟩) w := add_l4 Z1 [43] Z2 e2 (by simp; omega)
    have a3 : ∀ w, (Op.stringOp .add ⟨Z2.toArray⟩ ⟨D.toArray⟩).run Tryz.prog w = .ok (.string ⟨Z3.toArray⟩) w := add_l4 Z2 D Z3 e3 (by omega)
    have a4 : ∀ w, (Op.stringOp .add ⟨Z3.toArray⟩ ⟨#[93]⟩).run Tryz.prog w = .ok (.string ⟨P.toArray⟩) w := add_l4 Z3 [93] P (by rw [hP, e3, e2, e1]) (by simp; omega)
    clear hPP hP e1 e2 e3 l1 l2 l3 hl hr h0 h1 f0 f1
    go_enter Tryz.func31, Tryz.ntmps31
    go_wp2_with (first | (go_at_call 30; refine (CR.out _).mono ?_; rintro e w1 ⟨rfl, ho⟩; have O1 := hidOf ho; clear ho) | (go_at_call 28; refine (CD.out _).mono ?_; rintro e w2 ⟨rfl, ho⟩; have O2 := hidOf ho; clear ho))
    go_ret
    exact ⟨rfl, Out.trans O1.out O2.out⟩
theorem refLetter_of {c : Int} {b : Bool} (h : letP c = b) (w : World) : Calls Tryz.prog 48 #[.int .u8 c] w fun e w' => e = .returned (.bool b) ∧ w = w' := by rw [← h]; exact refLetter_any c w
theorem refInner_of {c : Int} {b : Bool} (h : runP c = b) (w : World) : Calls Tryz.prog 49 #[.int .u8 c] w fun e w' => e = .returned (.bool b) ∧ w = w' := by rw [← h]; exact refInner_any c w
set_option maxRecDepth 8000 in
theorem name4_bytes (s : ByteArray) (w : World) (hs : s.size ≤ 9223372036854775807) : Calls Tryz.prog 18 #[.string s] w fun e w' => e = .returned (.bool (nameP s.toList)) ∧ w = w' := by
  have hl := lsize s
  by_cases h0 : s.size = 0
  · have hl : s.toList = [] := List.length_eq_zero_iff.1 (by rw [lsize, h0])
    have hN : nameP s.toList = false := by rw [hl]; rfl
    rw [hN]
    go_enter Tryz.func18, Tryz.ntmps18
    go_wp2
    go_ret
    exact ⟨rfl, rfl⟩
  have h0' : ¬ (s.size : Int) < 1 := by omega
  have h0p : (0 : Int) < s.size := by omega
  by_cases h64 : 64 < s.size
  · have h64' : (64 : Int) < s.size := by omega
    have hN : nameP s.toList = false := by simp [nameP, hl, show ¬ s.size ≤ 64 by omega]
    rw [hN]
    clear hN
    go_enter Tryz.func18, Tryz.ntmps18
    go_wp2
    go_ret
    exact ⟨rfl, rfl⟩
  have h64' : ¬ (64 : Int) < s.size := by omega
  obtain ⟨r, hr⟩ := head_of (s := s) (by omega)
  have hnm : nameP s.toList = (letP (bI s[0]) && s.toList.all (fun b => runP (bI b))) := by
    unfold nameP
    rw [decide_eq_true (by omega), hr]
    rfl
  rw [hnm]
  clear hnm hr
  cases h1 : letP (bI s[0])
  · go_enter Tryz.func18, Tryz.ntmps18
    go_wp2_with (go_at_call 48; refine (refLetter_of h1 _).mono ?_; rintro e w1 ⟨rfl, rfl⟩)
    go_ret
    exact ⟨rfl, rfl⟩
  · rw [Bool.true_and]
    have HA0 : Hid (s.toList.all (fun b => runP (bI b)) = (s.toList.drop 0).all (fun b => runP (bI b))) := hidOf rfl
    generalize s.toList.all (fun b => runP (bI b)) = AL at *

    go_enter Tryz.func18, Tryz.ntmps18
    go_wp2_with (go_at_call 48; refine (refLetter_of h1 _).mono ?_; rintro e w1 ⟨rfl, rfl⟩)
    go_loopw [3] (fun kv wr => ∃ k : Nat, kv = .int .i64 k ∧ k ≤ s.size ∧ Hid (AL = (s.toList.drop k).all (fun b => runP (bI b))) ∧ wr = w) (fun kv _ => s.size - (intOf kv).toNat)
    case atStart => exact ⟨0, rfl, by omega, HA0, rfl⟩
    case round =>
      clear HA0 h1
      obtain ⟨k, rfl, hk, HA, rfl⟩ := hrel
      by_cases hlt : k < s.size
      · have hltI : (k : Int) < s.size := by omega
        have hk0 : (0 : Int) ≤ k := by omega
        have Hd : Hid (AL = (runP (bI s[k]) && (s.toList.drop (k + 1)).all (fun b => runP (bI b)))) := hidOf (by
          have h2 := HA.out
          have hg := lget s k hlt
          obtain ⟨g1, g2⟩ := List.getElem?_eq_some_iff.1 hg
          rw [List.drop_eq_getElem_cons g1, List.all_cons, g2] at h2
          exact h2)
        clear HA
        cases hR : runP (bI s[k])
        · have hE : AL = false := by rw [Hd.out, hR]; rfl
          have HE := hidOf hE
          clear Hd hE
          go_wp2_with (go_at_call 49; refine (refInner_of hR _).mono ?_; rintro e w1 ⟨rfl, rfl⟩)
          go_ret
          exact ⟨by rw [HE.out]; rfl, rfl⟩
        · have Hd' := hidOf (show AL = _ by rw [Hd.out, hR, Bool.true_and])
          clear Hd
          go_wp2_with (go_at_call 49; refine (refInner_of hR _).mono ?_; rintro e w1 ⟨rfl, rfl⟩)
          go_roundw
          case rel => exact ⟨k + 1, by simp, by omega, Hd', trivial⟩
          case measure => simp [intOf]; omega
      · have hltI : ¬ (k : Int) < s.size := by omega
        have hE : AL = true := by
          rw [HA.out, List.drop_eq_nil_iff.2 (by rw [lsize]; omega)]; rfl
        have HE := hidOf hE
        clear hE HA
        go_wp2
        go_ret
        exact ⟨by rw [HE.out]; rfl, rfl⟩
/-- the reference's Name -/
theorem name4_any (l : List UInt8) (w : World) (hl : l.length ≤ 9223372036854775807) : Calls Tryz.prog 18 #[.string ⟨l.toArray⟩] w fun e w' => e = .returned (.bool (nameP l)) ∧ w = w' := by
  have h := name4_bytes ⟨l.toArray⟩ w (by show l.length ≤ _; exact hl)
  have e : (⟨l.toArray⟩ : ByteArray).toList = l := by rw [ByteArray.toList_eq]
  rw [e] at h
  exact h
end Go.Proofs.YtcomhlimgocoaaaGreatDoor
namespace Go.Proofs.YtcomhlimgocoaaaGreatDoor
open Go.RowKit
set_option linter.unusedVariables false
set_option linter.unusedSimpArgs false
/-- the reference's reader: its block -/
def R4At (w : World) (p : Nat) (l : List UInt8) (k : Nat) (bad far : Bool) : Prop := w.heap[p]? = some (.cells #[.string ⟨l.toArray⟩, .int .i64 (k : Int), .bool bad, .bool far] 85 (0, 0))
/-- a method's end -/
def M4 (p : Nat) (l : List UInt8) (k : Nat) (bad far : Bool) (w w' : World) : Prop := R4At w' p l k bad far ∧ Chg (fun x => x = p) w w'
theorem R4At.cells {w : World} {p : Nat} {l : List UInt8} {k : Nat} {bad far : Bool} (h : R4At w p l k bad far) : w.cell? ⟨p, 0, none⟩ = some (.string ⟨l.toArray⟩) ∧ w.cell? ⟨p, 1, none⟩ = some (.int .i64 (k : Int)) ∧ w.cell? ⟨p, 2, none⟩ = some (.bool bad) ∧ w.cell? ⟨p, 3, none⟩ = some (.bool far) :=
  ⟨by rw [cell_atL h]; rfl, by rw [cell_atL h]; rfl, by rw [cell_atL h]; rfl, by rw [cell_atL h]; rfl⟩
theorem R4At.to {w : World} {p : Nat} {l : List UInt8} {k : Nat} {bad far : Bool} (h : R4At w p l k bad far) (k' : Nat) : R4At (w.setCell ⟨p, 1, none⟩ (.int .i64 (k' : Int))) p l k' bad far := set_atL h 1 _
theorem R4At.bad {w : World} {p : Nat} {l : List UInt8} {k : Nat} {bad far : Bool} (h : R4At w p l k bad far) (b : Bool) : R4At (w.setCell ⟨p, 2, none⟩ (.bool b)) p l k b far := set_atL h 2 _
theorem R4At.far {w : World} {p : Nat} {l : List UInt8} {k : Nat} {bad far : Bool} (h : R4At w p l k bad far) (b : Bool) : R4At (w.setCell ⟨p, 3, none⟩ (.bool b)) p l k bad b := set_atL h 3 _
def posOf (w : World) (p : Nat) : Nat := match w.cell? ⟨p, 1, none⟩ with | some (.int _ k) => k.toNat | _ => 0
theorem R4At.pos {w : World} {p : Nat} {l : List UInt8} {k : Nat} {bad far : Bool} (h : R4At w p l k bad far) : posOf w p = k := by unfold posOf; rw [h.cells.2.1]; simp
theorem chg_set1 {w w' : World} {p j : Nat} {v : Value} (h : Chg (fun x => x = p) w w') : Chg (fun x => x = p) w (w'.setCell ⟨p, j, none⟩ v) := Chg.setCell h (p := ⟨p, j, none⟩) (show p = p from rfl) _
theorem Chg.drewN {S : Nat → Prop} {w w' : World} (h : Chg S w w') (n : Nat) : Chg S w (w'.drewN n) := ⟨h.os, h.tape, h.output, h.size, h.block⟩
def isBl (b : UInt8) : Bool := b == 32 || b == 9
/-- behind the blanks at k -/
def blK (l : List UInt8) (k : Nat) : Nat := k + ((l.drop k).takeWhile isBl).length
theorem tw_step {α : Type} (q : α → Bool) (l : List α) (k : Nat) (x : α) (h : l[k]? = some x) : k + ((l.drop k).takeWhile q).length = if q x then (k + 1) + ((l.drop (k + 1)).takeWhile q).length else k := by
  obtain ⟨h1, h2⟩ := List.getElem?_eq_some_iff.1 h
  rw [List.drop_eq_getElem_cons h1, h2, List.takeWhile_cons]
  cases q x
  · simp
  · simp; omega
theorem tw_end {α : Type} (q : α → Bool) (l : List α) (k : Nat) (h : l.length ≤ k) : k + ((l.drop k).takeWhile q).length = k := by
  rw [List.drop_eq_nil_iff.2 h]; rfl
theorem tw_le {α : Type} (q : α → Bool) (l : List α) (k : Nat) (h : k ≤ l.length) : k + ((l.drop k).takeWhile q).length ≤ l.length := by
  have := (List.takeWhile_prefix (l := l.drop k) q).length_le
  rw [List.length_drop] at this
  omega
theorem u8_beq (c d : UInt8) : ((c.toNat : Int) == (d.toNat : Int)) = (c == d) := by
  rw [Bool.eq_iff_iff, beq_iff_eq, beq_iff_eq]
  constructor
  · intro h; exact UInt8.toNat_inj.1 (by omega)
  · intro h; rw [h]
theorem u8_32 (c : UInt8) : ((c.toNat : Int) == 32) = (c == 32) := u8_beq c 32
theorem u8_9 (c : UInt8) : ((c.toNat : Int) == 9) = (c == 9) := u8_beq c 9
set_option maxRecDepth 8000 in
set_option maxHeartbeats 4000000 in
theorem blanks4_any (w : World) (p : Nat) (l : List UInt8) (k : Nat) (bad far : Bool) (h : R4At w p l k bad far) (hk : k ≤ l.length) (hl : l.length ≤ 140737488355328) : Calls Tryz.prog 40 #[.pointer (some ⟨p, 0, none⟩)] w fun e w' => (∃ v, e = .returned v) ∧ M4 p l (blK l k) bad far w w' := by
  have H := hidOf h
  have HB0 : Hid (blK l k = k + ((l.drop k).takeWhile isBl).length) := hidOf rfl
  obtain ⟨K, hK⟩ : ∃ K, blK l k = K := ⟨_, rfl⟩
  rw [hK] at HB0 ⊢
  obtain ⟨s, hs⟩ : ∃ s : ByteArray, (⟨l.toArray⟩ : ByteArray) = s := ⟨_, rfl⟩
  have hsz : s.size = l.length := by rw [← hs]; rfl
  have Hix : Hid (∀ (i : Nat) (h : i < s.size), l[i]? = some s[i]) := hidOf (fun i h => by subst hs; exact List.getElem?_eq_getElem (by rw [hsz] at h; exact h))
  have HS := hidOf hs
  have Hsz := hidOf hsz
  clear h hK hs hsz
  go_enter Tryz.func40, Tryz.ntmps40
  go_wp2
  go_loopw [] (fun wr => ∃ j : Nat, j ≤ l.length ∧ Hid (M4 p l j bad far w wr) ∧ Hid (K = j + ((l.drop j).takeWhile isBl).length)) (fun wr => l.length - posOf wr p)
  case atStart => exact ⟨k, hk, hidOf ⟨H.out, Chg.refl _ _⟩, HB0⟩
  case round =>
    clear HB0 H
    obtain ⟨j, hj, HM, HK⟩ := hrel
    have hR := HM.out.1
    have c0 := hR.cells.1
    have c1 := hR.cells.2.1
    have g1 := frozen_atL hR 1
    rw [HS.out] at c0
    by_cases hlt : j < s.size
    · have hltI : (j : Int) < s.size := by omega
      have hj0 : (0 : Int) ≤ j := by omega
      have hx := Hix.out j hlt
      have t1 := u8_32 s[j]
      have t2 := u8_9 s[j]
      cases b1 : (s[j] == 32) <;> cases b2 : (s[j] == 9)
      · have HE : Hid (K = j) := hidOf (by rw [HK.out, tw_step isBl l j _ hx]; simp only [isBl, b1, b2]; rfl)
        rw [b1] at t1
        rw [b2] at t2
        clear hx hR b1 b2
        go_upto_region 0 with fail
        go_quiet (fail)
        go_wp2
        go_end0
        exact ⟨⟨_, rfl⟩, by rw [HE.out]; exact ⟨HM.out.1, Chg.drewN HM.out.2 _⟩⟩
      all_goals
        have HE : Hid (K = (j + 1) + ((l.drop (j + 1)).takeWhile isBl).length) := hidOf (by rw [HK.out, tw_step isBl l j _ hx]; simp only [isBl, b1, b2]; rfl)
        rw [b1] at t1
        rw [b2] at t2
        clear hx hR b1 b2
        have hw : IntKind.i64.wrap ((j : Int) + 1) = ((j + 1 : Nat) : Int) := by rw [IntKind.wrap_i64]; omega
        go_upto_region 0 with fail
        go_quiet (fail)
        go_wp2
        go_roundw
        case rel => exact ⟨j + 1, by have := Hsz.out; omega, hidOf ⟨R4At.to (show R4At (wr.drewN nq) p l j bad far from HM.out.1) (j + 1), chg_set1 (Chg.drewN HM.out.2 _)⟩, HE⟩
        case measure =>
          have m1 := HM.out.1.pos
          have m2 : posOf _ p = j + 1 := (R4At.to (show R4At (wr.drewN nq) p l j bad far from HM.out.1) (j + 1)).pos
          have := Hsz.out
          rw [m1]
          refine Nat.lt_of_le_of_lt (Nat.le_of_eq (congrArg (fun x => l.length - x) m2)) ?_
          omega
    · have hltI : ¬ (j : Int) < s.size := by omega
      have HE : Hid (K = j) := hidOf (by rw [HK.out, tw_end isBl l j (by rw [← Hsz.out]; omega)])
      clear hR
      go_upto_region 0 with fail
      go_quiet (fail)
      go_wp2
      go_end0
      exact ⟨⟨_, rfl⟩, by rw [HE.out]; exact ⟨HM.out.1, Chg.drewN HM.out.2 _⟩⟩
end Go.Proofs.YtcomhlimgocoaaaGreatDoor
namespace Go.Proofs.YtcomhlimgocoaaaGreatDoor
open Go.RowKit
set_option linter.unusedVariables false
set_option linter.unusedSimpArgs false
theorem blK_le {l : List UInt8} {k : Nat} (h : k ≤ l.length) : blK l k ≤ l.length := tw_le _ l k h
/-- the first byte behind the blanks, or 0 -/
def pkP (l : List UInt8) (k : Nat) : UInt8 := match l[blK l k]? with | some c => c | none => 0
set_option maxRecDepth 8000 in
set_option maxHeartbeats 4000000 in
theorem peek4_any (w : World) (p : Nat) (l : List UInt8) (k : Nat) (bad far : Bool) (h : R4At w p l k bad far) (hk : k ≤ l.length) (hl : l.length ≤ 140737488355328) : Calls Tryz.prog 68 #[.pointer (some ⟨p, 0, none⟩)] w fun e w' => e = .returned (.int .u8 ((pkP l k).toNat : Int)) ∧ M4 p l (blK l k) bad far w w' := by
  have CB := hidOf (blanks4_any w p l k bad far h hk hl)
  have hK := blK_le hk
  obtain ⟨s, hs⟩ : ∃ s : ByteArray, (⟨l.toArray⟩ : ByteArray) = s := ⟨_, rfl⟩
  have hsz : s.size = l.length := by rw [← hs]; rfl
  have HP : Hid (pkP l k = match l[blK l k]? with | some c => c | none => 0) := hidOf rfl
  generalize blK l k = K at *
  generalize pkP l k = P at *
  have HS := hidOf hs
  by_cases hlt : K < s.size
  · have hltI : (K : Int) < s.size := by omega
    have hj0 : (0 : Int) ≤ K := by omega
    have hx : s[K] = P := by
      have := HP.out
      subst hs
      rw [List.getElem?_eq_getElem (by rw [← hsz]; exact hlt)] at this
      exact this.symm
    have ix : ∀ h, s[K]'h = P := fun _ => hx
    clear hx h hs HP hK hsz
    go_enter Tryz.func68, Tryz.ntmps68
    go_upto_region 2 with (go_at_call 40; refine CB.out.mono ?_; rintro e w1 ⟨⟨v, rfl⟩, hm⟩; have HM := hidOf hm; clear hm)
    obtain ⟨c0, c1, _, _⟩ := HM.out.1.cells
    rw [HS.out] at c0
    go_quiet (fail)
    go_wp2
    go_upto_region 3 with fail
    go_quiet (fail)
    go_wp2
    go_ret
    exact ⟨rfl, HM.out.1, (HM.out.2.drewN _).drewN _⟩
  · have hltI : ¬ (K : Int) < s.size := by omega
    have HE : Hid (P = 0) := hidOf (by
      have := HP.out
      rw [List.getElem?_eq_none (by omega)] at this
      exact this)
    clear h hs HP hK hsz
    go_enter Tryz.func68, Tryz.ntmps68
    go_upto_region 2 with (go_at_call 40; refine CB.out.mono ?_; rintro e w1 ⟨⟨v, rfl⟩, hm⟩; have HM := hidOf hm; clear hm)
    obtain ⟨c0, c1, _, _⟩ := HM.out.1.cells
    rw [HS.out] at c0
    go_quiet (fail)
    go_wp2
    go_ret
    exact ⟨by rw [HE.out]; rfl, HM.out.1, HM.out.2.drewN _⟩
end Go.Proofs.YtcomhlimgocoaaaGreatDoor
namespace Go.Proofs.YtcomhlimgocoaaaGreatDoor
open Go.RowKit
set_option linter.unusedVariables false
set_option linter.unusedSimpArgs false
def rnP (l : List UInt8) (k : Nat) : List UInt8 := (l.drop (blK l k)).takeWhile runU
def rnK (l : List UInt8) (k : Nat) : Nat := blK l k + (rnP l k).length
theorem rnK_le {l : List UInt8} {k : Nat} (h : k ≤ l.length) : rnK l k ≤ l.length := tw_le _ l _ (blK_le h)
theorem ext_run (l : List UInt8) (K : Nat) (R : List UInt8) (hp : R <+: l.drop K) (hK : K ≤ l.length) : (⟨l.toArray⟩ : ByteArray).extract K (K + R.length) = ⟨R.toArray⟩ := by
  rw [ByteArray.ext_iff, ByteArray.data_extract]
  apply Array.ext'
  rw [Array.toList_extract]
  simp only [List.extract]
  rw [show K + R.length - K = R.length by omega]
  exact (List.prefix_iff_eq_take.1 hp).symm
set_option maxRecDepth 8000 in
set_option maxHeartbeats 4000000 in
theorem run4_any (w : World) (p : Nat) (l : List UInt8) (k : Nat) (bad far : Bool) (h : R4At w p l k bad far) (hk : k ≤ l.length) (hl : l.length ≤ 140737488355328) : Calls Tryz.prog 69 #[.pointer (some ⟨p, 0, none⟩)] w fun e w' => e = .returned (.string ⟨(rnP l k).toArray⟩) ∧ M4 p l (rnK l k) bad far w w' := by
  have CB := hidOf (blanks4_any w p l k bad far h hk hl)
  have hK := blK_le hk
  have hRK := rnK_le hk
  have HX : Hid ((⟨l.toArray⟩ : ByteArray).extract (blK l k) (rnK l k) = ⟨(rnP l k).toArray⟩) := hidOf (ext_run l _ _ (List.takeWhile_prefix _) hK)
  have HT0 : Hid (rnK l k = blK l k + ((l.drop (blK l k)).takeWhile runU).length) := hidOf rfl
  have hKR : blK l k ≤ rnK l k := Nat.le_add_right _ _
  generalize blK l k = K at *
  generalize rnP l k = R at *
  generalize rnK l k = RK at *
  obtain ⟨s, hs⟩ : ∃ s : ByteArray, (⟨l.toArray⟩ : ByteArray) = s := ⟨_, rfl⟩
  have hsz : s.size = l.length := by rw [← hs]; rfl
  have Hix : Hid (∀ (i : Nat) (h : i < s.size), l[i]? = some s[i]) := hidOf (fun i h => by subst hs; exact List.getElem?_eq_getElem (by rw [hsz] at h; exact h))
  have HS := hidOf hs
  have Hsz := hidOf hsz
  rw [hs] at HX
  clear h hs hsz
  go_enter Tryz.func69, Tryz.ntmps69
  go_upto_region 2 with (go_at_call 40; refine CB.out.mono ?_; rintro e w1 ⟨⟨v, rfl⟩, hm⟩; have HM0 := hidOf hm; clear hm)
  obtain ⟨c0, c1, _, _⟩ := HM0.out.1.cells
  go_wp2
  clear c0 c1 CB
  go_loopw [] (fun wr => ∃ j : Nat, K ≤ j ∧ j ≤ l.length ∧ Hid (M4 p l j bad far w wr) ∧ Hid (RK = j + ((l.drop j).takeWhile runU).length)) (fun wr => l.length - posOf wr p)
  case atStart => exact ⟨K, Nat.le_refl _, hK, HM0, HT0⟩
  case round =>
    clear HT0 HM0
    obtain ⟨j, hKj, hj, HM, HK⟩ := hrel
    have hR := HM.out.1
    have c0 := hR.cells.1
    have c1 := hR.cells.2.1
    have g1 := frozen_atL hR 1
    rw [HS.out] at c0
    have hj0 : (0 : Int) ≤ j := by omega
    by_cases hlt : j < s.size
    · have hltI : (j : Int) < s.size := by omega
      have hx := Hix.out j hlt
      cases b1 : runP (bI s[j])
      · have HE : Hid (RK = j) := hidOf (by rw [HK.out, tw_step runU l j _ hx]; rw [show runU s[j] = runP (bI s[j]) from rfl, b1]; rfl)
        have HX2 : Hid (s.extract K j = ⟨R.toArray⟩) := hidOf (by rw [← HX.out, HE.out])
        have e1 : (K : Int) ≤ j := by omega
        have e2 : (0 : Int) ≤ K := by omega
        have e3 : (j : Int) ≤ s.size := by omega
        clear hx hR
        go_upto_region 3 with fail
        go_quiet ((go_at_call 49; exact Calls.quiet_of_same ((refInner_of b1 _).mono (fun _ _ hh => ⟨hh.1, hh.2.symm⟩))))
        go_wp2
        go_upto_region 5 with fail
        go_quiet (fail)
        go_wp2
        go_ret
        exact ⟨by rw [← HX2.out]; rfl, by rw [HE.out]; exact ⟨HM.out.1, (HM.out.2.drewN _).drewN _⟩⟩
      · have HE : Hid (RK = (j + 1) + ((l.drop (j + 1)).takeWhile runU).length) := hidOf (by rw [HK.out, tw_step runU l j _ hx]; rw [show runU s[j] = runP (bI s[j]) from rfl, b1]; rfl)
        clear hx hR
        have hw : IntKind.i64.wrap ((j : Int) + 1) = ((j + 1 : Nat) : Int) := by rw [IntKind.wrap_i64]; omega
        go_upto_region 3 with fail
        go_quiet ((go_at_call 49; exact Calls.quiet_of_same ((refInner_of b1 _).mono (fun _ _ hh => ⟨hh.1, hh.2.symm⟩))))
        go_wp2
        go_roundw
        case rel => exact ⟨j + 1, by omega, by have := Hsz.out; omega, hidOf ⟨R4At.to (show R4At (wr.drewN nq) p l j bad far from HM.out.1) (j + 1), chg_set1 (Chg.drewN HM.out.2 _)⟩, HE⟩
        case measure =>
          have m1 := HM.out.1.pos
          have m2 : posOf _ p = j + 1 := (R4At.to (show R4At (wr.drewN nq) p l j bad far from HM.out.1) (j + 1)).pos
          have := Hsz.out
          rw [m1]
          refine Nat.lt_of_le_of_lt (Nat.le_of_eq (congrArg (fun x => l.length - x) m2)) ?_
          omega
    · have hltI : ¬ (j : Int) < s.size := by omega
      have HE : Hid (RK = j) := hidOf (by rw [HK.out, tw_end runU l j (by rw [← Hsz.out]; omega)])
      have HX2 : Hid (s.extract K j = ⟨R.toArray⟩) := hidOf (by rw [← HX.out, HE.out])
      have e1 : (K : Int) ≤ j := by omega
      have e2 : (0 : Int) ≤ K := by omega
      have e3 : (j : Int) ≤ s.size := by have := Hsz.out; omega
      clear hR
      go_upto_region 3 with fail
      go_quiet (fail)
      go_wp2
      go_upto_region 5 with fail
      go_quiet (fail)
      go_wp2
      go_ret
      exact ⟨by rw [← HX2.out]; rfl, by rw [HE.out]; exact ⟨HM.out.1, (HM.out.2.drewN _).drewN _⟩⟩
end Go.Proofs.YtcomhlimgocoaaaGreatDoor
namespace Go.Proofs.YtcomhlimgocoaaaGreatDoor
open Go.RowKit
set_option linter.unusedVariables false
set_option linter.unusedSimpArgs false
theorem chg_tr {p : Nat} {a b c : World} (h : Chg (fun x => x = p) a b) (k : Chg (fun x => x = p) b c) : Chg (fun x => x = p) a c := Chg.trans h k (fun _ hx _ => hx)
theorem blK_idem {l : List UInt8} {k : Nat} : blK l (blK l k) = blK l k := by
  have : ((l.drop (blK l k)).takeWhile isBl) = [] := by
    have e : l.drop (blK l k) = (l.drop k).dropWhile isBl := by
      have h := List.takeWhile_append_dropWhile (p := isBl) (l := l.drop k)
      have h2 : l.drop (blK l k) = (l.drop k).drop ((l.drop k).takeWhile isBl).length := by rw [List.drop_drop]; rfl
      rw [h2]
      conv => lhs; rw [← h]
      rw [List.drop_append_of_le_length (by simp)]
      simp
    rw [e]
    cases hd : (l.drop k).dropWhile isBl with
    | nil => rfl
    | cons x r =>
      have := List.head?_dropWhile_not isBl (l.drop k)
      rw [hd] at this
      simp at this
      simp [List.takeWhile_cons, this]
  unfold blK at this ⊢
  rw [this]
  rfl
def wdP (l : List UInt8) (k : Nat) : List UInt8 := if letP ((pkP l k).toNat : Int) then rnP l k else []
def wdK (l : List UInt8) (k : Nat) : Nat := if letP ((pkP l k).toNat : Int) then rnK l k else blK l k
theorem rn_idem {l : List UInt8} {k : Nat} : rnP l (blK l k) = rnP l k ∧ rnK l (blK l k) = rnK l k := by
  unfold rnK rnP
  rw [blK_idem]
  exact ⟨rfl, rfl⟩
theorem wdK_le {l : List UInt8} {k : Nat} (h : k ≤ l.length) : wdK l k ≤ l.length := by
  unfold wdK
  split
  · exact rnK_le h
  · exact blK_le h
set_option maxRecDepth 8000 in
theorem word4_any (w : World) (p : Nat) (l : List UInt8) (k : Nat) (bad far : Bool) (h : R4At w p l k bad far) (hk : k ≤ l.length) (hl : l.length ≤ 140737488355328) : Calls Tryz.prog 37 #[.pointer (some ⟨p, 0, none⟩)] w fun e w' => e = .returned (.string ⟨(wdP l k).toArray⟩) ∧ M4 p l (wdK l k) bad far w w' := by
  have CP := hidOf (peek4_any w p l k bad far h hk hl)
  have CR : Hid (∀ wx, R4At wx p l (blK l k) bad far → Calls Tryz.prog 69 #[.pointer (some ⟨p, 0, none⟩)] wx fun e w' => e = .returned (.string ⟨(rnP l k).toArray⟩) ∧ M4 p l (rnK l k) bad far wx w') := hidOf (fun wx hx => by
    have := run4_any wx p l (blK l k) bad far hx (blK_le hk) hl
    rw [rn_idem.1, rn_idem.2] at this
    exact this)
  unfold wdP wdK
  generalize blK l k = K at *
  generalize rnP l k = R at *
  generalize rnK l k = RK at *
  generalize pkP l k = P at *
  clear h hk hl
  cases hL : letP (P.toNat : Int)
  · go_enter Tryz.func37, Tryz.ntmps37
    go_wp2_with (first | (go_at_call 68; refine CP.out.mono ?_; rintro e w1 ⟨rfl, hm⟩; have HM := hidOf hm; clear hm) | (go_at_call 48; refine (refLetter_of hL _).mono ?_; rintro e w2 ⟨rfl, rfl⟩))
    go_ret
    exact ⟨rfl, HM.out⟩
  · go_enter Tryz.func37, Tryz.ntmps37
    go_wp2_with (first | (go_at_call 68; refine CP.out.mono ?_; rintro e w1 ⟨rfl, hm⟩; have HM := hidOf hm; clear hm) | (go_at_call 48; refine (refLetter_of hL _).mono ?_; rintro e w2 ⟨rfl, rfl⟩) | (go_at_call 69; refine (CR.out _ HM.out.1).mono ?_; rintro e w3 ⟨rfl, hm⟩; have HN := hidOf hm; clear hm))
    go_ret
    exact ⟨rfl, HN.out.1, chg_tr HM.out.2 HN.out.2⟩
/-- a mark must stand here -/
def mkK (l : List UInt8) (k : Nat) (bad : Bool) (c : UInt8) : Nat := if bad then k else if pkP l k = c then blK l k + 1 else blK l k
def mkB (l : List UInt8) (k : Nat) (bad : Bool) (c : UInt8) : Bool := bad || !(pkP l k == c)
theorem mkK_le {l : List UInt8} {k : Nat} {bad : Bool} {c : UInt8} (h : k ≤ l.length) (hc : ¬ c = 0) : mkK l k bad c ≤ l.length := by
  unfold mkK
  split
  · exact h
  · split
    · rename_i hp
      have hb := blK_le h
      unfold pkP at hp
      have : blK l k < l.length := by
        apply Classical.byContradiction
        intro hn
        rw [List.getElem?_eq_none (by omega)] at hp
        exact hc hp.symm
      omega
    · exact blK_le h
set_option maxRecDepth 8000 in
theorem mark4_any (w : World) (p : Nat) (l : List UInt8) (k : Nat) (bad far : Bool) (c : UInt8) (h : R4At w p l k bad far) (hk : k ≤ l.length) (hl : l.length ≤ 140737488355328) : Calls Tryz.prog 74 #[.pointer (some ⟨p, 0, none⟩), .int .u8 (c.toNat : Int)] w fun e w' => (∃ v, e = .returned v) ∧ M4 p l (mkK l k bad c) (mkB l k bad c) far w w' := by
  have CP := hidOf (peek4_any w p l k bad far h hk hl)
  have hK := blK_le hk
  obtain ⟨c0, c1, c2, c3⟩ := h.cells
  have g2 := frozen_atL h 2
  have H := hidOf h
  have t1 : ((((pkP l k).toNat : Int)) == (c.toNat : Int)) = (pkP l k == c) := u8_beq _ _
  have t2 : ((((pkP l k).toNat : Int)) != (c.toNat : Int)) = !(pkP l k == c) := by rw [← t1]; rfl
  unfold mkK mkB
  generalize blK l k = K at *
  generalize pkP l k = P at *
  have hw : IntKind.i64.wrap ((K : Int) + 1) = ((K + 1 : Nat) : Int) := by rw [IntKind.wrap_i64]; omega
  clear h hk hl hK
  cases bad
  · cases hc : (P == c)
    · have hc' : ¬ P = c := by simpa using hc
      rw [hc] at t1 t2
      rw [if_neg (by decide), if_neg hc']
      clear hc hc' c0 c1 c3 g2
      go_enter Tryz.func74, Tryz.ntmps74
      go_wp2_with (go_at_call 68; refine CP.out.mono ?_; rintro e w1 ⟨rfl, hm⟩; have HM := hidOf hm; clear hm; obtain ⟨d0, d1, d2, d3⟩ := HM.out.1.cells; have g2 := frozen_atL HM.out.1 2)
      refine bodyPost_ret (results_none rfl _ _ _) rfl ?_
      exact ⟨⟨_, rfl⟩, HM.out.1.bad true, chg_set1 HM.out.2⟩
    · have hc' : P = c := by simpa using hc
      rw [hc] at t1 t2
      rw [if_neg (by decide), if_pos hc']
      clear hc hc' c0 c1 c3 g2
      go_enter Tryz.func74, Tryz.ntmps74
      go_wp2_with (go_at_call 68; refine CP.out.mono ?_; rintro e w1 ⟨rfl, hm⟩; have HM := hidOf hm; clear hm; obtain ⟨d0, d1, d2, d3⟩ := HM.out.1.cells; have g1 := frozen_atL HM.out.1 1)
      go_end0
      exact ⟨⟨_, rfl⟩, HM.out.1.to (K + 1), chg_set1 HM.out.2⟩
  · rw [if_pos rfl]
    go_enter Tryz.func74, Tryz.ntmps74
    go_wp2
    refine bodyPost_ret (results_none rfl _ _ _) rfl ?_
    exact ⟨⟨_, rfl⟩, H.out.bad true, chg_set1 (Chg.refl _ _)⟩
end Go.Proofs.YtcomhlimgocoaaaGreatDoor
namespace Go.Proofs.YtcomhlimgocoaaaGreatDoor
open Go.RowKit
set_option linter.unusedVariables false
set_option linter.unusedSimpArgs false
theorem M4.more {p : Nat} {l : List UInt8} {k : Nat} {bad far : Bool} {w w1 w2 : World} (h : M4 p l k bad far w w1) (o : Out w1 w2) : M4 p l k bad far w w2 := ⟨blk_out o h.1, chg_tr h.2 (Chg.of_out o)⟩
theorem M4.then {p : Nat} {l l' : List UInt8} {k k' : Nat} {bad far bad' far' : Bool} {w w1 w2 : World} (h : M4 p l k bad far w w1) (o : M4 p l' k' bad' far' w1 w2) : M4 p l' k' bad' far' w w2 := ⟨o.1, chg_tr h.2 o.2⟩
def rgV (l : List UInt8) (k : Nat) : Int := match regN (wdP l k) with | some j => (j : Int) | none => 0
def rgB (l : List UInt8) (k : Nat) (bad : Bool) : Bool := bad || (regN (wdP l k)).isNone
set_option maxRecDepth 8000 in
set_option maxHeartbeats 4000000 in
theorem reg4_any (w : World) (p : Nat) (l : List UInt8) (k : Nat) (bad far : Bool) (h : R4At w p l k bad far) (hk : k ≤ l.length) (hl : l.length ≤ 140737488355328) : Calls Tryz.prog 73 #[.pointer (some ⟨p, 0, none⟩)] w fun e w' => e = .returned (.int .i64 (rgV l k)) ∧ M4 p l (wdK l k) (rgB l k bad) far w w' := by
  have CW := hidOf (word4_any w p l k bad far h hk hl)
  have HV : Hid (∀ j : Nat, (∀ i, i < j → ¬ wdP l k = regL i) → j < 11 → wdP l k = regL j → rgV l k = (j : Int) ∧ rgB l k bad = bad) := hidOf (fun j _ hj hw => by
    have : regN (wdP l k) = some j := regN_some _ _ ⟨hj, hw⟩
    unfold rgV rgB
    rw [this]
    simp)
  have HN : Hid ((∀ i, i < 11 → ¬ wdP l k = regL i) → rgV l k = 0 ∧ rgB l k bad = true) := hidOf (fun hn => by
    have : regN (wdP l k) = none := regN_none _ (fun i hi => hn i hi.1 hi.2)
    unfold rgV rgB
    rw [this]
    simp)
  generalize wdK l k = K at *
  generalize wdP l k = X at *
  generalize rgV l k = V at *
  generalize rgB l k bad = B at *
  clear h hk hl
  go_enter Tryz.func73, Tryz.ntmps73
  go_wp2_with (go_at_call 37; refine CW.out.mono ?_; rintro e w1 ⟨rfl, hm⟩; have HM0 := hidOf hm; clear hm)
  clear CW
  go_loopw [4] (fun kv wr => ∃ j : Nat, kv = .int .i64 j ∧ j ≤ 11 ∧ Hid (M4 p l K bad far w wr) ∧ Hid (∀ i, i < j → ¬ X = regL i)) (fun kv _ => 11 - (intOf kv).toNat)
  case atStart => exact ⟨0, rfl, by omega, HM0, hidOf (fun i hi => by omega)⟩
  case round =>
    clear HM0
    obtain ⟨j, rfl, hj, HM, HA⟩ := hrel
    by_cases hlt : j < 11
    · have hltI : (j : Int) ≤ 10 := by omega
      have CR := hidOf (fun wx => register4_any (j : Int) (by omega) hltI wx)
      rw [show ((j : Int)).toNat = j by omega] at CR
      by_cases hx : X = regL j
      · have HE := hidOf (HV.out j HA.out hlt hx)
        rw [← hx] at CR
        clear hx HV HN
        go_wp2_with (go_at_call 30; refine (CR.out _).mono ?_; rintro e w2 ⟨rfl, ho⟩; have O2 := hidOf ho; clear ho)
        go_ret
        exact ⟨by rw [HE.out.1]; rfl, by rw [HE.out.2]; exact HM.out.more O2.out⟩
      · have hA : ∀ i, i < j + 1 → ¬ X = regL i := fun i hi => by
          by_cases e : i = j
          · rw [e]; exact hx
          · exact HA.out i (by omega)
        have HA' := hidOf hA
        have hb : (X == regL j) = false := by simpa using hx
        clear hx hA
        generalize regL j = Y at *
        go_wp2_with (go_at_call 30; refine (CR.out _).mono ?_; rintro e w2 ⟨rfl, ho⟩; have O2 := hidOf ho; clear ho)
        go_roundw
        case rel => exact ⟨j + 1, by simp, by omega, hidOf (HM.out.more O2.out), HA'⟩
        case measure => simp [intOf]; omega
    · have hltI : ¬ (j : Int) ≤ 10 := by omega
      have HE := hidOf (HN.out (fun i hi => HA.out i (by omega)))
      have c2 := HM.out.1.cells.2.2.1
      have g2 := frozen_atL HM.out.1 2
      go_wp2
      go_ret
      exact ⟨by rw [HE.out.1]; rfl, by rw [HE.out.2]; exact ⟨HM.out.1.bad true, chg_set1 HM.out.2⟩⟩
set_option maxRecDepth 8000 in
theorem target4_any (w : World) (p : Nat) (l : List UInt8) (k : Nat) (bad far : Bool) (h : R4At w p l k bad far) (hk : k ≤ l.length) (hl : l.length ≤ 140737488355328) : Calls Tryz.prog 76 #[.pointer (some ⟨p, 0, none⟩)] w fun e w' => e = .returned (.string ⟨(wdP l k).toArray⟩) ∧ M4 p l (wdK l k) (bad || !nameP (wdP l k)) far w w' := by
  have CW := hidOf (word4_any w p l k bad far h hk hl)
  have hX : (wdP l k).length ≤ 140737488355328 := by
    have e : (wdP l k).length ≤ l.length := by
      unfold wdP
      split
      · have := (List.takeWhile_prefix (l := l.drop (blK l k)) runU).length_le
        rw [List.length_drop] at this
        unfold rnP
        omega
      · simp
    omega
  have CN := hidOf (fun wx => name4_any (wdP l k) wx (by omega))
  generalize wdK l k = K at *
  generalize wdP l k = X at *
  clear h hk hl hX
  cases hn : nameP X
  · rw [hn] at CN
    rw [Bool.not_false, Bool.or_true]
    go_enter Tryz.func76, Tryz.ntmps76
    go_wp2_with (first | (go_at_call 37; refine CW.out.mono ?_; rintro e w1 ⟨rfl, hm⟩; have HM := hidOf hm; clear hm; have c2 := HM.out.1.cells.2.2.1; have g2 := frozen_atL HM.out.1 2) | (go_at_call 18; refine (CN.out _).mono ?_; rintro e w2 ⟨rfl, hw⟩; subst hw))
    go_ret
    exact ⟨rfl, HM.out.1.bad true, chg_set1 HM.out.2⟩
  · rw [hn] at CN
    rw [Bool.not_true, Bool.or_false]
    go_enter Tryz.func76, Tryz.ntmps76
    go_wp2_with (first | (go_at_call 37; refine CW.out.mono ?_; rintro e w1 ⟨rfl, hm⟩; have HM := hidOf hm; clear hm) | (go_at_call 18; refine (CN.out _).mono ?_; rintro e w2 ⟨rfl, hw⟩; subst hw))
    go_ret
    exact ⟨rfl, HM.out⟩
end Go.Proofs.YtcomhlimgocoaaaGreatDoor
namespace Go.Proofs.YtcomhlimgocoaaaGreatDoor
open Go.RowKit
set_option linter.unusedVariables false
set_option linter.unusedSimpArgs false
/-- a digit's value, or -1 -/
def hxV (c : Int) : Int := if digP c then c - 48 else if 97 ≤ c ∧ c ≤ 102 then c - 87 else if 65 ≤ c ∧ c ≤ 70 then c - 55 else -1
theorem refDigit_of {c : Int} {b : Bool} (h : digP c = b) (w : World) : Calls Tryz.prog 87 #[.int .u8 c] w fun e w' => e = .returned (.bool b) ∧ w = w' := by rw [← h]; exact refDigit_any c w
theorem hxV_in (c : Int) (h0 : 0 ≤ c) : -1 ≤ hxV c ∧ hxV c ≤ 15 := by
  unfold hxV digP
  repeat' split
  all_goals simp at *
  all_goals omega
set_option maxRecDepth 8000 in
theorem hex4_any (c : Int) (h0 : 0 ≤ c) (h1 : c < 256) (w : World) : Calls Tryz.prog 135 #[.int .u8 c] w fun e w' => e = .returned (.int .i64 (hxV c)) ∧ w = w' := by
  cases hd : digP c
  · by_cases ha : 97 ≤ c
    · by_cases hb : c ≤ 102
      · have hv : hxV c = c - 87 := by unfold hxV; rw [hd]; simp [ha, hb]
        rw [hv]
        have t1 : IntKind.u8.wrap (c - 97) = c - 97 := by rw [IntKind.wrap_u8]; omega
        have t2 : c - 97 + 10 = c - 87 := by omega
        have t3 : IntKind.i64.wrap (c - 97) = c - 97 := by rw [IntKind.wrap_i64]; omega
        have t4 : IntKind.i64.wrap (c - 87) = c - 87 := by rw [IntKind.wrap_i64]; omega
        have t5 : IntKind.i64.wrap (c - 97 + 10) = c - 87 := by rw [IntKind.wrap_i64]; omega
        go_enter Tryz.func135, Tryz.ntmps135
        go_wp2_with (go_at_call 87; refine (refDigit_of hd _).mono ?_; rintro e w1 ⟨rfl, rfl⟩)
        go_ret
        first | exact ⟨rfl, rfl⟩ | exact ⟨by simp [t2], rfl⟩
      · have hc : ¬ c ≤ 70 := by omega
        have hv : hxV c = -1 := by unfold hxV; rw [hd]; simp [hb, hc]
        rw [hv]
        have hc2 : 65 ≤ c := by omega
        go_enter Tryz.func135, Tryz.ntmps135
        go_wp2_with (go_at_call 87; refine (refDigit_of hd _).mono ?_; rintro e w1 ⟨rfl, rfl⟩)
        go_ret
        exact ⟨rfl, rfl⟩
    · by_cases hb : 65 ≤ c
      · by_cases hc : c ≤ 70
        · have hv : hxV c = c - 55 := by unfold hxV; rw [hd]; simp [ha, hb, hc]
          rw [hv]
          have t1 : IntKind.u8.wrap (c - 65) = c - 65 := by rw [IntKind.wrap_u8]; omega
          have t2 : c - 65 + 10 = c - 55 := by omega
          have t3 : IntKind.i64.wrap (c - 65) = c - 65 := by rw [IntKind.wrap_i64]; omega
          have t4 : IntKind.i64.wrap (c - 55) = c - 55 := by rw [IntKind.wrap_i64]; omega
          have t5 : IntKind.i64.wrap (c - 65 + 10) = c - 55 := by rw [IntKind.wrap_i64]; omega
          go_enter Tryz.func135, Tryz.ntmps135
          go_wp2_with (go_at_call 87; refine (refDigit_of hd _).mono ?_; rintro e w1 ⟨rfl, rfl⟩)
          go_ret
          first | exact ⟨rfl, rfl⟩ | exact ⟨by simp [t2], rfl⟩
        · have hv : hxV c = -1 := by unfold hxV; rw [hd]; simp [ha, hc]
          rw [hv]
          go_enter Tryz.func135, Tryz.ntmps135
          go_wp2_with (go_at_call 87; refine (refDigit_of hd _).mono ?_; rintro e w1 ⟨rfl, rfl⟩)
          go_ret
          exact ⟨rfl, rfl⟩
      · have hv : hxV c = -1 := by unfold hxV; rw [hd]; simp [ha, hb]
        rw [hv]
        go_enter Tryz.func135, Tryz.ntmps135
        go_wp2_with (go_at_call 87; refine (refDigit_of hd _).mono ?_; rintro e w1 ⟨rfl, rfl⟩)
        go_ret
        exact ⟨rfl, rfl⟩
  · have hv : hxV c = c - 48 := by unfold hxV; rw [hd]; simp
    rw [hv]
    have hd2 : 48 ≤ c ∧ c ≤ 57 := by unfold digP at hd; simpa using hd
    have t1 : IntKind.u8.wrap (c - 48) = c - 48 := by rw [IntKind.wrap_u8]; omega
    have t3 : IntKind.i64.wrap (c - 48) = c - 48 := by rw [IntKind.wrap_i64]; omega
    clear hd2
    go_enter Tryz.func135, Tryz.ntmps135
    go_wp2_with (go_at_call 87; refine (refDigit_of hd _).mono ?_; rintro e w1 ⟨rfl, rfl⟩)
    go_ret
    exact ⟨rfl, rfl⟩
/-- the value of digits, modulo 2^64, and whether it was above -/
def vF (base : Int) : Int → Bool → List UInt8 → Option (Int × Bool)
  | v, ov, [] => some (v, ov)
  | v, ov, b :: l => if hxV (bI b) < 0 ∨ base = 10 ∧ 9 < hxV (bI b) then none else vF base ((v * base + hxV (bI b)) % 18446744073709551616) (ov || decide ((18446744073709551615 - hxV (bI b)) / base < v)) l
def vRes : Option (Int × Bool) → Int × Bool × Bool
  | none => (0, false, false)
  | some x => (x.1, x.2, true)
def vR (s : List UInt8) : Int × Bool × Bool :=
  if s = [] then (0, false, false) else if 1 < s.length ∧ s[0]? = some 48 then (if ¬ s[1]? = some 120 ∨ s.length < 3 ∨ 18 < s.length then (0, false, false) else vRes (vF 16 0 false (s.drop 2))) else vRes (vF 10 0 false s)
theorem u8_48 (c : UInt8) : ((c.toNat : Int) == 48) = (c == 48) := u8_beq c 48
theorem u8_120 (c : UInt8) : ((c.toNat : Int) == 120) = (c == 120) := u8_beq c 120
theorem u8_120n (c : UInt8) : ((c.toNat : Int) != 120) = !(c == 120) := by rw [← u8_120]; rfl
set_option maxRecDepth 8000 in
set_option maxHeartbeats 4000000 in
theorem value4_bytes (s : ByteArray) (w : World) (hs : s.size ≤ 140737488355328) : Calls Tryz.prog 119 #[.string s] w fun e w' => e = .returned (.tuple #[.int .u64 (vR s.toList).1, .bool (vR s.toList).2.1, .bool (vR s.toList).2.2]) ∧ w = w' := by
  obtain ⟨VR, hVR⟩ : ∃ VR, vR s.toList = VR := ⟨_, rfl⟩
  rw [hVR]
  have HR := hidOf hVR
  clear hVR
  have hl := lsize s
  by_cases h0 : s.size = 0
  · have hn : s.toList = [] := List.length_eq_zero_iff.1 (by omega)
    have HE : Hid (VR = (0, false, false)) := hidOf (by rw [← HR.out, hn]; rfl)
    obtain rfl : s = ⟨#[]⟩ := by
      rw [ByteArray.toList_eq] at hn
      apply ByteArray.ext
      exact Array.toList_eq_nil_iff.1 hn
    go_enter Tryz.func119, Tryz.ntmps119
    go_wp2
    go_ret3
    exact ⟨by rw [HE.out]; rfl, rfl⟩
  have hne : ¬ s.toList = [] := fun e => by rw [e] at hl; simp at hl; omega
  have hsn : ¬ s = ⟨#[]⟩ := fun e => by rw [e] at h0; exact h0 rfl
  have hie : s.toList.isEmpty = false := (isEmpty_of h0).1
  have h0I : (0 : Int) < s.size := by omega
  have x0 := lget s 0 (by omega)
  have t0 := u8_48 s[0]
  by_cases h1 : 1 < s.size
  · have h1I : (1 : Int) < s.size := by omega
    cases b0 : (s[0] == 48)
    · have HV0 : Hid (VR = vRes (vF 10 0 false (s.toList.drop 0))) := hidOf (by
        have b0' : ¬ s[0] = 48 := by simpa using b0
        rw [← HR.out]; unfold vR; rw [if_neg hne, x0, if_neg (by rintro ⟨_, h⟩; exact b0' (Option.some.inj h))]; rfl)
      rw [b0] at t0
      clear HR hne x0
      go_enter Tryz.func119, Tryz.ntmps119
      go_wp2
      go_loopw [7, 8, 9] (fun vv ov iv wr => ∃ (j : Nat) (v : Int) (o : Bool), vv = .int .u64 v ∧ ov = .bool o ∧ iv = .int .i64 j ∧ j ≤ s.size ∧ 0 ≤ v ∧ v < 18446744073709551616 ∧ Hid (VR = vRes (vF 10 v o (s.toList.drop j))) ∧ wr = w) (fun _ _ iv _ => s.size - (intOf iv).toNat)
      case atStart => exact ⟨0, 0, false, rfl, rfl, rfl, by omega, by omega, by omega, HV0, rfl⟩
      case round =>
        clear HV0
        obtain ⟨j, v, o, rfl, rfl, rfl, hj, hv0, hv1, HV, rfl⟩ := hrel
        by_cases hlt : j < s.size
        · have hltI : (j : Int) < s.size := by omega
          have hj0 : (0 : Int) ≤ j := by omega
          have hb0 : (0 : Int) ≤ bI s[j] := Int.natCast_nonneg _
          have hb1 : bI s[j] < 256 := by have := s[j].toNat_lt; unfold bI; omega
          have HS : Hid (VR = vRes (if hxV (bI s[j]) < 0 ∨ (10 : Int) = 10 ∧ 9 < hxV (bI s[j]) then none else vF 10 ((v * 10 + hxV (bI s[j])) % 18446744073709551616) (o || decide ((18446744073709551615 - hxV (bI s[j])) / 10 < v)) (s.toList.drop (j + 1)))) := hidOf (by
            obtain ⟨g1, g2⟩ := List.getElem?_eq_some_iff.1 (lget s j hlt)
            have h2 := HV.out
            rw [List.drop_eq_getElem_cons g1, g2, vF] at h2
            exact h2)
          have CH := hidOf (fun wx => hex4_any (bI s[j]) hb0 hb1 wx)
          obtain ⟨q0, q1⟩ := hxV_in (bI s[j]) hb0
          generalize hxV (bI s[j]) = D at *
          clear hb0 hb1 HV
          by_cases hD : D < 0
          · have HE : Hid (VR = (0, false, false)) := hidOf (by rw [HS.out, if_pos (.inl hD)]; rfl)
            clear HS
            go_wp2_with (go_at_call 135; refine (CH.out _).mono ?_; rintro e w1 ⟨rfl, rfl⟩)
            go_ret3
            exact ⟨by rw [HE.out]; rfl, rfl⟩
          by_cases hN : 9 < D
          · have HE : Hid (VR = (0, false, false)) := hidOf (by rw [HS.out, if_pos (.inr ⟨rfl, hN⟩)]; rfl)
            clear HS
            go_wp2_with (go_at_call 135; refine (CH.out _).mono ?_; rintro e w1 ⟨rfl, rfl⟩)
            go_ret3
            exact ⟨by rw [HE.out]; rfl, rfl⟩
          rw [if_neg (by omega)] at HS
          have f1 : IntKind.u64.wrap D = D := by rw [IntKind.wrap_u64]; omega
          obtain ⟨E, hE⟩ : ∃ E, 18446744073709551615 - D = E := ⟨_, rfl⟩
          have f2 : IntKind.u64.wrap E = E := by rw [IntKind.wrap_u64]; omega
          obtain ⟨Q, hQ⟩ : ∃ Q, E / 10 = Q := ⟨_, rfl⟩
          have f3 : IntKind.u64.wrap Q = Q := by rw [IntKind.wrap_u64]; omega
          obtain ⟨M1, hM1⟩ : ∃ M1, IntKind.u64.wrap (v * 10) = M1 := ⟨_, rfl⟩
          obtain ⟨M2, hM2⟩ : ∃ M2, IntKind.u64.wrap (M1 + D) = M2 := ⟨_, rfl⟩
          have hM : (v * 10 + D) % 18446744073709551616 = M2 := by rw [← hM2, ← hM1, IntKind.wrap_u64, IntKind.wrap_u64]; omega
          have m0 : 0 ≤ M2 ∧ M2 < 18446744073709551616 := by omega
          rw [hE, hQ, hM] at HS
          clear hM
          by_cases hov : Q < v
          · rw [decide_eq_true hov, Bool.or_true] at HS
            go_wp2_with (go_at_call 135; refine (CH.out _).mono ?_; rintro e w1 ⟨rfl, rfl⟩)
            go_roundw
            case rel => exact ⟨j + 1, M2, true, rfl, rfl, by simp, by omega, m0.1, m0.2, HS, trivial⟩
            case measure => simp [intOf]; omega
          · rw [decide_eq_false hov, Bool.or_false] at HS
            go_wp2_with (go_at_call 135; refine (CH.out _).mono ?_; rintro e w1 ⟨rfl, rfl⟩)
            go_roundw
            case rel => exact ⟨j + 1, M2, o, rfl, rfl, by simp, by omega, m0.1, m0.2, HS, trivial⟩
            case measure => simp [intOf]; omega
        · have hltI : ¬ (j : Int) < s.size := by omega
          have HE : Hid (VR = (v, o, true)) := hidOf (by rw [HV.out, List.drop_eq_nil_iff.2 (by rw [lsize]; omega)]; rfl)
          go_wp2
          go_ret3
          exact ⟨by rw [HE.out]; rfl, rfl⟩
    · have x1 := lget s 1 h1
      have t1 := u8_120 s[1]
      have t1n := u8_120n s[1]
      have b0' : s[0] = 48 := by simpa using b0
      have HW : Hid (VR = if ¬ s[1] = 120 ∨ s.size < 3 ∨ 18 < s.size then (0, false, false) else vRes (vF 16 0 false (s.toList.drop 2))) := hidOf (by
        rw [← HR.out]; unfold vR; rw [if_neg hne, x0, b0', if_pos ⟨by omega, rfl⟩, x1, hl]; simp only [Option.some.injEq])
      rw [b0] at t0
      clear HR hne x0 x1 b0'
      cases b1 : (s[1] == 120)
      · have HE : Hid (VR = (0, false, false)) := hidOf (by rw [HW.out, if_pos (.inl (by simpa using b1))])
        rw [b1] at t1 t1n
        simp only [Bool.not_false, Bool.not_true] at t1n
        go_enter Tryz.func119, Tryz.ntmps119
        go_wp2
        go_ret3
        exact ⟨by rw [HE.out]; rfl, rfl⟩
      · have b1' : s[1] = 120 := by simpa using b1
        rw [b1] at t1 t1n
        simp only [Bool.not_false, Bool.not_true] at t1n
        by_cases h3 : s.size < 3
        · have HE : Hid (VR = (0, false, false)) := hidOf (by rw [HW.out, if_pos (.inr (.inl h3))])
          have h3I : (s.size : Int) < 3 := by omega
          clear b1'
          go_enter Tryz.func119, Tryz.ntmps119
          go_wp2
          go_ret3
          exact ⟨by rw [HE.out]; rfl, rfl⟩
        have h3I : ¬ (s.size : Int) < 3 := by omega
        by_cases h18 : 18 < s.size
        · have HE : Hid (VR = (0, false, false)) := hidOf (by rw [HW.out, if_pos (.inr (.inr h18))])
          have h18I : (18 : Int) < s.size := by omega
          clear b1'
          go_enter Tryz.func119, Tryz.ntmps119
          go_wp2
          go_ret3
          exact ⟨by rw [HE.out]; rfl, rfl⟩
        have h18I : ¬ (18 : Int) < s.size := by omega
        have HV0 : Hid (VR = vRes (vF 16 0 false (s.toList.drop 2))) := hidOf (by rw [HW.out, if_neg (by rintro (h | h | h); exact h b1'; exact h3 h; exact h18 h)])
        clear HW b1'
        go_enter Tryz.func119, Tryz.ntmps119
        go_wp2
        go_loopw [7, 8, 9] (fun vv ov iv wr => ∃ (j : Nat) (v : Int) (o : Bool), vv = .int .u64 v ∧ ov = .bool o ∧ iv = .int .i64 j ∧ j ≤ s.size ∧ 0 ≤ v ∧ v < 18446744073709551616 ∧ Hid (VR = vRes (vF 16 v o (s.toList.drop j))) ∧ wr = w) (fun _ _ iv _ => s.size - (intOf iv).toNat)
        case atStart => exact ⟨2, 0, false, rfl, rfl, rfl, by omega, by omega, by omega, HV0, rfl⟩
        case round =>
          clear HV0
          obtain ⟨j, v, o, rfl, rfl, rfl, hj, hv0, hv1, HV, rfl⟩ := hrel
          by_cases hlt : j < s.size
          · have hltI : (j : Int) < s.size := by omega
            have hj0 : (0 : Int) ≤ j := by omega
            have hb0 : (0 : Int) ≤ bI s[j] := Int.natCast_nonneg _
            have hb1 : bI s[j] < 256 := by have := s[j].toNat_lt; unfold bI; omega
            have HS : Hid (VR = vRes (if hxV (bI s[j]) < 0 ∨ (16 : Int) = 10 ∧ 9 < hxV (bI s[j]) then none else vF 16 ((v * 16 + hxV (bI s[j])) % 18446744073709551616) (o || decide ((18446744073709551615 - hxV (bI s[j])) / 16 < v)) (s.toList.drop (j + 1)))) := hidOf (by
              obtain ⟨g1, g2⟩ := List.getElem?_eq_some_iff.1 (lget s j hlt)
              have h2 := HV.out
              rw [List.drop_eq_getElem_cons g1, g2, vF] at h2
              exact h2)
            have CH := hidOf (fun wx => hex4_any (bI s[j]) hb0 hb1 wx)
            obtain ⟨q0, q1⟩ := hxV_in (bI s[j]) hb0
            generalize hxV (bI s[j]) = D at *
            clear hb0 hb1 HV
            by_cases hD : D < 0
            · have HE : Hid (VR = (0, false, false)) := hidOf (by rw [HS.out, if_pos (.inl hD)]; rfl)
              clear HS
              go_wp2_with (go_at_call 135; refine (CH.out _).mono ?_; rintro e w1 ⟨rfl, rfl⟩)
              go_ret3
              exact ⟨by rw [HE.out]; rfl, rfl⟩
            rw [if_neg (by omega)] at HS
            have f1 : IntKind.u64.wrap D = D := by rw [IntKind.wrap_u64]; omega
            obtain ⟨E, hE⟩ : ∃ E, 18446744073709551615 - D = E := ⟨_, rfl⟩
            have f2 : IntKind.u64.wrap E = E := by rw [IntKind.wrap_u64]; omega
            obtain ⟨Q, hQ⟩ : ∃ Q, E / 16 = Q := ⟨_, rfl⟩
            have f3 : IntKind.u64.wrap Q = Q := by rw [IntKind.wrap_u64]; omega
            obtain ⟨M1, hM1⟩ : ∃ M1, IntKind.u64.wrap (v * 16) = M1 := ⟨_, rfl⟩
            obtain ⟨M2, hM2⟩ : ∃ M2, IntKind.u64.wrap (M1 + D) = M2 := ⟨_, rfl⟩
            have hM : (v * 16 + D) % 18446744073709551616 = M2 := by rw [← hM2, ← hM1, IntKind.wrap_u64, IntKind.wrap_u64]; omega
            have m0 : 0 ≤ M2 ∧ M2 < 18446744073709551616 := by omega
            rw [hE, hQ, hM] at HS
            clear hM
            by_cases hov : Q < v
            · rw [decide_eq_true hov, Bool.or_true] at HS
              go_wp2_with (go_at_call 135; refine (CH.out _).mono ?_; rintro e w1 ⟨rfl, rfl⟩)
              go_roundw
              case rel => exact ⟨j + 1, M2, true, rfl, rfl, by simp, by omega, m0.1, m0.2, HS, trivial⟩
              case measure => simp [intOf]; omega
            · rw [decide_eq_false hov, Bool.or_false] at HS
              go_wp2_with (go_at_call 135; refine (CH.out _).mono ?_; rintro e w1 ⟨rfl, rfl⟩)
              go_roundw
              case rel => exact ⟨j + 1, M2, o, rfl, rfl, by simp, by omega, m0.1, m0.2, HS, trivial⟩
              case measure => simp [intOf]; omega
          · have hltI : ¬ (j : Int) < s.size := by omega
            have HE : Hid (VR = (v, o, true)) := hidOf (by rw [HV.out, List.drop_eq_nil_iff.2 (by rw [lsize]; omega)]; rfl)
            go_wp2
            go_ret3
            exact ⟨by rw [HE.out]; rfl, rfl⟩
  · have h1I : ¬ (1 : Int) < s.size := by omega
    have HV0 : Hid (VR = vRes (vF 10 0 false (s.toList.drop 0))) := hidOf (by
      rw [← HR.out]; unfold vR; rw [if_neg hne, if_neg (by omega)]; rfl)
    clear HR hne x0 t0
    go_enter Tryz.func119, Tryz.ntmps119
    go_wp2
    go_loopw [7, 8, 9] (fun vv ov iv wr => ∃ (j : Nat) (v : Int) (o : Bool), vv = .int .u64 v ∧ ov = .bool o ∧ iv = .int .i64 j ∧ j ≤ s.size ∧ 0 ≤ v ∧ v < 18446744073709551616 ∧ Hid (VR = vRes (vF 10 v o (s.toList.drop j))) ∧ wr = w) (fun _ _ iv _ => s.size - (intOf iv).toNat)
    case atStart => exact ⟨0, 0, false, rfl, rfl, rfl, by omega, by omega, by omega, HV0, rfl⟩
    case round =>
      clear HV0
      obtain ⟨j, v, o, rfl, rfl, rfl, hj, hv0, hv1, HV, rfl⟩ := hrel
      by_cases hlt : j < s.size
      · have hltI : (j : Int) < s.size := by omega
        have hj0 : (0 : Int) ≤ j := by omega
        have hb0 : (0 : Int) ≤ bI s[j] := Int.natCast_nonneg _
        have hb1 : bI s[j] < 256 := by have := s[j].toNat_lt; unfold bI; omega
        have HS : Hid (VR = vRes (if hxV (bI s[j]) < 0 ∨ (10 : Int) = 10 ∧ 9 < hxV (bI s[j]) then none else vF 10 ((v * 10 + hxV (bI s[j])) % 18446744073709551616) (o || decide ((18446744073709551615 - hxV (bI s[j])) / 10 < v)) (s.toList.drop (j + 1)))) := hidOf (by
          obtain ⟨g1, g2⟩ := List.getElem?_eq_some_iff.1 (lget s j hlt)
          have h2 := HV.out
          rw [List.drop_eq_getElem_cons g1, g2, vF] at h2
          exact h2)
        have CH := hidOf (fun wx => hex4_any (bI s[j]) hb0 hb1 wx)
        obtain ⟨q0, q1⟩ := hxV_in (bI s[j]) hb0
        generalize hxV (bI s[j]) = D at *
        clear hb0 hb1 HV
        by_cases hD : D < 0
        · have HE : Hid (VR = (0, false, false)) := hidOf (by rw [HS.out, if_pos (.inl hD)]; rfl)
          clear HS
          go_wp2_with (go_at_call 135; refine (CH.out _).mono ?_; rintro e w1 ⟨rfl, rfl⟩)
          go_ret3
          exact ⟨by rw [HE.out]; rfl, rfl⟩
        by_cases hN : 9 < D
        · have HE : Hid (VR = (0, false, false)) := hidOf (by rw [HS.out, if_pos (.inr ⟨rfl, hN⟩)]; rfl)
          clear HS
          go_wp2_with (go_at_call 135; refine (CH.out _).mono ?_; rintro e w1 ⟨rfl, rfl⟩)
          go_ret3
          exact ⟨by rw [HE.out]; rfl, rfl⟩
        rw [if_neg (by omega)] at HS
        have f1 : IntKind.u64.wrap D = D := by rw [IntKind.wrap_u64]; omega
        obtain ⟨E, hE⟩ : ∃ E, 18446744073709551615 - D = E := ⟨_, rfl⟩
        have f2 : IntKind.u64.wrap E = E := by rw [IntKind.wrap_u64]; omega
        obtain ⟨Q, hQ⟩ : ∃ Q, E / 10 = Q := ⟨_, rfl⟩
        have f3 : IntKind.u64.wrap Q = Q := by rw [IntKind.wrap_u64]; omega
        obtain ⟨M1, hM1⟩ : ∃ M1, IntKind.u64.wrap (v * 10) = M1 := ⟨_, rfl⟩
        obtain ⟨M2, hM2⟩ : ∃ M2, IntKind.u64.wrap (M1 + D) = M2 := ⟨_, rfl⟩
        have hM : (v * 10 + D) % 18446744073709551616 = M2 := by rw [← hM2, ← hM1, IntKind.wrap_u64, IntKind.wrap_u64]; omega
        have m0 : 0 ≤ M2 ∧ M2 < 18446744073709551616 := by omega
        rw [hE, hQ, hM] at HS
        clear hM
        by_cases hov : Q < v
        · rw [decide_eq_true hov, Bool.or_true] at HS
          go_wp2_with (go_at_call 135; refine (CH.out _).mono ?_; rintro e w1 ⟨rfl, rfl⟩)
          go_roundw
          case rel => exact ⟨j + 1, M2, true, rfl, rfl, by simp, by omega, m0.1, m0.2, HS, trivial⟩
          case measure => simp [intOf]; omega
        · rw [decide_eq_false hov, Bool.or_false] at HS
          go_wp2_with (go_at_call 135; refine (CH.out _).mono ?_; rintro e w1 ⟨rfl, rfl⟩)
          go_roundw
          case rel => exact ⟨j + 1, M2, o, rfl, rfl, by simp, by omega, m0.1, m0.2, HS, trivial⟩
          case measure => simp [intOf]; omega
      · have hltI : ¬ (j : Int) < s.size := by omega
        have HE : Hid (VR = (v, o, true)) := hidOf (by rw [HV.out, List.drop_eq_nil_iff.2 (by rw [lsize]; omega)]; rfl)
        go_wp2
        go_ret3
        exact ⟨by rw [HE.out]; rfl, rfl⟩
end Go.Proofs.YtcomhlimgocoaaaGreatDoor
namespace Go.Proofs.YtcomhlimgocoaaaGreatDoor
open Go.RowKit
set_option linter.unusedVariables false
set_option linter.unusedSimpArgs false
theorem value4_any (l : List UInt8) (w : World) (hl : l.length ≤ 140737488355328) : Calls Tryz.prog 119 #[.string ⟨l.toArray⟩] w fun e w' => e = .returned (.tuple #[.int .u64 (vR l).1, .bool (vR l).2.1, .bool (vR l).2.2]) ∧ w = w' := by
  have h := value4_bytes ⟨l.toArray⟩ w (by show l.length ≤ _; exact hl)
  rw [mk_list] at h
  exact h
def sgK (l : List UInt8) (k : Nat) : Nat := if pkP l k == 43 || pkP l k == 45 then blK l k + 1 else blK l k
/-- a signed number: what it is, where the reader stands, bad, far -/
def sgR (l : List UInt8) (k : Nat) (bad far : Bool) (up down : Int) (always : Bool) : Int × Nat × Bool × Bool :=
  if bad || (always && !(pkP l k == 43) && !(pkP l k == 45)) then (0, sgK l k, true, far)
  else if !digP ((pkP l (sgK l k)).toNat : Int) then (0, blK l (sgK l k), true, far)
  else if !(vR (rnP l (sgK l k))).2.2 then (0, rnK l (sgK l k), true, far)
  else if (vR (rnP l (sgK l k))).2.1 || (pkP l k == 45 && decide (down < (vR (rnP l (sgK l k))).1)) || (!(pkP l k == 45) && decide (up < (vR (rnP l (sgK l k))).1)) then (0, rnK l (sgK l k), false, true)
  else (if pkP l k == 45 then IntKind.i64.wrap (IntKind.u64.wrap (0 - (vR (rnP l (sgK l k))).1)) else IntKind.i64.wrap (vR (rnP l (sgK l k))).1, rnK l (sgK l k), false, far)
theorem pk_lt {l : List UInt8} {k : Nat} (hk : k ≤ l.length) (h : ¬ pkP l k = 0) : blK l k < l.length := by
  have hb := blK_le hk
  apply Classical.byContradiction
  intro hn
  unfold pkP at h
  rw [List.getElem?_eq_none (by omega)] at h
  exact h rfl
theorem sgK_le {l : List UInt8} {k : Nat} (h : k ≤ l.length) : sgK l k ≤ l.length := by
  unfold sgK
  split
  · rename_i hp
    have := pk_lt h (fun e => by rw [e] at hp; exact absurd hp (by decide))
    omega
  · exact blK_le h
theorem rnP_len {l : List UInt8} {k : Nat} : (rnP l k).length ≤ l.length := by
  have := (List.takeWhile_prefix (l := l.drop (blK l k)) runU).length_le
  rw [List.length_drop] at this
  unfold rnP
  omega
theorem u8_43 (c : UInt8) : ((c.toNat : Int) == 43) = (c == 43) := u8_beq c 43
theorem u8_45 (c : UInt8) : ((c.toNat : Int) == 45) = (c == 45) := u8_beq c 45
theorem u8_43n (c : UInt8) : ((c.toNat : Int) != 43) = !(c == 43) := by rw [← u8_43]; rfl
theorem u8_45n (c : UInt8) : ((c.toNat : Int) != 45) = !(c == 45) := by rw [← u8_45]; rfl
set_option maxRecDepth 8000 in
set_option maxHeartbeats 16000000 in
theorem signed4_any (w : World) (p : Nat) (l : List UInt8) (k : Nat) (bad far : Bool) (up down : Int) (always : Bool) (h : R4At w p l k bad far) (hk : k ≤ l.length) (hl : l.length ≤ 140737488355328) : Calls Tryz.prog 79 #[.pointer (some ⟨p, 0, none⟩), .int .u64 up, .int .u64 down, .bool always] w fun e w' => e = .returned (.int .i64 (sgR l k bad far up down always).1) ∧ M4 p l (sgR l k bad far up down always).2.1 (sgR l k bad far up down always).2.2.1 (sgR l k bad far up down always).2.2.2 w w' := by
  have CP := hidOf (peek4_any w p l k bad far h hk hl)
  have hK1 := sgK_le hk
  have CQ := hidOf (fun wx (hx : R4At wx p l (sgK l k) false far) => peek4_any wx p l (sgK l k) false far hx hK1 hl)
  have CR := hidOf (fun wx (hx : R4At wx p l (blK l (sgK l k)) false far) => by
    have := run4_any wx p l (blK l (sgK l k)) false far hx (blK_le hK1) hl
    rw [rn_idem.1, rn_idem.2] at this
    exact this)
  have CV := hidOf (fun wx => value4_any (rnP l (sgK l k)) wx (Nat.le_trans rnP_len hl))
  obtain ⟨X, hX⟩ : ∃ X, sgR l k bad far up down always = X := ⟨_, rfl⟩
  rw [hX]
  unfold sgR at hX
  have hbk := blK_le hk
  have hw : IntKind.i64.wrap ((blK l k : Int) + 1) = ((blK l k + 1 : Nat) : Int) := by rw [IntKind.wrap_i64]; omega
  have hsK : sgK l k = if pkP l k == 43 || pkP l k == 45 then blK l k + 1 else blK l k := rfl
  have HsK := hidOf hsK
  have HX := hidOf hX
  have b1 := u8_43 (pkP l k)
  have b2 := u8_45 (pkP l k)
  have b3 := u8_43n (pkP l k)
  have b4 := u8_45n (pkP l k)
  generalize pkP l (sgK l k) = P2 at *
  generalize vR (rnP l (sgK l k)) = VV at *
  generalize rnP l (sgK l k) = RN at *
  generalize rnK l (sgK l k) = RK at *
  generalize blK l (sgK l k) = K2 at *
  generalize sgK l k = K1 at *
  generalize pkP l k = P at *
  generalize blK l k = K at *
  obtain ⟨v, ov, ok⟩ := VV
  simp only at CV HX
  clear hX hsK h hk hl hK1 hbk
  cases d43 : (P == 43) <;> cases d45 : (P == 45)
  · -- 43: false, 45: false
    rw [d43] at b1 b3
    rw [d45] at b2 b4
    simp only [Bool.not_false, Bool.not_true] at b3 b4
    rw [d43, d45] at HsK HX
    simp only [Bool.or_false, Bool.or_true, Bool.false_or, Bool.true_or, Bool.false_eq_true, if_true, if_false, Bool.not_false, Bool.not_true, Bool.and_false, Bool.and_true, Bool.false_and, Bool.true_and] at HsK HX
    have hs1 := HsK.out
    subst hs1
    clear HsK d43 d45
    cases bad
    · cases always
      · skip
        cases hdg : digP (P2.toNat : Int)
        · have hE := HX.out
          rw [hdg] at hE
          simp at hE
          clear HX
          go_enter Tryz.func79, Tryz.ntmps79
          go_wp2_with (first | (go_at_call 68; refine CP.out.mono ?_; rintro e w1 ⟨rfl, hm⟩; have HM := hidOf hm; clear hm; obtain ⟨c0, c1, c2, c3⟩ := HM.out.1.cells; have g1 := frozen_atL HM.out.1 1; have g2 := frozen_atL HM.out.1 2) | (go_at_call 68; refine (CQ.out _ (show R4At _ p l _ false far from HM.out.1)).mono ?_; rintro e w2 ⟨rfl, hm⟩; have HM2 := hidOf (M4.then (show M4 p l _ false far w _ from HM.out) hm); clear hm; clear c0 c1 c2 c3 g1 g2; obtain ⟨c0, c1, c2, c3⟩ := HM2.out.1.cells; have g2 := frozen_atL HM2.out.1 2) | (go_at_call 87; refine (refDigit_of hdg _).mono ?_; rintro e wd ⟨rfl, rfl⟩) | (go_at_call 69; refine (CR.out _ HM2.out.1).mono ?_; rintro e w3 ⟨rfl, hm⟩; have HM3 := hidOf (HM2.out.then hm); clear hm; clear c0 c1 c2 c3 g2; obtain ⟨c0, c1, c2, c3⟩ := HM3.out.1.cells; have g2 := frozen_atL HM3.out.1 2; have g3 := frozen_atL HM3.out.1 3) | (go_at_call 119; refine (CV.out _).mono ?_; rintro e wv ⟨rfl, rfl⟩))
          go_ret
          subst hE
          exact ⟨rfl, HM2.out.1.bad true, chg_set1 HM2.out.2⟩
        · rw [hdg] at HX
          cases ok
          · have hE := HX.out
            simp at hE
            clear HX
            go_enter Tryz.func79, Tryz.ntmps79
            go_wp2_with (first | (go_at_call 68; refine CP.out.mono ?_; rintro e w1 ⟨rfl, hm⟩; have HM := hidOf hm; clear hm; obtain ⟨c0, c1, c2, c3⟩ := HM.out.1.cells; have g1 := frozen_atL HM.out.1 1; have g2 := frozen_atL HM.out.1 2) | (go_at_call 68; refine (CQ.out _ (show R4At _ p l _ false far from HM.out.1)).mono ?_; rintro e w2 ⟨rfl, hm⟩; have HM2 := hidOf (M4.then (show M4 p l _ false far w _ from HM.out) hm); clear hm; clear c0 c1 c2 c3 g1 g2; obtain ⟨c0, c1, c2, c3⟩ := HM2.out.1.cells; have g2 := frozen_atL HM2.out.1 2) | (go_at_call 87; refine (refDigit_of hdg _).mono ?_; rintro e wd ⟨rfl, rfl⟩) | (go_at_call 69; refine (CR.out _ HM2.out.1).mono ?_; rintro e w3 ⟨rfl, hm⟩; have HM3 := hidOf (HM2.out.then hm); clear hm; clear c0 c1 c2 c3 g2; obtain ⟨c0, c1, c2, c3⟩ := HM3.out.1.cells; have g2 := frozen_atL HM3.out.1 2; have g3 := frozen_atL HM3.out.1 3) | (go_at_call 119; refine (CV.out _).mono ?_; rintro e wv ⟨rfl, rfl⟩))
            go_ret
            subst hE
            exact ⟨rfl, HM3.out.1.bad true, chg_set1 HM3.out.2⟩
          · cases ov
            · by_cases hgt : up < v
              · have hE := HX.out
                simp [hgt] at hE
                clear HX
                go_enter Tryz.func79, Tryz.ntmps79
                go_wp2_with (first | (go_at_call 68; refine CP.out.mono ?_; rintro e w1 ⟨rfl, hm⟩; have HM := hidOf hm; clear hm; obtain ⟨c0, c1, c2, c3⟩ := HM.out.1.cells; have g1 := frozen_atL HM.out.1 1; have g2 := frozen_atL HM.out.1 2) | (go_at_call 68; refine (CQ.out _ (show R4At _ p l _ false far from HM.out.1)).mono ?_; rintro e w2 ⟨rfl, hm⟩; have HM2 := hidOf (M4.then (show M4 p l _ false far w _ from HM.out) hm); clear hm; clear c0 c1 c2 c3 g1 g2; obtain ⟨c0, c1, c2, c3⟩ := HM2.out.1.cells; have g2 := frozen_atL HM2.out.1 2) | (go_at_call 87; refine (refDigit_of hdg _).mono ?_; rintro e wd ⟨rfl, rfl⟩) | (go_at_call 69; refine (CR.out _ HM2.out.1).mono ?_; rintro e w3 ⟨rfl, hm⟩; have HM3 := hidOf (HM2.out.then hm); clear hm; clear c0 c1 c2 c3 g2; obtain ⟨c0, c1, c2, c3⟩ := HM3.out.1.cells; have g2 := frozen_atL HM3.out.1 2; have g3 := frozen_atL HM3.out.1 3) | (go_at_call 119; refine (CV.out _).mono ?_; rintro e wv ⟨rfl, rfl⟩))
                go_ret
                subst hE
                exact ⟨rfl, HM3.out.1.far true, chg_set1 HM3.out.2⟩
              · have hE := HX.out
                simp [hgt] at hE
                clear HX
                go_enter Tryz.func79, Tryz.ntmps79
                go_wp2_with (first | (go_at_call 68; refine CP.out.mono ?_; rintro e w1 ⟨rfl, hm⟩; have HM := hidOf hm; clear hm; obtain ⟨c0, c1, c2, c3⟩ := HM.out.1.cells; have g1 := frozen_atL HM.out.1 1; have g2 := frozen_atL HM.out.1 2) | (go_at_call 68; refine (CQ.out _ (show R4At _ p l _ false far from HM.out.1)).mono ?_; rintro e w2 ⟨rfl, hm⟩; have HM2 := hidOf (M4.then (show M4 p l _ false far w _ from HM.out) hm); clear hm; clear c0 c1 c2 c3 g1 g2; obtain ⟨c0, c1, c2, c3⟩ := HM2.out.1.cells; have g2 := frozen_atL HM2.out.1 2) | (go_at_call 87; refine (refDigit_of hdg _).mono ?_; rintro e wd ⟨rfl, rfl⟩) | (go_at_call 69; refine (CR.out _ HM2.out.1).mono ?_; rintro e w3 ⟨rfl, hm⟩; have HM3 := hidOf (HM2.out.then hm); clear hm; clear c0 c1 c2 c3 g2; obtain ⟨c0, c1, c2, c3⟩ := HM3.out.1.cells; have g2 := frozen_atL HM3.out.1 2; have g3 := frozen_atL HM3.out.1 3) | (go_at_call 119; refine (CV.out _).mono ?_; rintro e wv ⟨rfl, rfl⟩))
                go_ret
                subst hE
                exact ⟨by first | rfl | (simp [IntKind.wrap_i64, wrap64]), HM3.out⟩
            · have hE := HX.out
              simp at hE
              clear HX
              go_enter Tryz.func79, Tryz.ntmps79
              go_wp2_with (first | (go_at_call 68; refine CP.out.mono ?_; rintro e w1 ⟨rfl, hm⟩; have HM := hidOf hm; clear hm; obtain ⟨c0, c1, c2, c3⟩ := HM.out.1.cells; have g1 := frozen_atL HM.out.1 1; have g2 := frozen_atL HM.out.1 2) | (go_at_call 68; refine (CQ.out _ (show R4At _ p l _ false far from HM.out.1)).mono ?_; rintro e w2 ⟨rfl, hm⟩; have HM2 := hidOf (M4.then (show M4 p l _ false far w _ from HM.out) hm); clear hm; clear c0 c1 c2 c3 g1 g2; obtain ⟨c0, c1, c2, c3⟩ := HM2.out.1.cells; have g2 := frozen_atL HM2.out.1 2) | (go_at_call 87; refine (refDigit_of hdg _).mono ?_; rintro e wd ⟨rfl, rfl⟩) | (go_at_call 69; refine (CR.out _ HM2.out.1).mono ?_; rintro e w3 ⟨rfl, hm⟩; have HM3 := hidOf (HM2.out.then hm); clear hm; clear c0 c1 c2 c3 g2; obtain ⟨c0, c1, c2, c3⟩ := HM3.out.1.cells; have g2 := frozen_atL HM3.out.1 2; have g3 := frozen_atL HM3.out.1 3) | (go_at_call 119; refine (CV.out _).mono ?_; rintro e wv ⟨rfl, rfl⟩))
              go_ret
              subst hE
              exact ⟨rfl, HM3.out.1.far true, chg_set1 HM3.out.2⟩
      · have hE := HX.out
        simp at hE
        clear HX
        go_enter Tryz.func79, Tryz.ntmps79
        go_wp2_with (first | (go_at_call 68; refine CP.out.mono ?_; rintro e w1 ⟨rfl, hm⟩; have HM := hidOf hm; clear hm; obtain ⟨c0, c1, c2, c3⟩ := HM.out.1.cells; have g1 := frozen_atL HM.out.1 1; have g2 := frozen_atL HM.out.1 2) | (go_at_call 68; refine (CQ.out _ (show R4At _ p l _ false far from HM.out.1)).mono ?_; rintro e w2 ⟨rfl, hm⟩; have HM2 := hidOf (M4.then (show M4 p l _ false far w _ from HM.out) hm); clear hm; clear c0 c1 c2 c3 g1 g2; obtain ⟨c0, c1, c2, c3⟩ := HM2.out.1.cells; have g2 := frozen_atL HM2.out.1 2) | (go_at_call 87; refine (refDigit_of hdg _).mono ?_; rintro e wd ⟨rfl, rfl⟩) | (go_at_call 69; refine (CR.out _ HM2.out.1).mono ?_; rintro e w3 ⟨rfl, hm⟩; have HM3 := hidOf (HM2.out.then hm); clear hm; clear c0 c1 c2 c3 g2; obtain ⟨c0, c1, c2, c3⟩ := HM3.out.1.cells; have g2 := frozen_atL HM3.out.1 2; have g3 := frozen_atL HM3.out.1 3) | (go_at_call 119; refine (CV.out _).mono ?_; rintro e wv ⟨rfl, rfl⟩))
        go_ret
        subst hE
        exact ⟨rfl, (show R4At _ p l _ _ far from (HM.out.1.bad true).bad true), chg_set1 (chg_set1 HM.out.2)⟩
    · have hE := HX.out
      simp at hE
      cases always
      · clear HX
        go_enter Tryz.func79, Tryz.ntmps79
        go_wp2_with (first | (go_at_call 68; refine CP.out.mono ?_; rintro e w1 ⟨rfl, hm⟩; have HM := hidOf hm; clear hm; obtain ⟨c0, c1, c2, c3⟩ := HM.out.1.cells; have g1 := frozen_atL HM.out.1 1; have g2 := frozen_atL HM.out.1 2) | (go_at_call 68; refine (CQ.out _ (show R4At _ p l _ false far from HM.out.1)).mono ?_; rintro e w2 ⟨rfl, hm⟩; have HM2 := hidOf (M4.then (show M4 p l _ false far w _ from HM.out) hm); clear hm; clear c0 c1 c2 c3 g1 g2; obtain ⟨c0, c1, c2, c3⟩ := HM2.out.1.cells; have g2 := frozen_atL HM2.out.1 2) | (go_at_call 87; refine (refDigit_of hdg _).mono ?_; rintro e wd ⟨rfl, rfl⟩) | (go_at_call 69; refine (CR.out _ HM2.out.1).mono ?_; rintro e w3 ⟨rfl, hm⟩; have HM3 := hidOf (HM2.out.then hm); clear hm; clear c0 c1 c2 c3 g2; obtain ⟨c0, c1, c2, c3⟩ := HM3.out.1.cells; have g2 := frozen_atL HM3.out.1 2; have g3 := frozen_atL HM3.out.1 3) | (go_at_call 119; refine (CV.out _).mono ?_; rintro e wv ⟨rfl, rfl⟩))
        go_ret
        subst hE
        exact ⟨rfl, HM.out.1.bad true, chg_set1 HM.out.2⟩
      · clear HX
        go_enter Tryz.func79, Tryz.ntmps79
        go_wp2_with (first | (go_at_call 68; refine CP.out.mono ?_; rintro e w1 ⟨rfl, hm⟩; have HM := hidOf hm; clear hm; obtain ⟨c0, c1, c2, c3⟩ := HM.out.1.cells; have g1 := frozen_atL HM.out.1 1; have g2 := frozen_atL HM.out.1 2) | (go_at_call 68; refine (CQ.out _ (show R4At _ p l _ false far from HM.out.1)).mono ?_; rintro e w2 ⟨rfl, hm⟩; have HM2 := hidOf (M4.then (show M4 p l _ false far w _ from HM.out) hm); clear hm; clear c0 c1 c2 c3 g1 g2; obtain ⟨c0, c1, c2, c3⟩ := HM2.out.1.cells; have g2 := frozen_atL HM2.out.1 2) | (go_at_call 87; refine (refDigit_of hdg _).mono ?_; rintro e wd ⟨rfl, rfl⟩) | (go_at_call 69; refine (CR.out _ HM2.out.1).mono ?_; rintro e w3 ⟨rfl, hm⟩; have HM3 := hidOf (HM2.out.then hm); clear hm; clear c0 c1 c2 c3 g2; obtain ⟨c0, c1, c2, c3⟩ := HM3.out.1.cells; have g2 := frozen_atL HM3.out.1 2; have g3 := frozen_atL HM3.out.1 3) | (go_at_call 119; refine (CV.out _).mono ?_; rintro e wv ⟨rfl, rfl⟩))
        go_ret
        subst hE
        exact ⟨rfl, (show R4At _ p l _ true far from (HM.out.1.bad true).bad true), chg_set1 (chg_set1 HM.out.2)⟩
  · -- 43: false, 45: true
    rw [d43] at b1 b3
    rw [d45] at b2 b4
    simp only [Bool.not_false, Bool.not_true] at b3 b4
    rw [d43, d45] at HsK HX
    simp only [Bool.or_false, Bool.or_true, Bool.false_or, Bool.true_or, Bool.false_eq_true, if_true, if_false, Bool.not_false, Bool.not_true, Bool.and_false, Bool.and_true, Bool.false_and, Bool.true_and] at HsK HX
    have hs1 := HsK.out
    subst hs1
    clear HsK d43 d45
    cases bad
    · cases always
      · skip
        cases hdg : digP (P2.toNat : Int)
        · have hE := HX.out
          rw [hdg] at hE
          simp at hE
          clear HX
          go_enter Tryz.func79, Tryz.ntmps79
          go_wp2_with (first | (go_at_call 68; refine CP.out.mono ?_; rintro e w1 ⟨rfl, hm⟩; have HM := hidOf hm; clear hm; obtain ⟨c0, c1, c2, c3⟩ := HM.out.1.cells; have g1 := frozen_atL HM.out.1 1; have g2 := frozen_atL HM.out.1 2) | (go_at_call 68; refine (CQ.out _ (show R4At _ p l _ false far from HM.out.1.to (K + 1))).mono ?_; rintro e w2 ⟨rfl, hm⟩; have HM2 := hidOf (M4.then (show M4 p l _ false far w _ from ⟨HM.out.1.to (K + 1), chg_set1 HM.out.2⟩) hm); clear hm; clear c0 c1 c2 c3 g1 g2; obtain ⟨c0, c1, c2, c3⟩ := HM2.out.1.cells; have g2 := frozen_atL HM2.out.1 2) | (go_at_call 87; refine (refDigit_of hdg _).mono ?_; rintro e wd ⟨rfl, rfl⟩) | (go_at_call 69; refine (CR.out _ HM2.out.1).mono ?_; rintro e w3 ⟨rfl, hm⟩; have HM3 := hidOf (HM2.out.then hm); clear hm; clear c0 c1 c2 c3 g2; obtain ⟨c0, c1, c2, c3⟩ := HM3.out.1.cells; have g2 := frozen_atL HM3.out.1 2; have g3 := frozen_atL HM3.out.1 3) | (go_at_call 119; refine (CV.out _).mono ?_; rintro e wv ⟨rfl, rfl⟩))
          go_ret
          subst hE
          exact ⟨rfl, HM2.out.1.bad true, chg_set1 HM2.out.2⟩
        · rw [hdg] at HX
          cases ok
          · have hE := HX.out
            simp at hE
            clear HX
            go_enter Tryz.func79, Tryz.ntmps79
            go_wp2_with (first | (go_at_call 68; refine CP.out.mono ?_; rintro e w1 ⟨rfl, hm⟩; have HM := hidOf hm; clear hm; obtain ⟨c0, c1, c2, c3⟩ := HM.out.1.cells; have g1 := frozen_atL HM.out.1 1; have g2 := frozen_atL HM.out.1 2) | (go_at_call 68; refine (CQ.out _ (show R4At _ p l _ false far from HM.out.1.to (K + 1))).mono ?_; rintro e w2 ⟨rfl, hm⟩; have HM2 := hidOf (M4.then (show M4 p l _ false far w _ from ⟨HM.out.1.to (K + 1), chg_set1 HM.out.2⟩) hm); clear hm; clear c0 c1 c2 c3 g1 g2; obtain ⟨c0, c1, c2, c3⟩ := HM2.out.1.cells; have g2 := frozen_atL HM2.out.1 2) | (go_at_call 87; refine (refDigit_of hdg _).mono ?_; rintro e wd ⟨rfl, rfl⟩) | (go_at_call 69; refine (CR.out _ HM2.out.1).mono ?_; rintro e w3 ⟨rfl, hm⟩; have HM3 := hidOf (HM2.out.then hm); clear hm; clear c0 c1 c2 c3 g2; obtain ⟨c0, c1, c2, c3⟩ := HM3.out.1.cells; have g2 := frozen_atL HM3.out.1 2; have g3 := frozen_atL HM3.out.1 3) | (go_at_call 119; refine (CV.out _).mono ?_; rintro e wv ⟨rfl, rfl⟩))
            go_ret
            subst hE
            exact ⟨rfl, HM3.out.1.bad true, chg_set1 HM3.out.2⟩
          · cases ov
            · by_cases hgt : down < v
              · have hE := HX.out
                simp [hgt] at hE
                clear HX
                go_enter Tryz.func79, Tryz.ntmps79
                go_wp2_with (first | (go_at_call 68; refine CP.out.mono ?_; rintro e w1 ⟨rfl, hm⟩; have HM := hidOf hm; clear hm; obtain ⟨c0, c1, c2, c3⟩ := HM.out.1.cells; have g1 := frozen_atL HM.out.1 1; have g2 := frozen_atL HM.out.1 2) | (go_at_call 68; refine (CQ.out _ (show R4At _ p l _ false far from HM.out.1.to (K + 1))).mono ?_; rintro e w2 ⟨rfl, hm⟩; have HM2 := hidOf (M4.then (show M4 p l _ false far w _ from ⟨HM.out.1.to (K + 1), chg_set1 HM.out.2⟩) hm); clear hm; clear c0 c1 c2 c3 g1 g2; obtain ⟨c0, c1, c2, c3⟩ := HM2.out.1.cells; have g2 := frozen_atL HM2.out.1 2) | (go_at_call 87; refine (refDigit_of hdg _).mono ?_; rintro e wd ⟨rfl, rfl⟩) | (go_at_call 69; refine (CR.out _ HM2.out.1).mono ?_; rintro e w3 ⟨rfl, hm⟩; have HM3 := hidOf (HM2.out.then hm); clear hm; clear c0 c1 c2 c3 g2; obtain ⟨c0, c1, c2, c3⟩ := HM3.out.1.cells; have g2 := frozen_atL HM3.out.1 2; have g3 := frozen_atL HM3.out.1 3) | (go_at_call 119; refine (CV.out _).mono ?_; rintro e wv ⟨rfl, rfl⟩))
                go_ret
                subst hE
                exact ⟨rfl, HM3.out.1.far true, chg_set1 HM3.out.2⟩
              · have hE := HX.out
                simp [hgt] at hE
                have hng : IntKind.u64.wrap (0 - v) = IntKind.u64.wrap (-v) := by rw [Int.zero_sub]
                clear HX
                go_enter Tryz.func79, Tryz.ntmps79
                go_wp2_with (first | (go_at_call 68; refine CP.out.mono ?_; rintro e w1 ⟨rfl, hm⟩; have HM := hidOf hm; clear hm; obtain ⟨c0, c1, c2, c3⟩ := HM.out.1.cells; have g1 := frozen_atL HM.out.1 1; have g2 := frozen_atL HM.out.1 2) | (go_at_call 68; refine (CQ.out _ (show R4At _ p l _ false far from HM.out.1.to (K + 1))).mono ?_; rintro e w2 ⟨rfl, hm⟩; have HM2 := hidOf (M4.then (show M4 p l _ false far w _ from ⟨HM.out.1.to (K + 1), chg_set1 HM.out.2⟩) hm); clear hm; clear c0 c1 c2 c3 g1 g2; obtain ⟨c0, c1, c2, c3⟩ := HM2.out.1.cells; have g2 := frozen_atL HM2.out.1 2) | (go_at_call 87; refine (refDigit_of hdg _).mono ?_; rintro e wd ⟨rfl, rfl⟩) | (go_at_call 69; refine (CR.out _ HM2.out.1).mono ?_; rintro e w3 ⟨rfl, hm⟩; have HM3 := hidOf (HM2.out.then hm); clear hm; clear c0 c1 c2 c3 g2; obtain ⟨c0, c1, c2, c3⟩ := HM3.out.1.cells; have g2 := frozen_atL HM3.out.1 2; have g3 := frozen_atL HM3.out.1 3) | (go_at_call 119; refine (CV.out _).mono ?_; rintro e wv ⟨rfl, rfl⟩))
                go_ret
                subst hE
                exact ⟨by first | rfl | (simp [IntKind.wrap_i64, wrap64]), HM3.out⟩
            · have hE := HX.out
              simp at hE
              clear HX
              go_enter Tryz.func79, Tryz.ntmps79
              go_wp2_with (first | (go_at_call 68; refine CP.out.mono ?_; rintro e w1 ⟨rfl, hm⟩; have HM := hidOf hm; clear hm; obtain ⟨c0, c1, c2, c3⟩ := HM.out.1.cells; have g1 := frozen_atL HM.out.1 1; have g2 := frozen_atL HM.out.1 2) | (go_at_call 68; refine (CQ.out _ (show R4At _ p l _ false far from HM.out.1.to (K + 1))).mono ?_; rintro e w2 ⟨rfl, hm⟩; have HM2 := hidOf (M4.then (show M4 p l _ false far w _ from ⟨HM.out.1.to (K + 1), chg_set1 HM.out.2⟩) hm); clear hm; clear c0 c1 c2 c3 g1 g2; obtain ⟨c0, c1, c2, c3⟩ := HM2.out.1.cells; have g2 := frozen_atL HM2.out.1 2) | (go_at_call 87; refine (refDigit_of hdg _).mono ?_; rintro e wd ⟨rfl, rfl⟩) | (go_at_call 69; refine (CR.out _ HM2.out.1).mono ?_; rintro e w3 ⟨rfl, hm⟩; have HM3 := hidOf (HM2.out.then hm); clear hm; clear c0 c1 c2 c3 g2; obtain ⟨c0, c1, c2, c3⟩ := HM3.out.1.cells; have g2 := frozen_atL HM3.out.1 2; have g3 := frozen_atL HM3.out.1 3) | (go_at_call 119; refine (CV.out _).mono ?_; rintro e wv ⟨rfl, rfl⟩))
              go_ret
              subst hE
              exact ⟨rfl, HM3.out.1.far true, chg_set1 HM3.out.2⟩
      · skip
        cases hdg : digP (P2.toNat : Int)
        · have hE := HX.out
          rw [hdg] at hE
          simp at hE
          clear HX
          go_enter Tryz.func79, Tryz.ntmps79
          go_wp2_with (first | (go_at_call 68; refine CP.out.mono ?_; rintro e w1 ⟨rfl, hm⟩; have HM := hidOf hm; clear hm; obtain ⟨c0, c1, c2, c3⟩ := HM.out.1.cells; have g1 := frozen_atL HM.out.1 1; have g2 := frozen_atL HM.out.1 2) | (go_at_call 68; refine (CQ.out _ (show R4At _ p l _ false far from HM.out.1.to (K + 1))).mono ?_; rintro e w2 ⟨rfl, hm⟩; have HM2 := hidOf (M4.then (show M4 p l _ false far w _ from ⟨HM.out.1.to (K + 1), chg_set1 HM.out.2⟩) hm); clear hm; clear c0 c1 c2 c3 g1 g2; obtain ⟨c0, c1, c2, c3⟩ := HM2.out.1.cells; have g2 := frozen_atL HM2.out.1 2) | (go_at_call 87; refine (refDigit_of hdg _).mono ?_; rintro e wd ⟨rfl, rfl⟩) | (go_at_call 69; refine (CR.out _ HM2.out.1).mono ?_; rintro e w3 ⟨rfl, hm⟩; have HM3 := hidOf (HM2.out.then hm); clear hm; clear c0 c1 c2 c3 g2; obtain ⟨c0, c1, c2, c3⟩ := HM3.out.1.cells; have g2 := frozen_atL HM3.out.1 2; have g3 := frozen_atL HM3.out.1 3) | (go_at_call 119; refine (CV.out _).mono ?_; rintro e wv ⟨rfl, rfl⟩))
          go_ret
          subst hE
          exact ⟨rfl, HM2.out.1.bad true, chg_set1 HM2.out.2⟩
        · rw [hdg] at HX
          cases ok
          · have hE := HX.out
            simp at hE
            clear HX
            go_enter Tryz.func79, Tryz.ntmps79
            go_wp2_with (first | (go_at_call 68; refine CP.out.mono ?_; rintro e w1 ⟨rfl, hm⟩; have HM := hidOf hm; clear hm; obtain ⟨c0, c1, c2, c3⟩ := HM.out.1.cells; have g1 := frozen_atL HM.out.1 1; have g2 := frozen_atL HM.out.1 2) | (go_at_call 68; refine (CQ.out _ (show R4At _ p l _ false far from HM.out.1.to (K + 1))).mono ?_; rintro e w2 ⟨rfl, hm⟩; have HM2 := hidOf (M4.then (show M4 p l _ false far w _ from ⟨HM.out.1.to (K + 1), chg_set1 HM.out.2⟩) hm); clear hm; clear c0 c1 c2 c3 g1 g2; obtain ⟨c0, c1, c2, c3⟩ := HM2.out.1.cells; have g2 := frozen_atL HM2.out.1 2) | (go_at_call 87; refine (refDigit_of hdg _).mono ?_; rintro e wd ⟨rfl, rfl⟩) | (go_at_call 69; refine (CR.out _ HM2.out.1).mono ?_; rintro e w3 ⟨rfl, hm⟩; have HM3 := hidOf (HM2.out.then hm); clear hm; clear c0 c1 c2 c3 g2; obtain ⟨c0, c1, c2, c3⟩ := HM3.out.1.cells; have g2 := frozen_atL HM3.out.1 2; have g3 := frozen_atL HM3.out.1 3) | (go_at_call 119; refine (CV.out _).mono ?_; rintro e wv ⟨rfl, rfl⟩))
            go_ret
            subst hE
            exact ⟨rfl, HM3.out.1.bad true, chg_set1 HM3.out.2⟩
          · cases ov
            · by_cases hgt : down < v
              · have hE := HX.out
                simp [hgt] at hE
                clear HX
                go_enter Tryz.func79, Tryz.ntmps79
                go_wp2_with (first | (go_at_call 68; refine CP.out.mono ?_; rintro e w1 ⟨rfl, hm⟩; have HM := hidOf hm; clear hm; obtain ⟨c0, c1, c2, c3⟩ := HM.out.1.cells; have g1 := frozen_atL HM.out.1 1; have g2 := frozen_atL HM.out.1 2) | (go_at_call 68; refine (CQ.out _ (show R4At _ p l _ false far from HM.out.1.to (K + 1))).mono ?_; rintro e w2 ⟨rfl, hm⟩; have HM2 := hidOf (M4.then (show M4 p l _ false far w _ from ⟨HM.out.1.to (K + 1), chg_set1 HM.out.2⟩) hm); clear hm; clear c0 c1 c2 c3 g1 g2; obtain ⟨c0, c1, c2, c3⟩ := HM2.out.1.cells; have g2 := frozen_atL HM2.out.1 2) | (go_at_call 87; refine (refDigit_of hdg _).mono ?_; rintro e wd ⟨rfl, rfl⟩) | (go_at_call 69; refine (CR.out _ HM2.out.1).mono ?_; rintro e w3 ⟨rfl, hm⟩; have HM3 := hidOf (HM2.out.then hm); clear hm; clear c0 c1 c2 c3 g2; obtain ⟨c0, c1, c2, c3⟩ := HM3.out.1.cells; have g2 := frozen_atL HM3.out.1 2; have g3 := frozen_atL HM3.out.1 3) | (go_at_call 119; refine (CV.out _).mono ?_; rintro e wv ⟨rfl, rfl⟩))
                go_ret
                subst hE
                exact ⟨rfl, HM3.out.1.far true, chg_set1 HM3.out.2⟩
              · have hE := HX.out
                simp [hgt] at hE
                have hng : IntKind.u64.wrap (0 - v) = IntKind.u64.wrap (-v) := by rw [Int.zero_sub]
                clear HX
                go_enter Tryz.func79, Tryz.ntmps79
                go_wp2_with (first | (go_at_call 68; refine CP.out.mono ?_; rintro e w1 ⟨rfl, hm⟩; have HM := hidOf hm; clear hm; obtain ⟨c0, c1, c2, c3⟩ := HM.out.1.cells; have g1 := frozen_atL HM.out.1 1; have g2 := frozen_atL HM.out.1 2) | (go_at_call 68; refine (CQ.out _ (show R4At _ p l _ false far from HM.out.1.to (K + 1))).mono ?_; rintro e w2 ⟨rfl, hm⟩; have HM2 := hidOf (M4.then (show M4 p l _ false far w _ from ⟨HM.out.1.to (K + 1), chg_set1 HM.out.2⟩) hm); clear hm; clear c0 c1 c2 c3 g1 g2; obtain ⟨c0, c1, c2, c3⟩ := HM2.out.1.cells; have g2 := frozen_atL HM2.out.1 2) | (go_at_call 87; refine (refDigit_of hdg _).mono ?_; rintro e wd ⟨rfl, rfl⟩) | (go_at_call 69; refine (CR.out _ HM2.out.1).mono ?_; rintro e w3 ⟨rfl, hm⟩; have HM3 := hidOf (HM2.out.then hm); clear hm; clear c0 c1 c2 c3 g2; obtain ⟨c0, c1, c2, c3⟩ := HM3.out.1.cells; have g2 := frozen_atL HM3.out.1 2; have g3 := frozen_atL HM3.out.1 3) | (go_at_call 119; refine (CV.out _).mono ?_; rintro e wv ⟨rfl, rfl⟩))
                go_ret
                subst hE
                exact ⟨by first | rfl | (simp [IntKind.wrap_i64, wrap64]), HM3.out⟩
            · have hE := HX.out
              simp at hE
              clear HX
              go_enter Tryz.func79, Tryz.ntmps79
              go_wp2_with (first | (go_at_call 68; refine CP.out.mono ?_; rintro e w1 ⟨rfl, hm⟩; have HM := hidOf hm; clear hm; obtain ⟨c0, c1, c2, c3⟩ := HM.out.1.cells; have g1 := frozen_atL HM.out.1 1; have g2 := frozen_atL HM.out.1 2) | (go_at_call 68; refine (CQ.out _ (show R4At _ p l _ false far from HM.out.1.to (K + 1))).mono ?_; rintro e w2 ⟨rfl, hm⟩; have HM2 := hidOf (M4.then (show M4 p l _ false far w _ from ⟨HM.out.1.to (K + 1), chg_set1 HM.out.2⟩) hm); clear hm; clear c0 c1 c2 c3 g1 g2; obtain ⟨c0, c1, c2, c3⟩ := HM2.out.1.cells; have g2 := frozen_atL HM2.out.1 2) | (go_at_call 87; refine (refDigit_of hdg _).mono ?_; rintro e wd ⟨rfl, rfl⟩) | (go_at_call 69; refine (CR.out _ HM2.out.1).mono ?_; rintro e w3 ⟨rfl, hm⟩; have HM3 := hidOf (HM2.out.then hm); clear hm; clear c0 c1 c2 c3 g2; obtain ⟨c0, c1, c2, c3⟩ := HM3.out.1.cells; have g2 := frozen_atL HM3.out.1 2; have g3 := frozen_atL HM3.out.1 3) | (go_at_call 119; refine (CV.out _).mono ?_; rintro e wv ⟨rfl, rfl⟩))
              go_ret
              subst hE
              exact ⟨rfl, HM3.out.1.far true, chg_set1 HM3.out.2⟩
    · have hE := HX.out
      simp at hE
      cases always
      · clear HX
        go_enter Tryz.func79, Tryz.ntmps79
        go_wp2_with (first | (go_at_call 68; refine CP.out.mono ?_; rintro e w1 ⟨rfl, hm⟩; have HM := hidOf hm; clear hm; obtain ⟨c0, c1, c2, c3⟩ := HM.out.1.cells; have g1 := frozen_atL HM.out.1 1; have g2 := frozen_atL HM.out.1 2) | (go_at_call 68; refine (CQ.out _ (show R4At _ p l _ false far from HM.out.1.to (K + 1))).mono ?_; rintro e w2 ⟨rfl, hm⟩; have HM2 := hidOf (M4.then (show M4 p l _ false far w _ from ⟨HM.out.1.to (K + 1), chg_set1 HM.out.2⟩) hm); clear hm; clear c0 c1 c2 c3 g1 g2; obtain ⟨c0, c1, c2, c3⟩ := HM2.out.1.cells; have g2 := frozen_atL HM2.out.1 2) | (go_at_call 87; refine (refDigit_of hdg _).mono ?_; rintro e wd ⟨rfl, rfl⟩) | (go_at_call 69; refine (CR.out _ HM2.out.1).mono ?_; rintro e w3 ⟨rfl, hm⟩; have HM3 := hidOf (HM2.out.then hm); clear hm; clear c0 c1 c2 c3 g2; obtain ⟨c0, c1, c2, c3⟩ := HM3.out.1.cells; have g2 := frozen_atL HM3.out.1 2; have g3 := frozen_atL HM3.out.1 3) | (go_at_call 119; refine (CV.out _).mono ?_; rintro e wv ⟨rfl, rfl⟩))
        go_ret
        subst hE
        exact ⟨rfl, (show R4At _ p l _ true far from (HM.out.1.to (K + 1)).bad true), chg_set1 (chg_set1 HM.out.2)⟩
      · clear HX
        go_enter Tryz.func79, Tryz.ntmps79
        go_wp2_with (first | (go_at_call 68; refine CP.out.mono ?_; rintro e w1 ⟨rfl, hm⟩; have HM := hidOf hm; clear hm; obtain ⟨c0, c1, c2, c3⟩ := HM.out.1.cells; have g1 := frozen_atL HM.out.1 1; have g2 := frozen_atL HM.out.1 2) | (go_at_call 68; refine (CQ.out _ (show R4At _ p l _ false far from HM.out.1.to (K + 1))).mono ?_; rintro e w2 ⟨rfl, hm⟩; have HM2 := hidOf (M4.then (show M4 p l _ false far w _ from ⟨HM.out.1.to (K + 1), chg_set1 HM.out.2⟩) hm); clear hm; clear c0 c1 c2 c3 g1 g2; obtain ⟨c0, c1, c2, c3⟩ := HM2.out.1.cells; have g2 := frozen_atL HM2.out.1 2) | (go_at_call 87; refine (refDigit_of hdg _).mono ?_; rintro e wd ⟨rfl, rfl⟩) | (go_at_call 69; refine (CR.out _ HM2.out.1).mono ?_; rintro e w3 ⟨rfl, hm⟩; have HM3 := hidOf (HM2.out.then hm); clear hm; clear c0 c1 c2 c3 g2; obtain ⟨c0, c1, c2, c3⟩ := HM3.out.1.cells; have g2 := frozen_atL HM3.out.1 2; have g3 := frozen_atL HM3.out.1 3) | (go_at_call 119; refine (CV.out _).mono ?_; rintro e wv ⟨rfl, rfl⟩))
        go_ret
        subst hE
        exact ⟨rfl, (show R4At _ p l _ true far from (HM.out.1.to (K + 1)).bad true), chg_set1 (chg_set1 HM.out.2)⟩
  · -- 43: true, 45: false
    rw [d43] at b1 b3
    rw [d45] at b2 b4
    simp only [Bool.not_false, Bool.not_true] at b3 b4
    rw [d43, d45] at HsK HX
    simp only [Bool.or_false, Bool.or_true, Bool.false_or, Bool.true_or, Bool.false_eq_true, if_true, if_false, Bool.not_false, Bool.not_true, Bool.and_false, Bool.and_true, Bool.false_and, Bool.true_and] at HsK HX
    have hs1 := HsK.out
    subst hs1
    clear HsK d43 d45
    cases bad
    · cases always
      · skip
        cases hdg : digP (P2.toNat : Int)
        · have hE := HX.out
          rw [hdg] at hE
          simp at hE
          clear HX
          go_enter Tryz.func79, Tryz.ntmps79
          go_wp2_with (first | (go_at_call 68; refine CP.out.mono ?_; rintro e w1 ⟨rfl, hm⟩; have HM := hidOf hm; clear hm; obtain ⟨c0, c1, c2, c3⟩ := HM.out.1.cells; have g1 := frozen_atL HM.out.1 1; have g2 := frozen_atL HM.out.1 2) | (go_at_call 68; refine (CQ.out _ (show R4At _ p l _ false far from HM.out.1.to (K + 1))).mono ?_; rintro e w2 ⟨rfl, hm⟩; have HM2 := hidOf (M4.then (show M4 p l _ false far w _ from ⟨HM.out.1.to (K + 1), chg_set1 HM.out.2⟩) hm); clear hm; clear c0 c1 c2 c3 g1 g2; obtain ⟨c0, c1, c2, c3⟩ := HM2.out.1.cells; have g2 := frozen_atL HM2.out.1 2) | (go_at_call 87; refine (refDigit_of hdg _).mono ?_; rintro e wd ⟨rfl, rfl⟩) | (go_at_call 69; refine (CR.out _ HM2.out.1).mono ?_; rintro e w3 ⟨rfl, hm⟩; have HM3 := hidOf (HM2.out.then hm); clear hm; clear c0 c1 c2 c3 g2; obtain ⟨c0, c1, c2, c3⟩ := HM3.out.1.cells; have g2 := frozen_atL HM3.out.1 2; have g3 := frozen_atL HM3.out.1 3) | (go_at_call 119; refine (CV.out _).mono ?_; rintro e wv ⟨rfl, rfl⟩))
          go_ret
          subst hE
          exact ⟨rfl, HM2.out.1.bad true, chg_set1 HM2.out.2⟩
        · rw [hdg] at HX
          cases ok
          · have hE := HX.out
            simp at hE
            clear HX
            go_enter Tryz.func79, Tryz.ntmps79
            go_wp2_with (first | (go_at_call 68; refine CP.out.mono ?_; rintro e w1 ⟨rfl, hm⟩; have HM := hidOf hm; clear hm; obtain ⟨c0, c1, c2, c3⟩ := HM.out.1.cells; have g1 := frozen_atL HM.out.1 1; have g2 := frozen_atL HM.out.1 2) | (go_at_call 68; refine (CQ.out _ (show R4At _ p l _ false far from HM.out.1.to (K + 1))).mono ?_; rintro e w2 ⟨rfl, hm⟩; have HM2 := hidOf (M4.then (show M4 p l _ false far w _ from ⟨HM.out.1.to (K + 1), chg_set1 HM.out.2⟩) hm); clear hm; clear c0 c1 c2 c3 g1 g2; obtain ⟨c0, c1, c2, c3⟩ := HM2.out.1.cells; have g2 := frozen_atL HM2.out.1 2) | (go_at_call 87; refine (refDigit_of hdg _).mono ?_; rintro e wd ⟨rfl, rfl⟩) | (go_at_call 69; refine (CR.out _ HM2.out.1).mono ?_; rintro e w3 ⟨rfl, hm⟩; have HM3 := hidOf (HM2.out.then hm); clear hm; clear c0 c1 c2 c3 g2; obtain ⟨c0, c1, c2, c3⟩ := HM3.out.1.cells; have g2 := frozen_atL HM3.out.1 2; have g3 := frozen_atL HM3.out.1 3) | (go_at_call 119; refine (CV.out _).mono ?_; rintro e wv ⟨rfl, rfl⟩))
            go_ret
            subst hE
            exact ⟨rfl, HM3.out.1.bad true, chg_set1 HM3.out.2⟩
          · cases ov
            · by_cases hgt : up < v
              · have hE := HX.out
                simp [hgt] at hE
                clear HX
                go_enter Tryz.func79, Tryz.ntmps79
                go_wp2_with (first | (go_at_call 68; refine CP.out.mono ?_; rintro e w1 ⟨rfl, hm⟩; have HM := hidOf hm; clear hm; obtain ⟨c0, c1, c2, c3⟩ := HM.out.1.cells; have g1 := frozen_atL HM.out.1 1; have g2 := frozen_atL HM.out.1 2) | (go_at_call 68; refine (CQ.out _ (show R4At _ p l _ false far from HM.out.1.to (K + 1))).mono ?_; rintro e w2 ⟨rfl, hm⟩; have HM2 := hidOf (M4.then (show M4 p l _ false far w _ from ⟨HM.out.1.to (K + 1), chg_set1 HM.out.2⟩) hm); clear hm; clear c0 c1 c2 c3 g1 g2; obtain ⟨c0, c1, c2, c3⟩ := HM2.out.1.cells; have g2 := frozen_atL HM2.out.1 2) | (go_at_call 87; refine (refDigit_of hdg _).mono ?_; rintro e wd ⟨rfl, rfl⟩) | (go_at_call 69; refine (CR.out _ HM2.out.1).mono ?_; rintro e w3 ⟨rfl, hm⟩; have HM3 := hidOf (HM2.out.then hm); clear hm; clear c0 c1 c2 c3 g2; obtain ⟨c0, c1, c2, c3⟩ := HM3.out.1.cells; have g2 := frozen_atL HM3.out.1 2; have g3 := frozen_atL HM3.out.1 3) | (go_at_call 119; refine (CV.out _).mono ?_; rintro e wv ⟨rfl, rfl⟩))
                go_ret
                subst hE
                exact ⟨rfl, HM3.out.1.far true, chg_set1 HM3.out.2⟩
              · have hE := HX.out
                simp [hgt] at hE
                clear HX
                go_enter Tryz.func79, Tryz.ntmps79
                go_wp2_with (first | (go_at_call 68; refine CP.out.mono ?_; rintro e w1 ⟨rfl, hm⟩; have HM := hidOf hm; clear hm; obtain ⟨c0, c1, c2, c3⟩ := HM.out.1.cells; have g1 := frozen_atL HM.out.1 1; have g2 := frozen_atL HM.out.1 2) | (go_at_call 68; refine (CQ.out _ (show R4At _ p l _ false far from HM.out.1.to (K + 1))).mono ?_; rintro e w2 ⟨rfl, hm⟩; have HM2 := hidOf (M4.then (show M4 p l _ false far w _ from ⟨HM.out.1.to (K + 1), chg_set1 HM.out.2⟩) hm); clear hm; clear c0 c1 c2 c3 g1 g2; obtain ⟨c0, c1, c2, c3⟩ := HM2.out.1.cells; have g2 := frozen_atL HM2.out.1 2) | (go_at_call 87; refine (refDigit_of hdg _).mono ?_; rintro e wd ⟨rfl, rfl⟩) | (go_at_call 69; refine (CR.out _ HM2.out.1).mono ?_; rintro e w3 ⟨rfl, hm⟩; have HM3 := hidOf (HM2.out.then hm); clear hm; clear c0 c1 c2 c3 g2; obtain ⟨c0, c1, c2, c3⟩ := HM3.out.1.cells; have g2 := frozen_atL HM3.out.1 2; have g3 := frozen_atL HM3.out.1 3) | (go_at_call 119; refine (CV.out _).mono ?_; rintro e wv ⟨rfl, rfl⟩))
                go_ret
                subst hE
                exact ⟨by first | rfl | (simp [IntKind.wrap_i64, wrap64]), HM3.out⟩
            · have hE := HX.out
              simp at hE
              clear HX
              go_enter Tryz.func79, Tryz.ntmps79
              go_wp2_with (first | (go_at_call 68; refine CP.out.mono ?_; rintro e w1 ⟨rfl, hm⟩; have HM := hidOf hm; clear hm; obtain ⟨c0, c1, c2, c3⟩ := HM.out.1.cells; have g1 := frozen_atL HM.out.1 1; have g2 := frozen_atL HM.out.1 2) | (go_at_call 68; refine (CQ.out _ (show R4At _ p l _ false far from HM.out.1.to (K + 1))).mono ?_; rintro e w2 ⟨rfl, hm⟩; have HM2 := hidOf (M4.then (show M4 p l _ false far w _ from ⟨HM.out.1.to (K + 1), chg_set1 HM.out.2⟩) hm); clear hm; clear c0 c1 c2 c3 g1 g2; obtain ⟨c0, c1, c2, c3⟩ := HM2.out.1.cells; have g2 := frozen_atL HM2.out.1 2) | (go_at_call 87; refine (refDigit_of hdg _).mono ?_; rintro e wd ⟨rfl, rfl⟩) | (go_at_call 69; refine (CR.out _ HM2.out.1).mono ?_; rintro e w3 ⟨rfl, hm⟩; have HM3 := hidOf (HM2.out.then hm); clear hm; clear c0 c1 c2 c3 g2; obtain ⟨c0, c1, c2, c3⟩ := HM3.out.1.cells; have g2 := frozen_atL HM3.out.1 2; have g3 := frozen_atL HM3.out.1 3) | (go_at_call 119; refine (CV.out _).mono ?_; rintro e wv ⟨rfl, rfl⟩))
              go_ret
              subst hE
              exact ⟨rfl, HM3.out.1.far true, chg_set1 HM3.out.2⟩
      · skip
        cases hdg : digP (P2.toNat : Int)
        · have hE := HX.out
          rw [hdg] at hE
          simp at hE
          clear HX
          go_enter Tryz.func79, Tryz.ntmps79
          go_wp2_with (first | (go_at_call 68; refine CP.out.mono ?_; rintro e w1 ⟨rfl, hm⟩; have HM := hidOf hm; clear hm; obtain ⟨c0, c1, c2, c3⟩ := HM.out.1.cells; have g1 := frozen_atL HM.out.1 1; have g2 := frozen_atL HM.out.1 2) | (go_at_call 68; refine (CQ.out _ (show R4At _ p l _ false far from HM.out.1.to (K + 1))).mono ?_; rintro e w2 ⟨rfl, hm⟩; have HM2 := hidOf (M4.then (show M4 p l _ false far w _ from ⟨HM.out.1.to (K + 1), chg_set1 HM.out.2⟩) hm); clear hm; clear c0 c1 c2 c3 g1 g2; obtain ⟨c0, c1, c2, c3⟩ := HM2.out.1.cells; have g2 := frozen_atL HM2.out.1 2) | (go_at_call 87; refine (refDigit_of hdg _).mono ?_; rintro e wd ⟨rfl, rfl⟩) | (go_at_call 69; refine (CR.out _ HM2.out.1).mono ?_; rintro e w3 ⟨rfl, hm⟩; have HM3 := hidOf (HM2.out.then hm); clear hm; clear c0 c1 c2 c3 g2; obtain ⟨c0, c1, c2, c3⟩ := HM3.out.1.cells; have g2 := frozen_atL HM3.out.1 2; have g3 := frozen_atL HM3.out.1 3) | (go_at_call 119; refine (CV.out _).mono ?_; rintro e wv ⟨rfl, rfl⟩))
          go_ret
          subst hE
          exact ⟨rfl, HM2.out.1.bad true, chg_set1 HM2.out.2⟩
        · rw [hdg] at HX
          cases ok
          · have hE := HX.out
            simp at hE
            clear HX
            go_enter Tryz.func79, Tryz.ntmps79
            go_wp2_with (first | (go_at_call 68; refine CP.out.mono ?_; rintro e w1 ⟨rfl, hm⟩; have HM := hidOf hm; clear hm; obtain ⟨c0, c1, c2, c3⟩ := HM.out.1.cells; have g1 := frozen_atL HM.out.1 1; have g2 := frozen_atL HM.out.1 2) | (go_at_call 68; refine (CQ.out _ (show R4At _ p l _ false far from HM.out.1.to (K + 1))).mono ?_; rintro e w2 ⟨rfl, hm⟩; have HM2 := hidOf (M4.then (show M4 p l _ false far w _ from ⟨HM.out.1.to (K + 1), chg_set1 HM.out.2⟩) hm); clear hm; clear c0 c1 c2 c3 g1 g2; obtain ⟨c0, c1, c2, c3⟩ := HM2.out.1.cells; have g2 := frozen_atL HM2.out.1 2) | (go_at_call 87; refine (refDigit_of hdg _).mono ?_; rintro e wd ⟨rfl, rfl⟩) | (go_at_call 69; refine (CR.out _ HM2.out.1).mono ?_; rintro e w3 ⟨rfl, hm⟩; have HM3 := hidOf (HM2.out.then hm); clear hm; clear c0 c1 c2 c3 g2; obtain ⟨c0, c1, c2, c3⟩ := HM3.out.1.cells; have g2 := frozen_atL HM3.out.1 2; have g3 := frozen_atL HM3.out.1 3) | (go_at_call 119; refine (CV.out _).mono ?_; rintro e wv ⟨rfl, rfl⟩))
            go_ret
            subst hE
            exact ⟨rfl, HM3.out.1.bad true, chg_set1 HM3.out.2⟩
          · cases ov
            · by_cases hgt : up < v
              · have hE := HX.out
                simp [hgt] at hE
                clear HX
                go_enter Tryz.func79, Tryz.ntmps79
                go_wp2_with (first | (go_at_call 68; refine CP.out.mono ?_; rintro e w1 ⟨rfl, hm⟩; have HM := hidOf hm; clear hm; obtain ⟨c0, c1, c2, c3⟩ := HM.out.1.cells; have g1 := frozen_atL HM.out.1 1; have g2 := frozen_atL HM.out.1 2) | (go_at_call 68; refine (CQ.out _ (show R4At _ p l _ false far from HM.out.1.to (K + 1))).mono ?_; rintro e w2 ⟨rfl, hm⟩; have HM2 := hidOf (M4.then (show M4 p l _ false far w _ from ⟨HM.out.1.to (K + 1), chg_set1 HM.out.2⟩) hm); clear hm; clear c0 c1 c2 c3 g1 g2; obtain ⟨c0, c1, c2, c3⟩ := HM2.out.1.cells; have g2 := frozen_atL HM2.out.1 2) | (go_at_call 87; refine (refDigit_of hdg _).mono ?_; rintro e wd ⟨rfl, rfl⟩) | (go_at_call 69; refine (CR.out _ HM2.out.1).mono ?_; rintro e w3 ⟨rfl, hm⟩; have HM3 := hidOf (HM2.out.then hm); clear hm; clear c0 c1 c2 c3 g2; obtain ⟨c0, c1, c2, c3⟩ := HM3.out.1.cells; have g2 := frozen_atL HM3.out.1 2; have g3 := frozen_atL HM3.out.1 3) | (go_at_call 119; refine (CV.out _).mono ?_; rintro e wv ⟨rfl, rfl⟩))
                go_ret
                subst hE
                exact ⟨rfl, HM3.out.1.far true, chg_set1 HM3.out.2⟩
              · have hE := HX.out
                simp [hgt] at hE
                clear HX
                go_enter Tryz.func79, Tryz.ntmps79
                go_wp2_with (first | (go_at_call 68; refine CP.out.mono ?_; rintro e w1 ⟨rfl, hm⟩; have HM := hidOf hm; clear hm; obtain ⟨c0, c1, c2, c3⟩ := HM.out.1.cells; have g1 := frozen_atL HM.out.1 1; have g2 := frozen_atL HM.out.1 2) | (go_at_call 68; refine (CQ.out _ (show R4At _ p l _ false far from HM.out.1.to (K + 1))).mono ?_; rintro e w2 ⟨rfl, hm⟩; have HM2 := hidOf (M4.then (show M4 p l _ false far w _ from ⟨HM.out.1.to (K + 1), chg_set1 HM.out.2⟩) hm); clear hm; clear c0 c1 c2 c3 g1 g2; obtain ⟨c0, c1, c2, c3⟩ := HM2.out.1.cells; have g2 := frozen_atL HM2.out.1 2) | (go_at_call 87; refine (refDigit_of hdg _).mono ?_; rintro e wd ⟨rfl, rfl⟩) | (go_at_call 69; refine (CR.out _ HM2.out.1).mono ?_; rintro e w3 ⟨rfl, hm⟩; have HM3 := hidOf (HM2.out.then hm); clear hm; clear c0 c1 c2 c3 g2; obtain ⟨c0, c1, c2, c3⟩ := HM3.out.1.cells; have g2 := frozen_atL HM3.out.1 2; have g3 := frozen_atL HM3.out.1 3) | (go_at_call 119; refine (CV.out _).mono ?_; rintro e wv ⟨rfl, rfl⟩))
                go_ret
                subst hE
                exact ⟨by first | rfl | (simp [IntKind.wrap_i64, wrap64]), HM3.out⟩
            · have hE := HX.out
              simp at hE
              clear HX
              go_enter Tryz.func79, Tryz.ntmps79
              go_wp2_with (first | (go_at_call 68; refine CP.out.mono ?_; rintro e w1 ⟨rfl, hm⟩; have HM := hidOf hm; clear hm; obtain ⟨c0, c1, c2, c3⟩ := HM.out.1.cells; have g1 := frozen_atL HM.out.1 1; have g2 := frozen_atL HM.out.1 2) | (go_at_call 68; refine (CQ.out _ (show R4At _ p l _ false far from HM.out.1.to (K + 1))).mono ?_; rintro e w2 ⟨rfl, hm⟩; have HM2 := hidOf (M4.then (show M4 p l _ false far w _ from ⟨HM.out.1.to (K + 1), chg_set1 HM.out.2⟩) hm); clear hm; clear c0 c1 c2 c3 g1 g2; obtain ⟨c0, c1, c2, c3⟩ := HM2.out.1.cells; have g2 := frozen_atL HM2.out.1 2) | (go_at_call 87; refine (refDigit_of hdg _).mono ?_; rintro e wd ⟨rfl, rfl⟩) | (go_at_call 69; refine (CR.out _ HM2.out.1).mono ?_; rintro e w3 ⟨rfl, hm⟩; have HM3 := hidOf (HM2.out.then hm); clear hm; clear c0 c1 c2 c3 g2; obtain ⟨c0, c1, c2, c3⟩ := HM3.out.1.cells; have g2 := frozen_atL HM3.out.1 2; have g3 := frozen_atL HM3.out.1 3) | (go_at_call 119; refine (CV.out _).mono ?_; rintro e wv ⟨rfl, rfl⟩))
              go_ret
              subst hE
              exact ⟨rfl, HM3.out.1.far true, chg_set1 HM3.out.2⟩
    · have hE := HX.out
      simp at hE
      cases always
      · clear HX
        go_enter Tryz.func79, Tryz.ntmps79
        go_wp2_with (first | (go_at_call 68; refine CP.out.mono ?_; rintro e w1 ⟨rfl, hm⟩; have HM := hidOf hm; clear hm; obtain ⟨c0, c1, c2, c3⟩ := HM.out.1.cells; have g1 := frozen_atL HM.out.1 1; have g2 := frozen_atL HM.out.1 2) | (go_at_call 68; refine (CQ.out _ (show R4At _ p l _ false far from HM.out.1.to (K + 1))).mono ?_; rintro e w2 ⟨rfl, hm⟩; have HM2 := hidOf (M4.then (show M4 p l _ false far w _ from ⟨HM.out.1.to (K + 1), chg_set1 HM.out.2⟩) hm); clear hm; clear c0 c1 c2 c3 g1 g2; obtain ⟨c0, c1, c2, c3⟩ := HM2.out.1.cells; have g2 := frozen_atL HM2.out.1 2) | (go_at_call 87; refine (refDigit_of hdg _).mono ?_; rintro e wd ⟨rfl, rfl⟩) | (go_at_call 69; refine (CR.out _ HM2.out.1).mono ?_; rintro e w3 ⟨rfl, hm⟩; have HM3 := hidOf (HM2.out.then hm); clear hm; clear c0 c1 c2 c3 g2; obtain ⟨c0, c1, c2, c3⟩ := HM3.out.1.cells; have g2 := frozen_atL HM3.out.1 2; have g3 := frozen_atL HM3.out.1 3) | (go_at_call 119; refine (CV.out _).mono ?_; rintro e wv ⟨rfl, rfl⟩))
        go_ret
        subst hE
        exact ⟨rfl, (show R4At _ p l _ true far from (HM.out.1.to (K + 1)).bad true), chg_set1 (chg_set1 HM.out.2)⟩
      · clear HX
        go_enter Tryz.func79, Tryz.ntmps79
        go_wp2_with (first | (go_at_call 68; refine CP.out.mono ?_; rintro e w1 ⟨rfl, hm⟩; have HM := hidOf hm; clear hm; obtain ⟨c0, c1, c2, c3⟩ := HM.out.1.cells; have g1 := frozen_atL HM.out.1 1; have g2 := frozen_atL HM.out.1 2) | (go_at_call 68; refine (CQ.out _ (show R4At _ p l _ false far from HM.out.1.to (K + 1))).mono ?_; rintro e w2 ⟨rfl, hm⟩; have HM2 := hidOf (M4.then (show M4 p l _ false far w _ from ⟨HM.out.1.to (K + 1), chg_set1 HM.out.2⟩) hm); clear hm; clear c0 c1 c2 c3 g1 g2; obtain ⟨c0, c1, c2, c3⟩ := HM2.out.1.cells; have g2 := frozen_atL HM2.out.1 2) | (go_at_call 87; refine (refDigit_of hdg _).mono ?_; rintro e wd ⟨rfl, rfl⟩) | (go_at_call 69; refine (CR.out _ HM2.out.1).mono ?_; rintro e w3 ⟨rfl, hm⟩; have HM3 := hidOf (HM2.out.then hm); clear hm; clear c0 c1 c2 c3 g2; obtain ⟨c0, c1, c2, c3⟩ := HM3.out.1.cells; have g2 := frozen_atL HM3.out.1 2; have g3 := frozen_atL HM3.out.1 3) | (go_at_call 119; refine (CV.out _).mono ?_; rintro e wv ⟨rfl, rfl⟩))
        go_ret
        subst hE
        exact ⟨rfl, (show R4At _ p l _ true far from (HM.out.1.to (K + 1)).bad true), chg_set1 (chg_set1 HM.out.2)⟩
  · exfalso
    have e1 : P = 43 := by simpa using d43
    rw [e1] at d45
    exact absurd d45 (by decide)
end Go.Proofs.YtcomhlimgocoaaaGreatDoor
