import Derived.Lib.ConvBytes
import Derived.Test.YtcomhlimgocoaaaGreatDoorGc37
import Derived.Test.YtcomhlimgocoaaaGreatDoorGc06
import Derived.Lib.ItoaNum
import Derived.Deep.RegionLaw
import Derived.Deep.RegionHeld3
import Derived.Test.YtcomhlimgocoaaaGreatDoorGc19
import Derived.Test.YtcomhlimgocoaaaGreatDoorGc00
namespace Go.Proofs.YtcomhlimgocoaaaGreatDoor
open Go.RowKit
set_option linter.unusedVariables false
set_option linter.unusedSimpArgs false
theorem fold_b4 (O : List UInt8) : ∀ r : ByteArray, (O.map (fun b => (b.toNat : Int))).foldl (fun r n => r.push (UInt8.ofNat n.toNat)) r = ⟨r.data ++ O.toArray⟩ := by
  induction O with
  | nil => intro r; simp
  | cons b l ih =>
    intro r
    rw [List.map_cons, List.foldl_cons, ih]
    simp [ByteArray.push]
theorem conv_l4 (w : World) (a : Addr) (cap : Nat) (O : List UInt8) (h : ∀ j u, (Lib.byteCells O)[j]? = some u → w.cell? (a.add j) = some u) : (convert 53 9 (.slice (some a) O.length cap)).run Tryz.prog w = .ok (.string ⟨O.toArray⟩) w := by
  rw [run_convert_bytes_string w 53 9 5 (some a) O.length cap Tryz.underlying53 Tryz.underlying5 Tryz.underlying9]
  have h1 := run_loadCells_list (P := Tryz.prog) w a (Lib.byteCells O) h
  rw [Lib.byteCells_length] at h1
  rw [run_bytesToString w a O.length cap (O.map (fun b => (b.toNat : Int))) (by rw [show (O.map (fun b => (b.toNat : Int))).map (Value.int .u8) = Lib.byteCells O from by simp [Lib.byteCells]]; exact h1), fold_b4]
  simp
/-- one byte as a string -/
theorem conv_one (w : World) (q : Nat) (b : UInt8) (h : w.cell? ⟨q, 0, none⟩ = some (.int .u8 (b.toNat : Int))) : (convert 53 9 (.slice (some ⟨q, 0, none⟩) 1 1)).run Tryz.prog w = .ok (.string ⟨#[b]⟩) w :=
  conv_l4 w ⟨q, 0, none⟩ 1 [b] (fun j u hu => by
    match j, hu with
    | 0, hu => simp [Lib.byteCells] at hu; subst hu; simpa [Addr.add] using h
    | j + 1, hu => simp [Lib.byteCells] at hu)
theorem conv_fresh (X : World) (b : UInt8) : (convert 53 9 (.slice (some ⟨X.heap.size, 0, none⟩) 1 1)).run Tryz.prog (X.alloc (.cells #[.int .u8 (b.toNat : Int)] 5)) = .ok (.string ⟨#[b]⟩) (X.alloc (.cells #[.int .u8 (b.toNat : Int)] 5)) :=
  conv_one _ _ b (by rw [new_cell]; rfl)
theorem dig_byte (k : Nat) (h : k < 10) : ((UInt8.ofNat (48 + k)).toNat : Int) = 48 + (k : Int) := by
  rw [UInt8.toNat_ofNat_of_lt' (by show _ < 256; omega)]; omega
theorem dec_len (u : Nat) (h : u < 18446744073709551616) : (Lib.decDigits u).length ≤ 20 := by
  rw [Lib.decDigits_eq, List.length_map, List.length_range]
  by_cases h0 : Lib.nDigits u ≤ 20
  · exact h0
  · exfalso
    have : ∀ (k u : Nat), u < 10 ^ k → 0 < k → Lib.nDigits u ≤ k := by
      intro k
      induction k with
      | zero => intro u _ h0; omega
      | succ k ih =>
        intro u hu _
        by_cases h1 : u < 10
        · rw [Lib.nDigits_small h1]; omega
        · rw [Lib.nDigits_big h1]
          have hk : 0 < k := by
            rcases Nat.eq_zero_or_pos k with e | e
            · subst e; simp at hu; omega
            · exact e
          have := ih (u / 10) (by rw [Nat.pow_succ] at hu; omega) hk
          omega
    have h2 := this 20 u (by omega) (by omega)
    omega
set_option maxRecDepth 8000 in
set_option maxHeartbeats 1000000 in
theorem decimal_any : ∀ (u : Nat), u < 18446744073709551616 → ∀ w : World, Calls Tryz.prog 62 #[.int .u64 (u : Int)] w fun e w' => e = .returned (.string ⟨(Lib.decDigits u).toArray⟩) ∧ Out w w' := by
  intro u
  induction u using Nat.strongRecOn with
  | _ u ih =>
    intro hu w
    have hl := dec_len u hu
    by_cases h : u < 10
    · have hD : Lib.decDigits u = [UInt8.ofNat (48 + u)] := by rw [Lib.decDigits, dif_pos h]
      obtain ⟨b, hb⟩ : ∃ b, b = UInt8.ofNat (48 + u) := ⟨_, rfl⟩
      have e2 : 48 + (u : Int) = (b.toNat : Int) := by rw [hb, dig_byte u h]
      have e3 : (b.toNat : Int) % 256 = (b.toNat : Int) := by have := b.toNat_lt; omega
      have hI : (u : Int) < 10 := by omega
      have h0 : (0 : Int) ≤ u := by omega
      have kc := conv_fresh w b
      rw [hD, ← hb]
      clear hb hD ih hl
      go_enter Tryz.func62, Tryz.ntmps62
      go_wp2
      go_ret
      exact ⟨rfl, (Out.refl w).alloc _⟩
    · have hD : Lib.decDigits u = Lib.decDigits (u / 10) ++ [UInt8.ofNat (48 + u % 10)] := by rw [Lib.decDigits, dif_neg h]
      obtain ⟨b, hb⟩ : ∃ b, b = UInt8.ofNat (48 + u % 10) := ⟨_, rfl⟩
      have hbt := dig_byte (u % 10) (by omega)
      rw [← hb] at hbt
      obtain ⟨m, hm⟩ : ∃ m : Int, (u : Int).tmod 10 = m := ⟨_, rfl⟩
      have hm2 : m = ((u % 10 : Nat) : Int) := by rw [← hm, Int.tmod_eq_emod_of_nonneg (by omega)]; omega
      have t2 : IntKind.u64.wrap (48 + m) = (b.toNat : Int) := by rw [hbt, hm2]; unfold IntKind.wrap; simp [IntKind.bits]; omega
      have t3 : IntKind.u8.wrap (b.toNat : Int) = (b.toNat : Int) := by rw [hbt]; unfold IntKind.wrap; simp [IntKind.bits]; omega
      clear hm2 hbt
      have hI : ¬ (u : Int) < 10 := by omega
      have h0 : (0 : Int) ≤ u := by omega
      have huI : (u : Int) < 18446744073709551616 := by omega
      obtain ⟨D, hDD⟩ : ∃ D, D = Lib.decDigits (u / 10) := ⟨_, rfl⟩
      have CD : Hid (∀ wx, Calls Tryz.prog 62 #[.int .u64 (IntKind.u64.wrap ((u : Int) / 10))] wx fun e w' => e = .returned (.string ⟨D.toArray⟩) ∧ Out wx w') := hidOf (fun wx => by rw [hDD, show IntKind.u64.wrap ((u : Int) / 10) = ((u / 10 : Nat) : Int) by unfold IntKind.wrap; simp [IntKind.bits]; omega]; exact ih (u / 10) (by omega) (by omega) wx)
      obtain ⟨Z, hZ⟩ : ∃ Z, Z = D ++ [b] := ⟨_, rfl⟩
      have hDl : D.length ≤ 20 := by rw [hDD]; exact dec_len _ (by omega)
      have a1 : ∀ w, (Op.stringOp .add ⟨D.toArray⟩ ⟨#[b]⟩).run Tryz.prog w = .ok (.string ⟨Z.toArray⟩) w := add_l4 D [b] Z hZ (by simp; omega)
      have kc : ∀ X : World, (convert 53 9 (.slice (some ⟨X.heap.size, 0, none⟩) 1 1)).run Tryz.prog (X.alloc (.cells #[.int .u8 (b.toNat : Int)] 5)) = .ok (.string ⟨#[b]⟩) (X.alloc (.cells #[.int .u8 (b.toNat : Int)] 5)) := fun X => conv_fresh X b
      have kd : (convert 53 9 (.slice (some ⟨w.heap.size, 0, none⟩) 1 1)).run Tryz.prog (w.alloc (.cells #[.int .u8 (b.toNat : Int)] 5)).drew = .ok (.string ⟨#[b]⟩) (w.alloc (.cells #[.int .u8 (b.toNat : Int)] 5)).drew := conv_one _ _ b (show (w.alloc (.cells #[.int .u8 (b.toNat : Int)] 5)).cell? ⟨w.heap.size, 0, none⟩ = _ from by rw [new_cell]; rfl)
      rw [hD, ← hb, ← hDD, ← hZ]
      clear hb hD ih hl hDD hZ hDl
      go_enter Tryz.func62, Tryz.ntmps62
      go_upto_region 3 with fail
      go_region_law (first | (go_simp; go_at_call 62; refine (CD.out _).mono ?_; rintro e w1 ⟨rfl, ho⟩; (try dsimp only); have O1 := hidOf ho; (try have kc1 := conv_one w1 w.heap.size b (cell_later O1.out (show (w.alloc (.cells #[.int .u8 (b.toNat : Int)] 5)).cell? ⟨w.heap.size, 0, none⟩ = some (.int .u8 (b.toNat : Int)) from by rw [new_cell]; rfl))); clear ho))
      all_goals
        go_wp2
        go_ret
        refine ⟨rfl, ?_⟩
        first | exact (Out.trans ((Out.refl w).drew) O1.out).alloc _ | exact Out.trans (((Out.refl w).alloc _).drew) O1.out
theorem itoa_len4 (x : Int) (h0 : -9223372036854775808 ≤ x) (h1 : x < 9223372036854775808) : (Lib.itoa x).length ≤ 21 := by
  unfold Lib.itoa
  split
  · have := dec_len x.natAbs (by omega)
    simp; omega
  · have := dec_len x.toNat (by omega)
    omega
set_option maxRecDepth 8000 in
theorem Decimal_any (x : Int) (h0 : -9223372036854775808 ≤ x) (h1 : x < 9223372036854775808) (w : World) : Calls Tryz.prog 28 #[.int .i64 x] w fun e w' => e = .returned (.string ⟨(Lib.itoa x).toArray⟩) ∧ Out w w' := by
  by_cases h : x < 0
  · obtain ⟨D, hD⟩ : ∃ D, D = Lib.decDigits x.natAbs := ⟨_, rfl⟩
    obtain ⟨Z, hZ⟩ : ∃ Z, Z = [45] ++ D := ⟨_, rfl⟩
    have hl : D.length ≤ 20 := by rw [hD]; exact dec_len _ (by omega)
    have hI : Lib.itoa x = Z := by rw [hZ, hD]; simp [Lib.itoa, h]
    have a1 : ∀ w, (Op.stringOp .add ⟨#[45]⟩ ⟨D.toArray⟩).run Tryz.prog w = .ok (.string ⟨Z.toArray⟩) w := add_l4 [45] D Z hZ (by simp; omega)
    obtain ⟨y, hy⟩ : ∃ y : Int, IntKind.u64.wrap x = y := ⟨_, rfl⟩
    have hy2 : y = x + 18446744073709551616 := by rw [← hy, IntKind.wrap_u64]; omega
    have hz : IntKind.u64.wrap (0 - y) = (x.natAbs : Int) := by rw [hy2, IntKind.wrap_u64]; omega
    have hz2 : IntKind.u64.wrap (-y) = (x.natAbs : Int) := by rw [hy2, IntKind.wrap_u64]; omega
    have CD := hidOf (fun wx => decimal_any x.natAbs (by omega) wx)
    rw [← hD] at CD
    obtain ⟨v, hv⟩ : ∃ v : Int, (x.natAbs : Int) = v := ⟨_, rfl⟩
    rw [hv] at hz hz2 CD
    rw [hI]
    clear hD hZ hI hl hy2 hv
    go_enter Tryz.func28, Tryz.ntmps28
    go_wp2_with (go_at_call 62; refine (CD.out _).mono ?_; rintro e w1 ⟨rfl, ho⟩; have O1 := hidOf ho; clear ho)
    go_ret
    exact ⟨rfl, O1.out⟩
  · have CD := hidOf (fun wx => decimal_any x.toNat (by omega) wx)
    have hI : Lib.itoa x = Lib.decDigits x.toNat := by simp [Lib.itoa, h]
    rw [hI]
    rw [show ((x.toNat : Nat) : Int) = x by omega] at CD
    generalize Lib.decDigits x.toNat = D at *
    have hw : IntKind.u64.wrap x = x := by rw [IntKind.wrap_u64]; omega
    clear hI
    go_enter Tryz.func28, Tryz.ntmps28
    go_wp2_with (go_at_call 62; refine (CD.out _).mono ?_; rintro e w1 ⟨rfl, ho⟩; have O1 := hidOf ho; clear ho)
    go_ret
    exact ⟨rfl, O1.out⟩
theorem reg_itoa : ∀ k : Fin 11, 114 :: Lib.itoa (k.val : Int) = regL k.val := by
  intro k
  match k with
  | 0 | 1 | 2 | 3 | 4 | 5 | 6 | 7 | 8 | 9 =>
    simp [Lib.itoa, regL]
    rw [Lib.decDigits, dif_pos (by decide)]
    try rfl
  | 10 =>
    simp [Lib.itoa, regL]
    rw [Lib.decDigits, dif_neg (by decide), Lib.decDigits, dif_pos (by decide)]
    rfl
set_option maxRecDepth 8000 in
theorem register4_any (x : Int) (h0 : 0 ≤ x) (h1 : x ≤ 10) (w : World) : Calls Tryz.prog 30 #[.int .i64 x] w fun e w' => e = .returned (.string ⟨(regL x.toNat).toArray⟩) ∧ Out w w' := by
  have CD := hidOf (fun wx => Decimal_any x (by omega) (by omega) wx)
  obtain ⟨D, hD⟩ : ∃ D, D = Lib.itoa x := ⟨_, rfl⟩
  obtain ⟨Z, hZ⟩ : ∃ Z, Z = [114] ++ D := ⟨_, rfl⟩
  have hl : D.length ≤ 21 := by rw [hD]; exact itoa_len4 x (by omega) (by omega)
  have hR : regL x.toNat = Z := by
    have := reg_itoa ⟨x.toNat, by omega⟩
    rw [hZ, hD, ← this]
    simp [show ((x.toNat : Nat) : Int) = x by omega]
  have a1 : ∀ w, (Op.stringOp .add ⟨#[114]⟩ ⟨D.toArray⟩).run Tryz.prog w = .ok (.string ⟨Z.toArray⟩) w := add_l4 [114] D Z hZ (by simp; omega)
  rw [← hD] at CD
  rw [hR]
  clear hD hZ hl hR
  go_enter Tryz.func30, Tryz.ntmps30
  go_wp2_with (go_at_call 28; refine (CD.out _).mono ?_; rintro e w1 ⟨rfl, ho⟩; have O1 := hidOf ho; clear ho)
  go_ret
  exact ⟨rfl, O1.out⟩
end Go.Proofs.YtcomhlimgocoaaaGreatDoor
namespace Go.Proofs.YtcomhlimgocoaaaGreatDoor
open Go.RowKit
set_option linter.unusedVariables false
set_option linter.unusedSimpArgs false
theorem regL_len4 : ∀ k : Fin 11, (regL k.val).length ≤ 3 := by decide
set_option maxRecDepth 8000 in
theorem place4_any (k f : Int) (h0 : 0 ≤ k) (h1 : k ≤ 10) (f0 : -9223372036854775808 ≤ f) (f1 : f < 9223372036854775808) (w : World) : Calls Tryz.prog 31 #[.int .i64 k, .int .i64 f] w fun e w' => e = .returned (.string ⟨(placeTx k.toNat f).toArray⟩) ∧ Out w w' := by
  have CR := hidOf (fun wx => register4_any k h0 h1 wx)
  have CD := hidOf (fun wx => Decimal_any f f0 f1 wx)
  have hl := itoa_len4 f f0 f1
  have hr : (regL k.toNat).length ≤ 3 := regL_len4 ⟨k.toNat, by omega⟩
  by_cases h : f < 0
  · have hP : placeTx k.toNat f = (([91] ++ regL k.toNat) ++ Lib.itoa f) ++ [93] := by simp [placeTx, h]
    obtain ⟨P, hPP⟩ : ∃ P, placeTx k.toNat f = P := ⟨_, rfl⟩
    rw [hPP] at hP ⊢
    generalize regL k.toNat = R at *
    generalize Lib.itoa f = D at *
    obtain ⟨Z1, e1⟩ : ∃ Z, Z = [91] ++ R := ⟨_, rfl⟩
    obtain ⟨Z2, e2⟩ : ∃ Z, Z = Z1 ++ D := ⟨_, rfl⟩
    have l1 : Z1.length ≤ 4 := by rw [e1]; simp; omega
    have l2 : Z2.length ≤ 25 := by rw [e2]; simp; omega
    have a1 : ∀ w, (Op.stringOp .add ⟨#[91]⟩ ⟨R.toArray⟩).run Tryz.prog w = .ok (.string ⟨Z1.toArray⟩) w := add_l4 [91] R Z1 e1 (by simp; omega)
    have a2 : ∀ w, (Op.stringOp .add ⟨Z1.toArray⟩ ⟨D.toArray⟩).run Tryz.prog w = .ok (.string ⟨Z2.toArray⟩) w := add_l4 Z1 D Z2 e2 (by omega)
    have a3 : ∀ w, (Op.stringOp .add ⟨Z2.toArray⟩ ⟨#[93]⟩).run Tryz.prog w = .ok (.string ⟨P.toArray⟩) w := add_l4 Z2 [93] P (by rw [hP, e2, e1]) (by simp; omega)
    clear hPP hP e1 e2 l1 l2 hl hr h0 h1 f0 f1
    go_enter Tryz.func31, Tryz.ntmps31
    go_wp2_with (first | (go_at_call 30; refine (CR.out _).mono ?_; rintro e w1 ⟨rfl, ho⟩; have O1 := hidOf ho; clear ho) | (go_at_call 28; refine (CD.out _).mono ?_; rintro e w2 ⟨rfl, ho⟩; have O2 := hidOf ho; clear ho))
    go_ret
    exact ⟨rfl, Out.trans O1.out O2.out⟩
  · have hP : placeTx k.toNat f = ((([91] ++ regL k.toNat) ++ [43]) ++ Lib.itoa f) ++ [93] := by simp [placeTx, show 0 ≤ f by omega]
    obtain ⟨P, hPP⟩ : ∃ P, placeTx k.toNat f = P := ⟨_, rfl⟩
    rw [hPP] at hP ⊢
    generalize regL k.toNat = R at *
    generalize Lib.itoa f = D at *
    obtain ⟨Z1, e1⟩ : ∃ Z, Z = [91] ++ R := ⟨_, rfl⟩
    obtain ⟨Z2, e2⟩ : ∃ Z, Z = Z1 ++ [43] := ⟨_, rfl⟩
    obtain ⟨Z3, e3⟩ : ∃ Z, Z = Z2 ++ D := ⟨_, rfl⟩
    have l1 : Z1.length ≤ 4 := by rw [e1]; simp; omega
    have l2 : Z2.length ≤ 5 := by rw [e2]; simp; omega
    have l3 : Z3.length ≤ 26 := by rw [e3]; simp; omega
    have a1 : ∀ w, (Op.stringOp .add ⟨#[91]⟩ ⟨R.toArray⟩).run Tryz.prog w = .ok (.string ⟨Z1.toArray⟩) w := add_l4 [91] R Z1 e1 (by simp; omega)
    have a2 : ∀ w, (Op.stringOp .add ⟨Z1.toArray⟩ ⟨#[43]⟩).run Tryz.prog w = .ok (.string ⟨Z2.toArray⟩) w := add_l4 Z1 [43] Z2 e2 (by simp; omega)
    have a3 : ∀ w, (Op.stringOp .add ⟨Z2.toArray⟩ ⟨D.toArray⟩).run Tryz.prog w = .ok (.string ⟨Z3.toArray⟩) w := add_l4 Z2 D Z3 e3 (by omega)
    have a4 : ∀ w, (Op.stringOp .add ⟨Z3.toArray⟩ ⟨#[93]⟩).run Tryz.prog w = .ok (.string ⟨P.toArray⟩) w := add_l4 Z3 [93] P (by rw [hP, e3, e2, e1]) (by simp; omega)
    clear hPP hP e1 e2 e3 l1 l2 l3 hl hr h0 h1 f0 f1
    go_enter Tryz.func31, Tryz.ntmps31
    go_wp2_with (first | (go_at_call 30; refine (CR.out _).mono ?_; rintro e w1 ⟨rfl, ho⟩; have O1 := hidOf ho; clear ho) | (go_at_call 28; refine (CD.out _).mono ?_; rintro e w2 ⟨rfl, ho⟩; have O2 := hidOf ho; clear ho))
    go_ret
    exact ⟨rfl, Out.trans O1.out O2.out⟩
theorem refLetter_of {c : Int} {b : Bool} (h : letP c = b) (w : World) : Calls Tryz.prog 48 #[.int .u8 c] w fun e w' => e = .returned (.bool b) ∧ w = w' := by rw [← h]; exact refLetter_any c w
theorem refInner_of {c : Int} {b : Bool} (h : runP c = b) (w : World) : Calls Tryz.prog 49 #[.int .u8 c] w fun e w' => e = .returned (.bool b) ∧ w = w' := by rw [← h]; exact refInner_any c w
set_option maxRecDepth 8000 in
theorem name4_bytes (s : ByteArray) (w : World) (hs : s.size ≤ 9223372036854775807) : Calls Tryz.prog 18 #[.string s] w fun e w' => e = .returned (.bool (nameP s.toList)) ∧ w = w' := by
  have hl := lsize s
  by_cases h0 : s.size = 0
  · have hl : s.toList = [] := List.length_eq_zero_iff.1 (by rw [lsize, h0])
    have hN : nameP s.toList = false := by rw [hl]; rfl
    rw [hN]
    go_enter Tryz.func18, Tryz.ntmps18
    go_wp2
    go_ret
    exact ⟨rfl, rfl⟩
  have h0' : ¬ (s.size : Int) < 1 := by omega
  have h0p : (0 : Int) < s.size := by omega
  by_cases h64 : 64 < s.size
  · have h64' : (64 : Int) < s.size := by omega
    have hN : nameP s.toList = false := by simp [nameP, hl, show ¬ s.size ≤ 64 by omega]
    rw [hN]
    clear hN
    go_enter Tryz.func18, Tryz.ntmps18
    go_wp2
    go_ret
    exact ⟨rfl, rfl⟩
  have h64' : ¬ (64 : Int) < s.size := by omega
  obtain ⟨r, hr⟩ := head_of (s := s) (by omega)
  have hnm : nameP s.toList = (letP (bI s[0]) && s.toList.all (fun b => runP (bI b))) := by
    unfold nameP
    rw [decide_eq_true (by omega), hr]
    rfl
  rw [hnm]
  clear hnm hr
  cases h1 : letP (bI s[0])
  · go_enter Tryz.func18, Tryz.ntmps18
    go_wp2_with (go_at_call 48; refine (refLetter_of h1 _).mono ?_; rintro e w1 ⟨rfl, rfl⟩)
    go_ret
    exact ⟨rfl, rfl⟩
  · rw [Bool.true_and]
    have HA0 : Hid (s.toList.all (fun b => runP (bI b)) = (s.toList.drop 0).all (fun b => runP (bI b))) := hidOf rfl
    generalize s.toList.all (fun b => runP (bI b)) = AL at *

    go_enter Tryz.func18, Tryz.ntmps18
    go_wp2_with (go_at_call 48; refine (refLetter_of h1 _).mono ?_; rintro e w1 ⟨rfl, rfl⟩)
    go_loopw [3] (fun kv wr => ∃ k : Nat, kv = .int .i64 k ∧ k ≤ s.size ∧ Hid (AL = (s.toList.drop k).all (fun b => runP (bI b))) ∧ wr = w) (fun kv _ => s.size - (intOf kv).toNat)
    case atStart => exact ⟨0, rfl, by omega, HA0, rfl⟩
    case round =>
      clear HA0 h1
      obtain ⟨k, rfl, hk, HA, rfl⟩ := hrel
      by_cases hlt : k < s.size
      · have hltI : (k : Int) < s.size := by omega
        have hk0 : (0 : Int) ≤ k := by omega
        have Hd : Hid (AL = (runP (bI s[k]) && (s.toList.drop (k + 1)).all (fun b => runP (bI b)))) := hidOf (by
          have h2 := HA.out
          have hg := lget s k hlt
          obtain ⟨g1, g2⟩ := List.getElem?_eq_some_iff.1 hg
          rw [List.drop_eq_getElem_cons g1, List.all_cons, g2] at h2
          exact h2)
        clear HA
        cases hR : runP (bI s[k])
        · have hE : AL = false := by rw [Hd.out, hR]; rfl
          have HE := hidOf hE
          clear Hd hE
          go_wp2_with (go_at_call 49; refine (refInner_of hR _).mono ?_; rintro e w1 ⟨rfl, rfl⟩)
          go_ret
          exact ⟨by rw [HE.out]; rfl, rfl⟩
        · have Hd' := hidOf (show AL = _ by rw [Hd.out, hR, Bool.true_and])
          clear Hd
          go_wp2_with (go_at_call 49; refine (refInner_of hR _).mono ?_; rintro e w1 ⟨rfl, rfl⟩)
          go_roundw
          case rel => exact ⟨k + 1, by simp, by omega, Hd', trivial⟩
          case measure => simp [intOf]; omega
      · have hltI : ¬ (k : Int) < s.size := by omega
        have hE : AL = true := by
          rw [HA.out, List.drop_eq_nil_iff.2 (by rw [lsize]; omega)]; rfl
        have HE := hidOf hE
        clear hE HA
        go_wp2
        go_ret
        exact ⟨by rw [HE.out]; rfl, rfl⟩
/-- the reference's Name -/
theorem name4_any (l : List UInt8) (w : World) (hl : l.length ≤ 9223372036854775807) : Calls Tryz.prog 18 #[.string ⟨l.toArray⟩] w fun e w' => e = .returned (.bool (nameP l)) ∧ w = w' := by
  have h := name4_bytes ⟨l.toArray⟩ w (by show l.length ≤ _; exact hl)
  have e : (⟨l.toArray⟩ : ByteArray).toList = l := by rw [ByteArray.toList_eq]
  rw [e] at h
  exact h
end Go.Proofs.YtcomhlimgocoaaaGreatDoor
