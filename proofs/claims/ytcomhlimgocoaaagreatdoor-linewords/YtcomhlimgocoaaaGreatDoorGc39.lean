import Derived.Test.YtcomhlimgocoaaaGreatDoorGc38
import Derived.Deep.RegionHeld3
namespace Go.Proofs.YtcomhlimgocoaaaGreatDoor
open Go.RowKit
set_option linter.unusedVariables false
set_option linter.unusedSimpArgs false
/-- the rows of an opcode -/
def Pf (o : Int) (L : List Rw) : List Rw := L.filter (fun r => opR r o)
theorem Pf_len (o : Int) (L : List Rw) : (Pf o L).length ≤ L.length := List.length_filter_le _ _
theorem Pf_snoc (o : Int) (L : List Rw) (r : Rw) : Pf o (L ++ [r]) = Pf o L ++ (if opR r o then [r] else []) := by
  unfold Pf
  rw [List.filter_append]
  cases h : opR r o <;> simp [h]
theorem add4_any (w0 w : World) (pb : Nat) (L : List Rw) (o : Int) (h : Pk w0 w pb (Pf o L) o []) (hL : L.length ≤ 900) (A B : List UInt8) (hA : 0 < A.length) (hA2 : A.length ≤ 100) (hB2 : B.length ≤ 100) (sh op off imm : Int) (op0 : 0 ≤ op) (op1 : op ≤ 1000) (Z : List UInt8) (hZ : Z = A ++ B) :
    Calls Tryz.prog 118 #[.pointer (some ⟨pb, 0, none⟩), .string ⟨A.toArray⟩, .string ⟨B.toArray⟩, .int .i64 sh, .int .i64 op, .int .i64 off, .int .i64 imm] w fun e w' => (∃ q, e = .returned q) ∧ Pk w0 w' pb (Pf o (L ++ [⟨Z, sh, op, off, imm⟩])) o [] ∧ FrK w w' := by
  have hl := Pf_len o L
  rw [Pf_snoc]
  cases hw : opR ⟨Z, sh, op, off, imm⟩ o
  · have := add4_no w0 w pb (Pf o L) o h (by omega) A B hA hA2 hB2 sh op off imm op0 op1 hw
    simpa using this
  · exact add4_yes w0 w pb (Pf o L) o h (by omega) A B hA hA2 hB2 sh op off imm op0 op1 Z hZ hw
/-- a row of 64 bits and one of 32 -/
def bothL (A : List UInt8) (sh code off : Int) : List Rw := if sh = 8 then [⟨A, sh, 5 + code, off, 0⟩, ⟨A ++ [51, 50], sh, 6 + code, off, 0⟩] else [⟨A, sh, 7 + code, off, 0⟩, ⟨A ++ [51, 50], sh, 4 + code, off, 0⟩]
set_option maxRecDepth 8000 in
set_option maxHeartbeats 1000000 in
theorem both4_any (w0 w : World) (pb : Nat) (L : List Rw) (o : Int) (h : Pk w0 w pb (Pf o L) o []) (hL : L.length ≤ 800) (A : List UInt8) (hA : 0 < A.length) (hA2 : A.length ≤ 100) (sh code off : Int) (c0 : 0 ≤ code) (c1 : code ≤ 900) :
    Calls Tryz.prog 117 #[.pointer (some ⟨pb, 0, none⟩), .string ⟨A.toArray⟩, .int .i64 sh, .int .i64 code, .int .i64 off] w fun e w' => (∃ q, e = .returned q) ∧ Pk w0 w' pb (Pf o (L ++ bothL A sh code off)) o [] ∧ FrK w w' := by
  by_cases h8 : sh = 8
  · subst h8
    have C1 := hidOf (add4_any w0 w pb L o h (by omega) A [] hA hA2 (by simp) 8 (5 + code) off 0 (by omega) (by omega) A (by simp))
    have C2 : Hid (∀ wx, Pk w0 wx pb (Pf o (L ++ [⟨A, 8, 5 + code, off, 0⟩])) o [] → Calls Tryz.prog 118 #[.pointer (some ⟨pb, 0, none⟩), .string ⟨A.toArray⟩, .string ⟨#[51, 50]⟩, .int .i64 8, .int .i64 (6 + code), .int .i64 off, .int .i64 0] wx fun e w' => (∃ q, e = .returned q) ∧ Pk w0 w' pb (Pf o ((L ++ [⟨A, 8, 5 + code, off, 0⟩]) ++ [⟨A ++ [51, 50], 8, 6 + code, off, 0⟩])) o [] ∧ FrK wx w') := hidOf (fun wx hx => add4_any w0 wx pb _ o hx (by simp; omega) A [51, 50] hA hA2 (by simp) 8 (6 + code) off 0 (by omega) (by omega) (A ++ [51, 50]) rfl)
    have hE : Hid (L ++ bothL A 8 code off = (L ++ [⟨A, 8, 5 + code, off, 0⟩]) ++ [⟨A ++ [51, 50], 8, 6 + code, off, 0⟩]) := hidOf (by simp [bothL])
    rw [hE.out]
    clear h
    go_enter Tryz.func117, Tryz.ntmps117
    go_upto_region 2 with (go_at_call 118; refine C1.out.mono ?_; rintro e w1 ⟨⟨q1, rfl⟩, hp, hf⟩; have P1 := hidOf hp; have F1 := hidOf hf; clear hp hf)
    go_wp2_with (go_at_call 118; refine (C2.out _ P1.out).mono ?_; rintro e w2 ⟨⟨q2, rfl⟩, hp, hf⟩; have P2 := hidOf hp; have F2 := hidOf hf; clear hp hf)
    refine bodyPost_ret (results_none rfl _ _ _) rfl ?_
    exact ⟨⟨_, rfl⟩, P2.out, F1.out.trans F2.out⟩
  · have h8b : (sh == 8) = false := by simpa using h8
    have C1 := hidOf (add4_any w0 w pb L o h (by omega) A [] hA hA2 (by simp) sh (7 + code) off 0 (by omega) (by omega) A (by simp))
    have C2 : Hid (∀ wx, Pk w0 wx pb (Pf o (L ++ [⟨A, sh, 7 + code, off, 0⟩])) o [] → Calls Tryz.prog 118 #[.pointer (some ⟨pb, 0, none⟩), .string ⟨A.toArray⟩, .string ⟨#[51, 50]⟩, .int .i64 sh, .int .i64 (4 + code), .int .i64 off, .int .i64 0] wx fun e w' => (∃ q, e = .returned q) ∧ Pk w0 w' pb (Pf o ((L ++ [⟨A, sh, 7 + code, off, 0⟩]) ++ [⟨A ++ [51, 50], sh, 4 + code, off, 0⟩])) o [] ∧ FrK wx w') := hidOf (fun wx hx => add4_any w0 wx pb _ o hx (by simp; omega) A [51, 50] hA hA2 (by simp) sh (4 + code) off 0 (by omega) (by omega) (A ++ [51, 50]) rfl)
    have hE : Hid (L ++ bothL A sh code off = (L ++ [⟨A, sh, 7 + code, off, 0⟩]) ++ [⟨A ++ [51, 50], sh, 4 + code, off, 0⟩]) := hidOf (by simp [bothL, h8])
    rw [hE.out]
    clear h h8
    go_enter Tryz.func117, Tryz.ntmps117
    go_upto_region 4 with (go_at_call 118; refine C1.out.mono ?_; rintro e w1 ⟨⟨q1, rfl⟩, hp, hf⟩; have P1 := hidOf hp; have F1 := hidOf hf; clear hp hf)
    go_wp2_with (go_at_call 118; refine (C2.out _ P1.out).mono ?_; rintro e w2 ⟨⟨q2, rfl⟩, hp, hf⟩; have P2 := hidOf hp; have F2 := hidOf hf; clear hp hf)
    go_end0
    exact ⟨⟨_, rfl⟩, P2.out, F1.out.trans F2.out⟩
end Go.Proofs.YtcomhlimgocoaaaGreatDoor
namespace Go.Proofs.YtcomhlimgocoaaaGreatDoor
open Go.RowKit
set_option linter.unusedVariables false
set_option linter.unusedSimpArgs false
def sWS : List (List UInt8) := [[97, 100, 100], [115, 117, 98], [109, 117, 108], [100, 105, 118], [111, 114], [97, 110, 100], [108, 115, 104], [114, 115, 104], [109, 111, 100], [120, 111, 114], [109, 111, 118], [97, 114, 115, 104]]
def sW (i : Nat) : List UInt8 := sWS.getD i []
def sWC : Array Value := #[.string ⟨#[97, 100, 100]⟩, .string ⟨#[115, 117, 98]⟩, .string ⟨#[109, 117, 108]⟩, .string ⟨#[100, 105, 118]⟩, .string ⟨#[111, 114]⟩, .string ⟨#[97, 110, 100]⟩, .string ⟨#[108, 115, 104]⟩, .string ⟨#[114, 115, 104]⟩, .string ⟨#[109, 111, 100]⟩, .string ⟨#[120, 111, 114]⟩, .string ⟨#[109, 111, 118]⟩, .string ⟨#[97, 114, 115, 104]⟩]
theorem sW_at (i : Nat) (h : i < 12) : sWC[i]? = some (.string ⟨(sW i).toArray⟩) := by
  have : i = 0 ∨ i = 1 ∨ i = 2 ∨ i = 3 ∨ i = 4 ∨ i = 5 ∨ i = 6 ∨ i = 7 ∨ i = 8 ∨ i = 9 ∨ i = 10 ∨ i = 11 := by omega
  rcases this with rfl | rfl | rfl | rfl | rfl | rfl | rfl | rfl | rfl | rfl | rfl | rfl <;> rfl
theorem sW_len (i : Nat) (h : i < 12) : 0 < (sW i).length ∧ (sW i).length ≤ 100 := by
  have : i = 0 ∨ i = 1 ∨ i = 2 ∨ i = 3 ∨ i = 4 ∨ i = 5 ∨ i = 6 ∨ i = 7 ∨ i = 8 ∨ i = 9 ∨ i = 10 ∨ i = 11 := by omega
  rcases this with rfl | rfl | rfl | rfl | rfl | rfl | rfl | rfl | rfl | rfl | rfl | rfl <;> decide
def sCS : List Int := [0, 16, 32, 48, 64, 80, 96, 112, 144, 160, 176, 192]
def sC (i : Nat) : Int := sCS.getD i 0
def sCC : Array Value := #[.int .i64 0, .int .i64 16, .int .i64 32, .int .i64 48, .int .i64 64, .int .i64 80, .int .i64 96, .int .i64 112, .int .i64 144, .int .i64 160, .int .i64 176, .int .i64 192]
theorem sC_at (i : Nat) (h : i < 12) : sCC[i]? = some (.int .i64 (sC i)) := by
  have : i = 0 ∨ i = 1 ∨ i = 2 ∨ i = 3 ∨ i = 4 ∨ i = 5 ∨ i = 6 ∨ i = 7 ∨ i = 8 ∨ i = 9 ∨ i = 10 ∨ i = 11 := by omega
  rcases this with rfl | rfl | rfl | rfl | rfl | rfl | rfl | rfl | rfl | rfl | rfl | rfl <;> rfl
theorem sC_bd (i : Nat) (h : i < 12) : 0 ≤ sC i ∧ sC i ≤ 900 := by
  have : i = 0 ∨ i = 1 ∨ i = 2 ∨ i = 3 ∨ i = 4 ∨ i = 5 ∨ i = 6 ∨ i = 7 ∨ i = 8 ∨ i = 9 ∨ i = 10 ∨ i = 11 := by omega
  rcases this with rfl | rfl | rfl | rfl | rfl | rfl | rfl | rfl | rfl | rfl | rfl | rfl <;> decide
def eWS : List (List UInt8) := [[108, 101], [98, 101], [115, 119, 97, 112]]
def eW (i : Nat) : List UInt8 := eWS.getD i []
def eWC : Array Value := #[.string ⟨#[108, 101]⟩, .string ⟨#[98, 101]⟩, .string ⟨#[115, 119, 97, 112]⟩]
theorem eW_at (i : Nat) (h : i < 3) : eWC[i]? = some (.string ⟨(eW i).toArray⟩) := by
  have : i = 0 ∨ i = 1 ∨ i = 2 := by omega
  rcases this with rfl | rfl | rfl <;> rfl
theorem eW_len (i : Nat) (h : i < 3) : 0 < (eW i).length ∧ (eW i).length ≤ 100 := by
  have : i = 0 ∨ i = 1 ∨ i = 2 := by omega
  rcases this with rfl | rfl | rfl <;> decide
def eCS : List Int := [212, 220, 215]
def eC (i : Nat) : Int := eCS.getD i 0
def eCC : Array Value := #[.int .i64 212, .int .i64 220, .int .i64 215]
theorem eC_at (i : Nat) (h : i < 3) : eCC[i]? = some (.int .i64 (eC i)) := by
  have : i = 0 ∨ i = 1 ∨ i = 2 := by omega
  rcases this with rfl | rfl | rfl <;> rfl
theorem eC_bd (i : Nat) (h : i < 3) : 0 ≤ eC i ∧ eC i ≤ 900 := by
  have : i = 0 ∨ i = 1 ∨ i = 2 := by omega
  rcases this with rfl | rfl | rfl <;> decide
def mWdS : List (List UInt8) := [[119], [104], [98], [100, 119]]
def mWd (i : Nat) : List UInt8 := mWdS.getD i []
def mWdC : Array Value := #[.string ⟨#[119]⟩, .string ⟨#[104]⟩, .string ⟨#[98]⟩, .string ⟨#[100, 119]⟩]
theorem mWd_at (i : Nat) (h : i < 4) : mWdC[i]? = some (.string ⟨(mWd i).toArray⟩) := by
  have : i = 0 ∨ i = 1 ∨ i = 2 ∨ i = 3 := by omega
  rcases this with rfl | rfl | rfl | rfl <;> rfl
theorem mWd_len (i : Nat) (h : i < 4) : 0 < (mWd i).length ∧ (mWd i).length ≤ 100 := by
  have : i = 0 ∨ i = 1 ∨ i = 2 ∨ i = 3 := by omega
  rcases this with rfl | rfl | rfl | rfl <;> decide
def aWS : List (List UInt8) := [[97, 97, 100, 100], [97, 111, 114], [97, 97, 110, 100], [97, 120, 111, 114], [97, 102, 97, 100, 100], [97, 102, 111, 114], [97, 102, 97, 110, 100], [97, 102, 120, 111, 114], [97, 120, 99, 104, 103], [97, 99, 109, 112, 120, 99, 104, 103]]
def aW (i : Nat) : List UInt8 := aWS.getD i []
def aWC : Array Value := #[.string ⟨#[97, 97, 100, 100]⟩, .string ⟨#[97, 111, 114]⟩, .string ⟨#[97, 97, 110, 100]⟩, .string ⟨#[97, 120, 111, 114]⟩, .string ⟨#[97, 102, 97, 100, 100]⟩, .string ⟨#[97, 102, 111, 114]⟩, .string ⟨#[97, 102, 97, 110, 100]⟩, .string ⟨#[97, 102, 120, 111, 114]⟩, .string ⟨#[97, 120, 99, 104, 103]⟩, .string ⟨#[97, 99, 109, 112, 120, 99, 104, 103]⟩]
theorem aW_at (i : Nat) (h : i < 10) : aWC[i]? = some (.string ⟨(aW i).toArray⟩) := by
  have : i = 0 ∨ i = 1 ∨ i = 2 ∨ i = 3 ∨ i = 4 ∨ i = 5 ∨ i = 6 ∨ i = 7 ∨ i = 8 ∨ i = 9 := by omega
  rcases this with rfl | rfl | rfl | rfl | rfl | rfl | rfl | rfl | rfl | rfl <;> rfl
theorem aW_len (i : Nat) (h : i < 10) : 0 < (aW i).length ∧ (aW i).length ≤ 100 := by
  have : i = 0 ∨ i = 1 ∨ i = 2 ∨ i = 3 ∨ i = 4 ∨ i = 5 ∨ i = 6 ∨ i = 7 ∨ i = 8 ∨ i = 9 := by omega
  rcases this with rfl | rfl | rfl | rfl | rfl | rfl | rfl | rfl | rfl | rfl <;> decide
def aIS : List Int := [0, 64, 80, 160, 1, 65, 81, 161, 225, 241]
def aI (i : Nat) : Int := aIS.getD i 0
def aIC : Array Value := #[.int .i64 0, .int .i64 64, .int .i64 80, .int .i64 160, .int .i64 1, .int .i64 65, .int .i64 81, .int .i64 161, .int .i64 225, .int .i64 241]
theorem aI_at (i : Nat) (h : i < 10) : aIC[i]? = some (.int .i64 (aI i)) := by
  have : i = 0 ∨ i = 1 ∨ i = 2 ∨ i = 3 ∨ i = 4 ∨ i = 5 ∨ i = 6 ∨ i = 7 ∨ i = 8 ∨ i = 9 := by omega
  rcases this with rfl | rfl | rfl | rfl | rfl | rfl | rfl | rfl | rfl | rfl <;> rfl
theorem aI_bd (i : Nat) (h : i < 10) : 0 ≤ aI i ∧ aI i ≤ 900 := by
  have : i = 0 ∨ i = 1 ∨ i = 2 ∨ i = 3 ∨ i = 4 ∨ i = 5 ∨ i = 6 ∨ i = 7 ∨ i = 8 ∨ i = 9 := by omega
  rcases this with rfl | rfl | rfl | rfl | rfl | rfl | rfl | rfl | rfl | rfl <;> decide
def jWS : List (List UInt8) := [[106, 101, 113], [106, 103, 116], [106, 103, 101], [106, 115, 101, 116], [106, 110, 101], [106, 115, 103, 116], [106, 115, 103, 101], [106, 108, 116], [106, 108, 101], [106, 115, 108, 116], [106, 115, 108, 101]]
def jW (i : Nat) : List UInt8 := jWS.getD i []
def jWC : Array Value := #[.string ⟨#[106, 101, 113]⟩, .string ⟨#[106, 103, 116]⟩, .string ⟨#[106, 103, 101]⟩, .string ⟨#[106, 115, 101, 116]⟩, .string ⟨#[106, 110, 101]⟩, .string ⟨#[106, 115, 103, 116]⟩, .string ⟨#[106, 115, 103, 101]⟩, .string ⟨#[106, 108, 116]⟩, .string ⟨#[106, 108, 101]⟩, .string ⟨#[106, 115, 108, 116]⟩, .string ⟨#[106, 115, 108, 101]⟩]
theorem jW_at (i : Nat) (h : i < 11) : jWC[i]? = some (.string ⟨(jW i).toArray⟩) := by
  have : i = 0 ∨ i = 1 ∨ i = 2 ∨ i = 3 ∨ i = 4 ∨ i = 5 ∨ i = 6 ∨ i = 7 ∨ i = 8 ∨ i = 9 ∨ i = 10 := by omega
  rcases this with rfl | rfl | rfl | rfl | rfl | rfl | rfl | rfl | rfl | rfl | rfl <;> rfl
theorem jW_len (i : Nat) (h : i < 11) : 0 < (jW i).length ∧ (jW i).length ≤ 100 := by
  have : i = 0 ∨ i = 1 ∨ i = 2 ∨ i = 3 ∨ i = 4 ∨ i = 5 ∨ i = 6 ∨ i = 7 ∨ i = 8 ∨ i = 9 ∨ i = 10 := by omega
  rcases this with rfl | rfl | rfl | rfl | rfl | rfl | rfl | rfl | rfl | rfl | rfl <;> decide
def jCS : List Int := [16, 32, 48, 64, 80, 96, 112, 160, 176, 192, 208]
def jC (i : Nat) : Int := jCS.getD i 0
def jCC : Array Value := #[.int .i64 16, .int .i64 32, .int .i64 48, .int .i64 64, .int .i64 80, .int .i64 96, .int .i64 112, .int .i64 160, .int .i64 176, .int .i64 192, .int .i64 208]
theorem jC_at (i : Nat) (h : i < 11) : jCC[i]? = some (.int .i64 (jC i)) := by
  have : i = 0 ∨ i = 1 ∨ i = 2 ∨ i = 3 ∨ i = 4 ∨ i = 5 ∨ i = 6 ∨ i = 7 ∨ i = 8 ∨ i = 9 ∨ i = 10 := by omega
  rcases this with rfl | rfl | rfl | rfl | rfl | rfl | rfl | rfl | rfl | rfl | rfl <;> rfl
theorem jC_bd (i : Nat) (h : i < 11) : 0 ≤ jC i ∧ jC i ≤ 900 := by
  have : i = 0 ∨ i = 1 ∨ i = 2 ∨ i = 3 ∨ i = 4 ∨ i = 5 ∨ i = 6 ∨ i = 7 ∨ i = 8 ∨ i = 9 ∨ i = 10 := by omega
  rcases this with rfl | rfl | rfl | rfl | rfl | rfl | rfl | rfl | rfl | rfl | rfl <;> decide
theorem sA (i : Nat) (h : i < 12) : rwA.take (2 * (i + 1)) = rwA.take (2 * i) ++ bothL (sW i) 1 (sC i) 0 := by
  have : i = 0 ∨ i = 1 ∨ i = 2 ∨ i = 3 ∨ i = 4 ∨ i = 5 ∨ i = 6 ∨ i = 7 ∨ i = 8 ∨ i = 9 ∨ i = 10 ∨ i = 11 := by omega
  rcases this with rfl | rfl | rfl | rfl | rfl | rfl | rfl | rfl | rfl | rfl | rfl | rfl <;> decide
theorem sE (i : Nat) (h : i < 3) : rwC.take (3 * (i + 1)) = rwC.take (3 * i) ++ [⟨eW i ++ [49, 54], 3, eC i, 0, 16⟩] ++ [⟨eW i ++ [51, 50], 3, eC i, 0, 32⟩] ++ [⟨eW i ++ [54, 52], 3, eC i, 0, 64⟩] := by
  have : i = 0 ∨ i = 1 ∨ i = 2 := by omega
  rcases this with rfl | rfl | rfl <;> decide
theorem sM (i : Nat) (h : i < 4) : rwD.take (3 * (i + 1)) = rwD.take (3 * i) ++ [⟨[108, 100, 120] ++ mWd i, 4, 97 + 8 * (i : Int), 0, 0⟩] ++ [⟨[115, 116] ++ mWd i, 5, 98 + 8 * (i : Int), 0, 0⟩] ++ [⟨[115, 116, 120] ++ mWd i, 6, 99 + 8 * (i : Int), 0, 0⟩] := by
  have : i = 0 ∨ i = 1 ∨ i = 2 ∨ i = 3 := by omega
  rcases this with rfl | rfl | rfl | rfl <;> decide
theorem sF (i : Nat) (h : i < 10) : rwF.take (2 * (i + 1)) = rwF.take (2 * i) ++ [⟨aW i, 6, 219, 0, aI i⟩] ++ [⟨aW i ++ [51, 50], 6, 195, 0, aI i⟩] := by
  have : i = 0 ∨ i = 1 ∨ i = 2 ∨ i = 3 ∨ i = 4 ∨ i = 5 ∨ i = 6 ∨ i = 7 ∨ i = 8 ∨ i = 9 := by omega
  rcases this with rfl | rfl | rfl | rfl | rfl | rfl | rfl | rfl | rfl | rfl <;> decide
theorem sG (i : Nat) (h : i < 11) : rwG.take (2 * (i + 1)) = rwG.take (2 * i) ++ bothL (jW i) 8 (jC i) 0 := by
  have : i = 0 ∨ i = 1 ∨ i = 2 ∨ i = 3 ∨ i = 4 ∨ i = 5 ∨ i = 6 ∨ i = 7 ∨ i = 8 ∨ i = 9 ∨ i = 10 := by omega
  rcases this with rfl | rfl | rfl | rfl | rfl | rfl | rfl | rfl | rfl | rfl | rfl <;> decide
theorem blk_out {w w' : World} {q : Nat} {O : Obj} (o : Out w w') (h : w.heap[q]? = some O) : w'.heap[q]? = some O := (o.block q (Array.getElem?_eq_some_iff.1 h).1).trans h
end Go.Proofs.YtcomhlimgocoaaaGreatDoor
