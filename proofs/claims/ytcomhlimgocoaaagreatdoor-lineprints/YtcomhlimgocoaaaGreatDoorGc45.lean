import Derived.Test.YtcomhlimgocoaaaGreatDoorGc44
import Derived.Deep.DeepCutAuto
import Derived.Test.YtcomhlimgocoaaaGreatDoorGc37
import Derived.Test.YtcomhlimgocoaaaGreatDoorGc20
import Derived.Test.YtcomhlimgocoaaaGreatDoorGc03
namespace Go.Proofs.YtcomhlimgocoaaaGreatDoor
open Go.RowKit
set_option linter.unusedVariables false
set_option linter.unusedSimpArgs false
set_option maxRecDepth 8000 in
set_option maxHeartbeats 4000000 in
theorem lawful4_any (L : List UInt8) (sh op off imm o d s f i : Int) (h0 : 0 ≤ op) (h1 : op ≤ 1000) (s1 : 1 ≤ sh) (s2 : sh ≤ 12) (w : World) : Calls Tryz.prog 60 #[.agg #[.string ⟨L.toArray⟩, .int .i64 sh, .int .i64 op, .int .i64 off, .int .i64 imm], .agg #[.int .i64 o, .int .i64 d, .int .i64 s, .int .i64 f, .int .i64 i]] w fun e w' => e = .returned (.bool (lawR ⟨L, sh, op, off, imm⟩ o d s f i)) ∧ Out w w' := by
  have CU := hidOf (fun wx => uses4_any L sh op off imm o d s f i h0 h1 s1 s2 wx)
  have HL : Hid (lawR ⟨L, sh, op, off, imm⟩ o d s f i = ((d == 0 || (usR ⟨L, sh, op, off, imm⟩ o).1 && inR d 0 10) && (s == 0 || (usR ⟨L, sh, op, off, imm⟩ o).2.1 && inR s 0 10 || s == 1 && (sh == 9 || sh == 12)) && (f == off || (usR ⟨L, sh, op, off, imm⟩ o).2.2.1 && inR f (-32768) 32767) && ((usR ⟨L, sh, op, off, imm⟩ o).2.2.2 && (inR i (-2147483648) 2147483647 || sh == 11) || !(usR ⟨L, sh, op, off, imm⟩ o).2.2.2 && i == imm))) := hidOf rfl
  generalize lawR ⟨L, sh, op, off, imm⟩ o d s f i = RES at *
  generalize (usR ⟨L, sh, op, off, imm⟩ o).1 = u0 at *
  generalize (usR ⟨L, sh, op, off, imm⟩ o).2.1 = u1 at *
  generalize (usR ⟨L, sh, op, off, imm⟩ o).2.2.1 = u2 at *
  generalize (usR ⟨L, sh, op, off, imm⟩ o).2.2.2 = u3 at *
  obtain ⟨X0, hX0⟩ : ∃ X0, X0 = inR d 0 10 := ⟨_, rfl⟩
  obtain ⟨X1, hX1⟩ : ∃ X1, X1 = inR s 0 10 := ⟨_, rfl⟩
  obtain ⟨X2, hX2⟩ : ∃ X2, X2 = inR f (-32768) 32767 := ⟨_, rfl⟩
  obtain ⟨X3, hX3⟩ : ∃ X3, X3 = inR i (-2147483648) 2147483647 := ⟨_, rfl⟩
  have CX0 : Hid (∀ wx, Calls Tryz.prog 101 #[.int .i64 d, .int .i64 0, .int .i64 10] wx fun e w' => e = .returned (.bool X0) ∧ wx = w') := hidOf (fun wx => by rw [hX0]; exact within4 d 0 10 wx)
  have CX1 : Hid (∀ wx, Calls Tryz.prog 101 #[.int .i64 s, .int .i64 0, .int .i64 10] wx fun e w' => e = .returned (.bool X1) ∧ wx = w') := hidOf (fun wx => by rw [hX1]; exact within4 s 0 10 wx)
  have CX2 : Hid (∀ wx, Calls Tryz.prog 101 #[.int .i64 f, .int .i64 (-32768), .int .i64 32767] wx fun e w' => e = .returned (.bool X2) ∧ wx = w') := hidOf (fun wx => by rw [hX2]; exact within4 f (-32768) 32767 wx)
  have CX3 : Hid (∀ wx, Calls Tryz.prog 101 #[.int .i64 i, .int .i64 (-2147483648), .int .i64 2147483647] wx fun e w' => e = .returned (.bool X3) ∧ wx = w') := hidOf (fun wx => by rw [hX3]; exact within4 i (-2147483648) 2147483647 wx)
  rw [← hX0, ← hX1, ← hX2, ← hX3] at HL
  clear hX0 hX1 hX2 hX3
  obtain ⟨D0, hD0⟩ : ∃ D0, D0 = (d == 0 || u0 && X0) := ⟨_, rfl⟩
  obtain ⟨D1, hD1⟩ : ∃ D1, D1 = (s == 0 || u1 && X1 || s == 1 && (sh == 9 || sh == 12)) := ⟨_, rfl⟩
  obtain ⟨D2, hD2⟩ : ∃ D2, D2 = (f == off || u2 && X2) := ⟨_, rfl⟩
  obtain ⟨D3, hD3⟩ : ∃ D3, D3 = (u3 && (X3 || sh == 11) || !u3 && i == imm) := ⟨_, rfl⟩
  rw [← hD0, ← hD1, ← hD2, ← hD3] at HL
  have HD0 := hidOf hD0
  have HD1 := hidOf hD1
  have HD2 := hidOf hD2
  have HD3 := hidOf hD3
  clear hD0 hD1 hD2 hD3 s1 s2
  go_enter Tryz.func60, Tryz.ntmps60
  go_upto_region 1 with fail
  obtain ⟨wB, hwB⟩ : ∃ wB, wB = (w.alloc (.cells #[.string ⟨L.toArray⟩, .int .i64 sh, .int .i64 op, .int .i64 off, .int .i64 imm] 67)).alloc (.cells #[.int .i64 o, .int .i64 d, .int .i64 s, .int .i64 f, .int .i64 i] 25) := ⟨_, rfl⟩
  obtain ⟨qi, hqi⟩ : ∃ qi, qi = w.heap.size + 1 := ⟨_, rfl⟩
  obtain ⟨qr, hqr⟩ : ∃ qr, qr = w.heap.size := ⟨_, rfl⟩
  have hRI : RI wB qr qi L sh op off imm o d s f i := by rw [hwB, hqi, hqr]; exact RI.new w L sh op off imm o d s f i
  have oB : Out w wB := by rw [hwB]; exact ((Out.refl w).alloc _).alloc _
  rw [← hwB, ← hqi, ← hqr]
  have HRI := hidOf hRI
  have OB := hidOf oB
  obtain ⟨⟨a0, a1, a2, a3, a4⟩, b0, b1, b2, b3, b4⟩ := hRI.cells
  clear hwB hqi hqr hRI oB
  go_upto_region 2 with (go_at_call 100; refine (CU.out _).mono ?_; rintro e w1 ⟨rfl, ho⟩; have O1 := hidOf ho; clear ho)
  obtain ⟨qu, hqu⟩ : ∃ qu, qu = w1.heap.size := ⟨_, rfl⟩
  obtain ⟨wU, hwU⟩ : ∃ wU, wU = w1.alloc (.cells #[.bool u0, .bool u1, .bool u2, .bool u3] 137) := ⟨_, rfl⟩
  have hU : wU.heap[qu]? = some (.cells #[.bool u0, .bool u1, .bool u2, .bool u3] 137 (0, 0)) := by rw [hwU, hqu]; exact heap_alloc_new w1 _
  have oU : Out wB wU := by rw [hwU]; exact O1.out.alloc _
  rw [← hwU, ← hqu]
  have OU := hidOf (OB.out.trans oU)
  clear a0 a1 a2 a3 a4 b0 b1 b2 b3 b4
  obtain ⟨⟨a0, a1, a2, a3, a4⟩, b0, b1, b2, b3, b4⟩ := (HRI.out.on oU).cells
  have v0 : wU.cell? ⟨qu, 0, none⟩ = some (.bool u0) := by rw [cell_atL hU]; rfl
  have v1 : wU.cell? ⟨qu, 1, none⟩ = some (.bool u1) := by rw [cell_atL hU]; rfl
  have v2 : wU.cell? ⟨qu, 2, none⟩ = some (.bool u2) := by rw [cell_atL hU]; rfl
  have v3 : wU.cell? ⟨qu, 3, none⟩ = some (.bool u3) := by rw [cell_atL hU]; rfl
  clear hqu hwU hU oU O1 OB HRI CU
  go_cut [6] (fun s6 wx => s6 = .bool D0 ∧ wU = wx)
  case first =>
    cases k1 : (d == 0) <;> cases u0 <;> cases X0
    all_goals
      go_wp2_with (go_at_call 101; refine (CX0.out _).mono ?_; rintro e w2 ⟨rfl, hw⟩; subst hw)
      go_meet
      exact ⟨by rw [HD0.out, k1]; rfl, rfl⟩
  case rest =>
    obtain ⟨rfl, rfl⟩ := hcut
    go_upto_region 3 with fail
    go_cut [7] (fun s7 wx => s7 = .bool D1 ∧ wU = wx)
    case first =>
      cases k1 : (s == 0) <;> cases u1 <;> cases X1 <;> cases k2 : (s == 1) <;> cases k3 : (sh == 9)
      all_goals
        go_wp2_with (go_at_call 101; refine (CX1.out _).mono ?_; rintro e w2 ⟨rfl, hw⟩; subst hw)
        go_meet
        exact ⟨by rw [HD1.out, k1, k2, k3]; rfl, rfl⟩
    case rest =>
      obtain ⟨rfl, rfl⟩ := hcut
      go_upto_region 4 with fail
      go_cut [8] (fun s8 wx => s8 = .bool D2 ∧ wU = wx)
      case first =>
        cases k1 : (f == off) <;> cases u2 <;> cases X2
        all_goals
          go_wp2_with (go_at_call 101; refine (CX2.out _).mono ?_; rintro e w2 ⟨rfl, hw⟩; subst hw)
          go_meet
          exact ⟨by rw [HD2.out, k1]; rfl, rfl⟩
      case rest =>
        obtain ⟨rfl, rfl⟩ := hcut
        go_upto_region 5 with fail
        go_cut [9] (fun s9 wx => s9 = .bool D3 ∧ wU = wx)
        case first =>
          cases u3 <;> cases X3 <;> cases k1 : (sh == 11)
          all_goals
            go_wp2_with (go_at_call 101; refine (CX3.out _).mono ?_; rintro e w2 ⟨rfl, hw⟩; subst hw)
            go_meet
            exact ⟨by rw [HD3.out, k1]; rfl, rfl⟩
        case rest =>
          obtain ⟨rfl, rfl⟩ := hcut
          cases D0 <;> cases D1 <;> cases D2
          all_goals
            go_wp2
            go_ret
            exact ⟨by rw [HL.out]; rfl, OU.out⟩
end Go.Proofs.YtcomhlimgocoaaaGreatDoor
namespace Go.Proofs.YtcomhlimgocoaaaGreatDoor
open Go.RowKit
set_option linter.unusedVariables false
set_option linter.unusedSimpArgs false
def placeR (k : Int) (f : Int) : List UInt8 := placeTx k.toNat f
def lineR (r : Rw) (o d s f i : Int) (t : List UInt8) : List UInt8 :=
  if r.sh = 1 ∨ r.sh = 11 then r.w ++ 32 :: (regL d.toNat ++ 44 :: 32 :: (if twoR r && o != r.op then regL s.toNat else Lib.itoa i))
  else if r.sh = 2 then r.w ++ 32 :: (regL d.toNat ++ 44 :: 32 :: regL s.toNat) else if r.sh = 3 then r.w ++ 32 :: regL d.toNat
  else if r.sh = 4 then r.w ++ 32 :: (regL d.toNat ++ 44 :: 32 :: placeR s f) else if r.sh = 5 then r.w ++ 32 :: (placeR d f ++ 44 :: 32 :: (if twoR r && o != r.op then regL s.toNat else Lib.itoa i))
  else if r.sh = 6 then r.w ++ 32 :: (placeR d f ++ 44 :: 32 :: regL s.toNat) else if r.sh = 7 then r.w ++ 32 :: t
  else if r.sh = 8 then r.w ++ 32 :: (regL d.toNat ++ 44 :: 32 :: ((if twoR r && o != r.op then regL s.toNat else Lib.itoa i) ++ 44 :: 32 :: t))
  else if r.sh = 9 then r.w ++ 32 :: (if (tgtR o s f i).1 then t else (if twoR r && o != r.op then regL s.toNat else Lib.itoa i)) else if r.sh = 12 then r.w ++ 32 :: (regL d.toNat ++ 44 :: 32 :: t) else r.w
def rprintP (o d s f i : Int) (t : List UInt8) : List UInt8 × Int :=
  match findR o d s f i with
  | none => ([], if (pickO o).isEmpty then 20 else 21)
  | some r => if (tgtR o s f i).1 && (!nameP t || (tgtR o s f i).2 != 0) || !(tgtR o s f i).1 && !t.isEmpty then ([], 41) else (lineR r o d s f i t, 0)
/-- the rows of an opcode, by the program's own tables -/
def bOp (o : Int) : Int := if hasSrc o then o - 8 else o
def offsO (op : Int) : List Int := if bits .and .i64 op 240 == 48 then [1] else if bits .and .i64 op 240 == 144 then [1] else if bits .and .i64 op 240 == 176 && hasSrc op then (if op == 191 then [8, 16, 32] else [8, 16]) else []
def expO (o : Int) : List Rw :=
  if formP o == 3 then ⟨wReck o 0 0, 1, bOp o, 0, 0⟩ :: (offsO o).map (fun x => ⟨wOff o x, if x == 1 then 1 else 2, if x == 1 then bOp o else o, x, 0⟩)
  else if formP o == 2 then (if ordersP o then [16, 32, 64].map (fun x => ⟨wImm o x, 3, o, 0, x⟩) else [⟨wReck o 0 0, 3, o, 0, 0⟩])
  else if formP o == 4 then [⟨wMem o 0, 4, o, 0, 0⟩] else if formP o == 5 then [⟨wMem o 0, if useS o 5 then 6 else 5, o, 0, 0⟩]
  else if formP o == 6 then immsT.map (fun x => ⟨wImm o x, 6, o, 0, x⟩) else if formP o == 8 then [⟨pick2 jumpT (shrO o) (cls o == 6), 8, bOp o, 0, 0⟩]
  else if formP o == 10 then [⟨[108, 100, 100, 119], 11, 24, 0, 0⟩, ⟨[108, 100, 109, 97, 112], 12, 24, 0, 0⟩]
  else [⟨pick2 jumpT (shrO o) (cls o == 6), if formP o == 7 then 7 else if formP o == 9 then 9 else 10, o, 0, 0⟩]
theorem form_mem4 (op : Int) (h : ¬ formP op = 0) : ∃ l ∈ opsT, op ∈ l := by
  apply Classical.byContradiction
  intro hn
  exact h (formIn_none op opsT 0 (fun x hx hop => hn ⟨x, hx, hop⟩))
theorem pick_kinds : ∀ l ∈ opsT, ∀ o ∈ l, pickO o = expO o := by decide +kernel
theorem pick_in : ∀ n : Nat, n < 256 → (formP (n : Int) = 0) → pickO (n : Int) = [] := by decide +kernel
theorem op_bd : ∀ r ∈ rowsAll, 0 ≤ r.op ∧ r.op + 8 < 256 := by decide +kernel
theorem pick_none (o : Int) (h : formP o = 0) : pickO o = [] := by
  by_cases h0 : 0 ≤ o ∧ o < 256
  · have := pick_in o.toNat (by omega)
    rw [show ((o.toNat : Nat) : Int) = o by omega] at this
    exact this h
  · unfold pickO
    rw [List.filter_eq_nil_iff]
    intro r hr
    have := op_bd r hr
    simp only [opR, twoR, Bool.or_eq_true, Bool.and_eq_true, beq_iff_eq]
    omega
end Go.Proofs.YtcomhlimgocoaaaGreatDoor
