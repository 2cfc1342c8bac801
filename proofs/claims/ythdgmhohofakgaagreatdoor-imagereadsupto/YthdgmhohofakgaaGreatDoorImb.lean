import Derived.Test.YthdgmhohofakgaaGreatDoorIma
import Derived.Test.YthdgmhohofakgaaGreatDoorImx
namespace Go.Proofs.YthdgmhohofakgaaGreatDoor
open Go.RowKit
set_option linter.unusedVariables false
set_option linter.unusedSimpArgs false
/-- a number in four bytes, the lowest first -/
def b1 (x : Int) : UInt8 := UInt8.ofNat (x % 256).toNat
def b4 (x : Int) : List UInt8 := [b1 x, b1 (x / 256), b1 (x / 65536), b1 (x / 16777216)]
def fldI (x : Ins) : Int := x.o + 256 * x.d + 4096 * x.s + 65536 * x.f
def insB (x : Ins) : List UInt8 := b4 (fldI x) ++ (b4 x.i ++ (if isW x.o then b4 0 ++ b4 (x.i / 4294967296) else []))
def txtB (T : List Ins) : List UInt8 := T.flatMap insB
def allN (m : Img) : List (List UInt8) := m.F.map Fn.nm ++ m.D.map Td.nm
def tabM (m : Img) : List (List UInt8) := namesF (allN m)
def bodP (T : List Ins) (x : Fn) : List Ins := (T.drop x.fi.toNat).take x.ct.toNat
def fnRow (N : List (List UInt8)) (slot cnt : Nat) (x : Fn) : List UInt8 := b4 (plF 1 N x.nm : Nat) ++ (b4 x.ob ++ (b4 (slot : Nat) ++ b4 (cnt : Nat)))
def fnsB (T : List Ins) (N : List (List UInt8)) : Nat → List Fn → List UInt8
  | _, [] => []
  | s, x :: r => fnRow N s (slotsP (bodP T x)) x ++ fnsB T N (s + slotsP (bodP T x)) r
def tdRow (N : List (List UInt8)) (x : Td) : List UInt8 := b4 (plF 1 N x.nm : Nat) ++ (b4 x.kd ++ (b4 x.ky ++ (b4 x.vl ++ b4 x.en)))
def tdsB (N : List (List UInt8)) (D : List Td) : List UInt8 := D.flatMap (tdRow N)
def opB : List UInt8 := [83, 80, 73, 78, 1, 0, 0, 0]
def hdB (s f d n : Nat) (e : Int) : List UInt8 := opB ++ (b4 s ++ (b4 f ++ (b4 d ++ (b4 n ++ b4 e))))
def wrB (m : Img) : List UInt8 := hdB (slotsP m.T) m.F.length m.D.length (byP (tabM m)).length m.en ++ (txtB m.T ++ (fnsB m.T (tabM m) 0 m.F ++ (tdsB (tabM m) m.D ++ byP (tabM m))))
theorem b4_len (x : Int) : (b4 x).length = 4 := rfl
theorem insB_len (x : Ins) : (insB x).length = if isW x.o then 16 else 8 := by
  unfold insB; cases isW x.o <;> simp [b4_len]
theorem slots_cons (x : Ins) (r : List Ins) : slotsP (x :: r) = (if isW x.o then 2 else 1) + slotsP r := by
  unfold slotsP; cases h : isW x.o <;> simp [List.filter_cons, h] <;> omega
theorem slots_app (A B : List Ins) : slotsP (A ++ B) = slotsP A + slotsP B := by
  unfold slotsP; simp [List.filter_append]; omega
theorem txtB_len (T : List Ins) : (txtB T).length = 8 * slotsP T := by
  induction T with
  | nil => rfl
  | cons x r ih =>
    show (insB x ++ txtB r).length = _
    rw [List.length_append, ih, insB_len, slots_cons]; split <;> omega
theorem txtB_app (A B : List Ins) : txtB (A ++ B) = txtB A ++ txtB B := by simp [txtB]
theorem fnRow_len (N : List (List UInt8)) (s c : Nat) (x : Fn) : (fnRow N s c x).length = 16 := by simp [fnRow, b4_len]
theorem fnsB_len (T : List Ins) (N : List (List UInt8)) : ∀ (F : List Fn) (s : Nat), (fnsB T N s F).length = 16 * F.length
  | [], _ => rfl
  | x :: r, s => by rw [fnsB, List.length_append, fnRow_len, fnsB_len T N r]; simp; omega
theorem tdRow_len (N : List (List UInt8)) (x : Td) : (tdRow N x).length = 20 := by simp [tdRow, b4_len]
theorem tdsB_len (N : List (List UInt8)) (D : List Td) : (tdsB N D).length = 20 * D.length := by
  induction D with
  | nil => rfl
  | cons x r ih => show (tdRow N x ++ tdsB N r).length = _; rw [List.length_append, tdRow_len, ih]; simp; omega
theorem hdB_len (s f d n : Nat) (e : Int) : (hdB s f d n e).length = 28 := by simp [hdB, opB, b4_len]
def sizP (s f d n : Nat) : Nat := 28 + 8 * s + 16 * f + 20 * d + n
theorem wrB_len (m : Img) : (wrB m).length = sizP (slotsP m.T) m.F.length m.D.length (byP (tabM m)).length := by
  simp only [wrB, List.length_append, hdB_len, txtB_len, fnsB_len, tdsB_len, sizP]; omega
/-- a number of four bytes at a place -/
def g1 (l : List UInt8) (p : Nat) : Nat := (l.getD p 0).toNat
def g4 (l : List UInt8) (p : Nat) : Nat := g1 l p + 256 * g1 l (p + 1) + 65536 * g1 l (p + 2) + 16777216 * g1 l (p + 3)
def sxP (m v : Int) : Int := if v < m then v else v - 2 * m
def insR (l : List UInt8) (p : Nat) : Ins := ⟨(g4 l p : Int) % 256, (g4 l p : Int) / 256 % 16, (g4 l p : Int) / 4096 % 16, sxP 32768 ((g4 l p : Int) / 65536), sxP 2147483648 (g4 l (p + 4) : Int)⟩
def widR (l : List UInt8) (p : Nat) : Ins := { insR l p with i := (g4 l (p + 4) : Int) + 4294967296 * sxP 2147483648 (g4 l (p + 12) : Int) }
def tz4 (v : Nat) : Nat := if v % 256 ≠ 0 then 0 else if v / 256 % 256 ≠ 0 then 1 else if v / 65536 % 256 ≠ 0 then 2 else 3
/-- the second pass: j slots from a place on: the instructions, or the place of the fault -/
def txR (l : List UInt8) : Nat → Nat → Except Nat (List Ins)
  | 0, _ => .ok []
  | j + 1, p => if isW (insR l p).o then
      (match j with
       | 0 => .error p
       | i + 1 => if g4 l (p + 8) ≠ 0 then .error (p + 8 + tz4 (g4 l (p + 8))) else (txR l i (p + 16)).map (widR l p :: ·))
    else (txR l j (p + 8)).map (insR l p :: ·)
/-- the name at a place, and where the next new one begins -/
def nmT (N : List (List UInt8)) (nx pl : Nat) : Option (List UInt8 × Nat) :=
  if pl < 1 ∨ nx < pl then none else match atF 1 N pl with | none => none | some x => some (x, if pl = nx then nx + x.length + 1 else nx)
/-- how many instructions at the front take so many slots, and how many they take -/
def cntO : List Ins → Nat → Nat × Nat
  | [], _ => (0, 0)
  | x :: r, s => if s = 0 then (0, 0) else ((cntO r (s - (if isW x.o then 2 else 1))).1 + 1, (cntO r (s - (if isW x.o then 2 else 1))).2 + (if isW x.o then 2 else 1))
/-- functions -/
def fnR (l : List UInt8) (N : List (List UInt8)) (T : List Ins) : Nat → Nat → Nat → Nat → Nat → Except Nat (List Fn × Nat)
  | 0, _, _, _, nx => .ok ([], nx)
  | j + 1, p, fi, sl, nx => match nmT N nx (g4 l p) with
    | none => .error p
    | some (x, nx') => if g4 l (p + 8) ≠ sl then .error (p + 8)
      else if (cntO (T.drop fi) (g4 l (p + 12))).2 ≠ g4 l (p + 12) ∨ g4 l (p + 12) = 0 then .error (p + 12)
      else (fnR l N T j (p + 16) (fi + (cntO (T.drop fi) (g4 l (p + 12))).1) (sl + g4 l (p + 12)) nx').map (fun r => (⟨x, g4 l (p + 4), fi, (cntO (T.drop fi) (g4 l (p + 12))).1⟩ :: r.1, r.2))
def tdR (l : List UInt8) (N : List (List UInt8)) : Nat → Nat → Nat → Except Nat (List Td × Nat)
  | 0, _, nx => .ok ([], nx)
  | j + 1, p, nx => match nmT N nx (g4 l p) with
    | none => .error p
    | some (x, nx') => (tdR l N j (p + 20) nx').map (fun r => (⟨x, g4 l (p + 4), g4 l (p + 8), g4 l (p + 12), g4 l (p + 16)⟩ :: r.1, r.2))
/-- the four passes: the image, or the place of the fault -/
def hdF (l : List UInt8) : Option Nat := if l.length < 28 then some l.length else match fstB (fun k => l.getD k 0 != opB.getD k 0) 8 with | some k => some k | none => if sizP (g4 l 8) (g4 l 12) (g4 l 16) (g4 l 20) ≠ l.length then some 8 else none
def enR (l : List UInt8) (T : List Ins) (N : List (List UInt8)) : Except Nat Img :=
  match fnR l N T (g4 l 12) (28 + 8 * g4 l 8) 0 0 1 with
  | .error p => .error p
  | .ok (F, nx) => match tdR l N (g4 l 16) (28 + 8 * g4 l 8 + 16 * g4 l 12) nx with
    | .error p => .error p
    | .ok (D, ny) => if ny < g4 l 20 then .error (l.length - g4 l 20 + ny) else .ok ⟨T, F, D, g4 l 24⟩
def pasR (l : List UInt8) : Except Nat Img :=
  match hdF l with
  | some p => .error p
  | none => match txR l (g4 l 8) 28 with
    | .error p => .error p
    | .ok T => match rdP (l.drop (l.length - g4 l 20)) with
      | (none, p) => .error (l.length - g4 l 20 + p)
      | (some N, _) => enR l T N
def nilM : Img := ⟨[], [], [], 0⟩
/-- what Read answers -/
def rdI (l : List UInt8) : Img × Nat × Int := match pasR l with | .error p => (nilM, p, 170) | .ok m => if (ckP m).2 = 0 then (m, 0, 0) else (nilM, (ckP m).1, (ckP m).2)
end Go.Proofs.YthdgmhohofakgaaGreatDoor
