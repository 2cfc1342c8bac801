import Derived.Test.YthdgmhohofakgaaGreatDoorEa
namespace Go.Proofs.YthdgmhohofakgaaGreatDoor
open Go.RowKit
set_option linter.unusedVariables false
set_option linter.unusedSimpArgs false
def startP (l : List UInt8) : Bool := match l with | [] => false | c :: _ => kindP (bI c) == 3
def wordP (l : List UInt8) : Bool := decide (l.length ≤ 64) && startP l && l.all runU
/-- an instruction in plain words -/
structure Ins where
  o : Int
  d : Int
  s : Int
  f : Int
  i : Int
def isW (o : Int) : Bool := o == 24
def slotsP (l : List Ins) : Nat := l.length + (l.filter (fun x => isW x.o)).length
/-- a function of an image -/
structure Fn where
  nm : List UInt8
  ob : Int
  fi : Int
  ct : Int
/-- a table -/
structure Td where
  nm : List UInt8
  kd : Int
  ky : Int
  vl : Int
  en : Int
structure Img where
  T : List Ins
  F : List Fn
  D : List Td
  en : Int
/-- the first number below n of which p holds -/
def fstB (p : Nat → Bool) (n : Nat) : Option Nat := (List.range n).find? p
theorem fstB_none {p : Nat → Bool} {n : Nat} (h : ∀ j, j < n → p j = false) : fstB p n = none := by
  simp only [fstB, List.find?_eq_none, List.mem_range]
  intro x hx; simp [h x hx]
theorem fstB_some {p : Nat → Bool} {n k : Nat} (hk : k < n) (h : ∀ j, j < k → p j = false) (hp : p k = true) : fstB p n = some k := by
  have hr : List.range n = List.range k ++ (List.range' k (n - k)) := by
    rw [List.range_eq_range', List.range_eq_range', show n = k + (n - k) by omega, ← List.range'_append_1]; simp
  rw [fstB, hr, List.find?_append, show (List.range k).find? p = none from fstB_none h]
  obtain ⟨m, hm⟩ : ∃ m, n - k = m + 1 := ⟨n - k - 1, by omega⟩
  rw [hm, List.range'_succ, List.find?_cons, hp]; rfl
theorem fstB_out {p : Nat → Bool} {n : Nat} (h : fstB p n = none) : ∀ j, j < n → p j = false := by
  simp only [fstB, List.find?_eq_none, List.mem_range] at h
  intro j hj; simpa using h j hj
theorem fstB_in {p : Nat → Bool} {n k : Nat} (h : fstB p n = some k) : k < n ∧ p k = true := by
  have h1 := List.mem_of_find?_eq_some h
  have h2 := List.find?_some h
  exact ⟨by simpa using h1, h2⟩
theorem fstB_congr {p q : Nat → Bool} {n : Nat} (h : ∀ j, j < n → p j = q j) : fstB p n = fstB q n := by
  simp only [fstB]
  have : ∀ l : List Nat, (∀ x ∈ l, x < n) → l.find? p = l.find? q := by
    intro l; induction l with
    | nil => intro _; rfl
    | cons x r ih => intro hl; rw [List.find?_cons, List.find?_cons, h x (hl x (by simp)), ih (fun y hy => hl y (by simp [hy]))]
  exact this _ (fun x hx => by simpa using hx)
/-- point 1: counts -/
def cntP (m : Img) : Option Nat := if 1048576 < slotsP m.T then some 0 else if 4096 < m.F.length then some 1 else if 1024 < m.D.length then some 2 else none
/-- point 2: names -/
def fnW (x : Fn) : Bool := wordP x.nm && decide (0 ≤ x.ob) && decide (x.ob < 64)
def fnB (F : List Fn) (k : Nat) : Bool := match F[k]? with | none => false | some x => (F.take k).any (fun y => y.nm == x.nm && y.ob == x.ob) || !fnW x
def ahN (D : List Td) (k : Nat) : List UInt8 := match k with | 0 => [] | j + 1 => match D[j]? with | none => [] | some x => x.nm
def leS (a b : List UInt8) : Bool := Op.bytesLess a b || a == b
def tdB (D : List Td) (k : Nat) : Bool := match D[k]? with | none => false | some x => !wordP x.nm || leS x.nm (ahN D k)
def namP (m : Img) : Option Nat := match fstB (fnB m.F) m.F.length with | some k => some k | none => (fstB (tdB m.D) m.D.length).map (m.F.length + ·)
/-- point 3: functions -/
def bgn : List Fn → Int | [] => 0 | x :: r => x.ct + bgn r
def fcB (T : List Ins) (F : List Fn) (k : Nat) : Bool := match F[k]? with | none => false | some x => x.fi != bgn (F.take k) || decide (x.ct < 1) || decide ((T.length : Int) - bgn (F.take k) < x.ct)
def funP (m : Img) : Option Nat := match fstB (fcB m.T m.F) m.F.length with | some k => some k | none => if bgn m.F < m.T.length then some m.F.length else none
/-- point 4: tables -/
def szT (x : Td) : Int := x.en * (x.ky + (x.vl + 7) / 8 * 8 + 8)
def mayT (x : Td) : Bool := (x.kd == 1 && x.ky == 4 || x.kd == 2 && decide (1 ≤ x.ky) && decide (x.ky ≤ 64)) && (decide (1 ≤ x.vl) && decide (x.vl ≤ 4096)) && (decide (1 ≤ x.en) && decide (x.en ≤ 65536)) && decide (szT x ≤ 16777216)
def roomP : List Td → Int | [] => 0 | x :: r => szT x + roomP r
def shB (D : List Td) (k : Nat) : Bool := match D[k]? with | none => false | some x => !mayT x
def tabP (m : Img) : Option Nat := match fstB (shB m.D) m.D.length with | some k => some k | none => if 67108864 < roomP m.D then some m.D.length else none
/-- point 5, 6 -/
def entP (m : Img) : Option Nat := if m.en < 0 ∨ (m.F.length : Int) ≤ m.en then some 0 else none
def fitI (x : Ins) : Bool := (decide (0 ≤ x.o) && decide (x.o ≤ 255)) && (decide (0 ≤ x.d) && decide (x.d ≤ 15)) && (decide (0 ≤ x.s) && decide (x.s ≤ 15)) && (decide (-32768 ≤ x.f) && decide (x.f ≤ 32767)) && (isW x.o || (decide (-2147483648 ≤ x.i) && decide (x.i ≤ 2147483647)))
def inB (T : List Ins) (k : Nat) : Bool := match T[k]? with | none => false | some x => !fitI x
def insP (m : Img) : Option Nat := fstB (inB m.T) m.T.length
def ptE (r : Option Nat) (e : Int) (x : Nat × Int) : Nat × Int := match r with | some k => (k, e) | none => x
/-- what Check answers -/
def ckP (m : Img) : Nat × Int :=
  ptE (cntP m) 171 (ptE (namP m) 172 (ptE (funP m) 173 (ptE (tabP m) 174 (ptE (entP m) 175 (ptE (insP m) 176 (0, 0))))))
theorem bgn_app (A B : List Fn) : bgn (A ++ B) = bgn A + bgn B := by
  induction A with
  | nil => simp [bgn]
  | cons x r ih => simp [bgn, ih]; omega
theorem bgn_take {F : List Fn} {k : Nat} {x : Fn} (h : F[k]? = some x) : bgn (F.take (k + 1)) = bgn (F.take k) + x.ct := by
  rw [List.take_add_one, h, bgn_app]; simp [bgn]
theorem room_app (A B : List Td) : roomP (A ++ B) = roomP A + roomP B := by
  induction A with
  | nil => simp [roomP]
  | cons x r ih => simp [roomP, ih]; omega
theorem room_take {F : List Td} {k : Nat} {x : Td} (h : F[k]? = some x) : roomP (F.take (k + 1)) = roomP (F.take k) + szT x := by
  rw [List.take_add_one, h, room_app]; simp [roomP]
/-- functions so far cut the text -/
theorem bgn_le (T : List Ins) (F : List Fn) : ∀ k, k ≤ F.length → (∀ j, j < k → fcB T F j = false) → 0 ≤ bgn (F.take k) ∧ bgn (F.take k) ≤ T.length ∧ (k : Int) ≤ bgn (F.take k)
  | 0, _, _ => by simp [bgn]
  | k + 1, hk, h => by
    obtain ⟨h0, h1, h2⟩ := bgn_le T F k (by omega) (fun j hj => h j (by omega))
    obtain ⟨x, hx⟩ : ∃ x, F[k]? = some x := ⟨_, List.getElem?_eq_getElem (by omega)⟩
    have hb := h k (by omega)
    simp only [fcB, hx, Bool.or_eq_false_iff, bne_eq_false_iff_eq, decide_eq_false_iff_not] at hb
    rw [bgn_take hx]; omega
theorem mayT_in {x : Td} (h : mayT x = true) : (x.kd = 1 ∧ x.ky = 4 ∨ x.kd = 2 ∧ 1 ≤ x.ky ∧ x.ky ≤ 64) ∧ 1 ≤ x.vl ∧ x.vl ≤ 4096 ∧ 1 ≤ x.en ∧ x.en ≤ 65536 ∧ szT x ≤ 16777216 := by
  simp only [mayT, Bool.and_eq_true, Bool.or_eq_true, beq_iff_eq, decide_eq_true_eq] at h
  obtain ⟨⟨⟨h1, h2, h3⟩, h4, h5⟩, h6⟩ := h
  exact ⟨h1.imp id (fun h => ⟨h.1.1, h.1.2, h.2⟩), h2, h3, h4, h5, h6⟩
theorem szT_pos {x : Td} (h : mayT x = true) : 0 ≤ szT x := by
  obtain ⟨h1, h2, h3, h4, h5, _⟩ := mayT_in h
  unfold szT
  exact Int.mul_nonneg (by omega) (by omega)
theorem room_le (D : List Td) : ∀ k, k ≤ D.length → (∀ j, j < k → shB D j = false) → 0 ≤ roomP (D.take k) ∧ roomP (D.take k) ≤ 16777216 * k
  | 0, _, _ => by simp [roomP]
  | k + 1, hk, h => by
    obtain ⟨h0, h1⟩ := room_le D k (by omega) (fun j hj => h j (by omega))
    obtain ⟨x, hx⟩ : ∃ x, D[k]? = some x := ⟨_, List.getElem?_eq_getElem (by omega)⟩
    have hb := h k (by omega)
    simp only [shB, hx, Bool.not_eq_false'] at hb
    have hm := (mayT_in hb).2.2.2.2.2
    have hp := szT_pos hb
    rw [room_take hx]; omega
end Go.Proofs.YthdgmhohofakgaaGreatDoor
