import Derived.Test.YtkihaohdcgjioaaGreatDoorGr12
import Derived.Lib.ItoaNum
namespace Go.Proofs.YtkihaohdcgjioaaGreatDoor
open Go.RowKit
set_option linter.unusedVariables false
set_option linter.unusedSimpArgs false
def runU (b : UInt8) : Bool := runP (bI b)
def stopP (l : List UInt8) : Bool := match l with | [] => true | c :: _ => !runU c
theorem blank_of (c : UInt8) (l : List UInt8) (h : c = 32 ∨ c = 9) : blankP (c :: l) = blankP l := by
  unfold blankP Lib.trimLeftS
  rcases h with rfl | rfl <;> rfl
theorem blank_no (c : UInt8) (l : List UInt8) (h : ¬ c = 32) (h' : ¬ c = 9) : blankP (c :: l) = c :: l := by
  unfold blankP Lib.trimLeftS
  rw [List.dropWhile_cons]
  have : ([32, 9] : List UInt8).contains c = false := by simp [h, h']
  rw [if_neg (by rw [this]; decide)]
theorem tok_blank (c : UInt8) (l : List UInt8) (h : c = 32 ∨ c = 9) : tokP (c :: l) = tokP l ∧ restP (c :: l) = restP l := by
  unfold tokP restP
  rw [blank_of c l h]
  exact ⟨rfl, rfl⟩
theorem take_all (t u : List UInt8) (ha : t.all runU = true) (hu : stopP u = true) : ((t ++ u).takeWhile runU) = t := by
  induction t with
  | nil =>
    cases u with
    | nil => rfl
    | cons c u =>
      have : runU c = false := by simpa [stopP] using hu
      simp [this]
  | cons b t ih =>
    simp only [List.all_cons, Bool.and_eq_true] at ha
    rw [List.cons_append, List.takeWhile_cons, if_pos ha.1, ih ha.2]
theorem head_not_blank {c : UInt8} (h : letP (bI c) = true ∨ digP (bI c) = true) : ¬ c = 32 ∧ ¬ c = 9 := by
  constructor <;> (rintro rfl; revert h; decide)
theorem tok_run (t u : List UInt8) (ht : headOk t = true) (ha : t.all runU = true) (hu : stopP u = true) : tokP (t ++ u) = t ∧ restP (t ++ u) = u := by
  cases t with
  | nil => simp [headOk] at ht
  | cons c t =>
    have hc : letP (bI c) = true ∨ digP (bI c) = true := by simpa [headOk] using ht
    have hb := head_not_blank hc
    have hB : blankP ((c :: t) ++ u) = (c :: t) ++ u := blank_no c (t ++ u) hb.1 hb.2
    have hh : headOk ((c :: t) ++ u) = true := by simpa [headOk] using hc
    have hr : runN ((c :: t) ++ u) = (c :: t).length := by
      unfold runN
      rw [if_pos hh]
      have := take_all (c :: t) u ha hu
      show (((c :: t) ++ u).takeWhile runU).length = _
      rw [this]
    have hn : tokN ((c :: t) ++ u) = (c :: t).length := by
      unfold tokN
      rw [if_neg (by rw [hr]; simp), hr]
    unfold tokP restP
    rw [hB, hn]
    exact ⟨List.take_left' rfl, List.drop_left' rfl⟩
theorem tok_mark (c : UInt8) (u : List UInt8) (h : headOk [c] = false) (h1 : ¬ c = 32) (h2 : ¬ c = 9) : tokP (c :: u) = [c] ∧ restP (c :: u) = u := by
  have hB := blank_no c u h1 h2
  have hh : headOk (c :: u) = false := h
  have hn : tokN (c :: u) = 1 := by
    unfold tokN runN
    rw [hh]
    simp
  unfold tokP restP
  rw [hB, hn]
  exact ⟨rfl, rfl⟩
theorem digU_lt (n : Nat) (h : n < 10) : digU (UInt8.ofNat (48 + n)) = true ∧ (UInt8.ofNat (48 + n)).toNat = 48 + n := by
  have h1 : (UInt8.ofNat (48 + n)).toNat = 48 + n := by rw [UInt8.toNat_ofNat']; omega
  exact ⟨(digU_iff _).2 (by omega), h1⟩
theorem decV_app (l m : List UInt8) : ∀ a, decV a (l ++ m) = decV (decV a l) m := by
  induction l with
  | nil => intro a; rfl
  | cons b l ih => intro a; exact ih _
theorem dd_small {u : Nat} (h : u < 10) : Lib.decDigits u = [UInt8.ofNat (48 + u)] := by rw [Lib.decDigits, dif_pos h]
theorem dd_big {u : Nat} (h : ¬ u < 10) : Lib.decDigits u = Lib.decDigits (u / 10) ++ [UInt8.ofNat (48 + u % 10)] := by rw [Lib.decDigits, dif_neg h]
theorem dd_all (u : Nat) : (Lib.decDigits u).all digU = true ∧ decV 0 (Lib.decDigits u) = u ∧ (∃ c l, Lib.decDigits u = c :: l ∧ (¬ u = 0 → ¬ c = 48)) := by
  induction u using Nat.strongRecOn with
  | _ u ih =>
    by_cases h : u < 10
    · have hd := digU_lt u h
      rw [dd_small h]
      refine ⟨by rw [List.all_cons, hd.1]; rfl, ?_, _, _, rfl, fun h0 e => ?_⟩
      · show 0 * 10 + ((UInt8.ofNat (48 + u)).toNat - 48) = u
        omega
      · have e2 := congrArg UInt8.toNat e
        rw [hd.2] at e2
        have : (48 : UInt8).toNat = 48 := rfl
        omega
    · obtain ⟨i1, i2, c, l, i3, i4⟩ := ih (u / 10) (by omega)
      have hd := digU_lt (u % 10) (by omega)
      rw [dd_big h]
      refine ⟨by rw [List.all_append, i1, List.all_cons, hd.1]; rfl, ?_, c, l ++ [UInt8.ofNat (48 + u % 10)], by rw [i3]; rfl, fun _ => i4 (by omega)⟩
      rw [decV_app, i2]
      show u / 10 * 10 + ((UInt8.ofNat (48 + u % 10)).toNat - 48) = u
      omega
theorem dig_run {b : UInt8} (h : digU b = true) : runU b = true := by
  have h' : digP (bI b) = true := h
  simp [runU, runP, h']
theorem all_run {l : List UInt8} (h : l.all digU = true) : l.all runU = true := by
  rw [List.all_eq_true] at h ⊢
  exact fun x hx => dig_run (h x hx)
theorem val_dd (u : Nat) (h : u ≤ 18446744073709551615) : valP (Lib.decDigits u) = ((u : Int), false, true) := by
  obtain ⟨h1, h2, c, l, h3, h4⟩ := dd_all u
  by_cases h0 : u = 0
  · subst h0
    rw [dd_small (by decide)]
    rfl
  · have hc : ¬ c = 48 := h4 h0
    have e1 : ¬ Lib.decDigits u = [48] := by rw [h3]; intro e; injection e with e _; exact hc e
    have e2 : Lib.hasPrefix (Lib.decDigits u) [48, 120] = false := by
      rw [h3]
      have hc' : ((48 : UInt8) == c) = false := by simpa using fun e => hc e.symm
      simp [Lib.hasPrefix, List.isPrefixOf, hc']
    have e3 : Lib.hasPrefix (Lib.decDigits u) [48] = false := by
      rw [h3]
      have hc' : ((48 : UInt8) == c) = false := by simpa using fun e => hc e.symm
      simp [Lib.hasPrefix, List.isPrefixOf, hc']
    unfold valP
    rw [if_neg e1, e2, e3]
    simp only [Bool.false_eq_true, if_false]
    unfold dig10
    rw [if_neg (by rw [h3]; simp), if_pos h1, h2, if_pos h]
theorem dd_tok (u : Nat) (l : List UInt8) (hl : stopP l = true) : tokP (Lib.decDigits u ++ l) = Lib.decDigits u ∧ restP (Lib.decDigits u ++ l) = l := by
  obtain ⟨h1, _, c, m, h3, _⟩ := dd_all u
  refine tok_run _ _ ?_ (all_run h1) hl
  rw [h3] at h1 ⊢
  simp only [List.all_cons, Bool.and_eq_true] at h1
  have : digP (bI c) = true := h1.1
  simp [headOk, this]
def regN (l : List UInt8) : Option Nat := (List.range 11).find? (fun k => l == regL k)
def regS (r : RS) : RS × Int := match regN r.tok with
  | some k => (r.next, (k : Int))
  | none => ({ r with wrong := true }, 0)
theorem regN_some (l : List UInt8) (k : Nat) (h : regIs l k) : regN l = some k := by
  obtain ⟨hk, rfl⟩ := h
  exact (show ∀ k : Fin 11, regN (regL k.val) = some k.val by decide) ⟨k, hk⟩
theorem regN_none (l : List UInt8) (h : ∀ k, ¬ regIs l k) : regN l = none := by
  unfold regN
  rw [List.find?_eq_none]
  intro k hk
  have := h k
  simp only [List.mem_range] at hk
  simpa [regIs, hk] using this
theorem regS_of {r r' : RS} {n : Int} (h : registerS r r' n) : r' = (regS r).1 ∧ n = (regS r).2 := by
  rcases h with ⟨k, hk, rfl, rfl⟩ | ⟨hn, rfl, rfl⟩
  · unfold regS
    rw [regN_some _ _ hk]
    exact ⟨rfl, rfl⟩
  · unfold regS
    rw [regN_none _ hn]
    exact ⟨rfl, rfl⟩
theorem Sm.reg {r : RS} (h : Sm r) : Sm (regS r).1 := by
  unfold regS
  split
  · exact h.next
  · exact h
theorem regF (w : World) (p : Nat) (r : RS) (h : RdAt w p r.cells) (hs : Sm r) (ht : RegT w) : Calls Tryz.prog 246 #[.pointer (some ⟨p, 0, none⟩)] w fun e w' => e = .returned (.int .i64 (regS r).2) ∧ MEnd p (regS r).1 w w' :=
  (register_any w p r h hs ht).mono fun e w' ⟨n, r', he, hr, hm⟩ => by
    obtain ⟨h1, h2⟩ := regS_of hr
    rw [← h1, ← h2]
    exact ⟨he, hm⟩
def sgnS (r : RS) : RS × Bool := if (skipP [45] r).2 then ((skipP [45] r).1, true) else ((skipP [43] (skipP [45] r).1).1, false)
def immS (r : RS) : RS :=
  if r.o = 24 then { numS (sgnS r).2 9223372036854775808 18446744073709551615 (sgnS r).1 with i := numV (sgnS r).2 64 (sgnS r).1 }
  else { numS (sgnS r).2 2147483648 4294967295 (sgnS r).1 with i := numV (sgnS r).2 32 (sgnS r).1 }
def pgnS (r : RS) : RS × Bool := if (skipP [45] r).2 then ((skipP [45] r).1, true) else (markS [43] (skipP [45] r).1, false)
def placeS (r : RS) : RS × Int × Int :=
  (markS [93] (numS (pgnS (regS (markS [91] r)).1).2 32768 32767 (pgnS (regS (markS [91] r)).1).1), (regS (markS [91] r)).2, numV (pgnS (regS (markS [91] r)).1).2 16 (pgnS (regS (markS [91] r)).1).1)
theorem Sm.sgn {r : RS} (h : Sm r) : Sm (sgnS r).1 := by
  unfold sgnS
  split
  · exact h.skip _
  · exact (h.skip _).skip _
theorem Sm.pgn {r : RS} (h : Sm r) : Sm (pgnS r).1 := by
  unfold pgnS
  split
  · exact h.skip _
  · exact (h.skip _).mark _
theorem Sm.imm {r : RS} (h : Sm r) : Sm (immS r) := by
  unfold immS
  split
  · exact h.sgn.num (sgnS r).2 9223372036854775808 18446744073709551615
  · exact h.sgn.num (sgnS r).2 2147483648 4294967295
theorem Sm.place {r : RS} (h : Sm r) : Sm (placeS r).1 := ((((h.mark [91]).reg).pgn).num (pgnS (regS (markS [91] r)).1).2 32768 32767).mark [93]
def Env (w : World) : Prop := ErrR w ∧ RegT w ∧ Tabs w
theorem ErrR.out {w w' : World} (h : ErrR w) (o : Out w w') : ErrR w' := by
  obtain ⟨ev, h1, h2⟩ := h
  exact ⟨ev, cell_later o h1, h2⟩
theorem RegT.out {w w' : World} (h : RegT w) (o : Out w w') : RegT w' := fun k hk => cell_later o (h k hk)
theorem Env.out {w w' : World} (h : Env w) (o : Out w w') : Env w' := ⟨h.1.out o, h.2.1.out o, h.2.2.out o⟩
def Rdr (w0 : World) (p : Nat) (w : World) : Prop := Env w0 ∧ Out w0 w ∧ w0.heap.size ≤ p
theorem MEnd.out {w0 w w' : World} {p : Nat} {r : RS} (h : Rdr w0 p w) (m : MEnd p r w w') : Out w0 w' := Chg.out m.2 h.2.1 (fun k hk => by rw [hk]; exact h.2.2)
theorem MEnd.env {w0 w w' : World} {p : Nat} {r : RS} (h : Rdr w0 p w) (m : MEnd p r w w') : Env w' := h.1.out (m.out h)
theorem MEnd.trans {w w1 w2 : World} {p : Nat} {r1 r2 : RS} (a : MEnd p r1 w w1) (b : MEnd p r2 w1 w2) : MEnd p r2 w w2 := ⟨b.1, a.2.trans b.2 (fun _ hk _ => hk)⟩
theorem MEnd.set {w w1 : World} {p : Nat} {r1 r2 : RS} (a : MEnd p r1 w w1) (j : Nat) (u : Value) (h : r1.cells.setIfInBounds j u = r2.cells) : MEnd p r2 w (w1.setCell ⟨p, j, none⟩ u) :=
  ⟨by rw [← h]; exact a.1.set j u, Chg.setCell a.2 (p := ⟨p, j, none⟩) (show p = p from rfl) _⟩
theorem MEnd.refl {w : World} {p : Nat} {r : RS} (h : RdAt w p r.cells) : MEnd p r w w := ⟨h, Chg.refl _ _⟩
theorem MEnd.co {w w1 : World} {p : Nat} {r : RS} (a : MEnd p r w w1) : w1.cell? ⟨p, 2, none⟩ = some (.int .i64 r.o) ∧ w1.frozen? ⟨p, 2, none⟩ = false := ⟨a.1.cell 2, a.1.frozen 2⟩
theorem MEnd.cd {w w1 : World} {p : Nat} {r : RS} (a : MEnd p r w w1) : w1.cell? ⟨p, 3, none⟩ = some (.int .i64 r.d) ∧ w1.frozen? ⟨p, 3, none⟩ = false := ⟨a.1.cell 3, a.1.frozen 3⟩
theorem MEnd.cs {w w1 : World} {p : Nat} {r : RS} (a : MEnd p r w w1) : w1.cell? ⟨p, 4, none⟩ = some (.int .i64 r.s) ∧ w1.frozen? ⟨p, 4, none⟩ = false := ⟨a.1.cell 4, a.1.frozen 4⟩
theorem MEnd.cf {w w1 : World} {p : Nat} {r : RS} (a : MEnd p r w w1) : w1.cell? ⟨p, 5, none⟩ = some (.int .i64 r.f) ∧ w1.frozen? ⟨p, 5, none⟩ = false := ⟨a.1.cell 5, a.1.frozen 5⟩
theorem MEnd.ci {w w1 : World} {p : Nat} {r : RS} (a : MEnd p r w w1) : w1.cell? ⟨p, 6, none⟩ = some (.int .i64 r.i) ∧ w1.frozen? ⟨p, 6, none⟩ = false := ⟨a.1.cell 6, a.1.frozen 6⟩
theorem MEnd.ct {w w1 : World} {p : Nat} {r : RS} (a : MEnd p r w w1) : w1.cell? ⟨p, 1, none⟩ = some (.string ⟨r.tok.toArray⟩) := a.1.cell 1
theorem MEnd.cw {w w1 : World} {p : Nat} {r : RS} (a : MEnd p r w w1) : w1.cell? ⟨p, 8, none⟩ = some (.bool r.wrong) ∧ w1.frozen? ⟨p, 8, none⟩ = false := ⟨a.1.cell 8, a.1.frozen 8⟩
theorem nextM (w : World) (p : Nat) (r : RS) (hs : Sm r) (wx : World) (m : MEnd p r w wx) : Calls Tryz.prog 178 #[.pointer (some ⟨p, 0, none⟩)] wx fun e w' => (∃ v, e = .returned v) ∧ MEnd p r.next w w' :=
  (nextR wx p r m.1 hs).mono fun e w' ⟨a, b⟩ => ⟨a, m.trans b⟩
theorem skipM (w : World) (p : Nat) (r : RS) (t : List UInt8) (hs : Sm r) (wx : World) (m : MEnd p r w wx) : Calls Tryz.prog 245 #[.pointer (some ⟨p, 0, none⟩), .string ⟨t.toArray⟩] wx fun e w' => e = .returned (.bool (skipP t r).2) ∧ MEnd p (skipP t r).1 w w' :=
  (skip_any wx p r t m.1 hs).mono fun e w' ⟨a, b⟩ => ⟨a, m.trans b⟩
theorem markM (w : World) (p : Nat) (r : RS) (t : List UInt8) (hs : Sm r) (wx : World) (m : MEnd p r w wx) : Calls Tryz.prog 223 #[.pointer (some ⟨p, 0, none⟩), .string ⟨t.toArray⟩] wx fun e w' => (∃ v, e = .returned v) ∧ MEnd p (markS t r) w w' :=
  (mark_any wx p r t m.1 hs).mono fun e w' ⟨a, b⟩ => ⟨a, m.trans b⟩
theorem nameM (w : World) (p : Nat) (r : RS) (hs : Sm r) (wx : World) (m : MEnd p r w wx) : Calls Tryz.prog 250 #[.pointer (some ⟨p, 0, none⟩)] wx fun e w' => (∃ v, e = .returned v) ∧ MEnd p (nameS r) w w' :=
  (name_any wx p r m.1 hs).mono fun e w' ⟨a, b⟩ => ⟨a, m.trans b⟩
theorem regM (w0 w : World) (p : Nat) (R : Rdr w0 p w) (r : RS) (hs : Sm r) (wx : World) (m : MEnd p r w wx) : Calls Tryz.prog 246 #[.pointer (some ⟨p, 0, none⟩)] wx fun e w' => e = .returned (.int .i64 (regS r).2) ∧ MEnd p (regS r).1 w w' :=
  (regF wx p r m.1 hs (m.env R).2.1).mono fun e w' ⟨a, b⟩ => ⟨a, m.trans b⟩
theorem num16M (w0 w : World) (p : Nat) (R : Rdr w0 p w) (r : RS) (hs : Sm r) (b : Bool) (high : Int) (wx : World) (m : MEnd p r w wx) : Calls Tryz.prog 260 #[.pointer (some ⟨p, 0, none⟩), .bool b, .int .i64 16, .int .u64 high] wx fun e w' => e = .returned (.int .i64 (numV b 16 r)) ∧ MEnd p (numS b 32768 high r) w w' :=
  (number16 wx p r m.1 hs (hidOf (m.env R).1) b high).mono fun e w' ⟨a, b⟩ => ⟨a, m.trans b⟩
theorem num32M (w0 w : World) (p : Nat) (R : Rdr w0 p w) (r : RS) (hs : Sm r) (b : Bool) (high : Int) (wx : World) (m : MEnd p r w wx) : Calls Tryz.prog 260 #[.pointer (some ⟨p, 0, none⟩), .bool b, .int .i64 32, .int .u64 high] wx fun e w' => e = .returned (.int .i64 (numV b 32 r)) ∧ MEnd p (numS b 2147483648 high r) w w' :=
  (number32 wx p r m.1 hs (hidOf (m.env R).1) b high).mono fun e w' ⟨a, b⟩ => ⟨a, m.trans b⟩
theorem num64M (w0 w : World) (p : Nat) (R : Rdr w0 p w) (r : RS) (hs : Sm r) (b : Bool) (high : Int) (wx : World) (m : MEnd p r w wx) : Calls Tryz.prog 260 #[.pointer (some ⟨p, 0, none⟩), .bool b, .int .i64 64, .int .u64 high] wx fun e w' => e = .returned (.int .i64 (numV b 64 r)) ∧ MEnd p (numS b 9223372036854775808 high r) w w' :=
  (number64 wx p r m.1 hs (hidOf (m.env R).1) b high).mono fun e w' ⟨a, b⟩ => ⟨a, m.trans b⟩
theorem skip_o (t : List UInt8) (r : RS) : (skipP t r).1.o = r.o := by
  unfold skipP
  split <;> rfl
set_option maxRecDepth 20000 in
set_option maxHeartbeats 800000 in
theorem imm_rd (w0 w : World) (p : Nat) (HR : Hid (Rdr w0 p w)) (r : RS) (h : RdAt w p r.cells) (hs : Sm r) : Calls Tryz.prog 247 #[.pointer (some ⟨p, 0, none⟩)] w fun e w' => (∃ v, e = .returned v) ∧ MEnd p (immS r) w w' := by
  have CA : Hid (Calls Tryz.prog 245 #[.pointer (some ⟨p, 0, none⟩), .string ⟨#[45]⟩] w fun e w' => e = .returned (.bool (skipP [45] r).2) ∧ MEnd p (skipP [45] r).1 w w') := skip_any w p r [45] h hs
  have ho := skip_o [45] r
  have hs1 := hs.skip [45]
  have HI : immS r = if r.o = 24 then { numS (sgnS r).2 9223372036854775808 18446744073709551615 (sgnS r).1 with i := numV (sgnS r).2 64 (sgnS r).1 } else { numS (sgnS r).2 2147483648 4294967295 (sgnS r).1 with i := numV (sgnS r).2 32 (sgnS r).1 } := rfl
  unfold sgnS at HI
  generalize immS r = rn at *
  generalize skipP [45] r = q at *
  obtain ⟨r1, b⟩ := q
  simp only at CA ho hs1 HI
  clear h hs
  generalize r.o = o at *
  cases b
  · have CB : Hid (∀ wx, MEnd p r1 w wx → Calls Tryz.prog 245 #[.pointer (some ⟨p, 0, none⟩), .string ⟨#[43]⟩] wx fun e w' => e = .returned (.bool (skipP [43] r1).2) ∧ MEnd p (skipP [43] r1).1 w w') := skipM w p r1 [43] hs1
    have ho2 := (skip_o [43] r1).trans ho
    have hs2 := hs1.skip [43]
    simp only [Bool.false_eq_true, if_false] at HI
    generalize skipP [43] r1 = q at *
    obtain ⟨r2, b2⟩ := q
    simp only at CB ho2 hs2 HI
    clear ho hs1
    by_cases h24 : o = 24
    · subst h24
      rw [if_pos rfl] at HI
      have CN : Hid (∀ wx, MEnd p r2 w wx → Calls Tryz.prog 260 #[.pointer (some ⟨p, 0, none⟩), .bool false, .int .i64 64, .int .u64 18446744073709551615] wx fun e w' => e = .returned (.int .i64 (numV false 64 r2)) ∧ MEnd p (numS false 9223372036854775808 18446744073709551615 r2) w w') := num64M w0 w p HR.out r2 hs2 false _
      generalize numV false 64 r2 = vn at *
      generalize numS false 9223372036854775808 18446744073709551615 r2 = rm at *
      have HI := hidOf HI
      clear hs2 HR
      go_enter Tryz.func247, Tryz.ntmps247
      go_wp2_with (first | (go_at_call 260; refine (CN.out _ M2.out).mono ?_; rintro e w4 ⟨rfl, hm4⟩; have d6 := hm4.ci.1; have f6 := hm4.ci.2; have M4 := hidOf hm4; clear hm4) | (go_at_call 245; refine (CB.out _ M1.out).mono ?_; rintro e w2 ⟨rfl, hm2⟩; have d2 := hm2.co.1; rw [ho2] at d2; have M2 := hidOf hm2; clear hm2) | (go_at_call 245; refine CA.out.mono ?_; rintro e w1 ⟨rfl, hm1⟩; have M1 := hidOf hm1; clear hm1))
      go_end0
      exact ⟨⟨_, rfl⟩, by rw [HI.out]; exact M4.out.set 6 _ rfl⟩
    · rw [if_neg h24] at HI
      have h24' : (o == 24) = false := by simpa using h24
      have CN : Hid (∀ wx, MEnd p r2 w wx → Calls Tryz.prog 260 #[.pointer (some ⟨p, 0, none⟩), .bool false, .int .i64 32, .int .u64 4294967295] wx fun e w' => e = .returned (.int .i64 (numV false 32 r2)) ∧ MEnd p (numS false 2147483648 4294967295 r2) w w') := num32M w0 w p HR.out r2 hs2 false _
      generalize numV false 32 r2 = vn at *
      generalize numS false 2147483648 4294967295 r2 = rm at *
      have HI := hidOf HI
      clear hs2 HR
      go_enter Tryz.func247, Tryz.ntmps247
      go_wp2_with (first | (go_at_call 260; refine (CN.out _ M2.out).mono ?_; rintro e w4 ⟨rfl, hm4⟩; have d6 := hm4.ci.1; have f6 := hm4.ci.2; have M4 := hidOf hm4; clear hm4) | (go_at_call 245; refine (CB.out _ M1.out).mono ?_; rintro e w2 ⟨rfl, hm2⟩; have d2 := hm2.co.1; rw [ho2] at d2; have M2 := hidOf hm2; clear hm2) | (go_at_call 245; refine CA.out.mono ?_; rintro e w1 ⟨rfl, hm1⟩; have M1 := hidOf hm1; clear hm1))
      go_end0
      exact ⟨⟨_, rfl⟩, by rw [HI.out]; exact M4.out.set 6 _ rfl⟩
  · simp only [if_true] at HI
    by_cases h24 : o = 24
    · subst h24
      rw [if_pos rfl] at HI
      have CN : Hid (∀ wx, MEnd p r1 w wx → Calls Tryz.prog 260 #[.pointer (some ⟨p, 0, none⟩), .bool true, .int .i64 64, .int .u64 18446744073709551615] wx fun e w' => e = .returned (.int .i64 (numV true 64 r1)) ∧ MEnd p (numS true 9223372036854775808 18446744073709551615 r1) w w') := num64M w0 w p HR.out r1 hs1 true _
      generalize numV true 64 r1 = vn at *
      generalize numS true 9223372036854775808 18446744073709551615 r1 = rm at *
      have HI := hidOf HI
      clear hs1 HR
      go_enter Tryz.func247, Tryz.ntmps247
      go_wp2_with (first | (go_at_call 260; refine (CN.out _ M1.out).mono ?_; rintro e w4 ⟨rfl, hm4⟩; have d6 := hm4.ci.1; have f6 := hm4.ci.2; have M4 := hidOf hm4; clear hm4) | (go_at_call 245; refine CA.out.mono ?_; rintro e w1 ⟨rfl, hm1⟩; have d2 := hm1.co.1; rw [ho] at d2; have M1 := hidOf hm1; clear hm1))
      go_end0
      exact ⟨⟨_, rfl⟩, by rw [HI.out]; exact M4.out.set 6 _ rfl⟩
    · rw [if_neg h24] at HI
      have h24' : (o == 24) = false := by simpa using h24
      have CN : Hid (∀ wx, MEnd p r1 w wx → Calls Tryz.prog 260 #[.pointer (some ⟨p, 0, none⟩), .bool true, .int .i64 32, .int .u64 4294967295] wx fun e w' => e = .returned (.int .i64 (numV true 32 r1)) ∧ MEnd p (numS true 2147483648 4294967295 r1) w w') := num32M w0 w p HR.out r1 hs1 true _
      generalize numV true 32 r1 = vn at *
      generalize numS true 2147483648 4294967295 r1 = rm at *
      have HI := hidOf HI
      clear hs1 HR
      go_enter Tryz.func247, Tryz.ntmps247
      go_wp2_with (first | (go_at_call 260; refine (CN.out _ M1.out).mono ?_; rintro e w4 ⟨rfl, hm4⟩; have d6 := hm4.ci.1; have f6 := hm4.ci.2; have M4 := hidOf hm4; clear hm4) | (go_at_call 245; refine CA.out.mono ?_; rintro e w1 ⟨rfl, hm1⟩; have d2 := hm1.co.1; rw [ho] at d2; have M1 := hidOf hm1; clear hm1))
      go_end0
      exact ⟨⟨_, rfl⟩, by rw [HI.out]; exact M4.out.set 6 _ rfl⟩
end Go.Proofs.YtkihaohdcgjioaaGreatDoor
