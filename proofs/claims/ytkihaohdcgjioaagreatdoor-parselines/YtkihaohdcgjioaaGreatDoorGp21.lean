import Derived.Maps.OwnSet
import Derived.Test.YtkihaohdcgjioaaGreatDoorGp11
import Derived.Test.YtkihaohdcgjioaaGreatDoorGp17
import Derived.WalkLawsBesides
import Derived.BigQuiet
import Derived.Deep.QuietTactic
namespace Go.Proofs.YtkihaohdcgjioaaGreatDoor
open Go.RowKit
open Go.Maps (Keyed)
set_option linter.unusedVariables false
set_option linter.unusedSimpArgs false
/-- what a mnemonic means: opcode, Src, Off, Imm -/
abbrev Mn := Int × Int × Int × Int
def mnV (m : Mn) : Value := .agg #[.int .u8 m.1, .int .u8 m.2.1, .int .u8 m.2.2.1, .int .u8 m.2.2.2]
def mnD (m : Mn) : DataW Unit := .agg [.lit (.int .u8 m.1), .lit (.int .u8 m.2.1), .lit (.int .u8 m.2.2.1), .lit (.int .u8 m.2.2.2)]
def R4 (v : Value) : Option (DataW Unit × List MemPlace) :=
  match v with
  | .agg ⟨[.int .u8 o, .int .u8 s, .int .u8 f, .int .u8 i]⟩ => some (mnD (o, s, f, i), [])
  | _ => none
theorem R4_mk (m : Mn) : R4 (mnV m) = some (mnD m, []) := rfl
theorem R4_inv {v : Value} {m : Mn} {ps : List MemPlace} (h : R4 v = some (mnD m, ps)) : v = mnV m := by
  unfold R4 at h
  split at h
  · simp only [mnD, Option.some.injEq, Prod.mk.injEq, DataW.agg.injEq, List.cons.injEq, DataW.lit.injEq, Lit.int.injEq, true_and, and_true] at h
    obtain ⟨⟨h1, h2, h3, h4⟩, _⟩ := h
    rw [h1, h2, h3, h4]
    rfl
  · cases h
/-- the map after these stores -/
def DL (L : List (List UInt8 × Mn)) : DataW Unit := L.foldl (fun m x => m.put (.string x.1) (mnD x.2)) (.map [])
theorem DL_snoc (L : List (List UInt8 × Mn)) (k : List UInt8) (m : Mn) : (DL L).put (.string k) (mnD m) = DL (L ++ [(k, m)]) := by simp [DL, List.foldl_append]
theorem isMap_DL_aux : ∀ (L : List (List UInt8 × Mn)) (D : DataW Unit), Maps.IsMap D → Maps.IsMap (L.foldl (fun m x => m.put (.string x.1) (mnD x.2)) D)
  | [], _, h => h
  | x :: L, D, h => isMap_DL_aux L _ (h.put _ _)
theorem isMap_DL (L : List (List UInt8 × Mn)) : Maps.IsMap (DL L) := isMap_DL_aux L _ Maps.isMap_empty
/-- the last one that is stored at a key -/
def lastAt (L : List (List UInt8 × Mn)) (k : List UInt8) : Option Mn := (L.reverse.find? (fun x => x.1 == k)).map (·.2)
theorem lastAt_snoc (L : List (List UInt8 × Mn)) (k' : List UInt8) (m : Mn) (k : List UInt8) : lastAt (L ++ [(k', m)]) k = if k' = k then some m else lastAt L k := by
  unfold lastAt
  rw [List.reverse_append]
  simp only [List.reverse_cons, List.reverse_nil, List.nil_append, List.singleton_append, List.find?_cons]
  by_cases h : k' = k
  · simp [h]
  · have : (k' == k) = false := by simpa using h
    simp [h, this]
theorem lit_str (k : List UInt8) : WideAt.IsKeyLit (Lit.string k) := by unfold WideAt.IsKeyLit; trivial
theorem at_DL_rev (k : List UInt8) (z : DataW Unit) (R : List (List UInt8 × Mn)) : (DL R.reverse).atKey (.string k) z = (match lastAt R.reverse k with | some m => mnD m | none => z) ∧ Maps.has (DL R.reverse) (.string k) = (lastAt R.reverse k).isSome := by
  induction R with
  | nil => exact ⟨rfl, rfl⟩
  | cons x R ih =>
    obtain ⟨k', m⟩ := x
    rw [List.reverse_cons, ← DL_snoc, lastAt_snoc]
    by_cases h : k' = k
    · subst h
      rw [if_pos rfl]
      exact ⟨Maps.atKey_put_same (isMap_DL _) (lit_str _) _ _, Maps.has_put_same (isMap_DL _) (lit_str _) _⟩
    · rw [if_neg h]
      have hne : Lit.string k ≠ Lit.string k' := fun e => h (by cases e; rfl)
      rw [Maps.atKey_put_other hne, Maps.has_put_other hne]
      exact ih
theorem at_DL (L : List (List UInt8 × Mn)) (k : List UInt8) (z : DataW Unit) : (DL L).atKey (.string k) z = (match lastAt L k with | some m => mnD m | none => z) ∧ Maps.has (DL L) (.string k) = (lastAt L k).isSome := by
  have h := at_DL_rev k z L.reverse
  rw [List.reverse_reverse] at h
  exact h
def reckT : List (List UInt8 × List UInt8) := [([97, 100, 100], [97, 100, 100, 51, 50]), ([115, 117, 98], [115, 117, 98, 51, 50]), ([109, 117, 108], [109, 117, 108, 51, 50]), ([100, 105, 118], [100, 105, 118, 51, 50]), ([111, 114], [111, 114, 51, 50]), ([97, 110, 100], [97, 110, 100, 51, 50]), ([108, 115, 104], [108, 115, 104, 51, 50]), ([114, 115, 104], [114, 115, 104, 51, 50]), ([110, 101, 103], [110, 101, 103, 51, 50]), ([109, 111, 100], [109, 111, 100, 51, 50]), ([120, 111, 114], [120, 111, 114, 51, 50]), ([109, 111, 118], [109, 111, 118, 51, 50]), ([97, 114, 115, 104], [97, 114, 115, 104, 51, 50])]
def jumpT : List (List UInt8 × List UInt8) := [([106, 97], [106, 97, 51, 50]), ([106, 101, 113], [106, 101, 113, 51, 50]), ([106, 103, 116], [106, 103, 116, 51, 50]), ([106, 103, 101], [106, 103, 101, 51, 50]), ([106, 115, 101, 116], [106, 115, 101, 116, 51, 50]), ([106, 110, 101], [106, 110, 101, 51, 50]), ([106, 115, 103, 116], [106, 115, 103, 116, 51, 50]), ([106, 115, 103, 101], [106, 115, 103, 101, 51, 50]), ([99, 97, 108, 108], []), ([101, 120, 105, 116], []), ([106, 108, 116], [106, 108, 116, 51, 50]), ([106, 108, 101], [106, 108, 101, 51, 50]), ([106, 115, 108, 116], [106, 115, 108, 116, 51, 50]), ([106, 115, 108, 101], [106, 115, 108, 101, 51, 50])]
def memT : List (Int × List (List UInt8)) := [(97, [[108, 100, 120, 119], [108, 100, 120, 104], [108, 100, 120, 98], [108, 100, 120, 100, 119]]), (129, [[108, 100, 120, 115, 119], [108, 100, 120, 115, 104], [108, 100, 120, 115, 98], []]), (98, [[115, 116, 119], [115, 116, 104], [115, 116, 98], [115, 116, 100, 119]]), (99, [[115, 116, 120, 119], [115, 116, 120, 104], [115, 116, 120, 98], [115, 116, 120, 100, 119]])]
def offT : List (Int × Int × List UInt8) := [(55, 1, [115, 100, 105, 118]), (151, 1, [115, 109, 111, 100]), (52, 1, [115, 100, 105, 118, 51, 50]), (148, 1, [115, 109, 111, 100, 51, 50]), (191, 8, [109, 111, 118, 115, 56]), (191, 16, [109, 111, 118, 115, 49, 54]), (191, 32, [109, 111, 118, 115, 51, 50]), (188, 8, [109, 111, 118, 115, 56, 119]), (188, 16, [109, 111, 118, 115, 49, 54, 119])]
def immT : List (Int × Int × List UInt8) := [(212, 16, [108, 101, 49, 54]), (212, 32, [108, 101, 51, 50]), (212, 64, [108, 101, 54, 52]), (220, 16, [98, 101, 49, 54]), (220, 32, [98, 101, 51, 50]), (220, 64, [98, 101, 54, 52]), (215, 16, [115, 119, 97, 112, 49, 54]), (215, 32, [115, 119, 97, 112, 51, 50]), (215, 64, [115, 119, 97, 112, 54, 52]), (219, 0, [97, 97, 100, 100]), (219, 64, [97, 111, 114]), (219, 80, [97, 97, 110, 100]), (219, 160, [97, 120, 111, 114]), (219, 1, [97, 102, 97, 100, 100]), (219, 65, [97, 102, 111, 114]), (219, 81, [97, 102, 97, 110, 100]), (219, 161, [97, 102, 120, 111, 114]), (219, 225, [97, 120, 99, 104, 103]), (219, 241, [97, 99, 109, 112, 120, 99, 104, 103]), (195, 0, [97, 97, 100, 100, 51, 50]), (195, 64, [97, 111, 114, 51, 50]), (195, 80, [97, 97, 110, 100, 51, 50]), (195, 160, [97, 120, 111, 114, 51, 50]), (195, 1, [97, 102, 97, 100, 100, 51, 50]), (195, 65, [97, 102, 111, 114, 51, 50]), (195, 81, [97, 102, 97, 110, 100, 51, 50]), (195, 161, [97, 102, 120, 111, 114, 51, 50]), (195, 225, [97, 120, 99, 104, 103, 51, 50]), (195, 241, [97, 99, 109, 112, 120, 99, 104, 103, 51, 50])]
/-- what a table's row puts in -/
def entA (T : List (List UInt8 × List UInt8)) (x y : Int) (k : Nat) : List (List UInt8 × Mn) :=
  match T[k]? with
  | some r => [(r.1, (k * 16 + x, 0, 0, 0)), (r.2, (k * 16 + y, 0, 0, 0))]
  | none => []
def mnR (k : Nat) : List (List UInt8 × Mn) := (List.range k).flatMap (entA reckT 7 4)
def mnJ (k : Nat) : List (List UInt8 × Mn) := mnR 13 ++ (List.range k).flatMap (entA jumpT 5 6)
def entM (k j : Nat) : List (List UInt8 × Mn) :=
  match memT[k]? with
  | some r => (match r.2[j]? with | some s => [(s, (r.1 + j * 8, 0, 0, 0))] | none => [])
  | none => []
def mnM (k j : Nat) : List (List UInt8 × Mn) := mnJ 14 ++ (List.range k).flatMap (fun k => (List.range 4).flatMap (entM k)) ++ (List.range j).flatMap (entM k)
def entO (k : Nat) : List (List UInt8 × Mn) :=
  match offT[k]? with
  | some r => [(r.2.2, (r.1, 0, r.2.1, 0))]
  | none => []
def mnO (k : Nat) : List (List UInt8 × Mn) := mnM 4 0 ++ (List.range k).flatMap entO
def entI (k : Nat) : List (List UInt8 × Mn) :=
  match immT[k]? with
  | some r => [(r.2.2, (r.1, 0, 0, r.2.1))]
  | none => []
def mnI (k : Nat) : List (List UInt8 × Mn) := mnO 9 ++ (List.range k).flatMap entI
def mnAll : List (List UInt8 × Mn) := mnI 29 ++ [([108, 100, 100, 119], (24, 0, 0, 0)), ([108, 100, 109, 97, 112], (24, 1, 0, 0))]
/-- the mnemonics' meaning -/
def meanOf (k : List UInt8) : Option Mn := if k = [] then none else lastAt mnAll k
def mnDat : DataW Unit := (DL mnAll).del (.string [])
theorem at_mn (k : List UInt8) (z : DataW Unit) : mnDat.atKey (.string k) z = (match meanOf k with | some m => mnD m | none => z) ∧ Maps.has mnDat (.string k) = (meanOf k).isSome := by
  unfold mnDat meanOf
  by_cases h : k = []
  · subst h
    rw [if_pos rfl]
    exact ⟨Maps.atKey_del_same _, Maps.has_del_same⟩
  · have hne : Lit.string k ≠ Lit.string [] := fun e => h (by cases e; rfl)
    rw [if_neg h, Maps.atKey_del_other hne, Maps.has_del_other hne]
    exact at_DL mnAll k z
theorem mnR_step (k : Nat) : mnR (k + 1) = mnR k ++ entA reckT 7 4 k := by simp [mnR, List.range_succ]
theorem mnJ_step (k : Nat) : mnJ (k + 1) = mnJ k ++ entA jumpT 5 6 k := by simp [mnJ, List.range_succ, List.append_assoc]
theorem mnM_step (k j : Nat) : mnM k (j + 1) = mnM k j ++ entM k j := by simp [mnM, List.range_succ (n := j), List.append_assoc]
theorem mnM_next (k : Nat) : mnM (k + 1) 0 = mnM k 4 := by simp [mnM, List.range_succ (n := k)]
theorem mnO_step (k : Nat) : mnO (k + 1) = mnO k ++ entO k := by simp [mnO, List.range_succ, List.append_assoc]
theorem mnI_step (k : Nat) : mnI (k + 1) = mnI k ++ entI k := by simp [mnI, List.range_succ, List.append_assoc]
theorem mnR_0 : mnR 0 = [] := rfl
theorem mnJ_0 : mnJ 0 = mnR 13 := by simp [mnJ]
theorem mnM_0 : mnM 0 0 = mnJ 14 := by simp [mnM]
theorem mnO_0 : mnO 0 = mnM 4 0 := by simp [mnO]
theorem mnI_0 : mnI 0 = mnO 9 := by simp [mnI]
end Go.Proofs.YtkihaohdcgjioaaGreatDoor
namespace Go.Proofs.YtkihaohdcgjioaaGreatDoor
open Go.RowKit
set_option linter.unusedVariables false
set_option linter.unusedSimpArgs false
/-- the reader's block -/
def RB (w : World) (p : Nat) (tv mv sv : Value) : Prop := w.heap[p]? = some (.cells #[tv, mv, sv] 114 (0, 0))
/-- tokens in a block -/
def TkR (w : World) (g off : Nat) (ts : List Lx.Tk) : Prop := ∀ k x, ts[k]? = some x → w.cell? ⟨g, off + k * 4, none⟩ = some (.int .i64 x.k) ∧ w.cell? ⟨g, off + k * 4 + 1, none⟩ = some (.string ⟨x.t.toArray⟩) ∧ w.cell? ⟨g, off + k * 4 + 2, none⟩ = some (.int .u64 x.n) ∧ w.cell? ⟨g, off + k * 4 + 3, none⟩ = some (.int .i64 x.l)
theorem TkR.tail {w : World} {g off : Nat} {t : Lx.Tk} {r : List Lx.Tk} (h : TkR w g off (t :: r)) : TkR w g (off + 4) r := fun k x hx => by
  have := h (k + 1) x (by simpa using hx)
  have e : off + (k + 1) * 4 = off + 4 + k * 4 := by omega
  rw [e] at this
  exact this
theorem TkR.chg {S : Nat → Prop} {w w' : World} {g off : Nat} {ts : List Lx.Tk} (h : TkR w g off ts) (c : Chg S w w') (hg : ¬ S g) : TkR w' g off ts := fun k x hx => by
  obtain ⟨h0, h1, h2, h3⟩ := h k x hx
  exact ⟨c.cell h0 hg, c.cell h1 hg, c.cell h2 hg, c.cell h3 hg⟩
/-- the blocks that a reader's methods may turn: from B on, readers and lists of statements -/
def KQ (B : Nat) (w : World) (b : Nat) : Prop := B ≤ b ∧ ∃ cs t fr, w.heap[b]? = some (.cells cs t fr) ∧ (t = 114 ∨ t = 60)
theorem KQ.chain {B : Nat} {a b c : World} (h : Chg (KQ B a) a b) (k : Chg (KQ B b) b c) : Chg (KQ B a) a c := h.trans k (fun x hx hlt => by
  by_cases hn : KQ B a x
  · exact hn
  · have e := h.block x hlt hn
    obtain ⟨h1, cs, t, fr, h2, h3⟩ := hx
    exact ⟨h1, cs, t, fr, by rw [← e]; exact h2, h3⟩)
theorem KQ.out {B : Nat} {w0 w w' : World} (h : Chg (KQ B w) w w') (o : Out w0 w) (hB : w0.heap.size ≤ B) : Out w0 w' := Chg.out h o (fun k hk => Nat.le_trans hB hk.1)
theorem KQ.kind {B : Nat} {w w' : World} (c : Chg (KQ B w) w w') {b : Nat} {cs : Array Value} {t : TypeId} {fr : Nat × Nat} (h : w.heap[b]? = some (.cells cs t fr)) (h1 : ¬ t = 114) (h2 : ¬ t = 60) : w'.heap[b]? = some (.cells cs t fr) := by
  refine (c.block b (Array.getElem?_eq_some_iff.1 h).1 (fun hk => ?_)).trans h
  obtain ⟨_, cs', t', fr', e, ht⟩ := hk
  rw [h] at e
  simp at e
  rcases ht with ht | ht
  · exact h1 (e.2.1.trans ht)
  · exact h2 (e.2.1.trans ht)
/-- the reader at p: its tokens, the map of directives, its statements -/
structure PS (B : Nat) (w : World) (p g mb : Nat) (sv : Value) (ts : List Lx.Tk) : Prop where
  st : ∃ off cap, RB w p (.slice (some ⟨g, off, none⟩) ts.length cap) (.map (some mb)) sv ∧ TkR w g off ts ∧ ts.length ≤ cap
  gk : ∃ cs fr, w.heap[g]? = some (.cells cs 117 fr)
  pB : B ≤ p
theorem RB.out {w w' : World} {p : Nat} {tv mv sv : Value} (h : RB w p tv mv sv) (o : Out w w') : RB w' p tv mv sv := (o.block p (Array.getElem?_eq_some_iff.1 h).1).trans h
theorem PS.gp {B : Nat} {w : World} {p g mb : Nat} {sv : Value} {ts : List Lx.Tk} (h : PS B w p g mb sv ts) : ¬ g = p := fun e => by
  obtain ⟨off, cap, h1, _⟩ := h.st
  obtain ⟨cs, fr, h2⟩ := h.gk
  rw [e, show w.heap[p]? = _ from h1] at h2
  simp at h2
theorem PS.out {B : Nat} {w w' : World} {p g mb : Nat} {sv : Value} {ts : List Lx.Tk} (h : PS B w p g mb sv ts) (o : Out w w') : PS B w' p g mb sv ts := by
  obtain ⟨off, cap, h1, h2, h3⟩ := h.st
  obtain ⟨cs, fr, h4⟩ := h.gk
  exact ⟨⟨off, cap, h1.out o, h2.chg (S := fun _ => False) (Chg.of_out o) (fun h => h), h3⟩, ⟨cs, fr, (o.block g (Array.getElem?_eq_some_iff.1 h4).1).trans h4⟩, h.pB⟩
/-- the reader's cells are stored: those of its tokens -/
theorem PS.tokens {B : Nat} {w w' : World} {p g mb : Nat} {sv : Value} {ts ts' : List Lx.Tk} (h : PS B w p g mb sv ts) (c : Chg (fun b => b = p) w w') {off cap : Nat} (hR : RB w' p (.slice (some ⟨g, off, none⟩) ts'.length cap) (.map (some mb)) sv) (hT : TkR w g off ts') (hc : ts'.length ≤ cap) : PS B w' p g mb sv ts' := by
  obtain ⟨cs, fr, h4⟩ := h.gk
  exact ⟨⟨off, cap, hR, hT.chg c h.gp, hc⟩, ⟨cs, fr, (c.block g (Array.getElem?_eq_some_iff.1 h4).1 h.gp).trans h4⟩, h.pB⟩
theorem Chg.then2 {S : Nat → Prop} {a b c : World} (h : Chg S a b) (k : Chg S b c) : Chg S a c := h.trans k (fun _ hx _ => hx)
theorem PS.kq {B : Nat} {w : World} {p g mb : Nat} {sv : Value} {ts : List Lx.Tk} (h : PS B w p g mb sv ts) : KQ B w p := by
  obtain ⟨off, cap, h1, _⟩ := h.st
  exact ⟨h.pB, _, _, _, h1, .inl rfl⟩
/-- the value that a panic bears -/
def pnc (c : Int) : Ending := .panicked [{ v := .iface 49 (.int .i64 c), recovered := false }]
/-- how a method of the reader ends -/
def REnd {α : Type} (enc : α → Value) (x : RE α) (B : Nat) (w : World) (p g mb : Nat) (sv : Value) (e : Ending) (w' : World) : Prop :=
  match x with
  | .ok a ts => e = .returned (enc a) ∧ PS B w' p g mb sv ts ∧ Chg (fun b => b = p) w w'
  | .no c ts => e = pnc c ∧ PS B w' p g mb sv ts ∧ Chg (fun b => b = p) w w'
def tkE (t : Lx.Tk) : Value := .agg #[.int .i64 t.k, .string ⟨t.t.toArray⟩, .int .u64 t.n, .int .i64 t.l]
def txE (l : List UInt8) : Value := .string ⟨l.toArray⟩
theorem Lw.two {ts : List Lx.Tk} (h : Lw ts) : ∃ t u r, ts = t :: u :: r := by
  obtain ⟨t, r, rfl⟩ := h.ne
  by_cases hk : t.k = 5
  · obtain ⟨u, r', rfl⟩ := (h.pass hk).ne
    exact ⟨t, u, r', rfl⟩
  · obtain ⟨u, r', rfl⟩ := (h.next hk).ne
    exact ⟨t, u, r', rfl⟩
theorem size4T : (Tryz.prog.info? 117).map (·.size) = some 4 := by kernel_rfl
set_option maxRecDepth 20000 in
set_option maxHeartbeats 2000000 in
theorem take_any (B : Nat) (w : World) (p g mb : Nat) (sv : Value) (ts : List Lx.Tk) (k : Int) (h : PS B w p g mb sv ts) (hl : Lw ts) : Calls Tryz.prog 97 #[.pointer (some ⟨p, 0, none⟩), .int .i64 k] w (REnd tkE (tkQ k ts) B w p g mb sv) := by
  obtain ⟨t, u, r, rfl⟩ := hl.two
  obtain ⟨off, cap, hR, hT, hc⟩ := h.st
  have hgp := h.gp
  have hpg : ¬ p = g := fun e => hgp e.symm
  obtain ⟨q0, q1, q2, q3⟩ := hT 0 t rfl
  simp only [Nat.zero_mul, Nat.add_zero] at q0 q1 q2 q3
  obtain ⟨n, hn⟩ : ∃ n, n = (t :: u :: r).length := ⟨_, rfl⟩
  have hn2 : 2 ≤ n := by rw [hn]; simp
  rw [← hn] at hR hc
  have c0 : w.cell? ⟨p, 0, none⟩ = some (.slice (some ⟨g, off, none⟩) n cap) := by rw [cell_atL hR]; rfl
  have f0 : w.frozen? ⟨p, 0, none⟩ = false := frozen_atL hR 0
  have HR := hidOf hR
  have HT := hidOf hT
  have HP := hidOf h
  have Hn := hidOf hn
  have hcI : (n : Int) ≤ cap := by omega
  have hnI : (2 : Int) ≤ n := by omega
  have hc1 : ¬ cap = 1 := by omega
  clear h hR hT hl hn
  obtain ⟨Z, hZ⟩ : ∃ Z : Obj, Z = .cells #[.int .i64 0, .string ⟨#[]⟩, .int .u64 0, .int .i64 0] 117 (0, 0) := ⟨_, rfl⟩
  obtain ⟨w1, hw1⟩ : ∃ w1, w1 = w.alloc Z := ⟨_, rfl⟩
  have o1 : Out w w1 := by rw [hw1]; exact (Out.refl w).alloc _
  have b1 : w1.heap[w.heap.size]? = some Z := by rw [hw1]; exact heap_alloc_new w _
  have z1 : w1.heap.size = w.heap.size + 1 := by rw [hw1]; exact size_alloc _ _
  have d0 := cell_later o1 c0
  have e0 := cell_later o1 q0
  have e1 := cell_later o1 q1
  have e2 := cell_later o1 q2
  have e3 := cell_later o1 q3
  have n0 := World.new_ne w1 ⟨p, 0, none⟩ d0
  have hpl : p < w.heap.size := (Array.getElem?_eq_some_iff.1 HR.out).1
  have O1 := hidOf o1
  have B1 := hidOf (show w1.heap[w.heap.size]? = some (.cells #[.int .i64 0, .string ⟨#[]⟩, .int .u64 0, .int .i64 0] 117 (0, 0)) by rw [b1, hZ])
  have Z1 := hidOf z1
  have Hw1 := hidOf (show w.alloc (.cells #[.int .i64 0, .string ⟨#[]⟩, .int .u64 0, .int .i64 0] 117) = w1 by rw [hw1, hZ])
  have f1 : w1.frozen? ⟨p, 0, none⟩ = false := frozen_atL (HR.out.out o1) 0
  clear c0 q0 q1 q2 q3 f0 hZ hw1 o1 b1 z1
  by_cases hk : t.k = k
  · have hkb : (t.k != k) = false := by simp [hk]
    have Hq : Hid (tkQ k (t :: u :: r) = .ok t (u :: r)) := hidOf (by
      show (if t.k = k then RE.ok t (u :: r) else RE.no 60 (t :: u :: r)) = _
      rw [if_pos hk])
    clear hk
    go_enter Tryz.func97, Tryz.ntmps97
    go_upto_region 1 with fail
    rw [Hw1.out]
    go_upto_region 4 with fail
    obtain ⟨w2, hw2⟩ : ∃ w2, w2 = w1.alloc (.cells #[.int .i64 t.k, .string ⟨t.t.toArray⟩, .int .u64 t.n, .int .i64 t.l] 117) := ⟨_, rfl⟩
    rw [← hw2]
    have o2 : Out w1 w2 := by rw [hw2]; exact (Out.refl w1).alloc _
    have x2 : w2.heap[w1.heap.size]? = some (.cells #[.int .i64 t.k, .string ⟨t.t.toArray⟩, .int .u64 t.n, .int .i64 t.l] 117 (0, 0)) := by rw [hw2]; exact heap_alloc_new w1 _
    have y2 : w2.heap[w.heap.size]? = some (.cells #[.int .i64 0, .string ⟨#[]⟩, .int .u64 0, .int .i64 0] 117 (0, 0)) := (o2.block _ (by rw [Z1.out]; omega)).trans B1.out
    have g0 := cell_later o2 d0
    have gf := frozen_atL ((HR.out.out O1.out).out o2) 0
    have hR2 := (HR.out.out O1.out).out o2
    obtain ⟨w3, hw3⟩ : ∃ w3, w3 = w2.setCell ⟨p, 0, none⟩ (.slice (some ⟨g, off + 4, none⟩) (n - 1) (cap - 1)) := ⟨_, rfl⟩
    have hp3 : RB w3 p (.slice (some ⟨g, off + 4, none⟩) (n - 1) (cap - 1)) (.map (some mb)) sv := by
      unfold RB
      rw [hw3, set_atL hR2]
      rfl
    have c3 : Chg (fun b => b = p) w2 w3 := by rw [hw3]; exact Chg.setCell (S := fun b => b = p) (Chg.refl _ w2) (p := ⟨p, 0, none⟩) rfl _
    have x3 : w3.heap[w1.heap.size]? = _ := (c3.block _ (Array.getElem?_eq_some_iff.1 x2).1 (fun e => by have := Z1.out; omega)).trans x2
    have y3 : w3.heap[w.heap.size]? = _ := (c3.block _ (Array.getElem?_eq_some_iff.1 y2).1 (fun e => by have := Z1.out; omega)).trans y2
    have m0 : w3.cell? ⟨w1.heap.size, 0, none⟩ = some (.int .i64 t.k) := by rw [cell_atL x3]; rfl
    have m1 : w3.cell? ⟨w1.heap.size, 1, none⟩ = some (.string ⟨t.t.toArray⟩) := by rw [cell_atL x3]; rfl
    have m2 : w3.cell? ⟨w1.heap.size, 2, none⟩ = some (.int .u64 t.n) := by rw [cell_atL x3]; rfl
    have m3 : w3.cell? ⟨w1.heap.size, 3, none⟩ = some (.int .i64 t.l) := by rw [cell_atL x3]; rfl
    have k0 : w3.cell? ⟨w.heap.size, 0, none⟩ = some (.int .i64 0) := by rw [cell_atL y3]; rfl
    have k1 : w3.cell? ⟨w.heap.size, 1, none⟩ = some (.string ⟨#[]⟩) := by rw [cell_atL y3]; rfl
    have k2 : w3.cell? ⟨w.heap.size, 2, none⟩ = some (.int .u64 0) := by rw [cell_atL y3]; rfl
    have k3 : w3.cell? ⟨w.heap.size, 3, none⟩ = some (.int .i64 0) := by rw [cell_atL y3]; rfl
    have j0 := frozen_atL y3 0
    have j1 := frozen_atL y3 1
    have j2 := frozen_atL y3 2
    have j3 := frozen_atL y3 3
    have O2 := hidOf (O1.out.trans o2)
    have HP3 := hidOf hp3
    have C3 := hidOf c3
    have Y3 := hidOf y3
    have Hw3 := hidOf hw3
    clear hw2 o2 x2 y2 hR2 hp3 c3 x3 y3 hw3 d0 e0 e1 e2 e3 n0 f1
    go_upto_region 5 with fail
    rw [← Hw3.out]
    clear g0 gf Hw3
    go_wp2
    refine bodyPost_ret (results_cell_row rfl _ _ w.heap.size 117 #[.int .i64 t.k, .string ⟨t.t.toArray⟩, .int .u64 t.n, .int .i64 t.l] (0, 0) _ rfl ?_ Tryz.underlying117 rfl size4T) rfl ?_
    · rw [set_atL (set_atL (set_atL (set_atL Y3.out 0 _) 1 _) 2 _) 3 _]
      rfl
    · have hP := HP.out.out O2.out
      have hc' : Chg (fun b => b = p) w w3 := Chg.then2 (Chg.of_out O2.out) C3.out
      have ht : TkR w g (off + 4) (u :: r) := HT.out.tail
      have hl1 : (u :: r).length = n - 1 := by rw [Hn.out]; simp
      obtain ⟨w4, hw4⟩ : ∃ w4, w4 = (((w3.setCell ⟨w.heap.size, 0, none⟩ (.int .i64 t.k)).setCell ⟨w.heap.size, 1, none⟩ (.string ⟨t.t.toArray⟩)).setCell ⟨w.heap.size, 2, none⟩ (.int .u64 t.n)).setCell ⟨w.heap.size, 3, none⟩ (.int .i64 t.l) := ⟨_, rfl⟩
      have cS : Chg (fun b => b = w.heap.size) w3 w4 := by
        rw [hw4]
        exact ((((Chg.refl (fun b => b = w.heap.size) w3).setCell (p := ⟨w.heap.size, 0, none⟩) rfl _).setCell (p := ⟨w.heap.size, 1, none⟩) rfl _).setCell (p := ⟨w.heap.size, 2, none⟩) rfl _).setCell (p := ⟨w.heap.size, 3, none⟩) rfl _
      rw [← hw4]
      have c4 : Chg (fun b => b = p) w w4 := hc'.trans cS (fun x hx hlt => by omega)
      have r4 : RB w4 p (.slice (some ⟨g, off + 4, none⟩) (n - 1) (cap - 1)) (.map (some mb)) sv := (cS.block p (Array.getElem?_eq_some_iff.1 HP3.out).1 (fun e => by omega)).trans HP3.out
      unfold REnd
      rw [Hq.out]
      exact ⟨rfl, HP.out.tokens c4 (by rw [hl1]; exact r4) ht (by rw [hl1]; omega), c4⟩
  · have hkb : (t.k != k) = true := by simp [hk]
    have Hq : Hid (tkQ k (t :: u :: r) = .no 60 (t :: u :: r)) := hidOf (by
      show (if t.k = k then RE.ok t (u :: r) else RE.no 60 (t :: u :: r)) = _
      rw [if_neg hk])
    clear hk
    go_enter Tryz.func97, Tryz.ntmps97
    go_upto_region 1 with fail
    rw [Hw1.out]
    go_wp2
    refine ⟨rfl, ?_⟩
    unfold REnd
    rw [Hq.out]
    exact ⟨rfl, HP.out.out (O1.out.alloc _), Chg.of_out (O1.out.alloc _)⟩
end Go.Proofs.YtkihaohdcgjioaaGreatDoor
namespace Go.Proofs.YtkihaohdcgjioaaGreatDoor
open Go.RowKit
set_option linter.unusedVariables false
set_option linter.unusedSimpArgs false
theorem fldT1 (a b c d : Value) (w : World) : (Instr.field 117 (.agg #[a, b, c, d]) 1).run Tryz.prog w = .ok b w := by kernel_rfl
theorem fldT2 (a b c d : Value) (w : World) : (Instr.field 117 (.agg #[a, b, c, d]) 2).run Tryz.prog w = .ok c w := by kernel_rfl
theorem isTableKind_any (x : List UInt8) (w : World) : Calls Tryz.prog 88 #[.string ⟨x.toArray⟩] w fun e w' => e = .returned (.bool (tknQ x)) ∧ w' = w := by
  have e1 : (arrB : List UInt8) = [97, 114, 114, 97, 121] := rfl
  have e2 : (hashB : List UInt8) = [104, 97, 115, 104] := rfl
  unfold tknQ
  rw [e1, e2]
  clear e1 e2
  cases h1 : (x == [97, 114, 114, 97, 121])
  all_goals cases h2 : (x == [104, 97, 115, 104])
  all_goals go_enter Tryz.func88, Tryz.ntmps88
  all_goals go_wp2
  all_goals go_ret
  all_goals exact ⟨rfl, rfl⟩
theorem isColon_any (t : Lx.Tk) (w : World) : Calls Tryz.prog 93 #[tkE t] w fun e w' => e = .returned (.bool (colQ t)) ∧ Out w w' := by
  unfold tkE colQ
  cases h1 : (t.k == 4)
  all_goals cases h2 : (t.t == [58])
  all_goals go_enter Tryz.func93, Tryz.ntmps93
  all_goals go_wp2
  all_goals go_ret
  all_goals exact ⟨rfl, (Out.refl w).alloc _⟩
set_option maxRecDepth 20000 in
/-- the word that is next -/
theorem word_any (B : Nat) (w : World) (p g mb : Nat) (sv : Value) (ts : List Lx.Tk) (h : PS B w p g mb sv ts) (hl : Lw ts) : Calls Tryz.prog 96 #[.pointer (some ⟨p, 0, none⟩)] w (REnd txE (wdQ ts) B w p g mb sv) := by
  have C := hidOf (take_any B w p g mb sv ts 1 h hl)
  unfold wdQ
  cases hq : tkQ 1 ts with
  | ok t r =>
    rw [hq] at C
    unfold REnd at C
    simp only at C
    unfold REnd RE.bind
    simp only
    clear h hl hq
    unfold tkE at C
    have hfl := fldT1
    go_enter Tryz.func96, Tryz.ntmps96
    go_wp2_with (go_at_call 97; refine C.out.mono ?_; rintro e w1 ⟨rfl, hp, hc⟩; have P1 := hidOf hp; have C1 := hidOf hc; clear hp hc)
    go_ret
    exact ⟨rfl, P1.out, C1.out⟩
  | no c r =>
    rw [hq] at C
    unfold REnd at C
    simp only at C
    unfold REnd RE.bind
    simp only
    clear h hl hq
    unfold pnc at C
    go_enter Tryz.func96, Tryz.ntmps96
    go_wp2_with (go_at_call 97; refine C.out.mono ?_; rintro e w1 ⟨rfl, hp, hc⟩; have P1 := hidOf hp; have C1 := hidOf hc; clear hp hc)
    exact ⟨rfl, rfl, P1.out, C1.out⟩
theorem bind_ok {α β : Type} (a : α) (ts : List Lx.Tk) (f : α → List Lx.Tk → RE β) : (RE.ok a ts).bind f = f a ts := rfl
theorem bind_no {α β : Type} (c : Int) (ts : List Lx.Tk) (f : α → List Lx.Tk → RE β) : (RE.no c ts : RE α).bind f = .no c ts := rfl
set_option maxRecDepth 20000 in
theorem tableKind_any (B : Nat) (w : World) (p g mb : Nat) (sv : Value) (ts : List Lx.Tk) (h : PS B w p g mb sv ts) (hl : Lw ts) : Calls Tryz.prog 135 #[.pointer (some ⟨p, 0, none⟩)] w (REnd txE (tdQ ts) B w p g mb sv) := by
  have C := hidOf (word_any B w p g mb sv ts h hl)
  unfold tdQ
  cases hq : wdQ ts with
  | ok x r =>
    have C : Hid (Calls Tryz.prog 96 #[.pointer (some ⟨p, 0, none⟩)] w fun e w' => e = .returned (.string ⟨x.toArray⟩) ∧ PS B w' p g mb sv r ∧ Chg (fun b => b = p) w w') := hidOf (by have := C.out; rw [hq] at this; exact this)
    have CK := hidOf (isTableKind_any x)
    rw [bind_ok]
    clear h hl hq
    cases hx : tknQ x
    · rw [hx] at CK
      rw [if_neg (by simp)]
      clear hx
      go_enter Tryz.func135, Tryz.ntmps135
      go_wp2_with (first | (go_at_call 96; refine C.out.mono ?_; rintro e w1 ⟨rfl, hp, hc⟩; have P1 := hidOf hp; have C1 := hidOf hc; clear hp hc) | (go_at_call 88; refine (CK.out _).mono ?_; rintro e wk ⟨rfl, hw⟩; subst hw))
      exact ⟨rfl, rfl, P1.out, C1.out⟩
    · rw [hx] at CK
      rw [if_pos rfl]
      clear hx
      go_enter Tryz.func135, Tryz.ntmps135
      go_wp2_with (first | (go_at_call 96; refine C.out.mono ?_; rintro e w1 ⟨rfl, hp, hc⟩; have P1 := hidOf hp; have C1 := hidOf hc; clear hp hc) | (go_at_call 88; refine (CK.out _).mono ?_; rintro e wk ⟨rfl, hw⟩; subst hw))
      go_ret
      exact ⟨rfl, P1.out, C1.out⟩
  | no c r =>
    have C : Hid (Calls Tryz.prog 96 #[.pointer (some ⟨p, 0, none⟩)] w fun e w' => e = .panicked [{ v := .iface 49 (.int .i64 c), recovered := false }] ∧ PS B w' p g mb sv r ∧ Chg (fun b => b = p) w w') := hidOf (by have := C.out; rw [hq] at this; exact this)
    rw [bind_no]
    clear h hl hq
    go_enter Tryz.func135, Tryz.ntmps135
    go_wp2_with (go_at_call 96; refine C.out.mono ?_; rintro e w1 ⟨rfl, hp, hc⟩; have P1 := hidOf hp; have C1 := hidOf hc; clear hp hc)
    exact ⟨rfl, rfl, P1.out, C1.out⟩
def inE (n : Int) : Value := .int .i64 n
set_option maxRecDepth 20000 in
theorem number6_any (B : Nat) (w : World) (p g mb : Nat) (sv : Value) (ts : List Lx.Tk) (h : PS B w p g mb sv ts) (hl : Lw ts) (hN : TkOk ts) : Calls Tryz.prog 136 #[.pointer (some ⟨p, 0, none⟩)] w (REnd inE (nuQ ts) B w p g mb sv) := by
  have C := hidOf (take_any B w p g mb sv ts 3 h hl)
  unfold nuQ
  cases hq : tkQ 3 ts with
  | ok t r =>
    have ht : t ∈ ts := by
      obtain ⟨t', r', rfl⟩ := hl.ne
      have hq' : (if t'.k = 3 then RE.ok t' r' else RE.no 60 (t' :: r')) = RE.ok t r := hq
      by_cases e : t'.k = 3
      · rw [if_pos e] at hq'; cases hq'; simp
      · rw [if_neg e] at hq'; cases hq'
    obtain ⟨n0, n1, -⟩ := hN t ht
    have C : Hid (Calls Tryz.prog 97 #[.pointer (some ⟨p, 0, none⟩), .int .i64 3] w fun e w' => e = .returned (.agg #[.int .i64 t.k, .string ⟨t.t.toArray⟩, .int .u64 t.n, .int .i64 t.l]) ∧ PS B w' p g mb sv r ∧ Chg (fun b => b = p) w w') := hidOf (by have := C.out; rw [hq] at this; exact this)
    rw [bind_ok]
    clear h hl hq hN ht
    have hfl := fldT2
    by_cases hx : t.n ≤ 2147483647
    · rw [if_pos hx]
      have hb : ¬ (2147483647 : Int) < t.n := by omega
      go_enter Tryz.func136, Tryz.ntmps136
      go_wp2_with (go_at_call 97; refine C.out.mono ?_; rintro e w1 ⟨rfl, hp, hc⟩; have P1 := hidOf hp; have C1 := hidOf hc; clear hp hc)
      go_ret
      exact ⟨rfl, P1.out, C1.out⟩
    · rw [if_neg hx]
      have hb : (2147483647 : Int) < t.n := by omega
      go_enter Tryz.func136, Tryz.ntmps136
      go_wp2_with (go_at_call 97; refine C.out.mono ?_; rintro e w1 ⟨rfl, hp, hc⟩; have P1 := hidOf hp; have C1 := hidOf hc; clear hp hc)
      exact ⟨rfl, rfl, P1.out, C1.out⟩
  | no c r =>
    have C : Hid (Calls Tryz.prog 97 #[.pointer (some ⟨p, 0, none⟩), .int .i64 3] w fun e w' => e = .panicked [{ v := .iface 49 (.int .i64 c), recovered := false }] ∧ PS B w' p g mb sv r ∧ Chg (fun b => b = p) w w') := hidOf (by have := C.out; rw [hq] at this; exact this)
    rw [bind_no]
    clear h hl hq hN
    go_enter Tryz.func136, Tryz.ntmps136
    go_wp2_with (go_at_call 97; refine C.out.mono ?_; rintro e w1 ⟨rfl, hp, hc⟩; have P1 := hidOf hp; have C1 := hidOf hc; clear hp hc)
    exact ⟨rfl, rfl, P1.out, C1.out⟩
end Go.Proofs.YtkihaohdcgjioaaGreatDoor
