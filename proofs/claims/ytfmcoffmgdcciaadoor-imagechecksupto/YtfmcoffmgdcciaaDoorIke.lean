import Derived.Test.YtfmcoffmgdcciaaDoorIkr
import Derived.Test.YtfmcoffmgdcciaaDoorIyo
namespace Go.Proofs.YtfmcoffmgdcciaaDoor
open Go.RowKit
set_option linter.unusedVariables false
set_option linter.unusedSimpArgs false
/-- what stands behind lists that are lent -/
def beI (i : Nat) : Ins := ⟨-7, 0, 0, 0, i⟩
def beF (i : Nat) : Fn := ⟨[98, 101, 104, 105, 110, 100], 0, i, 0⟩
def beD (i : Nat) : Td := ⟨[98, 101, 104, 105, 110, 100], 0, i, 0, 0⟩
def beh {α : Type} (f : Nat → α) (a k : Nat) : List α := (List.range' a k).map f
theorem beh_len {α : Type} (f : Nat → α) (a k : Nat) : (beh f a k).length = k := by simp [beh]
theorem beh_set {α : Type} (f : Nat → α) (L : List α) (j : Nat) (h : j < L.length) : (beh f 0 j ++ L.drop j).set j (f j) = beh f 0 (j + 1) ++ L.drop (j + 1) := by
  rw [List.set_append_right _ _ (by rw [beh_len]; omega), beh_len, Nat.sub_self, List.drop_eq_getElem_cons h, List.set_cons_zero]
  simp only [beh, List.range'_concat, Nat.zero_add, Nat.one_mul, List.map_append, List.map_cons, List.map_nil, List.append_assoc]
  rfl
theorem beh_get {α : Type} (f : Nat → α) (L : List α) (j : Nat) (h : j < L.length) : ∃ x, (beh f 0 j ++ L.drop j)[j]? = some x := ⟨_, List.getElem?_eq_getElem (by rw [List.length_append, beh_len, List.length_drop]; omega)⟩
theorem beh_drop {α : Type} (f : Nat → α) (n N : Nat) : (beh f 0 N).drop n = beh f n (N - n) := by
  simp only [beh, ← List.map_drop, List.drop_range']
  congr 2; omega
/-- the rows of a Lent -/
structure LnR (w : World) (b gt gf gd : Nat) (LT : List Ins) (LF : List Fn) (LD : List Td) : Prop where
  box : w.heap[b]? = some (.cells #[.slice (some ⟨gt, 0, none⟩) LT.length LT.length, .slice (some ⟨gf, 0, none⟩) LF.length LF.length, .slice (some ⟨gd, 0, none⟩) LD.length LD.length] 29 (0, 0))
  t : RowI w gt LT []
  f : RowF w gf LF []
  d : RowD w gd LD []
  tf : ¬ gt = gf
  td : ¬ gt = gd
  fd : ¬ gf = gd
  bt : ¬ b = gt
  bf : ¬ b = gf
  bd : ¬ b = gd
def LnS (b gt gf gd k : Nat) : Prop := k = b ∨ k = gt ∨ k = gf ∨ k = gd
theorem LnR.out {w w' : World} {b gt gf gd : Nat} {LT : List Ins} {LF : List Fn} {LD : List Td} (h : LnR w b gt gf gd LT LF LD) (o : Out w w') : LnR w' b gt gf gd LT LF LD :=
  ⟨(o.block b (Array.getElem?_eq_some_iff.1 h.box).1).trans h.box, h.t.out o, h.f.out o, h.d.out o, h.tf, h.td, h.fd, h.bt, h.bf, h.bd⟩
theorem LnR.keep {S : Nat → Prop} {w w' : World} {b gt gf gd : Nat} {LT : List Ins} {LF : List Fn} {LD : List Td} (h : LnR w b gt gf gd LT LF LD) (c : Chg S w w') (hs : ∀ k, LnS b gt gf gd k → ¬ S k) : LnR w' b gt gf gd LT LF LD :=
  ⟨(c.block b (Array.getElem?_eq_some_iff.1 h.box).1 (hs b (.inl rfl))).trans h.box, h.t.chg c (hs gt (.inr (.inl rfl))), h.f.chg c (hs gf (.inr (.inr (.inl rfl)))), h.d.chg c (hs gd (.inr (.inr (.inr rfl)))), h.tf, h.td, h.fd, h.bt, h.bf, h.bd⟩
theorem blk_al {w : World} {q : Nat} {X : Obj} (h : w.heap[q]? = some X) (O : Obj) : (w.alloc O).heap[q]? = some X := (Below.heap_alloc _ _ _ (Array.getElem?_eq_some_iff.1 h).1).trans h
theorem blk_oth {w : World} {q b k : Nat} {v : Value} {X : Obj} (h : w.heap[q]? = some X) (hq : ¬ q = b) : (w.setCell ⟨b, k, none⟩ v).heap[q]? = some X := (Chg.block (Chg.setCell (S := fun x => x = b) (Chg.refl _ w) (p := ⟨b, k, none⟩) rfl v) q (Array.getElem?_eq_some_iff.1 h).1 hq).trans h
/-- a Lent's rows, the image's box, the result's box -/
structure LyS (w w1 : World) (b gt gf gd q : Nat) (LT : List Ins) (LF : List Fn) (LD : List Td) (X : Array Value) : Prop where
  ln : LnR w1 b gt gf gd LT LF LD
  bx : w1.heap[q]? = some (.cells X 26 (0, 0))
  rs : w1.heap[q + 1]? = some (.cells #[.slice none 0 0, .slice none 0 0, .slice none 0 0, .int .i64 0] 26 (0, 0))
  ch : Chg (LnS b gt gf gd) w w1
  qn : ¬ LnS b gt gf gd q
  rn : ¬ LnS b gt gf gd (q + 1)
theorem LnR.t' {w w' : World} {b gt gf gd : Nat} {LT : List Ins} {LF : List Fn} {LD : List Td} {L' : List Ins} (h : LnR w b gt gf gd LT LF LD) (c : Chg (fun k => k = gt) w w') (r : RowI w' gt L' []) (hl : L'.length = LT.length) : LnR w' b gt gf gd L' LF LD :=
  ⟨by rw [hl]; exact (c.block b (Array.getElem?_eq_some_iff.1 h.box).1 h.bt).trans h.box, r, h.f.chg c (fun e => h.tf e.symm), h.d.chg c (fun e => h.td e.symm), h.tf, h.td, h.fd, h.bt, h.bf, h.bd⟩
theorem LyS.t' {w w1 w' : World} {b gt gf gd q : Nat} {LT : List Ins} {LF : List Fn} {LD : List Td} {X : Array Value} {L' : List Ins} (h : LyS w w1 b gt gf gd q LT LF LD X) (c : Chg (fun k => k = gt) w1 w') (r : RowI w' gt L' []) (hl : L'.length = LT.length) : LyS w w' b gt gf gd q L' LF LD X :=
  have hs : LnS b gt gf gd gt := .inr (.inl rfl)
  ⟨h.ln.t' c r hl, (c.block q (Array.getElem?_eq_some_iff.1 h.bx).1 (fun e => h.qn (e ▸ hs))).trans h.bx, (c.block (q + 1) (Array.getElem?_eq_some_iff.1 h.rs).1 (fun e => h.rn (e ▸ hs))).trans h.rs, h.ch.trans c (fun x hx _ => hx ▸ hs), h.qn, h.rn⟩
theorem LnR.f' {w w' : World} {b gt gf gd : Nat} {LT : List Ins} {LF : List Fn} {LD : List Td} {L' : List Fn} (h : LnR w b gt gf gd LT LF LD) (c : Chg (fun k => k = gf) w w') (r : RowF w' gf L' []) (hl : L'.length = LF.length) : LnR w' b gt gf gd LT L' LD :=
  ⟨by rw [hl]; exact (c.block b (Array.getElem?_eq_some_iff.1 h.box).1 h.bf).trans h.box, h.t.chg c h.tf, r, h.d.chg c (fun e => h.fd e.symm), h.tf, h.td, h.fd, h.bt, h.bf, h.bd⟩
theorem LyS.f' {w w1 w' : World} {b gt gf gd q : Nat} {LT : List Ins} {LF : List Fn} {LD : List Td} {X : Array Value} {L' : List Fn} (h : LyS w w1 b gt gf gd q LT LF LD X) (c : Chg (fun k => k = gf) w1 w') (r : RowF w' gf L' []) (hl : L'.length = LF.length) : LyS w w' b gt gf gd q LT L' LD X :=
  have hs : LnS b gt gf gd gf := .inr (.inr (.inl rfl))
  ⟨h.ln.f' c r hl, (c.block q (Array.getElem?_eq_some_iff.1 h.bx).1 (fun e => h.qn (e ▸ hs))).trans h.bx, (c.block (q + 1) (Array.getElem?_eq_some_iff.1 h.rs).1 (fun e => h.rn (e ▸ hs))).trans h.rs, h.ch.trans c (fun x hx _ => hx ▸ hs), h.qn, h.rn⟩
theorem LnR.d' {w w' : World} {b gt gf gd : Nat} {LT : List Ins} {LF : List Fn} {LD : List Td} {L' : List Td} (h : LnR w b gt gf gd LT LF LD) (c : Chg (fun k => k = gd) w w') (r : RowD w' gd L' []) (hl : L'.length = LD.length) : LnR w' b gt gf gd LT LF L' :=
  ⟨by rw [hl]; exact (c.block b (Array.getElem?_eq_some_iff.1 h.box).1 h.bd).trans h.box, h.t.chg c h.td, h.f.chg c h.fd, r, h.tf, h.td, h.fd, h.bt, h.bf, h.bd⟩
theorem LyS.d' {w w1 w' : World} {b gt gf gd q : Nat} {LT : List Ins} {LF : List Fn} {LD : List Td} {X : Array Value} {L' : List Td} (h : LyS w w1 b gt gf gd q LT LF LD X) (c : Chg (fun k => k = gd) w1 w') (r : RowD w' gd L' []) (hl : L'.length = LD.length) : LyS w w' b gt gf gd q LT LF L' X :=
  have hs : LnS b gt gf gd gd := .inr (.inr (.inr rfl))
  ⟨h.ln.d' c r hl, (c.block q (Array.getElem?_eq_some_iff.1 h.bx).1 (fun e => h.qn (e ▸ hs))).trans h.bx, (c.block (q + 1) (Array.getElem?_eq_some_iff.1 h.rs).1 (fun e => h.rn (e ▸ hs))).trans h.rs, h.ch.trans c (fun x hx _ => hx ▸ hs), h.qn, h.rn⟩
theorem LyS.dr {w w1 : World} {b gt gf gd q : Nat} {LT : List Ins} {LF : List Fn} {LD : List Td} {X : Array Value} (h : LyS w w1 b gt gf gd q LT LF LD X) (n : Nat) : LyS w (w1.drewN n) b gt gf gd q LT LF LD X :=
  ⟨h.ln.out (Out.drewN (Out.refl _) n), h.bx, h.rs, h.ch.of_drewN n, h.qn, h.rn⟩
theorem LyS.dr1 {w w1 : World} {b gt gf gd q : Nat} {LT : List Ins} {LF : List Fn} {LD : List Td} {X : Array Value} (h : LyS w w1 b gt gf gd q LT LF LD X) : LyS w w1.drew b gt gf gd q LT LF LD X :=
  ⟨h.ln.out (Out.drew (Out.refl _)), h.bx, h.rs, h.ch.drew, h.qn, h.rn⟩
theorem Chg.put5 {S : Nat → Prop} {w wq : World} {g : Nat} (h : Chg S w wq) (hg : S g) (a b c d e : Nat) (u v x y z : Value) : Chg S w (((((wq.setCell ⟨g, a, none⟩ u).setCell ⟨g, b, none⟩ v).setCell ⟨g, c, none⟩ x).setCell ⟨g, d, none⟩ y).setCell ⟨g, e, none⟩ z) :=
  Chg.setCell (S := S) (Chg.put4 h hg a b c d u v x y) (p := ⟨g, e, none⟩) hg z
set_option maxRecDepth 20000 in
set_option maxHeartbeats 4000000 in
theorem layN_any (w : World) (b : Nat) (m : Img) (ta fa da : Option Addr) (tc fc dc : Nat) (hb : w.heap[b]? = some (.cells #[.slice none 0 0, .slice none 0 0, .slice none 0 0] 29 (0, 0))) (hM : ∀ wx, Chg (fun k => k = b) w wx → ImS wx ta fa da m) (hT : m.T.length ≤ 1048576) (hF : m.F.length ≤ 1048576) (hD : m.D.length ≤ 1048576) :
    Calls Tryd.prog 11 #[.pointer (some ⟨b, 0, none⟩), .agg #[.slice ta m.T.length tc, .slice fa m.F.length fc, .slice da m.D.length dc, .int .i64 m.en]] w fun e w' => ∃ gt gf gd, e = .returned (.agg #[.slice (some ⟨gt, 0, none⟩) m.T.length (4 * m.T.length + 140), .slice (some ⟨gf, 0, none⟩) m.F.length (4 * m.F.length + 140), .slice (some ⟨gd, 0, none⟩) m.D.length (4 * m.D.length + 140), .int .i64 m.en]) ∧ LnR w' b gt gf gd (m.T ++ beh beI m.T.length (3 * m.T.length + 140)) (m.F ++ beh beF m.F.length (3 * m.F.length + 140)) (m.D ++ beh beD m.D.length (3 * m.D.length + 140)) ∧ (w.heap.size ≤ gt ∧ w.heap.size ≤ gf ∧ w.heap.size ≤ gd) ∧ Chg (fun k => k = b) w w' := by
  obtain ⟨T, F, D, en⟩ := m
  simp only at *
  obtain ⟨nt, hnt⟩ : ∃ n, Hid (n = T.length) := ⟨_, rfl⟩
  obtain ⟨nf, hnf⟩ : ∃ n, Hid (n = F.length) := ⟨_, rfl⟩
  obtain ⟨nd, hnd⟩ : ∃ n, Hid (n = D.length) := ⟨_, rfl⟩
  rw [← hnt.out, ← hnf.out, ← hnd.out]
  rw [← hnt.out] at hT
  rw [← hnf.out] at hF
  rw [← hnd.out] at hD
  obtain ⟨NT, hNT⟩ : ∃ n, Hid (n = 4 * nt + 140) := ⟨_, rfl⟩
  obtain ⟨NF, hNF⟩ : ∃ n, Hid (n = 4 * nf + 140) := ⟨_, rfl⟩
  obtain ⟨ND, hND⟩ : ∃ n, Hid (n = 4 * nd + 140) := ⟨_, rfl⟩
  rw [← hNT.out, ← hNF.out, ← hND.out]
  have kT : nt ≤ NT := by rw [hNT.out]; omega
  have kF : nf ≤ NF := by rw [hNF.out]; omega
  have kD : nd ≤ ND := by rw [hND.out]; omega
  have kT' : (nt : Int) ≤ NT := by omega
  have kF' : (nf : Int) ≤ NF := by omega
  have kD' : (nd : Int) ≤ ND := by omega
  have mT : NT ≤ 5000000 := by rw [hNT.out]; omega
  have mF : NF ≤ 5000000 := by rw [hNF.out]; omega
  have mD : ND ≤ 5000000 := by rw [hND.out]; omega
  have HM := hidOf hM
  clear hM
  obtain ⟨q, hq⟩ : ∃ q, Hid (q = w.heap.size) := ⟨_, rfl⟩
  obtain ⟨X, hX⟩ : ∃ X : Array Value, Hid (X = #[.slice ta nt tc, .slice fa nf fc, .slice da nd dc, .int .i64 en]) := ⟨_, rfl⟩
  obtain ⟨wA, hwA⟩ : ∃ wA, Hid (wA = (w.alloc (.cells #[.slice ta nt tc, .slice fa nf fc, .slice da nd dc, .int .i64 en] 26)).alloc (.cells #[.slice none 0 0, .slice none 0 0, .slice none 0 0, .int .i64 0] 26)) := ⟨_, rfl⟩
  have OA : Hid (Out w wA) := hidOf (by rw [hwA.out]; exact Out.alloc (Out.alloc (Out.refl _) _) _)
  have bxA : wA.heap[q]? = some (.cells X 26 (0, 0)) := by rw [hwA.out, hq.out, hX.out]; exact blk_al (heap_alloc_new w _) _
  have rsA : wA.heap[q + 1]? = some (.cells #[.slice none 0 0, .slice none 0 0, .slice none 0 0, .int .i64 0] 26 (0, 0)) := by
    have := heap_alloc_new (w.alloc (.cells #[.slice ta nt tc, .slice fa nf fc, .slice da nd dc, .int .i64 en] 26)) (.cells #[.slice none 0 0, .slice none 0 0, .slice none 0 0, .int .i64 0] 26)
    rw [size_alloc, ← hwA.out, ← hq.out] at this; exact this
  have szA : Hid (wA.heap.size = q + 2) := hidOf (by rw [hwA.out, size_alloc, size_alloc, hq.out])
  have hbl : b < w.heap.size := (Array.getElem?_eq_some_iff.1 hb).1
  have hbq : b < q := by rw [hq.out]; exact hbl
  have mkI : ∀ wx : World, (Instr.makeSlice 22 (.int .i64 (4 * (nt : Int) + 140)) (.int .i64 (4 * (nt : Int) + 140))).run Tryd.prog wx = .ok (.slice (some ⟨wx.heap.size, 0, none⟩) NT NT) (wx.alloc (.cells (rowI (List.replicate NT zrI)).toArray 40)) := fun wx => by
    have := run_makeI NT (by omega) wx
    rw [show ((NT : Nat) : Int) = 4 * (nt : Int) + 140 by rw [hNT.out]; simp] at this
    exact this
  have mkF : ∀ wx : World, (Instr.makeSlice 23 (.int .i64 (4 * (nf : Int) + 140)) (.int .i64 (4 * (nf : Int) + 140))).run Tryd.prog wx = .ok (.slice (some ⟨wx.heap.size, 0, none⟩) NF NF) (wx.alloc (.cells (rowF (List.replicate NF zrF)).toArray 59)) := fun wx => by
    have := run_makeF NF (by omega) wx
    rw [show ((NF : Nat) : Int) = 4 * (nf : Int) + 140 by rw [hNF.out]; simp] at this
    exact this
  have mkD : ∀ wx : World, (Instr.makeSlice 24 (.int .i64 (4 * (nd : Int) + 140)) (.int .i64 (4 * (nd : Int) + 140))).run Tryd.prog wx = .ok (.slice (some ⟨wx.heap.size, 0, none⟩) ND ND) (wx.alloc (.cells (rowD (List.replicate ND zrD)).toArray 42)) := fun wx => by
    have := run_makeD ND (by omega) wx
    rw [show ((ND : Nat) : Int) = 4 * (nd : Int) + 140 by rw [hND.out]; simp] at this
    exact this
  have p0 : (0 : Int) < 2 * (nt : Int) + 70 := by omega
  have p1 : (0 : Int) < 2 * (nf : Int) + 70 := by omega
  have p2 : (0 : Int) < 2 * (nd : Int) + 70 := by omega
  have hbA : wA.heap[b]? = some (.cells #[.slice none 0 0, .slice none 0 0, .slice none 0 0] 29 (0, 0)) := (OA.out.block b hbl).trans hb
  go_enter Tryd.func11, Tryd.ntmps11
  go_upto_region 1 with fail
  rw [← hwA.out, ← hq.out]
  have a0 : wA.cell? ⟨b, 0, none⟩ = some (.slice none 0 0) := by rw [cell_atL hbA]; rfl
  have q0 : wA.cell? ⟨q, 0, none⟩ = some (.slice ta nt tc) := by rw [cell_atL bxA, hX.out]; rfl
  have ac : ∀ k O, ((wA.drewN k).alloc O).cell? ⟨b, 0, none⟩ = some (.slice none 0 0) := fun k O => by rw [cell_atL (blk_al (w := wA.drewN k) hbA O)]; rfl
  have af : ∀ k O, ((wA.drewN k).alloc O).frozen? ⟨b, 0, none⟩ = false := fun k O => frozen_atL (blk_al (w := wA.drewN k) hbA O) 0
  have aq : ∀ k, (wA.drewN k).cell? ⟨q, 0, none⟩ = some (.slice ta nt tc) := fun k => q0
  go_quiet (fail)
  go_upto_region 3 with fail
  obtain ⟨gt, hgt⟩ : ∃ g, Hid (g = wA.heap.size) := ⟨_, rfl⟩
  obtain ⟨wB0, hwB0⟩ : ∃ wx, Hid (wx = ((wA.drewN nq).alloc (.cells (rowI (List.replicate NT zrI)).toArray 40)).setCell ⟨b, 0, none⟩ (.slice (some ⟨gt, 0, none⟩) NT NT)) := ⟨_, rfl⟩
  rw [← hgt.out, ← hwB0.out]
  have szgt : Hid (gt = q + 2) := hidOf (by rw [hgt.out]; exact szA.out)
  have OwB0 : Hid (Chg (fun k => k = b) w wB0) := hidOf (by rw [hwB0.out]; exact Chg.setCell (S := fun k => k = b) (Chg.alloc (Chg.of_drewN (Chg.of_out OA.out) nq) _) (p := ⟨b, 0, none⟩) rfl _)
  have szB0 : Hid (wB0.heap.size = gt + 1) := hidOf (by rw [hwB0.out, World.size_setCell, size_alloc]; show wA.heap.size + 1 = gt + 1; rw [hgt.out])
  replace bxA : wB0.heap[q]? = some (.cells X 26 (0, 0)) := by rw [hwB0.out]; exact blk_oth (blk_al (w := wA.drewN nq) bxA _) (by omega)
  replace rsA : wB0.heap[q + 1]? = some (.cells #[.slice none 0 0, .slice none 0 0, .slice none 0 0, .int .i64 0] 26 (0, 0)) := by rw [hwB0.out]; exact blk_oth (blk_al (w := wA.drewN nq) rsA _) (by omega)
  have rw0 : Hid (RowI wB0 gt (List.replicate NT zrI) []) := hidOf (by
    show wB0.heap[gt]? = _
    rw [List.append_nil, hwB0.out]
    exact blk_oth (by rw [hgt.out]; exact heap_alloc_new (wA.drewN nq) _) (by have := szgt.out; omega))
  replace hbA : wB0.heap[b]? = some (.cells #[.slice (some ⟨gt, 0, none⟩) NT NT, .slice none 0 0, .slice none 0 0] 29 (0, 0)) := by rw [hwB0.out]; exact blk_setR (blk_al (w := wA.drewN nq) hbA _) 0 _
  clear a0 q0 ac af aq
  have a1 : wB0.cell? ⟨b, 1, none⟩ = some (.slice none 0 0) := by rw [cell_atL hbA]; rfl
  have q1 : wB0.cell? ⟨q, 1, none⟩ = some (.slice fa nf fc) := by rw [cell_atL bxA, hX.out]; rfl
  have ac : ∀ k O, ((wB0.drewN k).alloc O).cell? ⟨b, 1, none⟩ = some (.slice none 0 0) := fun k O => by rw [cell_atL (blk_al (w := wB0.drewN k) hbA O)]; rfl
  have af : ∀ k O, ((wB0.drewN k).alloc O).frozen? ⟨b, 1, none⟩ = false := fun k O => frozen_atL (blk_al (w := wB0.drewN k) hbA O) 1
  have aq : ∀ k, (wB0.drewN k).cell? ⟨q, 1, none⟩ = some (.slice fa nf fc) := fun k => q1
  go_quiet (fail)
  go_upto_region 5 with fail
  obtain ⟨gf, hgf⟩ : ∃ g, Hid (g = wB0.heap.size) := ⟨_, rfl⟩
  obtain ⟨wB1, hwB1⟩ : ∃ wx, Hid (wx = ((wB0.drewN nq).alloc (.cells (rowF (List.replicate NF zrF)).toArray 59)).setCell ⟨b, 1, none⟩ (.slice (some ⟨gf, 0, none⟩) NF NF)) := ⟨_, rfl⟩
  rw [← hgf.out, ← hwB1.out]
  have szgf : Hid (gf = gt + 1) := hidOf (by rw [hgf.out]; exact szB0.out)
  have OwB1 : Hid (Chg (fun k => k = b) w wB1) := hidOf (by rw [hwB1.out]; exact Chg.setCell (S := fun k => k = b) (Chg.alloc (Chg.of_drewN OwB0.out nq) _) (p := ⟨b, 1, none⟩) rfl _)
  have szB1 : Hid (wB1.heap.size = gf + 1) := hidOf (by rw [hwB1.out, World.size_setCell, size_alloc]; show wB0.heap.size + 1 = gf + 1; rw [hgf.out])
  replace bxA : wB1.heap[q]? = some (.cells X 26 (0, 0)) := by rw [hwB1.out]; exact blk_oth (blk_al (w := wB0.drewN nq) bxA _) (by omega)
  replace rsA : wB1.heap[q + 1]? = some (.cells #[.slice none 0 0, .slice none 0 0, .slice none 0 0, .int .i64 0] 26 (0, 0)) := by rw [hwB1.out]; exact blk_oth (blk_al (w := wB0.drewN nq) rsA _) (by omega)
  have rw1 : Hid (RowF wB1 gf (List.replicate NF zrF) []) := hidOf (by
    show wB1.heap[gf]? = _
    rw [List.append_nil, hwB1.out]
    exact blk_oth (by rw [hgf.out]; exact heap_alloc_new (wB0.drewN nq) _) (by have := szgt.out; have := szgf.out; omega))
  replace rw0 : Hid (RowI wB1 gt (List.replicate NT zrI) []) := hidOf (by rw [hwB1.out]; exact RowI.chg (RowI.out (RowI.out rw0.out (Out.drewN (Out.refl _) nq)) (Out.alloc (Out.refl _) _)) (Chg.setCell (S := fun k => k = b) (Chg.refl _ _) (p := ⟨b, 1, none⟩) rfl _) (by have := szgt.out; omega))
  replace hbA : wB1.heap[b]? = some (.cells #[.slice (some ⟨gt, 0, none⟩) NT NT, .slice (some ⟨gf, 0, none⟩) NF NF, .slice none 0 0] 29 (0, 0)) := by rw [hwB1.out]; exact blk_setR (blk_al (w := wB0.drewN nq) hbA _) 1 _
  clear a1 q1 ac af aq
  have a2 : wB1.cell? ⟨b, 2, none⟩ = some (.slice none 0 0) := by rw [cell_atL hbA]; rfl
  have q2 : wB1.cell? ⟨q, 2, none⟩ = some (.slice da nd dc) := by rw [cell_atL bxA, hX.out]; rfl
  have ac : ∀ k O, ((wB1.drewN k).alloc O).cell? ⟨b, 2, none⟩ = some (.slice none 0 0) := fun k O => by rw [cell_atL (blk_al (w := wB1.drewN k) hbA O)]; rfl
  have af : ∀ k O, ((wB1.drewN k).alloc O).frozen? ⟨b, 2, none⟩ = false := fun k O => frozen_atL (blk_al (w := wB1.drewN k) hbA O) 2
  have aq : ∀ k, (wB1.drewN k).cell? ⟨q, 2, none⟩ = some (.slice da nd dc) := fun k => q2
  go_quiet (fail)
  go_upto_region 7 with fail
  obtain ⟨gd, hgd⟩ : ∃ g, Hid (g = wB1.heap.size) := ⟨_, rfl⟩
  obtain ⟨wB2, hwB2⟩ : ∃ wx, Hid (wx = ((wB1.drewN nq).alloc (.cells (rowD (List.replicate ND zrD)).toArray 42)).setCell ⟨b, 2, none⟩ (.slice (some ⟨gd, 0, none⟩) ND ND)) := ⟨_, rfl⟩
  rw [← hgd.out, ← hwB2.out]
  have szgd : Hid (gd = gf + 1) := hidOf (by rw [hgd.out]; exact szB1.out)
  have OwB2 : Hid (Chg (fun k => k = b) w wB2) := hidOf (by rw [hwB2.out]; exact Chg.setCell (S := fun k => k = b) (Chg.alloc (Chg.of_drewN OwB1.out nq) _) (p := ⟨b, 2, none⟩) rfl _)
  have szB2 : Hid (wB2.heap.size = gd + 1) := hidOf (by rw [hwB2.out, World.size_setCell, size_alloc]; show wB1.heap.size + 1 = gd + 1; rw [hgd.out])
  replace bxA : wB2.heap[q]? = some (.cells X 26 (0, 0)) := by rw [hwB2.out]; exact blk_oth (blk_al (w := wB1.drewN nq) bxA _) (by omega)
  replace rsA : wB2.heap[q + 1]? = some (.cells #[.slice none 0 0, .slice none 0 0, .slice none 0 0, .int .i64 0] 26 (0, 0)) := by rw [hwB2.out]; exact blk_oth (blk_al (w := wB1.drewN nq) rsA _) (by omega)
  have rw2 : Hid (RowD wB2 gd (List.replicate ND zrD) []) := hidOf (by
    show wB2.heap[gd]? = _
    rw [List.append_nil, hwB2.out]
    exact blk_oth (by rw [hgd.out]; exact heap_alloc_new (wB1.drewN nq) _) (by have := szgt.out; have := szgf.out; have := szgd.out; omega))
  replace rw0 : Hid (RowI wB2 gt (List.replicate NT zrI) []) := hidOf (by rw [hwB2.out]; exact RowI.chg (RowI.out (RowI.out rw0.out (Out.drewN (Out.refl _) nq)) (Out.alloc (Out.refl _) _)) (Chg.setCell (S := fun k => k = b) (Chg.refl _ _) (p := ⟨b, 2, none⟩) rfl _) (by have := szgt.out; have := szgf.out; omega))
  replace rw1 : Hid (RowF wB2 gf (List.replicate NF zrF) []) := hidOf (by rw [hwB2.out]; exact RowF.chg (RowF.out (RowF.out rw1.out (Out.drewN (Out.refl _) nq)) (Out.alloc (Out.refl _) _)) (Chg.setCell (S := fun k => k = b) (Chg.refl _ _) (p := ⟨b, 2, none⟩) rfl _) (by have := szgt.out; have := szgf.out; omega))
  replace hbA : wB2.heap[b]? = some (.cells #[.slice (some ⟨gt, 0, none⟩) NT NT, .slice (some ⟨gf, 0, none⟩) NF NF, .slice (some ⟨gd, 0, none⟩) ND ND] 29 (0, 0)) := by rw [hwB2.out]; exact blk_setR (blk_al (w := wB1.drewN nq) hbA _) 2 _
  clear a2 q2 ac af aq
  have e1 : gt = q + 2 := szgt.out
  have e2 : gf = gt + 1 := szgf.out
  have e3 : gd = gf + 1 := szgd.out
  have SD : Hid (LyS w wB2 b gt gf gd q (List.replicate NT zrI) (List.replicate NF zrF) (List.replicate ND zrD) X) := hidOf ⟨⟨by simp only [List.length_replicate]; exact hbA, rw0.out, rw1.out, rw2.out, by omega, by omega, by omega, by omega, by omega, by omega⟩, bxA, rsA, OwB2.out.mono (fun x h _ => .inl h), by unfold LnS; omega, by unfold LnS; omega⟩
  have HMS : Hid (∀ wx, Chg (LnS b gt gf gd) w wx → ImS wx ta fa da ⟨T, F, D, en⟩) := hidOf (fun wx c => HM.out wx (c.mono (fun x h hl => by rw [← hq.out] at hl; unfold LnS at h; omega)))
  obtain ⟨LT, hLT⟩ : ∃ L, Hid (L = List.replicate NT zrI) := ⟨_, rfl⟩
  obtain ⟨LF, hLF⟩ : ∃ L, Hid (L = List.replicate NF zrF) := ⟨_, rfl⟩
  obtain ⟨LD, hLD⟩ : ∃ L, Hid (L = List.replicate ND zrD) := ⟨_, rfl⟩
  have l1 : LT.length = NT := by rw [hLT.out]; simp
  have l2 : LF.length = NF := by rw [hLF.out]; simp
  have l3 : LD.length = ND := by rw [hLD.out]; simp
  rw [← hLT.out, ← hLF.out, ← hLD.out] at SD
  have HZ : Hid (w.heap.size ≤ gt ∧ w.heap.size ≤ gf ∧ w.heap.size ≤ gd) := hidOf (by rw [← hq.out]; omega)
  clear mkI mkF mkD rw0 rw1 rw2 hbA bxA rsA hb e1 e2 e3 hbq hbl
  go_wp2
  go_loopw [5] (fun v wr => ∃ j : Nat, j ≤ NT ∧ v = .int .i64 j ∧ Hid (LyS w wr b gt gf gd q (beh beI 0 j ++ LT.drop j) LF LD X)) (fun v _ => NT - (intOf v).toNat)
  case atStart => exact ⟨0, by omega, rfl, hidOf (by simpa [beh] using SD.out)⟩
  case round =>
    obtain ⟨j, hj, rfl, HJ⟩ := hrel
    have hlen : (beh beI 0 j ++ LT.drop j).length = NT := by rw [List.length_append, beh_len, List.length_drop, l1]; omega
    have z0 : wr.cell? ⟨b, 0, none⟩ = some (.slice (some ⟨gt, 0, none⟩) NT NT) := by rw [cell_atL HJ.out.ln.box, ← hlen]; rfl
    by_cases hjn : j < NT
    · have hlt : (j : Int) < NT := by omega
      obtain ⟨x, hx⟩ := beh_get beI LT j (by omega)
      obtain ⟨e0, e1, e2, e3, e4⟩ := HJ.out.ln.t.cells hx
      have g0 := HJ.out.ln.t.frozen (j * 5)
      have g1 := HJ.out.ln.t.frozen (j * 5 + 1)
      have g2 := HJ.out.ln.t.frozen (j * 5 + 2)
      have g3 := HJ.out.ln.t.frozen (j * 5 + 3)
      have g4 := HJ.out.ln.t.frozen (j * 5 + 4)
      clear hx
      go_wp2
      go_roundw
      case rel =>
        refine ⟨j + 1, by omega, by simp, hidOf ?_⟩
        refine HJ.out.t' (Chg.put5 (S := fun k => k = gt) (Chg.refl _ _) rfl _ _ _ _ _ _ _ _ _ _) ?_ (by rw [hlen, List.length_append, beh_len, List.length_drop, l1]; omega)
        have := HJ.out.ln.t.set (i := j) (by rw [hlen]; exact hjn) (beI j)
        rw [beh_set beI LT j (by omega)] at this
        exact this
      case measure => simp [intOf]; omega
    · have hlt : ¬ (j : Int) < NT := by omega
      have S0 : Hid (LyS w wr b gt gf gd q (beh beI 0 NT) LF LD X) := hidOf (by
        have := HJ.out
        rw [show j = NT by omega, List.drop_of_length_le (by omega), List.append_nil] at this
        exact this)
      obtain ⟨wb0, hwb0⟩ : ∃ wb, wb = wr := ⟨_, rfl⟩
      subst hwb0
      clear HJ hlen
      go_wp2
      clear z0
      go_loopw [6] (fun v wr => ∃ j : Nat, j ≤ NF ∧ v = .int .i64 j ∧ Hid (LyS w wr b gt gf gd q (beh beI 0 NT) (beh beF 0 j ++ LF.drop j) LD X)) (fun v _ => NF - (intOf v).toNat)
      case atStart => exact ⟨0, by omega, rfl, hidOf (by simpa [beh] using S0.out)⟩
      case round =>
        obtain ⟨j, hj, rfl, HJ⟩ := hrel
        have hlen : (beh beF 0 j ++ LF.drop j).length = NF := by rw [List.length_append, beh_len, List.length_drop, l2]; omega
        have z0 : wr.cell? ⟨b, 1, none⟩ = some (.slice (some ⟨gf, 0, none⟩) NF NF) := by rw [cell_atL HJ.out.ln.box, ← hlen]; rfl
        by_cases hjn : j < NF
        · have hlt : (j : Int) < NF := by omega
          obtain ⟨x, hx⟩ := beh_get beF LF j (by omega)
          obtain ⟨e0, e1, e2, e3⟩ := HJ.out.ln.f.cells hx
          have g0 := HJ.out.ln.f.frozen (j * 4)
          have g1 := HJ.out.ln.f.frozen (j * 4 + 1)
          have g2 := HJ.out.ln.f.frozen (j * 4 + 2)
          have g3 := HJ.out.ln.f.frozen (j * 4 + 3)
          clear hx
          go_wp2
          go_roundw
          case rel =>
            refine ⟨j + 1, by omega, by simp, hidOf ?_⟩
            refine HJ.out.f' (Chg.put4 (S := fun k => k = gf) (Chg.refl _ _) rfl _ _ _ _ _ _ _ _) ?_ (by rw [hlen, List.length_append, beh_len, List.length_drop, l2]; omega)
            have := HJ.out.ln.f.set (i := j) (by rw [hlen]; exact hjn) (beF j)
            rw [beh_set beF LF j (by omega)] at this
            exact this
          case measure => simp [intOf]; omega
        · have hlt : ¬ (j : Int) < NF := by omega
          have S1 : Hid (LyS w wr b gt gf gd q (beh beI 0 NT) (beh beF 0 NF) LD X) := hidOf (by
            have := HJ.out
            rw [show j = NF by omega, List.drop_of_length_le (by omega), List.append_nil] at this
            exact this)
          obtain ⟨wb1, hwb1⟩ : ∃ wb, wb = wr := ⟨_, rfl⟩
          subst hwb1
          clear HJ hlen
          go_wp2
          clear z0
          go_loopw [7] (fun v wr => ∃ j : Nat, j ≤ ND ∧ v = .int .i64 j ∧ Hid (LyS w wr b gt gf gd q (beh beI 0 NT) (beh beF 0 NF) (beh beD 0 j ++ LD.drop j) X)) (fun v _ => ND - (intOf v).toNat)
          case atStart => exact ⟨0, by omega, rfl, hidOf (by simpa [beh] using S1.out)⟩
          case round =>
            obtain ⟨j, hj, rfl, HJ⟩ := hrel
            have hlen : (beh beD 0 j ++ LD.drop j).length = ND := by rw [List.length_append, beh_len, List.length_drop, l3]; omega
            have z0 : wr.cell? ⟨b, 2, none⟩ = some (.slice (some ⟨gd, 0, none⟩) ND ND) := by rw [cell_atL HJ.out.ln.box, ← hlen]; rfl
            by_cases hjn : j < ND
            · have hlt : (j : Int) < ND := by omega
              obtain ⟨x, hx⟩ := beh_get beD LD j (by omega)
              obtain ⟨e0, e1, e2, e3, e4⟩ := HJ.out.ln.d.cells hx
              have g0 := HJ.out.ln.d.frozen (j * 5)
              have g1 := HJ.out.ln.d.frozen (j * 5 + 1)
              have g2 := HJ.out.ln.d.frozen (j * 5 + 2)
              have g3 := HJ.out.ln.d.frozen (j * 5 + 3)
              have g4 := HJ.out.ln.d.frozen (j * 5 + 4)
              clear hx
              go_wp2
              go_roundw
              case rel =>
                refine ⟨j + 1, by omega, by simp, hidOf ?_⟩
                refine HJ.out.d' (Chg.put5 (S := fun k => k = gd) (Chg.refl _ _) rfl _ _ _ _ _ _ _ _ _ _) ?_ (by rw [hlen, List.length_append, beh_len, List.length_drop, l3]; omega)
                have := HJ.out.ln.d.set (i := j) (by rw [hlen]; exact hjn) (beD j)
                rw [beh_set beD LD j (by omega)] at this
                exact this
              case measure => simp [intOf]; omega
            · have hlt : ¬ (j : Int) < ND := by omega
              have S2 : Hid (LyS w wr b gt gf gd q (beh beI 0 NT) (beh beF 0 NF) (beh beD 0 ND) X) := hidOf (by
                have := HJ.out
                rw [show j = ND by omega, List.drop_of_length_le (by omega), List.append_nil] at this
                exact this)
              clear HJ hlen
              obtain ⟨v0, cp0, hr0, cg0⟩ := run_copyI wr.drew 3 gt NT NT ta nt tc (beh beI 0 NT) T [] (S2.out.dr1.ln.t) hnt.out.symm (HMS.out _ S2.out.dr1.ch).t kT (by rw [beh_len]; exact kT)
              rw [beh_drop] at hr0
              have Z0 : Hid (LyS w v0 b gt gf gd q (T ++ beh beI nt (NT - nt)) (beh beF 0 NF) (beh beD 0 ND) X) := hidOf (S2.out.dr1.t' cg0 hr0 (by rw [List.length_append, beh_len, beh_len, ← hnt.out]; omega))
              have d00 : wr.cell? ⟨b, 0, none⟩ = some (.slice (some ⟨gt, 0, none⟩) NT NT) := by
                have hl : (beh beI 0 NT).length = NT := by rw [beh_len]
                have hh := cell_atL S2.out.ln.box 0
                rw [hl] at hh
                exact hh
              have d0q0 : wr.cell? ⟨q, 0, none⟩ = some (.slice ta nt tc) := by rw [cell_atL S2.out.bx, hX.out]; rfl
              have d01 : wr.cell? ⟨b, 1, none⟩ = some (.slice (some ⟨gf, 0, none⟩) NF NF) := by
                have hl : (beh beF 0 NF).length = NF := by rw [beh_len]
                have hh := cell_atL S2.out.ln.box 1
                rw [hl] at hh
                exact hh
              have d0q1 : wr.cell? ⟨q, 1, none⟩ = some (.slice fa nf fc) := by rw [cell_atL S2.out.bx, hX.out]; rfl
              have d02 : wr.cell? ⟨b, 2, none⟩ = some (.slice (some ⟨gd, 0, none⟩) ND ND) := by
                have hl : (beh beD 0 ND).length = ND := by rw [beh_len]
                have hh := cell_atL S2.out.ln.box 2
                rw [hl] at hh
                exact hh
              have d0q2 : wr.cell? ⟨q, 2, none⟩ = some (.slice da nd dc) := by rw [cell_atL S2.out.bx, hX.out]; rfl
              have u00 : v0.cell? ⟨b, 0, none⟩ = some (.slice (some ⟨gt, 0, none⟩) NT NT) := by
                have hl : (T ++ beh beI nt (NT - nt)).length = NT := by rw [List.length_append, beh_len, ← hnt.out]; omega
                have hh := cell_atL Z0.out.ln.box 0
                rw [hl] at hh
                exact hh
              have u0q0 : v0.cell? ⟨q, 0, none⟩ = some (.slice ta nt tc) := by rw [cell_atL Z0.out.bx, hX.out]; rfl
              have u01 : v0.cell? ⟨b, 1, none⟩ = some (.slice (some ⟨gf, 0, none⟩) NF NF) := by
                have hl : (beh beF 0 NF).length = NF := by rw [beh_len]
                have hh := cell_atL Z0.out.ln.box 1
                rw [hl] at hh
                exact hh
              have u0q1 : v0.cell? ⟨q, 1, none⟩ = some (.slice fa nf fc) := by rw [cell_atL Z0.out.bx, hX.out]; rfl
              have u02 : v0.cell? ⟨b, 2, none⟩ = some (.slice (some ⟨gd, 0, none⟩) ND ND) := by
                have hl : (beh beD 0 ND).length = ND := by rw [beh_len]
                have hh := cell_atL Z0.out.ln.box 2
                rw [hl] at hh
                exact hh
              have u0q2 : v0.cell? ⟨q, 2, none⟩ = some (.slice da nd dc) := by rw [cell_atL Z0.out.bx, hX.out]; rfl
              clear hr0 cg0
              go_upto_region 19 with fail
              clear z0
              go_region_held3 (fun wx => wx.cell? ⟨b, 0, none⟩ = some (.slice (some ⟨gt, 0, none⟩) NT NT) ∧ wx.cell? ⟨q, 0, none⟩ = some (.slice ta nt tc)) (first | go_keep | assumption | exact ⟨u00, u0q0⟩) (fail)
              clear d00 d0q0 d01 d0q1 d02 d0q2 cp0
              clear u00 u0q0 u01 u0q1 u02 u0q2
              obtain ⟨v1, cp1, hr1, cg1⟩ := run_copyF v0.drew 3 gf NF NF fa nf fc (beh beF 0 NF) F [] (Z0.out.dr1.ln.f) hnf.out.symm (HMS.out _ Z0.out.dr1.ch).f kF (by rw [beh_len]; exact kF)
              rw [beh_drop] at hr1
              have Z1 : Hid (LyS w v1 b gt gf gd q (T ++ beh beI nt (NT - nt)) (F ++ beh beF nf (NF - nf)) (beh beD 0 ND) X) := hidOf (Z0.out.dr1.f' cg1 hr1 (by rw [List.length_append, beh_len, beh_len, ← hnf.out]; omega))
              have d10 : v0.cell? ⟨b, 0, none⟩ = some (.slice (some ⟨gt, 0, none⟩) NT NT) := by
                have hl : (T ++ beh beI nt (NT - nt)).length = NT := by rw [List.length_append, beh_len, ← hnt.out]; omega
                have hh := cell_atL Z0.out.ln.box 0
                rw [hl] at hh
                exact hh
              have d1q0 : v0.cell? ⟨q, 0, none⟩ = some (.slice ta nt tc) := by rw [cell_atL Z0.out.bx, hX.out]; rfl
              have d11 : v0.cell? ⟨b, 1, none⟩ = some (.slice (some ⟨gf, 0, none⟩) NF NF) := by
                have hl : (beh beF 0 NF).length = NF := by rw [beh_len]
                have hh := cell_atL Z0.out.ln.box 1
                rw [hl] at hh
                exact hh
              have d1q1 : v0.cell? ⟨q, 1, none⟩ = some (.slice fa nf fc) := by rw [cell_atL Z0.out.bx, hX.out]; rfl
              have d12 : v0.cell? ⟨b, 2, none⟩ = some (.slice (some ⟨gd, 0, none⟩) ND ND) := by
                have hl : (beh beD 0 ND).length = ND := by rw [beh_len]
                have hh := cell_atL Z0.out.ln.box 2
                rw [hl] at hh
                exact hh
              have d1q2 : v0.cell? ⟨q, 2, none⟩ = some (.slice da nd dc) := by rw [cell_atL Z0.out.bx, hX.out]; rfl
              have u10 : v1.cell? ⟨b, 0, none⟩ = some (.slice (some ⟨gt, 0, none⟩) NT NT) := by
                have hl : (T ++ beh beI nt (NT - nt)).length = NT := by rw [List.length_append, beh_len, ← hnt.out]; omega
                have hh := cell_atL Z1.out.ln.box 0
                rw [hl] at hh
                exact hh
              have u1q0 : v1.cell? ⟨q, 0, none⟩ = some (.slice ta nt tc) := by rw [cell_atL Z1.out.bx, hX.out]; rfl
              have u11 : v1.cell? ⟨b, 1, none⟩ = some (.slice (some ⟨gf, 0, none⟩) NF NF) := by
                have hl : (F ++ beh beF nf (NF - nf)).length = NF := by rw [List.length_append, beh_len, ← hnf.out]; omega
                have hh := cell_atL Z1.out.ln.box 1
                rw [hl] at hh
                exact hh
              have u1q1 : v1.cell? ⟨q, 1, none⟩ = some (.slice fa nf fc) := by rw [cell_atL Z1.out.bx, hX.out]; rfl
              have u12 : v1.cell? ⟨b, 2, none⟩ = some (.slice (some ⟨gd, 0, none⟩) ND ND) := by
                have hl : (beh beD 0 ND).length = ND := by rw [beh_len]
                have hh := cell_atL Z1.out.ln.box 2
                rw [hl] at hh
                exact hh
              have u1q2 : v1.cell? ⟨q, 2, none⟩ = some (.slice da nd dc) := by rw [cell_atL Z1.out.bx, hX.out]; rfl
              clear hr1 cg1
              go_upto_region 20 with fail
              go_region_held3 (fun wx => wx.cell? ⟨b, 1, none⟩ = some (.slice (some ⟨gf, 0, none⟩) NF NF) ∧ wx.cell? ⟨q, 1, none⟩ = some (.slice fa nf fc)) (first | go_keep | assumption | exact ⟨u11, u1q1⟩) (fail)
              clear d10 d1q0 d11 d1q1 d12 d1q2 cp1
              clear u10 u1q0 u11 u1q1 u12 u1q2
              obtain ⟨v2, cp2, hr2, cg2⟩ := run_copyD v1.drew 3 gd ND ND da nd dc (beh beD 0 ND) D [] (Z1.out.dr1.ln.d) hnd.out.symm (HMS.out _ Z1.out.dr1.ch).d kD (by rw [beh_len]; exact kD)
              rw [beh_drop] at hr2
              have Z2 : Hid (LyS w v2 b gt gf gd q (T ++ beh beI nt (NT - nt)) (F ++ beh beF nf (NF - nf)) (D ++ beh beD nd (ND - nd)) X) := hidOf (Z1.out.dr1.d' cg2 hr2 (by rw [List.length_append, beh_len, beh_len, ← hnd.out]; omega))
              have d20 : v1.cell? ⟨b, 0, none⟩ = some (.slice (some ⟨gt, 0, none⟩) NT NT) := by
                have hl : (T ++ beh beI nt (NT - nt)).length = NT := by rw [List.length_append, beh_len, ← hnt.out]; omega
                have hh := cell_atL Z1.out.ln.box 0
                rw [hl] at hh
                exact hh
              have d2q0 : v1.cell? ⟨q, 0, none⟩ = some (.slice ta nt tc) := by rw [cell_atL Z1.out.bx, hX.out]; rfl
              have d21 : v1.cell? ⟨b, 1, none⟩ = some (.slice (some ⟨gf, 0, none⟩) NF NF) := by
                have hl : (F ++ beh beF nf (NF - nf)).length = NF := by rw [List.length_append, beh_len, ← hnf.out]; omega
                have hh := cell_atL Z1.out.ln.box 1
                rw [hl] at hh
                exact hh
              have d2q1 : v1.cell? ⟨q, 1, none⟩ = some (.slice fa nf fc) := by rw [cell_atL Z1.out.bx, hX.out]; rfl
              have d22 : v1.cell? ⟨b, 2, none⟩ = some (.slice (some ⟨gd, 0, none⟩) ND ND) := by
                have hl : (beh beD 0 ND).length = ND := by rw [beh_len]
                have hh := cell_atL Z1.out.ln.box 2
                rw [hl] at hh
                exact hh
              have d2q2 : v1.cell? ⟨q, 2, none⟩ = some (.slice da nd dc) := by rw [cell_atL Z1.out.bx, hX.out]; rfl
              have u20 : v2.cell? ⟨b, 0, none⟩ = some (.slice (some ⟨gt, 0, none⟩) NT NT) := by
                have hl : (T ++ beh beI nt (NT - nt)).length = NT := by rw [List.length_append, beh_len, ← hnt.out]; omega
                have hh := cell_atL Z2.out.ln.box 0
                rw [hl] at hh
                exact hh
              have u2q0 : v2.cell? ⟨q, 0, none⟩ = some (.slice ta nt tc) := by rw [cell_atL Z2.out.bx, hX.out]; rfl
              have u21 : v2.cell? ⟨b, 1, none⟩ = some (.slice (some ⟨gf, 0, none⟩) NF NF) := by
                have hl : (F ++ beh beF nf (NF - nf)).length = NF := by rw [List.length_append, beh_len, ← hnf.out]; omega
                have hh := cell_atL Z2.out.ln.box 1
                rw [hl] at hh
                exact hh
              have u2q1 : v2.cell? ⟨q, 1, none⟩ = some (.slice fa nf fc) := by rw [cell_atL Z2.out.bx, hX.out]; rfl
              have u22 : v2.cell? ⟨b, 2, none⟩ = some (.slice (some ⟨gd, 0, none⟩) ND ND) := by
                have hl : (D ++ beh beD nd (ND - nd)).length = ND := by rw [List.length_append, beh_len, ← hnd.out]; omega
                have hh := cell_atL Z2.out.ln.box 2
                rw [hl] at hh
                exact hh
              have u2q2 : v2.cell? ⟨q, 2, none⟩ = some (.slice da nd dc) := by rw [cell_atL Z2.out.bx, hX.out]; rfl
              clear hr2 cg2
              go_upto_region 21 with fail
              go_region_held3 (fun wx => wx.cell? ⟨b, 2, none⟩ = some (.slice (some ⟨gd, 0, none⟩) ND ND) ∧ wx.cell? ⟨q, 2, none⟩ = some (.slice da nd dc)) (first | go_keep | assumption | exact ⟨u22, u2q2⟩) (fail)
              clear d20 d2q0 d21 d2q1 d22 d2q2 cp2
              have uq3 : v2.cell? ⟨q, 3, none⟩ = some (.int .i64 en) := by rw [cell_atL Z2.out.bx, hX.out]; rfl
              have r0 : v2.cell? ⟨q + 1, 0, none⟩ = some (.slice none 0 0) := by rw [cell_atL Z2.out.rs]; rfl
              have fz0 := frozen_atL Z2.out.rs 0
              have r1 : v2.cell? ⟨q + 1, 1, none⟩ = some (.slice none 0 0) := by rw [cell_atL Z2.out.rs]; rfl
              have fz1 := frozen_atL Z2.out.rs 1
              have r2 : v2.cell? ⟨q + 1, 2, none⟩ = some (.slice none 0 0) := by rw [cell_atL Z2.out.rs]; rfl
              have fz2 := frozen_atL Z2.out.rs 2
              have r3 : v2.cell? ⟨q + 1, 3, none⟩ = some (.int .i64 0) := by rw [cell_atL Z2.out.rs]; rfl
              have fz3 := frozen_atL Z2.out.rs 3
              have nb1 : ¬ b = q + 1 := fun e => Z2.out.rn (.inl e.symm)
              have nb2 : ¬ q = q + 1 := by omega
              have nb3 : ¬ q + 1 = b := fun e => nb1 e.symm
              go_upto_region 22 with fail
              go_region_held3 (fun wx => wx.cell? ⟨b, 0, none⟩ = some (.slice (some ⟨gt, 0, none⟩) NT NT) ∧ wx.cell? ⟨q, 0, none⟩ = some (.slice ta nt tc) ∧ wx.cell? ⟨b, 1, none⟩ = some (.slice (some ⟨gf, 0, none⟩) NF NF) ∧ wx.cell? ⟨q, 1, none⟩ = some (.slice fa nf fc) ∧ wx.cell? ⟨b, 2, none⟩ = some (.slice (some ⟨gd, 0, none⟩) ND ND) ∧ wx.cell? ⟨q, 2, none⟩ = some (.slice da nd dc) ∧ wx.cell? ⟨q, 3, none⟩ = some (.int .i64 en)) (go_keep) (fail)
              go_wp2
              refine bodyPost_ret (results_cell_row rfl _ _ (q + 1) 26 _ (0, 0) _ rfl (blk_setR (blk_setR (blk_setR (blk_setR Z2.out.rs 0 _) 1 _) 2 _) 3 _) Tryd.underlying26 rfl (by kernel_rfl)) rfl ?_
              have CF : ∀ y0 y1 y2 y3, Chg (LnS b gt gf gd) w ((((v2.setCell ⟨q + 1, 0, none⟩ y0).setCell ⟨q + 1, 1, none⟩ y1).setCell ⟨q + 1, 2, none⟩ y2).setCell ⟨q + 1, 3, none⟩ y3).drew ∧ LnR ((((v2.setCell ⟨q + 1, 0, none⟩ y0).setCell ⟨q + 1, 1, none⟩ y1).setCell ⟨q + 1, 2, none⟩ y2).setCell ⟨q + 1, 3, none⟩ y3).drew b gt gf gd (T ++ beh beI nt (NT - nt)) (F ++ beh beF nf (NF - nf)) (D ++ beh beD nd (ND - nd)) := fun y0 y1 y2 y3 => by
                have c := (Chg.put4 (S := fun k => k = q + 1) (Chg.refl _ v2) rfl 0 1 2 3 y0 y1 y2 y3).drew
                exact ⟨Z2.out.ch.trans c (fun x hx hl => by rw [← hq.out] at hl; omega), Z2.out.ln.keep c (fun k hk e => Z2.out.rn (e ▸ hk))⟩
              rw [show 3 * nt + 140 = NT - nt by rw [hNT.out]; omega, show 3 * nf + 140 = NF - nf by rw [hNF.out]; omega, show 3 * nd + 140 = ND - nd by rw [hND.out]; omega]
              exact ⟨gt, gf, gd, rfl, (CF _ _ _ _).2, HZ.out, (CF _ _ _ _).1.mono (fun x hx hl => by
                have hz := HZ.out
                unfold LnS at hx
                omega)⟩
end Go.Proofs.YtfmcoffmgdcciaaDoor
