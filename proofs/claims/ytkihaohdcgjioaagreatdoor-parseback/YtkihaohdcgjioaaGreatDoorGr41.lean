import Derived.Test.YtkihaohdcgjioaaGreatDoorGr40
namespace Go.Proofs.YtkihaohdcgjioaaGreatDoor
open Go.RowKit
set_option linter.unusedVariables false
set_option linter.unusedSimpArgs false
def lnPl (x : Stm) (nw nn : Nat) : List UInt8 × Int :=
  if (!insZ x || !x.tg.isEmpty) = true then ([], 60) else if isNmP x.nm = false then ([], 60) else if (decide (0 < nw) || decide (0 < nn)) = true then ([], 60) else nmLn x
set_option maxRecDepth 20000 in
set_option maxHeartbeats 4000000 in
theorem lineOf_plain (x : Stm) (aw an : Option Addr) (nw cw nn cn : Nat) (w : World) (hpw : Lx.Pow w) (hx : x.nm.length ≤ 140737488355328) (h5 : ¬ x.k = 5) (h6 : ¬ x.k = 6) : Calls Tryz.prog 30 #[.agg #[.int .i64 x.k, .string ⟨x.nm.toArray⟩, .slice aw nw cw, .slice an nn cn, .int .i64 x.o, .int .i64 x.d, .int .i64 x.s, .int .i64 x.f, .int .i64 x.i, .string ⟨x.tg.toArray⟩, .int .i64 x.l]] w fun e w' => e = .returned (.tuple #[.string ⟨(lnPl x nw nn).1.toArray⟩, .int .i64 (lnPl x nw nn).2]) ∧ Out w w' := by
  have CI := hidOf (hasInsn_any x aw an nw cw nn cn)
  have CL := hidOf (hasLists_any x aw an nw cw nn cn)
  have CN := hidOf (fun wx => nameLine_any x aw an nw cw nn cn wx hx)
  have CM : Hid (∀ wx, Out w wx → Calls Tryz.prog 55 #[.string ⟨x.nm.toArray⟩] wx fun e w' => e = .returned (.bool (isNmP x.nm)) ∧ Out wx w') := hidOf (fun wx o => isName6_any x.nm hx wx (hpw.out o))
  obtain ⟨X, hX⟩ : ∃ X, X = lnPl x nw nn := ⟨_, rfl⟩
  rw [← hX]
  unfold lnPl at hX
  generalize (!insZ x || !x.tg.isEmpty) = b1 at *
  generalize isNmP x.nm = b2 at *
  generalize (decide (0 < nw) || decide (0 < nn)) = b3 at *
  generalize nmLn x = z at *
  have HX := hidOf hX
  obtain ⟨w1, hw1⟩ : ∃ w1, w1 = w.alloc (.cells #[.int .i64 x.k, .string ⟨x.nm.toArray⟩, .slice aw nw cw, .slice an nn cn, .int .i64 x.o, .int .i64 x.d, .int .i64 x.s, .int .i64 x.f, .int .i64 x.i, .string ⟨x.tg.toArray⟩, .int .i64 x.l] 60) := ⟨_, rfl⟩
  have O1 : Hid (Out w w1) := hidOf (by rw [hw1]; exact (Out.refl w).alloc _)
  have b1' : w1.heap[w.heap.size]? = some (.cells #[.int .i64 x.k, .string ⟨x.nm.toArray⟩, .slice aw nw cw, .slice an nn cn, .int .i64 x.o, .int .i64 x.d, .int .i64 x.s, .int .i64 x.f, .int .i64 x.i, .string ⟨x.tg.toArray⟩, .int .i64 x.l] 60 (0, 0)) := by rw [hw1]; exact heap_alloc_new w _
  have BL : Hid (∀ wx, Out w1 wx → wx.heap[w.heap.size]? = some (.cells #[.int .i64 x.k, .string ⟨x.nm.toArray⟩, .slice aw nw cw, .slice an nn cn, .int .i64 x.o, .int .i64 x.d, .int .i64 x.s, .int .i64 x.f, .int .i64 x.i, .string ⟨x.tg.toArray⟩, .int .i64 x.l] 60 (0, 0))) := hidOf (fun wx o => (o.block _ (Array.getElem?_eq_some_iff.1 b1').1).trans b1')
  have Hw1 := hidOf hw1
  have k5 : (x.k == 5) = false := by simp [h5]
  have k6 : (x.k == 6) = false := by simp [h6]
  clear hX hw1 b1' hpw hx h5 h6
  have c0 : w1.cell? ⟨w.heap.size, 0, none⟩ = some (.int .i64 x.k) := by rw [cell_atL (BL.out _ (Out.refl w1))]; rfl
  have c1 : w1.cell? ⟨w.heap.size, 1, none⟩ = some (.string ⟨x.nm.toArray⟩) := by rw [cell_atL (BL.out _ (Out.refl w1))]; rfl
  have c2 : w1.cell? ⟨w.heap.size, 2, none⟩ = some (.slice aw nw cw) := by rw [cell_atL (BL.out _ (Out.refl w1))]; rfl
  have c3 : w1.cell? ⟨w.heap.size, 3, none⟩ = some (.slice an nn cn) := by rw [cell_atL (BL.out _ (Out.refl w1))]; rfl
  have c4 : w1.cell? ⟨w.heap.size, 4, none⟩ = some (.int .i64 x.o) := by rw [cell_atL (BL.out _ (Out.refl w1))]; rfl
  have c5 : w1.cell? ⟨w.heap.size, 5, none⟩ = some (.int .i64 x.d) := by rw [cell_atL (BL.out _ (Out.refl w1))]; rfl
  have c6 : w1.cell? ⟨w.heap.size, 6, none⟩ = some (.int .i64 x.s) := by rw [cell_atL (BL.out _ (Out.refl w1))]; rfl
  have c7 : w1.cell? ⟨w.heap.size, 7, none⟩ = some (.int .i64 x.f) := by rw [cell_atL (BL.out _ (Out.refl w1))]; rfl
  have c8 : w1.cell? ⟨w.heap.size, 8, none⟩ = some (.int .i64 x.i) := by rw [cell_atL (BL.out _ (Out.refl w1))]; rfl
  have c9 : w1.cell? ⟨w.heap.size, 9, none⟩ = some (.string ⟨x.tg.toArray⟩) := by rw [cell_atL (BL.out _ (Out.refl w1))]; rfl
  have c10 : w1.cell? ⟨w.heap.size, 10, none⟩ = some (.int .i64 x.l) := by rw [cell_atL (BL.out _ (Out.refl w1))]; rfl
  cases b1 with
  | true =>
    have HE : Hid (X = ([], 60)) := hidOf (by rw [HX.out, if_pos rfl])
    go_enter Tryz.func30, Tryz.ntmps30
    go_upto_region 1 with fail
    rw [← Hw1.out]
    go_wp2_with (go_at_call 54; refine (CI.out _).mono ?_; rintro e w2 ⟨rfl, ho⟩; have O2 := hidOf ho; clear ho)
    go_ret2
    rw [HE.out]
    exact ⟨rfl, O1.out.trans O2.out⟩
  | false =>
    cases b2 with
    | false =>
      have HE : Hid (X = ([], 60)) := hidOf (by rw [HX.out, if_neg (by simp), if_pos rfl])
      go_enter Tryz.func30, Tryz.ntmps30
      go_upto_region 1 with fail
      rw [← Hw1.out]
      go_wp2_with (first | (go_at_call 54; refine (CI.out _).mono ?_; rintro e w2 ⟨rfl, ho⟩; have O2 := hidOf ho; have d1 := (show w2.cell? ⟨w.heap.size, 1, none⟩ = some (.string ⟨x.nm.toArray⟩) by rw [cell_atL (BL.out _ ho)]; rfl); clear ho) | (go_at_call 55; refine (CM.out _ (O1.out.trans O2.out)).mono ?_; rintro e w3 ⟨rfl, ho⟩; have O3 := hidOf ho; clear ho))
      go_ret2
      rw [HE.out]
      exact ⟨rfl, (O1.out.trans O2.out).trans O3.out⟩
    | true =>
      cases b3 with
      | true =>
        have HE : Hid (X = ([], 60)) := hidOf (by rw [HX.out, if_neg (by simp), if_neg (by simp), if_pos rfl])
        go_enter Tryz.func30, Tryz.ntmps30
        go_upto_region 1 with fail
        rw [← Hw1.out]
        go_upto_region 5 with (first | (go_at_call 54; refine (CI.out _).mono ?_; rintro e w2 ⟨rfl, ho⟩; have O2 := hidOf ho; have d1 := (show w2.cell? ⟨w.heap.size, 1, none⟩ = some (.string ⟨x.nm.toArray⟩) by rw [cell_atL (BL.out _ ho)]; rfl); clear ho) | (go_at_call 55; refine (CM.out _ (O1.out.trans O2.out)).mono ?_; rintro e w3 ⟨rfl, ho⟩; have O3 := hidOf (O2.out.trans ho); clear ho))
        clear d1 c0 c1 c2 c3 c4 c5 c6 c7 c8 c9 c10
        have e0 : w3.cell? ⟨w.heap.size, 0, none⟩ = some (.int .i64 x.k) := by rw [cell_atL (BL.out _ (O3.out))]; rfl
        have e1 : w3.cell? ⟨w.heap.size, 1, none⟩ = some (.string ⟨x.nm.toArray⟩) := by rw [cell_atL (BL.out _ (O3.out))]; rfl
        have e2 : w3.cell? ⟨w.heap.size, 2, none⟩ = some (.slice aw nw cw) := by rw [cell_atL (BL.out _ (O3.out))]; rfl
        have e3 : w3.cell? ⟨w.heap.size, 3, none⟩ = some (.slice an nn cn) := by rw [cell_atL (BL.out _ (O3.out))]; rfl
        have e4 : w3.cell? ⟨w.heap.size, 4, none⟩ = some (.int .i64 x.o) := by rw [cell_atL (BL.out _ (O3.out))]; rfl
        have e5 : w3.cell? ⟨w.heap.size, 5, none⟩ = some (.int .i64 x.d) := by rw [cell_atL (BL.out _ (O3.out))]; rfl
        have e6 : w3.cell? ⟨w.heap.size, 6, none⟩ = some (.int .i64 x.s) := by rw [cell_atL (BL.out _ (O3.out))]; rfl
        have e7 : w3.cell? ⟨w.heap.size, 7, none⟩ = some (.int .i64 x.f) := by rw [cell_atL (BL.out _ (O3.out))]; rfl
        have e8 : w3.cell? ⟨w.heap.size, 8, none⟩ = some (.int .i64 x.i) := by rw [cell_atL (BL.out _ (O3.out))]; rfl
        have e9 : w3.cell? ⟨w.heap.size, 9, none⟩ = some (.string ⟨x.tg.toArray⟩) := by rw [cell_atL (BL.out _ (O3.out))]; rfl
        have e10 : w3.cell? ⟨w.heap.size, 10, none⟩ = some (.int .i64 x.l) := by rw [cell_atL (BL.out _ (O3.out))]; rfl
        go_wp2_with (go_at_call 52; refine (CL.out _).mono ?_; rintro e w4 ⟨rfl, ho⟩; have O4 := hidOf (O3.out.trans ho); clear ho)
        go_ret2
        rw [HE.out]
        exact ⟨rfl, O1.out.trans O4.out⟩
      | false =>
        have HE : Hid (X = z) := hidOf (by rw [HX.out, if_neg (by simp), if_neg (by simp), if_neg (by simp)])
        go_enter Tryz.func30, Tryz.ntmps30
        go_upto_region 1 with fail
        rw [← Hw1.out]
        go_upto_region 5 with (first | (go_at_call 54; refine (CI.out _).mono ?_; rintro e w2 ⟨rfl, ho⟩; have O2 := hidOf ho; have d1 := (show w2.cell? ⟨w.heap.size, 1, none⟩ = some (.string ⟨x.nm.toArray⟩) by rw [cell_atL (BL.out _ ho)]; rfl); clear ho) | (go_at_call 55; refine (CM.out _ (O1.out.trans O2.out)).mono ?_; rintro e w3 ⟨rfl, ho⟩; have O3 := hidOf (O2.out.trans ho); clear ho))
        clear d1 c0 c1 c2 c3 c4 c5 c6 c7 c8 c9 c10
        have e0 : w3.cell? ⟨w.heap.size, 0, none⟩ = some (.int .i64 x.k) := by rw [cell_atL (BL.out _ (O3.out))]; rfl
        have e1 : w3.cell? ⟨w.heap.size, 1, none⟩ = some (.string ⟨x.nm.toArray⟩) := by rw [cell_atL (BL.out _ (O3.out))]; rfl
        have e2 : w3.cell? ⟨w.heap.size, 2, none⟩ = some (.slice aw nw cw) := by rw [cell_atL (BL.out _ (O3.out))]; rfl
        have e3 : w3.cell? ⟨w.heap.size, 3, none⟩ = some (.slice an nn cn) := by rw [cell_atL (BL.out _ (O3.out))]; rfl
        have e4 : w3.cell? ⟨w.heap.size, 4, none⟩ = some (.int .i64 x.o) := by rw [cell_atL (BL.out _ (O3.out))]; rfl
        have e5 : w3.cell? ⟨w.heap.size, 5, none⟩ = some (.int .i64 x.d) := by rw [cell_atL (BL.out _ (O3.out))]; rfl
        have e6 : w3.cell? ⟨w.heap.size, 6, none⟩ = some (.int .i64 x.s) := by rw [cell_atL (BL.out _ (O3.out))]; rfl
        have e7 : w3.cell? ⟨w.heap.size, 7, none⟩ = some (.int .i64 x.f) := by rw [cell_atL (BL.out _ (O3.out))]; rfl
        have e8 : w3.cell? ⟨w.heap.size, 8, none⟩ = some (.int .i64 x.i) := by rw [cell_atL (BL.out _ (O3.out))]; rfl
        have e9 : w3.cell? ⟨w.heap.size, 9, none⟩ = some (.string ⟨x.tg.toArray⟩) := by rw [cell_atL (BL.out _ (O3.out))]; rfl
        have e10 : w3.cell? ⟨w.heap.size, 10, none⟩ = some (.int .i64 x.l) := by rw [cell_atL (BL.out _ (O3.out))]; rfl
        go_upto_region 9 with (go_at_call 52; refine (CL.out _).mono ?_; rintro e w4 ⟨rfl, ho⟩; have O4 := hidOf (O3.out.trans ho); clear ho)
        clear e0 e1 e2 e3 e4 e5 e6 e7 e8 e9 e10
        have g0 : w4.cell? ⟨w.heap.size, 0, none⟩ = some (.int .i64 x.k) := by rw [cell_atL (BL.out _ (O4.out))]; rfl
        have g1 : w4.cell? ⟨w.heap.size, 1, none⟩ = some (.string ⟨x.nm.toArray⟩) := by rw [cell_atL (BL.out _ (O4.out))]; rfl
        have g2 : w4.cell? ⟨w.heap.size, 2, none⟩ = some (.slice aw nw cw) := by rw [cell_atL (BL.out _ (O4.out))]; rfl
        have g3 : w4.cell? ⟨w.heap.size, 3, none⟩ = some (.slice an nn cn) := by rw [cell_atL (BL.out _ (O4.out))]; rfl
        have g4 : w4.cell? ⟨w.heap.size, 4, none⟩ = some (.int .i64 x.o) := by rw [cell_atL (BL.out _ (O4.out))]; rfl
        have g5 : w4.cell? ⟨w.heap.size, 5, none⟩ = some (.int .i64 x.d) := by rw [cell_atL (BL.out _ (O4.out))]; rfl
        have g6 : w4.cell? ⟨w.heap.size, 6, none⟩ = some (.int .i64 x.s) := by rw [cell_atL (BL.out _ (O4.out))]; rfl
        have g7 : w4.cell? ⟨w.heap.size, 7, none⟩ = some (.int .i64 x.f) := by rw [cell_atL (BL.out _ (O4.out))]; rfl
        have g8 : w4.cell? ⟨w.heap.size, 8, none⟩ = some (.int .i64 x.i) := by rw [cell_atL (BL.out _ (O4.out))]; rfl
        have g9 : w4.cell? ⟨w.heap.size, 9, none⟩ = some (.string ⟨x.tg.toArray⟩) := by rw [cell_atL (BL.out _ (O4.out))]; rfl
        have g10 : w4.cell? ⟨w.heap.size, 10, none⟩ = some (.int .i64 x.l) := by rw [cell_atL (BL.out _ (O4.out))]; rfl
        go_wp2_with (go_at_call 57; refine (CN.out _).mono ?_; rintro e w5 ⟨rfl, ho⟩; have O5 := hidOf (O4.out.trans ho); clear ho)
        go_ret2
        rw [HE.out]
        exact ⟨rfl, O1.out.trans O5.out⟩
end Go.Proofs.YtkihaohdcgjioaaGreatDoor
namespace Go.Proofs.YtkihaohdcgjioaaGreatDoor.Lx.Pw
open Go.RowKit
set_option linter.unusedVariables false
set_option linter.unusedSimpArgs false
theorem wrtLies : liesAt Tryz.prog Tryz.prog.depth 79 (3 / Tryz.prog.cellsOf 79) 0 77 1 = true := by kernel_rfl
set_option maxRecDepth 100000 in
set_option maxHeartbeats 1000000 in
theorem chk_new (b : Nat) (w : World) (h0 : w.cell? ⟨b, 0, none⟩ = some (.pointer none)) (hs : w.shape? b = some (79, 3)) (hf : w.frozen? ⟨b, 0, none⟩ = false) : Calls Tryz.prog 89 #[.pointer (some ⟨b, 0, none⟩)] w fun e w' => e = .returned (.tuple #[]) ∧ w' = w.setCell ⟨b, 0, none⟩ (.pointer (some ⟨b, 0, none⟩)) := by
  obtain ⟨j, hj, hj2⟩ := Option.map_eq_some_iff.1 bldSize
  go_enter Tryz.func89, Tryz.ntmps89
  go_wp2
  rw [Lib.run_to_unsafe w ⟨b, 0, none⟩ Tryz.underlying75 Tryz.underlying181 hj (by rw [hj2]; decide) hs (Nat.zero_lt_succ 2)]
  simp only [Result.andThen]
  rw [Oper.upon_value]
  go_wp2
  rw [run_callFunc_extern Tryz.func133 (by kernel_rfl) (by kernel_rfl) (by kernel_rfl) (e := Extern.AbiNoEscape.same) (by kernel_rfl), Lib.run_noEscape]
  simp only [Result.andThen]
  rw [Oper.upon_value]
  go_wp2
  rw [Lib.run_from_unsafe w ⟨b, 0, none⟩ Tryz.underlying181 Tryz.underlying75 hj hs wrtLies]
  simp only [Result.andThen]
  rw [Oper.upon_value]
  go_wp2
  go_end0
  exact ⟨rfl, rfl⟩
structure Wr (N p : Nat) (w : World) (l : List UInt8) (size line : Nat) (ad bv : Value) : Prop where
  le : N ≤ p
  at_ : w.heap[p]? = some (.cells #[ad, bv, .int .i64 size] 79 (0, 0))
  ad_ : ad = .pointer none ∨ ad = .pointer (some ⟨p, 0, none⟩)
  own : w.ownsRow N 5 1 bv l.length (Lib.byteCells l)
  ne : ∀ k, bv.ownBlock = some k → ¬ k = p
  nil_ : l = [] → bv = .slice none 0 0
theorem Wr.cell {N p : Nat} {w : World} {l : List UInt8} {a b : Nat} {ad bv : Value} (h : Wr N p w l a b ad bv) (j : Nat) : w.cell? ⟨p, j, none⟩ = (#[ad, bv, .int .i64 a] : Array Value)[j]? := by simp [World.cell?, h.at_]
theorem Wr.frozen {N p : Nat} {w : World} {l : List UInt8} {a b : Nat} {ad bv : Value} (h : Wr N p w l a b ad bv) (j : Nat) : w.frozen? ⟨p, j, none⟩ = false := by simp [World.frozen?, h.at_]
theorem Wr.lt {N p : Nat} {w : World} {l : List UInt8} {a b : Nat} {ad bv : Value} (h : Wr N p w l a b ad bv) : p < w.heap.size := (Array.getElem?_eq_some_iff.1 h.at_).1
theorem Wr.base {N p : Nat} {w : World} {l : List UInt8} {a b : Nat} {ad bv : Value} (h : Wr N p w l a b ad bv) : N ≤ w.heap.size := by have := h.lt; have := h.le; omega
theorem Wr.out {N p : Nat} {w w' : World} {l : List UInt8} {a b : Nat} {ad bv : Value} (h : Wr N p w l a b ad bv) (o : Out w w') : Wr N p w' l a b ad bv := ⟨h.le, (o.block p h.lt).trans h.at_, h.ad_, owns_chg (S := fun _ => False) h.own (fun _ _ h => h) (Chg.of_out o), h.ne, h.nil_⟩
theorem Wr.set2 {N p : Nat} {w : World} {l : List UInt8} {a b : Nat} {ad bv : Value} (h : Wr N p w l a b ad bv) (a' : Nat) : Wr N p (w.setCell ⟨p, 2, none⟩ (.int .i64 a')) l a' b ad bv :=
  ⟨h.le, by simp [World.setCell, Array.getElem?_modify, h.at_], h.ad_, owns_chg (S := fun k => k = p) h.own h.ne (Chg.setCell (S := fun k => k = p) (Chg.refl _ w) (p := ⟨p, 2, none⟩) rfl _), h.ne, h.nil_⟩
theorem Wr.set0 {N p : Nat} {w : World} {l : List UInt8} {a b : Nat} {ad bv : Value} (h : Wr N p w l a b ad bv) : Wr N p (w.setCell ⟨p, 0, none⟩ (.pointer (some ⟨p, 0, none⟩))) l a b (.pointer (some ⟨p, 0, none⟩)) bv :=
  ⟨h.le, by simp [World.setCell, Array.getElem?_modify, h.at_], .inr rfl, owns_chg (S := fun k => k = p) h.own h.ne (Chg.setCell (S := fun k => k = p) (Chg.refl _ w) (p := ⟨p, 0, none⟩) rfl _), h.ne, h.nil_⟩
theorem chk_any (N p : Nat) (w : World) (l : List UInt8) (a b : Nat) (ad bv : Value) (h : Wr N p w l a b ad bv) : Calls Tryz.prog 89 #[.pointer (some ⟨p, 0, none⟩)] w fun e w' => e = .returned (.tuple #[]) ∧ Wr N p w' l a b (.pointer (some ⟨p, 0, none⟩)) bv ∧ Below N w w' := by
  rcases h.ad_ with rfl | rfl
  · exact (chk_new p w (h.cell 0) (by simp [World.shape?, h.at_]) (h.frozen 0)).mono fun e w' ⟨he, hw⟩ => ⟨he, hw ▸ h.set0, hw ▸ Below.set_own (Below.refl N w) h.le _⟩
  · exact (chk_used p w (h.cell 0)).mono fun e w' ⟨he, hw⟩ => ⟨he, hw ▸ h, hw ▸ Below.refl N _⟩
set_option maxRecDepth 100000 in
set_option maxHeartbeats 2000000 in
theorem write_any (N p : Nat) (w : World) (l : List UInt8) (a b : Nat) (ad bv : Value) (t : List UInt8) (h : Wr N p w l a b ad bv) (hlen : l.length + t.length ≤ 100000000) :
    Calls Tryz.prog 58 #[.pointer (some ⟨p, 0, none⟩), .string ⟨t.toArray⟩] w fun e w' => (∃ v, e = .returned v) ∧ (∃ ad' bv', Wr N p w' (l ++ t) a b ad' bv') ∧ Below N w w' := by
  obtain ⟨i0, hi, hz0, hz1, hz2⟩ := info_parts (show (Tryz.prog.info? 5).map (fun i => (i.zero, i.size, i.bytes)) = some (some (.int .u8 0), 1, 1) from Tryz.Builder_Extra_169.infoByte)
  have CK := hidOf (chk_any N p w l a b ad bv h)
  have hts : (⟨t.toArray⟩ : ByteArray).size = t.length := mk_size t
  have hN0 := h.base
  clear h
  go_enter Tryz.func58, Tryz.ntmps58
  go_wp2_with (go_at_call 89; refine CK.out.mono ?_)
  rintro e w1 ⟨rfl, hW, hb1⟩
  have hsz := hb1.size
  have c1 : w1.cell? ⟨p, 1, none⟩ = some bv := hW.cell 1
  have hlt : p < w1.heap.size := hW.lt
  have hNw := hW.base
  go_wp2_with (at_builtin; refine Lib.wpList_append_own_string _ rfl _ _ 24 9 rfl N 5 i0 Tryz.underlying24 Tryz.underlying9 hi hz0 hz1 hz2 bv l.length (Lib.byteCells l) rfl hW.own ⟨t.toArray⟩ rfl (by unfold maxLen; omega) (by omega) hNw ?_)
  intro v' w2 hown' hgrow hiff
  have hb2 : w2.heap[p]? = some (.cells #[.pointer (some ⟨p, 0, none⟩), bv, .int .i64 a] 79 (0, 0)) := (hgrow.block p hlt (fun e => hW.ne p e.symm rfl)).trans hW.at_
  have d1 : w2.cell? ⟨p, 1, none⟩ = some bv := by rw [Lib.cell_of_heap hb2]; rfl
  have f1 : w2.frozen? ⟨p, 1, none⟩ = false := Lib.frozen_of_heap hb2 1
  have HW := hidOf (Below.set_own (j := 1) (Below.of_grown hb1 hN0 hgrow (own_le hW.own)) hW.le v')
  have hne2 : ∀ k, v'.ownBlock = some k → ¬ k = p := fun k hk e => by
    subst e
    rcases hown'.2 with ⟨hv, _⟩ | ⟨g, cap, cur, hv, _, hg, _⟩
    · rw [hv] at hk; cases hk
    · rw [hv] at hk
      simp [Value.ownBlock] at hk
      subst hk
      rw [hb2] at hg
      simp at hg
  have hst : Lib.strCells ⟨t.toArray⟩ = Lib.byteCells t := by simp [Lib.strCells, Lib.byteCells]
  rw [hst] at hown'
  have hbl : Lib.byteCells l ++ Lib.byteCells t = Lib.byteCells (l ++ t) := by simp [Lib.byteCells]
  rw [hbl, show l.length + t.length = (l ++ t).length from by simp] at hown'
  have hnil2 : l ++ t = [] → v' = .slice none 0 0 := fun h0 => by
    obtain ⟨h1, h2⟩ := List.append_eq_nil_iff.1 h0
    exact hiff.2 ⟨hW.nil_ h1, by first | exact h2 | simp [h2]⟩
  have HN : Hid (Wr N p (w2.setCell ⟨p, 1, none⟩ v') (l ++ t) a b (.pointer (some ⟨p, 0, none⟩)) v') := ⟨hW.le, by simp [World.setCell, Array.getElem?_modify, hb2], .inr rfl, owns_chg (S := fun k => k = p) hown' hne2 (Chg.setCell (S := fun k => k = p) (Chg.refl _ w2) (p := ⟨p, 1, none⟩) rfl _), hne2, hnil2⟩
  obtain ⟨ao, cp, rfl⟩ : ∃ ao cp, v' = .slice ao (l.length + t.length) cp := by have := own_form hown'; rw [List.length_append] at this; exact this
  clear hown' hgrow hb2 hne2 hnil2 hiff hW hb1 c1 hbl hst
  go_wp2
  go_ret2
  exact ⟨⟨_, rfl⟩, ⟨_, _, HN.out⟩, HW.out⟩
set_option maxHeartbeats 2000000 in
set_option maxRecDepth 100000 in
theorem string_any (N p : Nat) (w : World) (l : List UInt8) (a b : Nat) (ad bv : Value) (h : Wr N p w l a b ad bv) (hl : l.length ≤ 100000000) :
    Calls Tryz.prog 32 #[.pointer (some ⟨p, 0, none⟩)] w fun e w' => e = .returned (.string ⟨l.toArray⟩) ∧ Below N w w' := by
  have mixed := mixed_
  by_cases h0 : l = []
  · subst h0
    have hbv := h.nil_ rfl
    subst hbv
    have c1 : w.drew.cell? ⟨p, 1, none⟩ = some (.slice none 0 0) := h.cell 1
    have hUS : ∀ W, (Builtin.unsafeString_ #[108, 3] 9 #[.pointer none, .int .i64 0]).run Tryz.prog W = .ok (.string .empty) W := fun W => Lib.run_unsafeString_none W _ _ _ none
    have hSD : (Builtin.unsafeSliceData_ #[24] 108 #[.slice none 0 0]).run Tryz.prog w.drew = .ok (.pointer none) w.drew := rfl
    clear h
    go_enter Tryz.func32, Tryz.ntmps32
    go_wp2
    go_region_o
    all_goals (go_wp2; go_ret; exact ⟨rfl, Below.drew (Below.refl N w)⟩)
  · have hl0 : l.length ≠ 0 := by simpa using h0
    obtain ⟨g, cap, cur, rfl, hbg, hg, hnc, hcm, hcs, htake⟩ : ∃ g cap cur, bv = .slice (some ⟨g, 0, none⟩) l.length cap ∧ N ≤ g ∧ w.heap[g]? = some (.cells cur 5 (0, 0)) ∧ l.length ≤ cap ∧ cap ≤ maxLen ∧ cur.size = cap * 1 ∧ cur.toList.take (l.length * 1) = Lib.byteCells l := by
      rcases h.own.2 with ⟨_, hz⟩ | ⟨g, cap, cur, hv, r⟩
      · exact absurd hz hl0
      · exact ⟨g, cap, cur, hv, r⟩
    have c1 : w.drew.cell? ⟨p, 1, none⟩ = some (.slice (some ⟨g, 0, none⟩) l.length cap) := h.cell 1
    have hSD : (Builtin.unsafeSliceData_ #[24] 108 #[.slice (some ⟨g, 0, none⟩) l.length cap]).run Tryz.prog w.drew = .ok (.pointer (some ⟨g, 0, none⟩)) w.drew :=
      Lib.run_unsafeSliceData_row _ _ _ _ _ _ (by omega)
    have hown := h.own
    have hUS : (Builtin.unsafeString_ #[108, 3] 9 #[.pointer (some ⟨g, 0, none⟩), .int .i64 l.length]).run Tryz.prog w.drew = .ok (.string ⟨l.toArray⟩) (w.drew.freeze ⟨g, 0, none⟩ l.length) := by
      refine Lib.run_unsafeString_row w.drew 108 3 9 5 Tryz.underlying108 Tryz.Builder_Extra_169.cellsByte g cur.size (by have hg' : w.drew.heap[g]? = some (.cells cur 5 (0, 0)) := hg; simp [World.shape?, hg']) l h0 (by omega) (by omega) ?_
      intro j x hx
      have := hown.cells (g := g) rfl j (.int .u8 x.toNat) (by simp [Lib.byteCells, hx])
      exact this
    clear h hown htake hcs hg
    go_enter Tryz.func32, Tryz.ntmps32
    go_wp2
    go_region_o
    all_goals (go_wp2; go_ret; exact ⟨rfl, Lib.below_freeze (Below.drew (Below.refl N w)) (p := ⟨g, 0, none⟩) hbg _⟩)
set_option maxRecDepth 20000 in
set_option maxHeartbeats 1000000 in
theorem byte_any (N p : Nat) (w : World) (l : List UInt8) (a b : Nat) (ad bv : Value) (x : UInt8) (h : Wr N p w l a b ad bv) (hlen : l.length ≤ 100000000) :
    Calls Tryz.prog 59 #[.pointer (some ⟨p, 0, none⟩), .int .u8 (x.toNat : Int)] w fun e w' => (∃ v, e = .returned v) ∧ (∃ ad' bv', Wr N p w' (l ++ [x]) a b ad' bv') ∧ Below N w w' := by
  obtain ⟨i0, hi, hz0, hz1, hz2⟩ := info_parts (show (Tryz.prog.info? 5).map (fun i => (i.zero, i.size, i.bytes)) = some (some (.int .u8 0), 1, 1) from Tryz.Builder_Extra_169.infoByte)
  have CK := hidOf (chk_any N p w l a b ad bv h)
  have hN0 := h.base
  clear h
  obtain ⟨c, hc⟩ : ∃ c : Int, c = (x.toNat : Int) := ⟨_, rfl⟩
  rw [← hc]
  have Hc := hidOf hc
  clear hc
  go_enter Tryz.func59, Tryz.ntmps59
  go_upto_region 2 with (go_at_call 89; refine CK.out.mono ?_; rintro e w1 ⟨rfl, hbd, hb1⟩; have HBD := hidOf hbd; have HB1 := hidOf hb1; clear hbd hb1)
  have hW := HBD.out
  have hown := hW.own
  have hbk := hW.at_
  have hsz := HB1.out.size
  have hlt : p < w1.heap.size := hW.lt
  have hNw := hW.base
  obtain ⟨av, cv, hbv⟩ := own_form hown
  subst hbv
  have c1 : w1.cell? ⟨p, 1, none⟩ = some (.slice av l.length cv) := hW.cell 1
  obtain ⟨bs, hbs⟩ : ∃ bs, bs = Lib.byteCells l := ⟨_, rfl⟩
  have hbl : bs.length = l.length := by rw [hbs]; exact Lib.byteCells_length l
  rw [← hbs] at hown
  obtain ⟨n, hn⟩ : ∃ n, n = l.length := ⟨_, rfl⟩
  rw [← hn] at hown hbk c1 hlen hbl
  have RX : Hid (∀ O, (w1.alloc O).ownsRow N 5 1 (.slice av n cv) n bs) := hidOf (fun O => owns_chg (S := fun _ => False) hown (fun _ _ h => h) (Chg.of_out ((Out.refl w1).alloc O)))
  have hne : ¬ (Value.slice av n cv).ownBlock = some p := fun e => hW.ne p (by rw [← hn]; exact e) rfl
  have HP : Hid (∀ O w8, (w1.alloc O).grownBy w8 (Value.slice av n cv).ownBlock → w8.heap[p]? = some (.cells #[.pointer (some ⟨p, 0, none⟩), .slice av n cv, .int .i64 a] 79 (0, 0))) := hidOf (fun O w8 hg => by
    have hA : (w1.alloc O).heap[p]? = _ := (((Out.refl w1).alloc O).block p hlt).trans hbk
    exact (hg.block p (Array.getElem?_eq_some_iff.1 hA).1 (fun e => hne e.symm)).trans hA)
  have Hown := hidOf hown
  have Hle := hidOf hW.le
  have Hbs := hidOf hbs
  have Hn := hidOf hn
  clear hbk hown hne HBD CK hW hbs hn
  go_upto_region 3 with (at_builtin; refine wpList_append_lies _ rfl (.tmp 11) (.tmp 13) 24 rfl N 5 i0 _ 1 1 Tryz.underlying24 hi hz0 hz1 hz2 rfl (by decide) (.slice av n cv) n bs rfl (RX.out _) ⟨w1.heap.size, 0, none⟩ 1 1 [.int .u8 c] rfl rfl (news_new w1 _ _ _ rfl) (by intro u hu; simp at hu; subst hu; rfl) (by decide) (by unfold maxLen; omega) (by omega) (by rw [size_alloc]; omega) _ rfl ?_; intro g8 cap8 w8 hown8 hgrow8 hg8 hlt8; have b8 := HP.out _ w8 hgrow8; have q8 : w8.cell? ⟨p, 1, none⟩ = some (.slice av n cv) := (by rw [Lib.cell_of_heap b8]; rfl); have f8 : w8.frozen? ⟨p, 1, none⟩ = false := Lib.frozen_of_heap b8 1; have W8 := hidOf hown8; have G8 := hidOf hgrow8; have B8 := hidOf b8; clear hown8 hgrow8 hg8 hlt8 b8)
  go_wp2
  go_ret
  have hne8 : ∀ k, (Value.slice (some ⟨g8, 0, none⟩) (n + 1) cap8).ownBlock = some k → ¬ k = p := fun k hk e => by
    subst e
    exact own_kind W8.out B8.out (by decide) hk
  refine ⟨⟨_, rfl⟩, ⟨.pointer (some ⟨p, 0, none⟩), .slice (some ⟨g8, 0, none⟩) (n + 1) cap8, Hle.out, by simp [World.setCell, Array.getElem?_modify, B8.out], .inr rfl, ?_, hne8, fun h0 => by simp at h0⟩, ?_⟩
  · rw [List.length_append, List.length_singleton, ← Hn.out]
    refine owns_chg (S := fun k => k = p) ?_ hne8 (Chg.setCell (S := fun k => k = p) (Chg.refl _ w8) (p := ⟨p, 1, none⟩) rfl _)
    have := W8.out
    rw [Hbs.out, Hc.out] at this
    simpa [Lib.byteCells] using this
  · exact (((HB1.out.alloc (by omega) _).grown G8.out (by rw [size_alloc]; omega) (fun k hk => (World.ownsRow.lt Hown.out k hk).1)).setCell (p := ⟨p, 1, none⟩) Hle.out _)
end Go.Proofs.YtkihaohdcgjioaaGreatDoor.Lx.Pw
namespace Go.Proofs.YtkihaohdcgjioaaGreatDoor
open Go.RowKit
set_option linter.unusedVariables false
set_option linter.unusedSimpArgs false
def wlP (l : List UInt8) (a : Nat) (t : List UInt8) : List UInt8 := if a + (t.length + 1) ≤ 16777216 then l ++ t ++ [10] else l
set_option maxRecDepth 20000 in
set_option maxHeartbeats 1000000 in
theorem wline_any (N p : Nat) (w : World) (l : List UInt8) (a : Nat) (ad bv : Value) (t : List UInt8) (h : Lx.Pw.Wr N p w l a 0 ad bv) (hl : l.length ≤ 16777216) (ht : t.length ≤ 1000000) (ha : a ≤ 1000000000000000000) :
    Calls Tryz.prog 31 #[.pointer (some ⟨p, 0, none⟩), .string ⟨t.toArray⟩] w fun e w' => (∃ v, e = .returned v) ∧ (∃ ad' bv', Lx.Pw.Wr N p w' (wlP l a t) (a + (t.length + 1)) 0 ad' bv') ∧ Below N w w' := by
  obtain ⟨X, hX⟩ : ∃ X, X = wlP l a t := ⟨_, rfl⟩
  rw [← hX]
  have HX := hidOf hX
  have c2 : w.cell? ⟨p, 2, none⟩ = some (.int .i64 a) := h.cell 2
  have f2 : w.frozen? ⟨p, 2, none⟩ = false := h.frozen 2
  obtain ⟨n, hn⟩ : ∃ n, n = t.length := ⟨_, rfl⟩
  have hts : (⟨t.toArray⟩ : ByteArray).size = n := by rw [hn]; exact Lx.mk_size t
  obtain ⟨w1, hw1⟩ : ∃ w1, w1 = w.setCell ⟨p, 2, none⟩ (.int .i64 ((a + (n + 1) : Nat) : Int)) := ⟨_, rfl⟩
  have h1 : Lx.Pw.Wr N p w1 l (a + (n + 1)) 0 ad bv := by rw [hw1]; exact h.set2 _
  have B1 : Hid (Below N w w1) := hidOf (by rw [hw1]; exact Below.setCell (Below.refl N w) h.le _)
  have d2 : w1.cell? ⟨p, 2, none⟩ = some (.int .i64 ((a + (n + 1) : Nat) : Int)) := h1.cell 2
  have H1 := hidOf h1
  have CW := hidOf (Lx.Pw.write_any N p w1 l (a + (n + 1)) 0 ad bv t h1 (by omega))
  have CB : Hid (∀ wx ad bv, Lx.Pw.Wr N p wx (l ++ t) (a + (n + 1)) 0 ad bv → Calls Tryz.prog 59 #[.pointer (some ⟨p, 0, none⟩), .int .u8 10] wx fun e w' => (∃ v, e = .returned v) ∧ (∃ ad' bv', Lx.Pw.Wr N p w' (l ++ t ++ [10]) (a + (n + 1)) 0 ad' bv') ∧ Below N wx w') := hidOf (fun wx ad bv h => Lx.Pw.byte_any N p wx (l ++ t) (a + (n + 1)) 0 ad bv 10 h (by rw [List.length_append]; omega))
  have Hw1 : Hid (w1 = w.setCell ⟨p, 2, none⟩ (.int .i64 ((a : Int) + ((n : Int) + 1)))) := hidOf (by rw [hw1]; simp)
  have hnI : (n : Int) ≤ 1000000 := by omega
  have haI : (a : Int) ≤ 1000000000000000000 := by omega
  have Hn := hidOf hn
  rw [← hn] at ht ⊢
  clear h h1 hw1 hX hn
  by_cases hm : a + (n + 1) ≤ 16777216
  · have hmI : (a : Int) + ((n : Int) + 1) ≤ 16777216 := by omega
    have HE : Hid (X = l ++ t ++ [10]) := hidOf (by rw [HX.out]; unfold wlP; rw [← Hn.out, if_pos hm])
    have d2' : w1.cell? ⟨p, 2, none⟩ = some (.int .i64 ((a : Int) + ((n : Int) + 1))) := by rw [d2]; simp
    clear d2 hm
    go_enter Tryz.func31, Tryz.ntmps31
    go_upto_region 1 with fail
    rw [← Hw1.out]
    go_wp2_with (first | (go_at_call 58; refine CW.out.mono ?_; rintro e w2 ⟨⟨v2, rfl⟩, ⟨ad2, bv2, hw⟩, hb⟩; have W2 := hidOf hw; have B2 := hidOf hb; clear hw hb) | (go_at_call 59; refine (CB.out _ _ _ W2.out).mono ?_; rintro e w3 ⟨⟨v3, rfl⟩, ⟨ad3, bv3, hw⟩, hb⟩; have W3 := hidOf hw; have B3 := hidOf hb; clear hw hb))
    go_end0
    rw [HE.out]
    exact ⟨⟨_, rfl⟩, ⟨_, _, W3.out⟩, Below.trans B1.out (Below.trans B2.out B3.out)⟩
  · have hmI : ¬ (a : Int) + ((n : Int) + 1) ≤ 16777216 := by omega
    have HE : Hid (X = l) := hidOf (by rw [HX.out]; unfold wlP; rw [← Hn.out, if_neg hm])
    have d2' : w1.cell? ⟨p, 2, none⟩ = some (.int .i64 ((a : Int) + ((n : Int) + 1))) := by rw [d2]; simp
    clear d2 hm
    go_enter Tryz.func31, Tryz.ntmps31
    go_upto_region 1 with fail
    rw [← Hw1.out]
    go_wp2
    go_end0
    rw [HE.out]
    exact ⟨⟨_, rfl⟩, ⟨_, _, H1.out⟩, B1.out⟩
def prF : List UInt8 → Nat → List (List UInt8 × Int) → List UInt8 × Int
  | l, a, [] => if 16777216 < a then ([], 50) else (l, 0)
  | l, a, (t, e) :: r => if e = 0 then prF (wlP l a t) (a + (t.length + 1)) r else ([], e)
def StR (w : World) (g off : Nat) (Y : List (Stm × Value × Value)) : Prop := ∀ k y, Y[k]? = some y → (∃ aw nw cw, y.2.1 = .slice aw nw cw) ∧ (∃ an nn cn, y.2.2 = .slice an nn cn) ∧ ∀ i u, (stL y.1 y.2.1 y.2.2)[i]? = some u → w.cell? ⟨g, off + k * 11 + i, none⟩ = some u
theorem wl_len {l t : List UInt8} {a : Nat} (h : l.length ≤ 16777216) (h2 : l.length ≤ a) : (wlP l a t).length ≤ 16777216 ∧ (wlP l a t).length ≤ a + (t.length + 1) := by
  unfold wlP
  by_cases e : a + (t.length + 1) ≤ 16777216
  · rw [if_pos e]; simp only [List.length_append, List.length_cons, List.length_nil]; omega
  · rw [if_neg e]; omega
set_option maxRecDepth 20000 in
set_option maxHeartbeats 4000000 in
theorem print6_any (w : World) (g off cap : Nat) (Y : List (Stm × Value × Value)) (R : List (List UInt8 × Int)) (hR : R.length = Y.length) (hS : StR w g off Y) (hg : g < w.heap.size) (hcap : Y.length ≤ cap) (hlen : Y.length ≤ 100000000000)
    (LC : ∀ wx, Out w wx → ∀ (k : Nat) (y : Stm × Value × Value) (r : List UInt8 × Int), Y[k]? = some y → R[k]? = some r → Calls Tryz.prog 30 #[stE y.1 y.2.1 y.2.2] wx fun e w' => e = .returned (.tuple #[.string ⟨r.1.toArray⟩, .int .i64 r.2]) ∧ Out wx w') (hT : ∀ r ∈ R, r.2 = 0 → r.1.length ≤ 1000000) :
    Calls Tryz.prog 12 #[.slice (some ⟨g, off, none⟩) Y.length cap] w fun e w' => e = .returned (.tuple #[.string ⟨(prF [] 0 R).1.toArray⟩, .int .i64 (prF [] 0 R).2]) ∧ Out w w' := by
  obtain ⟨X, hX⟩ : ∃ X, X = prF [] 0 R := ⟨_, rfl⟩
  rw [← hX]
  have HX := hidOf hX
  obtain ⟨n, hn⟩ : ∃ n, n = Y.length := ⟨_, rfl⟩
  have Hn := hidOf hn
  obtain ⟨N, hNN⟩ : ∃ N, N = w.heap.size := ⟨_, rfl⟩
  obtain ⟨w1, hw1⟩ : ∃ w1, w1 = w.alloc (.cells #[.pointer none, .slice none 0 0, .int .i64 0] 79) := ⟨_, rfl⟩
  have b1 : w1.heap[N]? = some (.cells #[.pointer none, .slice none 0 0, .int .i64 0] 79 (0, 0)) := by rw [hw1, hNN]; exact heap_alloc_new w _
  have H1 : Hid (Lx.Pw.Wr N N w1 [] 0 0 (.pointer none) (.slice none 0 0)) := hidOf ⟨Nat.le_refl _, b1, .inl rfl, World.ownsRow_nil _ _ _ _, fun k hk => by simp [Value.ownBlock] at hk, fun _ => rfl⟩
  have B1 : Hid (Below N w w1) := hidOf (by rw [hw1, hNN]; exact (Out.refl w).alloc _)
  have Hw1 := hidOf hw1
  have HNN := hidOf hNN
  have HS := hidOf hS
  have HLC := hidOf LC
  have HT := hidOf hT
  have HR := hidOf hR
  rw [← hn] at hcap hlen ⊢
  have hgN : g < N := by rw [hNN]; exact hg
  clear hX hn hNN hw1 b1 hS LC hT hR
  go_enter Tryz.func12, Tryz.ntmps12
  go_upto_region 2 with fail
  rw [← Hw1.out, ← HNN.out]
  go_upto_region 3 with fail
  go_loopw [11] (fun i wr => ∃ (k : Nat) (l : List UInt8) (a : Nat) (ad bv : Value), i = .int .i64 k ∧ k ≤ n ∧ Hid (Lx.Pw.Wr N N wr l a 0 ad bv) ∧ Hid (Below N w wr) ∧ l.length ≤ 16777216 ∧ l.length ≤ a ∧ a ≤ 1000001 * k ∧ Hid (X = prF l a (R.drop k))) (fun i _ => n - (intOf i).toNat)
  case atStart => exact ⟨0, [], 0, _, _, rfl, by omega, H1, B1, by simp, by simp, by omega, hidOf (by rw [HX.out]; rfl)⟩
  case round =>
    clear H1 B1
    obtain ⟨k, l, a, ad, bv, rfl, hk, HW, HB, hl, hla, ha, HQ⟩ := hrel
    by_cases hlt : k < n
    · have hltI : (k : Int) < n := by omega
      obtain ⟨y, hy⟩ : ∃ y, Y[k]? = some y := ⟨_, List.getElem?_eq_getElem (by have := Hn.out; omega)⟩
      obtain ⟨r, hr⟩ : ∃ r, R[k]? = some r := ⟨_, List.getElem?_eq_getElem (by have := Hn.out; have := HR.out; omega)⟩
      obtain ⟨⟨aw, nw, cw, e1⟩, ⟨an, nn, cn, e2⟩, hcl⟩ := HS.out k y hy
      obtain ⟨x, wv, nv⟩ := y
      simp only at e1 e2 hcl
      subst e1 e2
      have CELL : ∀ i u, (stL x (.slice aw nw cw) (.slice an nn cn))[i]? = some u → wr.cell? ⟨g, off + k * 11 + i, none⟩ = some u := fun i u hu => (Below.cell HB.out hgN).trans (hcl i u hu)
      have q0 : wr.cell? ⟨g, off + k * 11, none⟩ = some (.int .i64 x.k) := CELL 0 _ rfl
      have q1 : wr.cell? ⟨g, off + k * 11 + 1, none⟩ = some (.string ⟨x.nm.toArray⟩) := CELL 1 _ rfl
      have q2 : wr.cell? ⟨g, off + k * 11 + 2, none⟩ = some (.slice aw nw cw) := CELL 2 _ rfl
      have q3 : wr.cell? ⟨g, off + k * 11 + 3, none⟩ = some (.slice an nn cn) := CELL 3 _ rfl
      have q4 : wr.cell? ⟨g, off + k * 11 + 4, none⟩ = some (.int .i64 x.o) := CELL 4 _ rfl
      have q5 : wr.cell? ⟨g, off + k * 11 + 5, none⟩ = some (.int .i64 x.d) := CELL 5 _ rfl
      have q6 : wr.cell? ⟨g, off + k * 11 + 6, none⟩ = some (.int .i64 x.s) := CELL 6 _ rfl
      have q7 : wr.cell? ⟨g, off + k * 11 + 7, none⟩ = some (.int .i64 x.f) := CELL 7 _ rfl
      have q8 : wr.cell? ⟨g, off + k * 11 + 8, none⟩ = some (.int .i64 x.i) := CELL 8 _ rfl
      have q9 : wr.cell? ⟨g, off + k * 11 + 9, none⟩ = some (.string ⟨x.tg.toArray⟩) := CELL 9 _ rfl
      have q10 : wr.cell? ⟨g, off + k * 11 + 10, none⟩ = some (.int .i64 x.l) := CELL 10 _ rfl
      have LC : Hid (∀ wx, Out w wx → Calls Tryz.prog 30 #[.agg #[.int .i64 x.k, .string ⟨x.nm.toArray⟩, .slice aw nw cw, .slice an nn cn, .int .i64 x.o, .int .i64 x.d, .int .i64 x.s, .int .i64 x.f, .int .i64 x.i, .string ⟨x.tg.toArray⟩, .int .i64 x.l]] wx fun e w' => e = .returned (.tuple #[.string ⟨r.1.toArray⟩, .int .i64 r.2]) ∧ Out wx w') := hidOf (fun wx o => by
        have h9 := HLC.out wx o k (x, .slice aw nw cw, .slice an nn cn) r hy hr
        simp only [stE] at h9
        exact h9)
      have hdr : R.drop k = r :: R.drop (k + 1) := by
        have hlt' : k < R.length := by have := Hn.out; have := HR.out; omega
        rw [List.drop_eq_getElem_cons hlt']
        congr 1
        have := List.getElem?_eq_getElem hlt'
        rw [this] at hr
        exact Option.some.inj hr
      have hrm : r ∈ R := List.mem_of_getElem? hr
      obtain ⟨t, ec⟩ := r
      simp only at LC
      clear CELL hcl hy hr
      go_upto_region 5 with fail
      obtain ⟨w2, hw2⟩ : ∃ w2, w2 = wr.alloc (.cells #[.int .i64 x.k, .string ⟨x.nm.toArray⟩, .slice aw nw cw, .slice an nn cn, .int .i64 x.o, .int .i64 x.d, .int .i64 x.s, .int .i64 x.f, .int .i64 x.i, .string ⟨x.tg.toArray⟩, .int .i64 x.l] 60) := ⟨_, rfl⟩
      rw [← hw2]
      have O2 : Hid (Out wr w2) := hidOf (by rw [hw2]; exact (Out.refl wr).alloc _)
      have b2 : w2.heap[wr.heap.size]? = some (.cells #[.int .i64 x.k, .string ⟨x.nm.toArray⟩, .slice aw nw cw, .slice an nn cn, .int .i64 x.o, .int .i64 x.d, .int .i64 x.s, .int .i64 x.f, .int .i64 x.i, .string ⟨x.tg.toArray⟩, .int .i64 x.l] 60 (0, 0)) := by rw [hw2]; exact heap_alloc_new wr _
      have m0 : w2.cell? ⟨wr.heap.size, 0, none⟩ = some (.int .i64 x.k) := by rw [cell_atL b2]; rfl
      have m1 : w2.cell? ⟨wr.heap.size, 1, none⟩ = some (.string ⟨x.nm.toArray⟩) := by rw [cell_atL b2]; rfl
      have m2 : w2.cell? ⟨wr.heap.size, 2, none⟩ = some (.slice aw nw cw) := by rw [cell_atL b2]; rfl
      have m3 : w2.cell? ⟨wr.heap.size, 3, none⟩ = some (.slice an nn cn) := by rw [cell_atL b2]; rfl
      have m4 : w2.cell? ⟨wr.heap.size, 4, none⟩ = some (.int .i64 x.o) := by rw [cell_atL b2]; rfl
      have m5 : w2.cell? ⟨wr.heap.size, 5, none⟩ = some (.int .i64 x.d) := by rw [cell_atL b2]; rfl
      have m6 : w2.cell? ⟨wr.heap.size, 6, none⟩ = some (.int .i64 x.s) := by rw [cell_atL b2]; rfl
      have m7 : w2.cell? ⟨wr.heap.size, 7, none⟩ = some (.int .i64 x.f) := by rw [cell_atL b2]; rfl
      have m8 : w2.cell? ⟨wr.heap.size, 8, none⟩ = some (.int .i64 x.i) := by rw [cell_atL b2]; rfl
      have m9 : w2.cell? ⟨wr.heap.size, 9, none⟩ = some (.string ⟨x.tg.toArray⟩) := by rw [cell_atL b2]; rfl
      have m10 : w2.cell? ⟨wr.heap.size, 10, none⟩ = some (.int .i64 x.l) := by rw [cell_atL b2]; rfl
      have hNr : N ≤ wr.heap.size := by rw [HNN.out]; exact HB.out.size
      have B2 : Hid (Below N w w2) := hidOf (Below.trans HB.out (Below.mono O2.out hNr))
      have OW2 : Hid (Out w w2) := hidOf (by have := B2.out; rw [HNN.out] at this; exact this)
      clear hw2 b2 q0 q1 q2 q3 q4 q5 q6 q7 q8 q9 q10
      by_cases he : ec = 0
      · subst he
        have htl : t.length ≤ 1000000 := HT.out _ hrm rfl
        have HQ2 : Hid (X = prF (wlP l a t) (a + (t.length + 1)) (R.drop (k + 1))) := hidOf (by
          rw [HQ.out, hdr]
          show (if (0 : Int) = 0 then prF (wlP l a t) (a + (t.length + 1)) (R.drop (k + 1)) else ([], 0)) = _
          rw [if_pos rfl])
        have CW : Hid (∀ wx, Out wr wx → Calls Tryz.prog 31 #[.pointer (some ⟨N, 0, none⟩), .string ⟨t.toArray⟩] wx fun e w' => (∃ v, e = .returned v) ∧ (∃ ad' bv', Lx.Pw.Wr N N w' (wlP l a t) (a + (t.length + 1)) 0 ad' bv') ∧ Below N wx w') := hidOf (fun wx o => wline_any N N wx l a ad bv t (HW.out.out o) hl htl (by omega))
        obtain ⟨hw5, hw6⟩ := wl_len (t := t) hl hla
        clear hdr hrm
        generalize wlP l a t = l' at *
        generalize t.length = tn at *
        go_wp2_with (first | (go_at_call 30; refine (LC.out _ OW2.out).mono ?_; rintro e w3 ⟨rfl, ho⟩; have O3 := hidOf (O2.out.trans ho); have B3 := hidOf (Below.trans B2.out (Below.mono ho (by have := O2.out.size; omega))); clear ho) | (go_at_call 31; refine (CW.out _ O3.out).mono ?_; rintro e w4 ⟨⟨v4, rfl⟩, ⟨ad4, bv4, hw⟩, hb⟩; have W4 := hidOf hw; have B4 := hidOf (Below.trans B3.out hb); clear hw hb))
        go_roundw
        case rel => exact ⟨k + 1, l', a + (tn + 1), ad4, bv4, by simp, by omega, W4, B4, hw5, hw6, by omega, HQ2⟩
        case measure => simp [intOf]; omega
      · have hb : (ec != 0) = true := by simpa using he
        have HE : Hid (X = ([], ec)) := hidOf (by
          rw [HQ.out, hdr]
          show (if ec = 0 then prF (wlP l a t) (a + (t.length + 1)) (R.drop (k + 1)) else ([], ec)) = _
          rw [if_neg he])
        clear he hdr hrm
        go_wp2_with (go_at_call 30; refine (LC.out _ OW2.out).mono ?_; rintro e w3 ⟨rfl, ho⟩; have O3 := hidOf (OW2.out.trans ho); clear ho)
        go_ret2
        rw [HE.out]
        exact ⟨rfl, O3.out⟩
    · have e : k = n := by omega
      subst e
      have c2 : wr.cell? ⟨N, 2, none⟩ = some (.int .i64 a) := HW.out.cell 2
      have HQ2 : Hid (X = if 16777216 < a then ([], 50) else (l, 0)) := hidOf (by
        rw [HQ.out, List.drop_of_length_le (by have := Hn.out; have := HR.out; omega)]
        rfl)
      have OW : Hid (Out w wr) := hidOf (by have := HB.out; rw [HNN.out] at this; exact this)
      by_cases hm : 16777216 < a
      · have hmI : (16777216 : Int) < a := by omega
        have HE : Hid (X = ([], 50)) := hidOf (by rw [HQ2.out, if_pos hm])
        go_wp2
        go_ret2
        rw [HE.out]
        exact ⟨rfl, OW.out⟩
      · have hmI : ¬ (16777216 : Int) < a := by omega
        have HE : Hid (X = (l, 0)) := hidOf (by rw [HQ2.out, if_neg hm])
        have CS := hidOf (Lx.Pw.string_any N N wr l a 0 ad bv HW.out (by omega))
        go_wp2_with (go_at_call 32; refine CS.out.mono ?_; rintro e w3 ⟨rfl, hb⟩; have B3 := hidOf (Below.trans HB.out hb); clear hb)
        go_ret2
        rw [HE.out]
        exact ⟨rfl, by have := B3.out; rw [HNN.out] at this; exact this⟩
end Go.Proofs.YtkihaohdcgjioaaGreatDoor
