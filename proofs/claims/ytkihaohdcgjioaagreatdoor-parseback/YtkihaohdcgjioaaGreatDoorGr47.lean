import Derived.Test.YtkihaohdcgjioaaGreatDoorGr42
import Derived.Test.YtkihaohdcgjioaaGreatDoorGr44
import Derived.Test.YtkihaohdcgjioaaGreatDoorGr46
namespace Go.Proofs.YtkihaohdcgjioaaGreatDoor
open Go.RowKit
set_option linter.unusedVariables false
set_option linter.unusedSimpArgs false
def StA (w : World) (a : Option Addr) (Y : List (Stm × Value × Value)) : Prop := Y = [] ∨ ∃ g off, a = some ⟨g, off, none⟩ ∧ ∀ k y, Y[k]? = some y → ∀ i u, (stL y.1 y.2.1 y.2.2)[i]? = some u → w.cell? ⟨g, off + k * 11 + i, none⟩ = some u
def LsR (w : World) (y : Stm × Value × Value) : Prop := ∃ aw cw an cn, y.2.1 = .slice aw y.1.ws.length cw ∧ y.2.2 = .slice an y.1.ns.length cn ∧ RowC w aw (strsC y.1.ws) ∧ RowC w an (intsC y.1.ns) ∧ y.1.ws.length ≤ cw ∧ y.1.ns.length ≤ cn
theorem StA.out {w w' : World} {a : Option Addr} {Y : List (Stm × Value × Value)} (h : StA w a Y) (o : Out w w') : StA w' a Y := by
  rcases h with h | ⟨g, off, e, h⟩
  · exact .inl h
  · exact .inr ⟨g, off, e, fun k y hy i u hu => cell_later o (h k y hy i u hu)⟩
theorem LsR.out {w w' : World} {y : Stm × Value × Value} (h : LsR w y) (o : Out w w') : LsR w' y := by
  obtain ⟨aw, cw, an, cn, e1, e2, h1, h2, h3, h4⟩ := h
  exact ⟨aw, cw, an, cn, e1, e2, h1.out o, h2.out o, h3, h4⟩
theorem StA.get {w : World} {a : Option Addr} {Y : List (Stm × Value × Value)} (h : StA w a Y) {k : Nat} {y : Stm × Value × Value} (hy : Y[k]? = some y) : ∃ g off, a = some ⟨g, off, none⟩ ∧ ∀ i u, (stL y.1 y.2.1 y.2.2)[i]? = some u → w.cell? ⟨g, off + k * 11 + i, none⟩ = some u := by
  rcases h with h | ⟨g, off, e, h⟩
  · rw [h] at hy; cases hy
  · exact ⟨g, off, e, h k y hy⟩
theorem LsOk.ls {B : Nat} {w : World} {y : Stm × Value × Value} (h : LsOk B w y.1 y.2.1 y.2.2) : LsR w y := by
  obtain ⟨aw, cw, e1, h1, r1⟩ := own_row h.1 (by simp [strsC])
  obtain ⟨an, cn, e2, h2, r2⟩ := own_row h.2 (by simp [intsC])
  exact ⟨aw, cw, an, cn, e1, e2, r1, r2, h1, h2⟩
theorem OwQ.sl {B : Nat} {sv : Value} {L : List Stm} {w : World} (h : OwQ B sv L w) : ∃ a c Y, sv = .slice a L.length c ∧ L.length ≤ c ∧ Y.map (fun y => y.1) = L ∧ StA w a Y ∧ ∀ y ∈ Y, LsR w y := by
  obtain ⟨Y, h1, h2, h3⟩ := h.ex
  have h2' := h2
  have hls : ∀ y ∈ Y, LsR w y := fun y hy => (h3 y hy).ls
  rcases h2.2 with ⟨hv, hn⟩ | ⟨g, cap, cur, hv, hb, hg, hc, _⟩
  · refine ⟨none, 0, Y, by rw [hv, hn], by omega, h1, .inl ?_, hls⟩
    rw [List.length_eq_zero_iff] at hn
    rw [hn] at h1
    exact List.map_eq_nil_iff.1 h1
  · refine ⟨_, _, Y, hv, hc, h1, .inr ⟨g, 0, rfl, fun k y hy i u hu => ?_⟩, hls⟩
    have hi : i < 11 := (List.getElem?_eq_some_iff.1 hu).1
    have h4 := h2'.cells (g := g) (by rw [hv]; rfl) (k * 11 + i) u (by rw [stC_get Y k y i hy hi, hu])
    rw [← h4, Go.WideShapes.add_plain, Nat.add_assoc]
theorem stats_sl (w : World) (hE : Lx.LEnv w) (hP : PEnv w) (a : Option Addr) (cap : Nat) (l : List UInt8) (hr : Lx.RestAt w.heap.size w a l) (hcap : l.length ≤ cap) (hll : l.length ≤ 140737488355328) :
    Calls Tryz.prog 15 #[.slice a l.length cap] w fun e w' => ∃ ad cp Y, e = .returned (.tuple #[.slice ad (statsP l).1.length cp, .int .i64 (statsP l).2.1, .int .i64 (statsP l).2.2]) ∧ (statsP l).1.length ≤ cp ∧ Y.map (fun y => y.1) = (statsP l).1 ∧ StA w' ad Y ∧ (∀ y ∈ Y, LsR w' y) ∧ Out w w' :=
  (stats_any w hE hP a cap l hr hcap hll).mono (by
    rintro e w' ⟨sv, B, _, he, hq, ho⟩
    obtain ⟨ad, cp, Y, rfl, h1, h2, h3, h4⟩ := hq.sl
    exact ⟨ad, cp, Y, he, h1, h2, h3, h4, ho⟩)
set_option maxRecDepth 20000 in
set_option maxHeartbeats 4000000 in
theorem lineOf_named (x : Stm) (aw an : Option Addr) (nw cw nn cn : Nat) (w : World) (hpw : Lx.Pow w) (hx : x.nm.length ≤ 140737488355328) (h5 : ¬ x.k = 5) (h6 : x.k = 6) (hne : ¬ x.nm = []) : Calls Tryz.prog 30 #[.agg #[.int .i64 x.k, .string ⟨x.nm.toArray⟩, .slice aw nw cw, .slice an nn cn, .int .i64 x.o, .int .i64 x.d, .int .i64 x.s, .int .i64 x.f, .int .i64 x.i, .string ⟨x.tg.toArray⟩, .int .i64 x.l]] w fun e w' => e = .returned (.tuple #[.string ⟨(lnPl x nw nn).1.toArray⟩, .int .i64 (lnPl x nw nn).2]) ∧ Out w w' := by
  have CI := hidOf (hasInsn_any x aw an nw cw nn cn)
  have CL := hidOf (hasLists_any x aw an nw cw nn cn)
  have CN := hidOf (fun wx => nameLine_any x aw an nw cw nn cn wx hx)
  have CM : Hid (∀ wx, Out w wx → Calls Tryz.prog 55 #[.string ⟨x.nm.toArray⟩] wx fun e w' => e = .returned (.bool (isNmP x.nm)) ∧ Out wx w') := hidOf (fun wx o => isName6_any x.nm hx wx (hpw.out o))
  obtain ⟨X, hX⟩ : ∃ X, X = lnPl x nw nn := ⟨_, rfl⟩
  rw [← hX]
  unfold lnPl at hX
  generalize (!insZ x || !x.tg.isEmpty) = b1 at *
  generalize isNmP x.nm = b2 at *
  generalize (decide (0 < nw) || decide (0 < nn)) = b3 at *
  generalize nmLn x = z at *
  have HX := hidOf hX
  obtain ⟨w1, hw1⟩ : ∃ w1, w1 = w.alloc (.cells #[.int .i64 x.k, .string ⟨x.nm.toArray⟩, .slice aw nw cw, .slice an nn cn, .int .i64 x.o, .int .i64 x.d, .int .i64 x.s, .int .i64 x.f, .int .i64 x.i, .string ⟨x.tg.toArray⟩, .int .i64 x.l] 60) := ⟨_, rfl⟩
  have O1 : Hid (Out w w1) := hidOf (by rw [hw1]; exact (Out.refl w).alloc _)
  have b1' : w1.heap[w.heap.size]? = some (.cells #[.int .i64 x.k, .string ⟨x.nm.toArray⟩, .slice aw nw cw, .slice an nn cn, .int .i64 x.o, .int .i64 x.d, .int .i64 x.s, .int .i64 x.f, .int .i64 x.i, .string ⟨x.tg.toArray⟩, .int .i64 x.l] 60 (0, 0)) := by rw [hw1]; exact heap_alloc_new w _
  have BL : Hid (∀ wx, Out w1 wx → wx.heap[w.heap.size]? = some (.cells #[.int .i64 x.k, .string ⟨x.nm.toArray⟩, .slice aw nw cw, .slice an nn cn, .int .i64 x.o, .int .i64 x.d, .int .i64 x.s, .int .i64 x.f, .int .i64 x.i, .string ⟨x.tg.toArray⟩, .int .i64 x.l] 60 (0, 0))) := hidOf (fun wx o => (o.block _ (Array.getElem?_eq_some_iff.1 b1').1).trans b1')
  have Hw1 := hidOf hw1
  have k5 : (x.k == 5) = false := by simp [h5]
  have k6 : (x.k == 6) = true := by simp [h6]
  have hnE : x.nm.isEmpty = false := by cases hq : x.nm with | nil => exact absurd hq hne | cons c r => rfl
  clear hX hw1 b1' hpw hx h5 h6
  have c0 : w1.cell? ⟨w.heap.size, 0, none⟩ = some (.int .i64 x.k) := by rw [cell_atL (BL.out _ (Out.refl w1))]; rfl
  have c1 : w1.cell? ⟨w.heap.size, 1, none⟩ = some (.string ⟨x.nm.toArray⟩) := by rw [cell_atL (BL.out _ (Out.refl w1))]; rfl
  have c2 : w1.cell? ⟨w.heap.size, 2, none⟩ = some (.slice aw nw cw) := by rw [cell_atL (BL.out _ (Out.refl w1))]; rfl
  have c3 : w1.cell? ⟨w.heap.size, 3, none⟩ = some (.slice an nn cn) := by rw [cell_atL (BL.out _ (Out.refl w1))]; rfl
  have c4 : w1.cell? ⟨w.heap.size, 4, none⟩ = some (.int .i64 x.o) := by rw [cell_atL (BL.out _ (Out.refl w1))]; rfl
  have c5 : w1.cell? ⟨w.heap.size, 5, none⟩ = some (.int .i64 x.d) := by rw [cell_atL (BL.out _ (Out.refl w1))]; rfl
  have c6 : w1.cell? ⟨w.heap.size, 6, none⟩ = some (.int .i64 x.s) := by rw [cell_atL (BL.out _ (Out.refl w1))]; rfl
  have c7 : w1.cell? ⟨w.heap.size, 7, none⟩ = some (.int .i64 x.f) := by rw [cell_atL (BL.out _ (Out.refl w1))]; rfl
  have c8 : w1.cell? ⟨w.heap.size, 8, none⟩ = some (.int .i64 x.i) := by rw [cell_atL (BL.out _ (Out.refl w1))]; rfl
  have c9 : w1.cell? ⟨w.heap.size, 9, none⟩ = some (.string ⟨x.tg.toArray⟩) := by rw [cell_atL (BL.out _ (Out.refl w1))]; rfl
  have c10 : w1.cell? ⟨w.heap.size, 10, none⟩ = some (.int .i64 x.l) := by rw [cell_atL (BL.out _ (Out.refl w1))]; rfl
  cases b1 with
  | true =>
    have HE : Hid (X = ([], 60)) := hidOf (by rw [HX.out, if_pos rfl])
    go_enter Tryz.func30, Tryz.ntmps30
    go_upto_region 1 with fail
    rw [← Hw1.out]
    go_wp2_with (go_at_call 54; refine (CI.out _).mono ?_; rintro e w2 ⟨rfl, ho⟩; have O2 := hidOf ho; clear ho)
    go_ret2
    rw [HE.out]
    exact ⟨rfl, O1.out.trans O2.out⟩
  | false =>
    cases b2 with
    | false =>
      have HE : Hid (X = ([], 60)) := hidOf (by rw [HX.out, if_neg (by simp), if_pos rfl])
      go_enter Tryz.func30, Tryz.ntmps30
      go_upto_region 1 with fail
      rw [← Hw1.out]
      go_wp2_with (first | (go_at_call 54; refine (CI.out _).mono ?_; rintro e w2 ⟨rfl, ho⟩; have O2 := hidOf ho; have d1 := (show w2.cell? ⟨w.heap.size, 1, none⟩ = some (.string ⟨x.nm.toArray⟩) by rw [cell_atL (BL.out _ ho)]; rfl); clear ho) | (go_at_call 55; refine (CM.out _ (O1.out.trans O2.out)).mono ?_; rintro e w3 ⟨rfl, ho⟩; have O3 := hidOf ho; clear ho))
      go_ret2
      rw [HE.out]
      exact ⟨rfl, (O1.out.trans O2.out).trans O3.out⟩
    | true =>
      cases b3 with
      | true =>
        have HE : Hid (X = ([], 60)) := hidOf (by rw [HX.out, if_neg (by simp), if_neg (by simp), if_pos rfl])
        go_enter Tryz.func30, Tryz.ntmps30
        go_upto_region 1 with fail
        rw [← Hw1.out]
        go_upto_region 5 with (first | (go_at_call 54; refine (CI.out _).mono ?_; rintro e w2 ⟨rfl, ho⟩; have O2 := hidOf ho; have d1 := (show w2.cell? ⟨w.heap.size, 1, none⟩ = some (.string ⟨x.nm.toArray⟩) by rw [cell_atL (BL.out _ ho)]; rfl); clear ho) | (go_at_call 55; refine (CM.out _ (O1.out.trans O2.out)).mono ?_; rintro e w3 ⟨rfl, ho⟩; have O3 := hidOf (O2.out.trans ho); clear ho))
        clear d1 c0 c1 c2 c3 c4 c5 c6 c7 c8 c9 c10
        have e0 : w3.cell? ⟨w.heap.size, 0, none⟩ = some (.int .i64 x.k) := by rw [cell_atL (BL.out _ (O3.out))]; rfl
        have e1 : w3.cell? ⟨w.heap.size, 1, none⟩ = some (.string ⟨x.nm.toArray⟩) := by rw [cell_atL (BL.out _ (O3.out))]; rfl
        have e2 : w3.cell? ⟨w.heap.size, 2, none⟩ = some (.slice aw nw cw) := by rw [cell_atL (BL.out _ (O3.out))]; rfl
        have e3 : w3.cell? ⟨w.heap.size, 3, none⟩ = some (.slice an nn cn) := by rw [cell_atL (BL.out _ (O3.out))]; rfl
        have e4 : w3.cell? ⟨w.heap.size, 4, none⟩ = some (.int .i64 x.o) := by rw [cell_atL (BL.out _ (O3.out))]; rfl
        have e5 : w3.cell? ⟨w.heap.size, 5, none⟩ = some (.int .i64 x.d) := by rw [cell_atL (BL.out _ (O3.out))]; rfl
        have e6 : w3.cell? ⟨w.heap.size, 6, none⟩ = some (.int .i64 x.s) := by rw [cell_atL (BL.out _ (O3.out))]; rfl
        have e7 : w3.cell? ⟨w.heap.size, 7, none⟩ = some (.int .i64 x.f) := by rw [cell_atL (BL.out _ (O3.out))]; rfl
        have e8 : w3.cell? ⟨w.heap.size, 8, none⟩ = some (.int .i64 x.i) := by rw [cell_atL (BL.out _ (O3.out))]; rfl
        have e9 : w3.cell? ⟨w.heap.size, 9, none⟩ = some (.string ⟨x.tg.toArray⟩) := by rw [cell_atL (BL.out _ (O3.out))]; rfl
        have e10 : w3.cell? ⟨w.heap.size, 10, none⟩ = some (.int .i64 x.l) := by rw [cell_atL (BL.out _ (O3.out))]; rfl
        go_wp2_with (go_at_call 52; refine (CL.out _).mono ?_; rintro e w4 ⟨rfl, ho⟩; have O4 := hidOf (O3.out.trans ho); clear ho)
        go_ret2
        rw [HE.out]
        exact ⟨rfl, O1.out.trans O4.out⟩
      | false =>
        have HE : Hid (X = z) := hidOf (by rw [HX.out, if_neg (by simp), if_neg (by simp), if_neg (by simp)])
        go_enter Tryz.func30, Tryz.ntmps30
        go_upto_region 1 with fail
        rw [← Hw1.out]
        go_upto_region 5 with (first | (go_at_call 54; refine (CI.out _).mono ?_; rintro e w2 ⟨rfl, ho⟩; have O2 := hidOf ho; have d1 := (show w2.cell? ⟨w.heap.size, 1, none⟩ = some (.string ⟨x.nm.toArray⟩) by rw [cell_atL (BL.out _ ho)]; rfl); clear ho) | (go_at_call 55; refine (CM.out _ (O1.out.trans O2.out)).mono ?_; rintro e w3 ⟨rfl, ho⟩; have O3 := hidOf (O2.out.trans ho); clear ho))
        clear d1 c0 c1 c2 c3 c4 c5 c6 c7 c8 c9 c10
        have e0 : w3.cell? ⟨w.heap.size, 0, none⟩ = some (.int .i64 x.k) := by rw [cell_atL (BL.out _ (O3.out))]; rfl
        have e1 : w3.cell? ⟨w.heap.size, 1, none⟩ = some (.string ⟨x.nm.toArray⟩) := by rw [cell_atL (BL.out _ (O3.out))]; rfl
        have e2 : w3.cell? ⟨w.heap.size, 2, none⟩ = some (.slice aw nw cw) := by rw [cell_atL (BL.out _ (O3.out))]; rfl
        have e3 : w3.cell? ⟨w.heap.size, 3, none⟩ = some (.slice an nn cn) := by rw [cell_atL (BL.out _ (O3.out))]; rfl
        have e4 : w3.cell? ⟨w.heap.size, 4, none⟩ = some (.int .i64 x.o) := by rw [cell_atL (BL.out _ (O3.out))]; rfl
        have e5 : w3.cell? ⟨w.heap.size, 5, none⟩ = some (.int .i64 x.d) := by rw [cell_atL (BL.out _ (O3.out))]; rfl
        have e6 : w3.cell? ⟨w.heap.size, 6, none⟩ = some (.int .i64 x.s) := by rw [cell_atL (BL.out _ (O3.out))]; rfl
        have e7 : w3.cell? ⟨w.heap.size, 7, none⟩ = some (.int .i64 x.f) := by rw [cell_atL (BL.out _ (O3.out))]; rfl
        have e8 : w3.cell? ⟨w.heap.size, 8, none⟩ = some (.int .i64 x.i) := by rw [cell_atL (BL.out _ (O3.out))]; rfl
        have e9 : w3.cell? ⟨w.heap.size, 9, none⟩ = some (.string ⟨x.tg.toArray⟩) := by rw [cell_atL (BL.out _ (O3.out))]; rfl
        have e10 : w3.cell? ⟨w.heap.size, 10, none⟩ = some (.int .i64 x.l) := by rw [cell_atL (BL.out _ (O3.out))]; rfl
        go_upto_region 9 with (go_at_call 52; refine (CL.out _).mono ?_; rintro e w4 ⟨rfl, ho⟩; have O4 := hidOf (O3.out.trans ho); clear ho)
        clear e0 e1 e2 e3 e4 e5 e6 e7 e8 e9 e10
        have g0 : w4.cell? ⟨w.heap.size, 0, none⟩ = some (.int .i64 x.k) := by rw [cell_atL (BL.out _ (O4.out))]; rfl
        have g1 : w4.cell? ⟨w.heap.size, 1, none⟩ = some (.string ⟨x.nm.toArray⟩) := by rw [cell_atL (BL.out _ (O4.out))]; rfl
        have g2 : w4.cell? ⟨w.heap.size, 2, none⟩ = some (.slice aw nw cw) := by rw [cell_atL (BL.out _ (O4.out))]; rfl
        have g3 : w4.cell? ⟨w.heap.size, 3, none⟩ = some (.slice an nn cn) := by rw [cell_atL (BL.out _ (O4.out))]; rfl
        have g4 : w4.cell? ⟨w.heap.size, 4, none⟩ = some (.int .i64 x.o) := by rw [cell_atL (BL.out _ (O4.out))]; rfl
        have g5 : w4.cell? ⟨w.heap.size, 5, none⟩ = some (.int .i64 x.d) := by rw [cell_atL (BL.out _ (O4.out))]; rfl
        have g6 : w4.cell? ⟨w.heap.size, 6, none⟩ = some (.int .i64 x.s) := by rw [cell_atL (BL.out _ (O4.out))]; rfl
        have g7 : w4.cell? ⟨w.heap.size, 7, none⟩ = some (.int .i64 x.f) := by rw [cell_atL (BL.out _ (O4.out))]; rfl
        have g8 : w4.cell? ⟨w.heap.size, 8, none⟩ = some (.int .i64 x.i) := by rw [cell_atL (BL.out _ (O4.out))]; rfl
        have g9 : w4.cell? ⟨w.heap.size, 9, none⟩ = some (.string ⟨x.tg.toArray⟩) := by rw [cell_atL (BL.out _ (O4.out))]; rfl
        have g10 : w4.cell? ⟨w.heap.size, 10, none⟩ = some (.int .i64 x.l) := by rw [cell_atL (BL.out _ (O4.out))]; rfl
        go_wp2_with (go_at_call 57; refine (CN.out _).mono ?_; rintro e w5 ⟨rfl, ho⟩; have O5 := hidOf (O4.out.trans ho); clear ho)
        go_ret2
        rw [HE.out]
        exact ⟨rfl, O1.out.trans O5.out⟩
set_option maxRecDepth 20000 in
set_option maxHeartbeats 4000000 in
theorem lineOf_insn (x : Stm) (aw an : Option Addr) (nw cw nn cn : Nat) (w : World) (hE : AEnv w) (hl : (decide (0 < nw) || decide (0 < nn)) = false) (ht : x.tg.length ≤ 140737488355328) (hf : I64 x.f) (hi : I64 x.i) : Calls Tryz.prog 30 #[.agg #[.int .i64 6, .string ⟨#[]⟩, .slice aw nw cw, .slice an nn cn, .int .i64 x.o, .int .i64 x.d, .int .i64 x.s, .int .i64 x.f, .int .i64 x.i, .string ⟨x.tg.toArray⟩, .int .i64 x.l]] w fun e w' => e = .returned (.tuple #[.string ⟨(printP x.o x.d x.s x.f x.i x.tg).1.toArray⟩, .int .i64 (printP x.o x.d x.s x.f x.i x.tg).2]) ∧ Out w w' := by
  have CL : Hid (∀ wx, Calls Tryz.prog 52 #[.agg #[.int .i64 6, .string ⟨#[]⟩, .slice aw nw cw, .slice an nn cn, .int .i64 x.o, .int .i64 x.d, .int .i64 x.s, .int .i64 x.f, .int .i64 x.i, .string ⟨x.tg.toArray⟩, .int .i64 x.l]] wx fun e w' => e = .returned (.bool (decide (0 < nw) || decide (0 < nn))) ∧ Out wx w') := hidOf (hasLists_any { x with k := 6, nm := [] } aw an nw cw nn cn)
  have CP : Hid (∀ wx, Out w wx → Calls Tryz.prog 53 #[.agg #[.int .i64 x.o, .int .i64 x.d, .int .i64 x.s, .int .i64 x.f, .int .i64 x.i], .string ⟨x.tg.toArray⟩] wx fun e w' => e = .returned (.tuple #[.string ⟨(printP x.o x.d x.s x.f x.i x.tg).1.toArray⟩, .int .i64 (printP x.o x.d x.s x.f x.i x.tg).2]) ∧ Out wx w') := hidOf (fun wx o => print_any x.o x.d x.s x.f x.i x.tg wx (hE.out o) ht hf hi)
  rw [hl] at CL
  generalize printP x.o x.d x.s x.f x.i x.tg = z at *
  obtain ⟨w1, hw1⟩ : ∃ w1, w1 = w.alloc (.cells #[.int .i64 6, .string ⟨#[]⟩, .slice aw nw cw, .slice an nn cn, .int .i64 x.o, .int .i64 x.d, .int .i64 x.s, .int .i64 x.f, .int .i64 x.i, .string ⟨x.tg.toArray⟩, .int .i64 x.l] 60) := ⟨_, rfl⟩
  have O1 : Hid (Out w w1) := hidOf (by rw [hw1]; exact (Out.refl w).alloc _)
  have b1' : w1.heap[w.heap.size]? = some (.cells #[.int .i64 6, .string ⟨#[]⟩, .slice aw nw cw, .slice an nn cn, .int .i64 x.o, .int .i64 x.d, .int .i64 x.s, .int .i64 x.f, .int .i64 x.i, .string ⟨x.tg.toArray⟩, .int .i64 x.l] 60 (0, 0)) := by rw [hw1]; exact heap_alloc_new w _
  have BL : Hid (∀ wx, Out w1 wx → wx.heap[w.heap.size]? = some (.cells #[.int .i64 6, .string ⟨#[]⟩, .slice aw nw cw, .slice an nn cn, .int .i64 x.o, .int .i64 x.d, .int .i64 x.s, .int .i64 x.f, .int .i64 x.i, .string ⟨x.tg.toArray⟩, .int .i64 x.l] 60 (0, 0))) := hidOf (fun wx o => (o.block _ (Array.getElem?_eq_some_iff.1 b1').1).trans b1')
  have Hw1 := hidOf hw1
  clear hE hl ht hf hi hw1 b1'
  have c0 : w1.cell? ⟨w.heap.size, 0, none⟩ = some (.int .i64 6) := by rw [cell_atL (BL.out _ (Out.refl w1))]; rfl
  have c1 : w1.cell? ⟨w.heap.size, 1, none⟩ = some (.string ⟨#[]⟩) := by rw [cell_atL (BL.out _ (Out.refl w1))]; rfl
  have c2 : w1.cell? ⟨w.heap.size, 2, none⟩ = some (.slice aw nw cw) := by rw [cell_atL (BL.out _ (Out.refl w1))]; rfl
  have c3 : w1.cell? ⟨w.heap.size, 3, none⟩ = some (.slice an nn cn) := by rw [cell_atL (BL.out _ (Out.refl w1))]; rfl
  have c4 : w1.cell? ⟨w.heap.size, 4, none⟩ = some (.int .i64 x.o) := by rw [cell_atL (BL.out _ (Out.refl w1))]; rfl
  have c5 : w1.cell? ⟨w.heap.size, 5, none⟩ = some (.int .i64 x.d) := by rw [cell_atL (BL.out _ (Out.refl w1))]; rfl
  have c6 : w1.cell? ⟨w.heap.size, 6, none⟩ = some (.int .i64 x.s) := by rw [cell_atL (BL.out _ (Out.refl w1))]; rfl
  have c7 : w1.cell? ⟨w.heap.size, 7, none⟩ = some (.int .i64 x.f) := by rw [cell_atL (BL.out _ (Out.refl w1))]; rfl
  have c8 : w1.cell? ⟨w.heap.size, 8, none⟩ = some (.int .i64 x.i) := by rw [cell_atL (BL.out _ (Out.refl w1))]; rfl
  have c9 : w1.cell? ⟨w.heap.size, 9, none⟩ = some (.string ⟨x.tg.toArray⟩) := by rw [cell_atL (BL.out _ (Out.refl w1))]; rfl
  have c10 : w1.cell? ⟨w.heap.size, 10, none⟩ = some (.int .i64 x.l) := by rw [cell_atL (BL.out _ (Out.refl w1))]; rfl
  go_enter Tryz.func30, Tryz.ntmps30
  go_upto_region 1 with fail
  rw [← Hw1.out]
  go_upto_region 2 with (go_at_call 52; refine (CL.out _).mono ?_; rintro e w2 ⟨rfl, ho⟩; have O2 := hidOf ho; clear ho)
  clear c0 c1 c2 c3 c4 c5 c6 c7 c8 c9 c10
  have e0 : w2.cell? ⟨w.heap.size, 0, none⟩ = some (.int .i64 6) := by rw [cell_atL (BL.out _ O2.out)]; rfl
  have e1 : w2.cell? ⟨w.heap.size, 1, none⟩ = some (.string ⟨#[]⟩) := by rw [cell_atL (BL.out _ O2.out)]; rfl
  have e2 : w2.cell? ⟨w.heap.size, 2, none⟩ = some (.slice aw nw cw) := by rw [cell_atL (BL.out _ O2.out)]; rfl
  have e3 : w2.cell? ⟨w.heap.size, 3, none⟩ = some (.slice an nn cn) := by rw [cell_atL (BL.out _ O2.out)]; rfl
  have e4 : w2.cell? ⟨w.heap.size, 4, none⟩ = some (.int .i64 x.o) := by rw [cell_atL (BL.out _ O2.out)]; rfl
  have e5 : w2.cell? ⟨w.heap.size, 5, none⟩ = some (.int .i64 x.d) := by rw [cell_atL (BL.out _ O2.out)]; rfl
  have e6 : w2.cell? ⟨w.heap.size, 6, none⟩ = some (.int .i64 x.s) := by rw [cell_atL (BL.out _ O2.out)]; rfl
  have e7 : w2.cell? ⟨w.heap.size, 7, none⟩ = some (.int .i64 x.f) := by rw [cell_atL (BL.out _ O2.out)]; rfl
  have e8 : w2.cell? ⟨w.heap.size, 8, none⟩ = some (.int .i64 x.i) := by rw [cell_atL (BL.out _ O2.out)]; rfl
  have e9 : w2.cell? ⟨w.heap.size, 9, none⟩ = some (.string ⟨x.tg.toArray⟩) := by rw [cell_atL (BL.out _ O2.out)]; rfl
  have e10 : w2.cell? ⟨w.heap.size, 10, none⟩ = some (.int .i64 x.l) := by rw [cell_atL (BL.out _ O2.out)]; rfl
  go_wp2_with (go_at_call 53; refine (CP.out _ (O1.out.trans O2.out)).mono ?_; rintro e w3 ⟨rfl, ho⟩; have O3 := hidOf (O2.out.trans ho); clear ho)
  go_ret2
  exact ⟨rfl, O1.out.trans O3.out⟩
end Go.Proofs.YtkihaohdcgjioaaGreatDoor
