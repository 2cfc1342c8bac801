import Derived.Test.YthdgmhohofakgaaGreatDoorIyc
import Derived.Test.YthdgmhohofakgaaGreatDoorIms
import Derived.Test.YthdgmhohofakgaaGreatDoorAj
import Derived.Test.YthdgmhohofakgaaGreatDoorImf
import Derived.Deep.RegionHeld3
namespace Go.Proofs.YthdgmhohofakgaaGreatDoor
open Go.RowKit
set_option linter.unusedVariables false
set_option linter.unusedSimpArgs false
def slW (x : Ins) : Nat := if isW x.o then 2 else 1
theorem cnt_cons (x : Ins) (r : List Ins) (s : Nat) (h : 0 < s) : cntO (x :: r) s = ((cntO r (s - slW x)).1 + 1, (cntO r (s - slW x)).2 + slW x) := by
  rw [cntO, if_neg (by omega)]; rfl
theorem cnt_zero (r : List Ins) : cntO r 0 = (0, 0) := by cases r <;> simp [cntO]
theorem slots_one (x : Ins) : slotsP [x] = slW x := by unfold slotsP slW; cases h : isW x.o <;> simp [h]
theorem slW_le (x : Ins) : 1 ≤ slW x ∧ slW x ≤ 2 := by unfold slW; split <;> omega
set_option maxRecDepth 8000 in
set_option maxHeartbeats 2000000 in
theorem countOf_any (w : World) (a : Option Addr) (n cap sl : Nat) (T : List Ins) (hn : T.length = n) (hi : InsA w a T) (hm : n ≤ 1000000000000) (hs : sl ≤ 1000000000000) : Calls Tryz.prog 83 #[.slice a n cap, .int .i64 (sl : Nat)] w fun e w' => e = .returned (.tuple #[.int .i64 ((cntO T sl).1 : Nat), .bool (decide ((cntO T sl).2 = sl ∧ 0 < sl))]) ∧ Out w w' := by
  have HI := hidOf hi
  have hn' := hidOf hn
  clear hi hn
  go_enter Tryz.func83, Tryz.ntmps83
  go_wp2
  go_loopw [6, 7] (fun c t wr => ∃ k tk : Nat, k ≤ n ∧ tk ≤ 2 * k ∧ c = .int .i64 k ∧ t = .int .i64 tk ∧ Hid (cntO T sl = ((cntO (T.drop k) (sl - tk)).1 + k, (cntO (T.drop k) (sl - tk)).2 + tk)) ∧ Out w wr) (fun c _ _ => n - (intOf c).toNat)
  case atStart => exact ⟨0, 0, by omega, by omega, rfl, rfl, hidOf (by simp), Out.refl _⟩
  case round =>
    obtain ⟨k, tk, hk, htk, rfl, rfl, HX, hor⟩ := hrel
    by_cases h1 : tk < sl
    · have h1' : (tk : Int) < sl := by omega
      by_cases h2 : k < n
      · have h2' : (k : Int) < n := by omega
        obtain ⟨x, hx⟩ : ∃ x, T[k]? = some x := ⟨_, List.getElem?_eq_getElem (by rw [hn'.out]; exact h2)⟩
        obtain ⟨b, off, rfl, c0, c1, c2, c3, c4⟩ := HI.out.get hx
        have q0 := cell_later hor c0
        have q1 := cell_later hor c1
        have q2 := cell_later hor c2
        have q3 := cell_later hor c3
        have q4 := cell_later hor c4
        clear c0 c1 c2 c3 c4
        have HX2 : Hid (cntO T sl = ((cntO (T.drop (k + 1)) (sl - (tk + slW x))).1 + (k + 1), (cntO (T.drop (k + 1)) (sl - (tk + slW x))).2 + (tk + slW x))) := hidOf (by
          rw [HX.out, List.drop_eq_getElem_cons (by rw [hn'.out]; exact h2), show T[k]'(by rw [hn'.out]; exact h2) = x from (List.getElem?_eq_some_iff.1 hx).2, cnt_cons _ _ _ (by omega), Nat.sub_sub]
          simp only [Prod.mk.injEq]; omega)
        obtain ⟨u, hu⟩ : ∃ u, Hid (u = slW x) := ⟨_, rfl⟩
        have hub : 1 ≤ u ∧ u ≤ 2 := by rw [hu.out]; exact slW_le x
        obtain ⟨o, d, s, f, i⟩ := x
        simp only at q0 q1 q2 q3 q4
        have CS : Hid (∀ t, Calls Tryz.prog 46 #[.slice (some ⟨wr.heap.size, 0, none⟩) 1 1] (wr.alloc (.cells #[.int .i64 o, .int .i64 d, .int .i64 s, .int .i64 f, .int .i64 i] t)) fun e w' => e = .returned (.int .i64 (u : Nat)) ∧ Out wr w') := hidOf (fun t => by
          rw [hu.out, ← slots_one]
          refine (slotsI_any _ _ 1 1 [⟨o, d, s, f, i⟩] rfl (.inr ⟨wr.heap.size, 0, rfl, fun k x hx => ?_⟩) (by omega)).mono ?_
          · rcases k with _ | k
            · simp at hx; subst hx
              exact ⟨cell_fresh wr _ _ 0 _ rfl, cell_fresh wr _ _ 1 _ rfl, cell_fresh wr _ _ 2 _ rfl, cell_fresh wr _ _ 3 _ rfl, cell_fresh wr _ _ 4 _ rfl⟩
            · simp at hx
          · rintro e w' ⟨he, o2⟩
            exact ⟨he, (Out.alloc (Out.refl _) _).trans o2⟩)
        rw [← hu.out] at HX2
        clear HX hx
        go_wp2_with (go_at_call 46; refine (CS.out _).mono ?_; rintro e w1 ⟨rfl, o1⟩)
        go_roundw
        case rel => exact ⟨k + 1, tk + u, by omega, by omega, by simp, by simp, HX2, hor.trans o1⟩
        case measure => simp [intOf]; omega
      · have h2' : ¬ (k : Int) < n := by omega
        have hf : Hid (cntO T sl = (k, tk)) := hidOf (by rw [HX.out, List.drop_eq_nil_of_le (by rw [hn'.out]; omega)]; simp [cntO])
        have h3 : ¬ (tk : Int) = sl := by omega
        have h4 : ¬ tk = sl := by omega
        clear HX
        go_wp2
        go_ret2
        rw [hf.out]
        exact ⟨by simp [h4], hor⟩
    · have h1' : ¬ (tk : Int) < sl := by omega
      have hf : Hid (cntO T sl = (k, tk)) := hidOf (by rw [HX.out, show sl - tk = 0 by omega, cnt_zero]; simp)
      clear HX
      by_cases h3 : tk = sl
      · subst h3
        by_cases h5 : tk = 0
        · subst h5
          go_wp2
          go_ret2
          rw [hf.out]
          exact ⟨by simp, hor⟩
        · have h6 : (0 : Int) < tk := by omega
          go_wp2
          go_ret2
          rw [hf.out]
          exact ⟨by simp, hor⟩
      · have h4 : ¬ (tk : Int) = sl := by omega
        go_wp2
        go_ret2
        rw [hf.out]
        exact ⟨by simp [h3], hor⟩
set_option maxRecDepth 8000 in
theorem stringsAt_any (w : World) (p g go n c : Nat) (l : List UInt8) (r : Rs) (h : RdA w p g go n c l r) (hr : r.n ≤ n) (hn : n ≤ 1000000000000) : Calls Tryz.prog 59 #[.pointer (some ⟨p, 0, none⟩)] w fun e w' => e = .returned (.int .i64 ((n - r.n : Nat) : Int)) ∧ ∃ m, w' = w.drewN m := by
  obtain ⟨o, s, f, d, nn, e, nm, nx, tv, fv, dv, en⟩ := r
  simp only at hr
  have c0 : w.cell? ⟨p, 0, none⟩ = some (.slice (some ⟨g, go, none⟩) n c) := h.cell 0 _ rfl
  have c6 : w.cell? ⟨p, 6, none⟩ = some (.int .i64 (nn : Nat)) := h.cell 6 _ rfl
  clear h
  have w1 : IntKind.i64.wrap ((n : Int) - (nn : Int)) = (n : Int) - (nn : Int) := by rw [wrap64_eq17]; unfold wrap64; omega
  have hs : Hid (((n - nn : Nat) : Int) = (n : Int) - (nn : Int)) := hidOf (by omega)
  go_enter Tryz.func59, Tryz.ntmps59
  go_upto_region 1 with fail
  go_quiet (fail)
  go_wp2
  go_ret
  exact ⟨by rw [hs.out]; rfl, _, rfl⟩
end Go.Proofs.YthdgmhohofakgaaGreatDoor
namespace Go.Proofs.YthdgmhohofakgaaGreatDoor
open Go.RowKit
set_option linter.unusedVariables false
set_option linter.unusedSimpArgs false
theorem Eqh.of_drewN {a b : World} (h : Eqh a b) (m : Nat) : Eqh a (b.drewN m) := h.trans (Eqh.drewN _ _)
theorem RdA.eqh {w w' : World} {p g go n c : Nat} {l : List UInt8} {r : Rs} (h : RdA w p g go n c l r) (k : Eqh w w') : RdA w' p g go n c l r := h.out k.out
theorem BtA.rest {w : World} {g go : Nat} {l : List UInt8} (h : BtA w g go l) (N k : Nat) (hg : g < N) : RestAt N w (some ⟨g, go + k, none⟩) (l.drop k) := .inr ⟨g, go + k, hg, rfl, fun j x hx => by
  rw [List.getElem?_drop] at hx
  have := h (k + j) x hx
  rw [Nat.add_assoc]; exact this⟩
/-- what takeNames leaves -/
def nmE (l : List UInt8) (p g go n c : Nat) (w : World) (r : Rs) (e : Ending) (w' : World) : Prop :=
  (match rdP (l.drop (n - r.n)) with
   | (none, q) => e = .returned (.tuple #[.int .i64 ((n - r.n + q : Nat) : Int), .bool true])
   | (some N, _) => e = .returned (.tuple #[.int .i64 ((n - r.n : Nat) : Int), .bool false]) ∧ szF 1 N = r.n ∧ ∃ tb, RdA w' p g go n c l { r with nm := .pointer (some ⟨tb, 0, none⟩), nx := 1 } ∧ Tab tb w' N (fun k => w.heap.size ≤ k)) ∧ Chg (fun k => k = p) w w'
set_option maxRecDepth 8000 in
set_option maxHeartbeats 400000 in
theorem takeNames_any (w : World) (p g go n c : Nat) (l : List UInt8) (r : Rs) (h : RdA w p g go n c l r) (hr : r.n ≤ n) (hn : n ≤ 1000000000000) : Calls Tryz.prog 42 #[.pointer (some ⟨p, 0, none⟩)] w (nmE l p g go n c w r) := by
  have H := hidOf h
  have hpl := h.pl
  have hgl := h.gl
  have hnc := h.nc
  obtain ⟨o, s, f, d, nn, e, nm, nx, tv, fv, dv, en⟩ := r
  simp only at hr
  obtain ⟨k, hk⟩ : ∃ k, Hid (k = n - nn) := ⟨_, rfl⟩
  have hkn : k ≤ n := by rw [hk.out]; omega
  have hkr : n - k = nn := by rw [hk.out]; omega
  have hll : Hid ((l.drop k).length = nn) := hidOf (by rw [List.length_drop, h.l_]; exact hkr)
  have c0 : w.cell? ⟨p, 0, none⟩ = some (.slice (some ⟨g, go, none⟩) n c) := h.cell 0 _ rfl
  have CS : Hid (∀ wx, Eqh w wx → Calls Tryz.prog 59 #[.pointer (some ⟨p, 0, none⟩)] wx fun e w' => e = .returned (.int .i64 (k : Nat)) ∧ Eqh w w') := hidOf (fun wx hx => by
    refine (stringsAt_any wx p g go n c l _ (H.out.eqh hx) hr hn).mono ?_
    rintro e w' ⟨rfl, m, rfl⟩
    rw [← hk.out]
    exact ⟨rfl, hx.of_drewN m⟩)
  have CR : Hid (∀ wx, Eqh w wx → Calls Tryz.prog 58 #[.slice (if c = k then some ⟨g, go, none⟩ else some ⟨g, go + k, none⟩) nn (c - k)] wx fun e w' => REnd w (l.drop k) e w') := hidOf (fun wx hx => by
    have := read_any (if c = k then some ⟨g, go, none⟩ else some ⟨g, go + k, none⟩) (c - k) (l.drop k) wx (by
      by_cases hck : c = k
      · exact .inl (List.eq_nil_of_length_eq_zero (by rw [hll.out]; omega))
      · rw [if_neg hck]; exact (H.out.eqh hx).bt.rest _ k (by rw [hx.heap]; exact hgl)) (by rw [hll.out]; omega) (by rw [hll.out]; omega)
    rw [hll.out] at this
    refine this.mono ?_
    intro e w' ⟨o3, h3⟩
    refine ⟨hx.out.trans o3, ?_⟩
    rcases h3 with h3 | ⟨N, tb, h1, h2, h3, h4, h5⟩
    · exact .inl h3
    · exact .inr ⟨N, tb, h1, h2, h3, by rw [← hx.heap]; exact h4, by unfold FN at h5 ⊢; rw [← hx.heap]; exact h5⟩)
  clear h
  go_enter Tryz.func42, Tryz.ntmps42
  go_upto_region 1 with fail
  obtain ⟨rN, rq, hrd⟩ : ∃ rN rq, Hid (rdP (l.drop k) = (rN, rq)) := ⟨_, _, hidOf rfl⟩
  have hrl : rq ≤ n := by have := rdP_le17 (l.drop k); rw [hrd.out, hll.out] at this; simp only at this; omega
  cases rN with
  | none =>
    have CR1 : Hid (∀ wx, Eqh w wx → Calls Tryz.prog 58 #[.slice (if c = k then some ⟨g, go, none⟩ else some ⟨g, go + k, none⟩) nn (c - k)] wx fun e w' => e = .returned (.tuple #[.pointer none, .int .i64 (rq : Nat), .int .i64 80]) ∧ Out w w') := hidOf (fun wx hx => (CR.out wx hx).mono (fun e w' ⟨o3, h3⟩ => by
      rw [hrd.out] at h3
      rcases h3 with ⟨_, h3⟩ | ⟨N, tb, h1, _⟩
      · exact ⟨h3, o3⟩
      · cases h1))
    clear CR
    by_cases hck : c = k
    · obtain rfl : n = k := by omega
      have hnn : nn = 0 := by omega
      subst hnn
      subst hck
      rw [if_pos rfl, Nat.sub_self] at CR1
      go_region_held3 (fun wx => wx.cell? ⟨p, 0, none⟩ = some (.slice (some ⟨g, go, none⟩) c c)) (first | go_keep | assumption) (first | (go_at_call 58; refine (CR1.out _ (by exact q2)).mono ?_; rintro e w3 ⟨rfl, o3⟩; have d3 := cell_later o3 c0) | (go_at_call 59; refine (CS.out _ (by first | exact Eqh.refl _ | exact Eqh.drew _)).mono ?_; rintro e w2 ⟨rfl, q2⟩; have d2 := (q2.cell ⟨p, 0, none⟩).trans c0))
      have HR3 := H.out.out o3
      have e8 : w3.cell? ⟨p, 8, none⟩ = some nm := HR3.cell 8 _ rfl
      have e9 : w3.cell? ⟨p, 9, none⟩ = some (.int .i64 (nx : Nat)) := HR3.cell 9 _ rfl
      have f8 := HR3.frozen 8
      have f9 := HR3.frozen 9
      have R3 := hidOf HR3
      have C3 : Hid (Chg (fun k => k = p) w w3) := hidOf (Chg.of_out o3)
      clear HR3 d2 d3 q2 CS CR1
      go_upto_region 3 with fail
      have R4 := hidOf ((R3.out.set (r' := ⟨o, s, f, d, 0, e, .pointer none, nx, tv, fv, dv, en⟩) 8 (.pointer none) rfl).set (r' := ⟨o, s, f, d, 0, e, .pointer none, 1, tv, fv, dv, en⟩) 9 (.int .i64 1) rfl)
      have C4 := hidOf (Chg.setP (Chg.setP C3.out 8 (.pointer none)) 9 (.int .i64 1))
      generalize (w3.setCell ⟨p, 8, none⟩ (.pointer none)).setCell ⟨p, 9, none⟩ (.int .i64 1) = w4 at *
      have CS := hidOf (stringsAt_any w4 p g go c c l _ R4.out hr hn)
      simp only at CS
      rw [← hk.out] at CS
      clear e8 e9 f8 f9
      go_wp2_with (go_at_call 59; refine CS.out.mono ?_; rintro e w5 ⟨rfl, m, rfl⟩)
      go_ret2
      refine ⟨?_, C4.out.of_drewN m⟩
      show (match rdP (l.drop (c - 0)) with | (none, q) => _ | (some N, _) => _)
      rw [← hk.out, hrd.out]
      exact rfl
    · rw [if_neg hck] at CR1
      go_region_held3 (fun wx => wx.cell? ⟨p, 0, none⟩ = some (.slice (some ⟨g, go, none⟩) n c)) (first | go_keep | assumption) (first | (go_at_call 58; refine (CR1.out _ (by exact q2)).mono ?_; rintro e w3 ⟨rfl, o3⟩; have d3 := cell_later o3 c0) | (go_at_call 59; refine (CS.out _ (by first | exact Eqh.refl _ | exact Eqh.drew _)).mono ?_; rintro e w2 ⟨rfl, q2⟩; have d2 := (q2.cell ⟨p, 0, none⟩).trans c0))
      have HR3 := H.out.out o3
      have e8 : w3.cell? ⟨p, 8, none⟩ = some nm := HR3.cell 8 _ rfl
      have e9 : w3.cell? ⟨p, 9, none⟩ = some (.int .i64 (nx : Nat)) := HR3.cell 9 _ rfl
      have f8 := HR3.frozen 8
      have f9 := HR3.frozen 9
      have R3 := hidOf HR3
      have C3 : Hid (Chg (fun k => k = p) w w3) := hidOf (Chg.of_out o3)
      clear HR3 d2 d3 q2 CS CR1
      go_upto_region 3 with fail
      have R4 := hidOf ((R3.out.set (r' := ⟨o, s, f, d, nn, e, .pointer none, nx, tv, fv, dv, en⟩) 8 (.pointer none) rfl).set (r' := ⟨o, s, f, d, nn, e, .pointer none, 1, tv, fv, dv, en⟩) 9 (.int .i64 1) rfl)
      have C4 := hidOf (Chg.setP (Chg.setP C3.out 8 (.pointer none)) 9 (.int .i64 1))
      generalize (w3.setCell ⟨p, 8, none⟩ (.pointer none)).setCell ⟨p, 9, none⟩ (.int .i64 1) = w4 at *
      have CS := hidOf (stringsAt_any w4 p g go n c l _ R4.out hr hn)
      simp only at CS
      rw [← hk.out] at CS
      clear e8 e9 f8 f9
      go_wp2_with (go_at_call 59; refine CS.out.mono ?_; rintro e w5 ⟨rfl, m, rfl⟩)
      go_ret2
      refine ⟨?_, C4.out.of_drewN m⟩
      show (match rdP (l.drop (n - nn)) with | (none, q) => _ | (some N, _) => _)
      rw [← hk.out, hrd.out]
      exact rfl
  | some N =>
    have hck : ¬ c = k := fun e => by
      have h1 : l.drop k = [] := List.eq_nil_of_length_eq_zero (by rw [hll.out]; omega)
      have h2 := hrd.out
      rw [h1] at h2
      cases h2
    have CR1 : Hid (∀ wx, Eqh w wx → Calls Tryz.prog 58 #[.slice (some ⟨g, go + k, none⟩) nn (c - k)] wx fun e w' => ∃ tb, e = .returned (.tuple #[.pointer (some ⟨tb, 0, none⟩), .int .i64 0, .int .i64 0]) ∧ Out w w' ∧ szF 1 N = nn ∧ Tab tb w' N (fun k => w.heap.size ≤ k)) := hidOf (fun wx hx => by
      have := CR.out wx hx
      rw [if_neg hck] at this
      refine this.mono (fun e w' ⟨o3, h3⟩ => ?_)
      rw [hrd.out] at h3
      rcases h3 with ⟨h1, _⟩ | ⟨N', tb, h1, h2, h3, h4, h5⟩
      · cases h1
      · cases h1
        refine ⟨tb, h2, o3, by rw [h3, hll.out], ?_⟩
        obtain ⟨nv, sv, mv, t, hf⟩ := h5
        exact ⟨nv, sv, mv, t, fun k hk => (hf k hk).elim False.elim And.left⟩)
    clear CR
    go_region_held3 (fun wx => wx.cell? ⟨p, 0, none⟩ = some (.slice (some ⟨g, go, none⟩) n c)) (first | go_keep | assumption) (first | (go_at_call 58; refine (CR1.out _ (by exact q2)).mono ?_; rintro e w3 ⟨tb, rfl, o3, sz3, t3⟩; have d3 := cell_later o3 c0) | (go_at_call 59; refine (CS.out _ (by first | exact Eqh.refl _ | exact Eqh.drew _)).mono ?_; rintro e w2 ⟨rfl, q2⟩; have d2 := (q2.cell ⟨p, 0, none⟩).trans c0))
    have HR3 := H.out.out o3
    have e8 : w3.cell? ⟨p, 8, none⟩ = some nm := HR3.cell 8 _ rfl
    have e9 : w3.cell? ⟨p, 9, none⟩ = some (.int .i64 (nx : Nat)) := HR3.cell 9 _ rfl
    have f8 := HR3.frozen 8
    have f9 := HR3.frozen 9
    have R3 := hidOf HR3
    have C3 : Hid (Chg (fun k => k = p) w w3) := hidOf (Chg.of_out o3)
    clear HR3 d2 d3 q2 CS CR1
    go_upto_region 3 with fail
    have R4 := hidOf ((R3.out.set (r' := ⟨o, s, f, d, nn, e, .pointer (some ⟨tb, 0, none⟩), nx, tv, fv, dv, en⟩) 8 (.pointer (some ⟨tb, 0, none⟩)) rfl).set (r' := ⟨o, s, f, d, nn, e, .pointer (some ⟨tb, 0, none⟩), 1, tv, fv, dv, en⟩) 9 (.int .i64 1) rfl)
    have C4 := hidOf (Chg.setP (Chg.setP C3.out 8 (.pointer (some ⟨tb, 0, none⟩))) 9 (.int .i64 1))
    have T4 : Hid (Tab tb ((w3.setCell ⟨p, 8, none⟩ (.pointer (some ⟨tb, 0, none⟩))).setCell ⟨p, 9, none⟩ (.int .i64 1)) N (fun k => w.heap.size ≤ k)) := hidOf (t3.chg (Chg.setP (Chg.setP (Chg.refl _ _) 8 _) 9 _) (fun k hk e => by omega))
    generalize (w3.setCell ⟨p, 8, none⟩ (.pointer (some ⟨tb, 0, none⟩))).setCell ⟨p, 9, none⟩ (.int .i64 1) = w4 at *
    have CS := hidOf (stringsAt_any w4 p g go n c l _ R4.out hr hn)
    simp only at CS
    rw [← hk.out] at CS
    clear e8 e9 f8 f9
    go_wp2_with (go_at_call 59; refine CS.out.mono ?_; rintro e w5 ⟨rfl, m, rfl⟩)
    go_ret2
    refine ⟨?_, C4.out.of_drewN m⟩
    show (match rdP (l.drop (n - nn)) with | (none, q) => _ | (some N, _) => _)
    rw [← hk.out, hrd.out]
    exact ⟨rfl, sz3, tb, R4.out.out (Out.drewN (Out.refl _) _), T4.out.out (Out.drewN (Out.refl _) _)⟩
end Go.Proofs.YthdgmhohofakgaaGreatDoor
namespace Go.Proofs.YthdgmhohofakgaaGreatDoor
open Go.RowKit
set_option linter.unusedVariables false
set_option linter.unusedSimpArgs false
theorem atF_sz : ∀ (N : List (List UInt8)) (a : Nat) (q : Int) (x : List UInt8), atF a N q = some x → q + x.length + 1 ≤ szF a N
  | [], _, _, _, h => by simp [atF] at h
  | y :: r, a, q, x, h => by
    rw [atF] at h
    have h1 := szF_ge r (a + y.length + 1)
    rw [show szF a (y :: r) = szF (a + y.length + 1) r from rfl]
    split at h
    · cases h; omega
    · exact atF_sz r _ q x h
/-- what takeName leaves -/
def tnE (l : List UInt8) (p g go n c : Nat) (w : World) (r : Rs) (N : List (List UInt8)) (pl : Nat) (e : Ending) (w' : World) : Prop :=
  (match nmT N r.nx pl with
   | none => e = .returned (.tuple #[.string ⟨#[]⟩, .bool false])
   | some (x, nx') => e = .returned (.tuple #[.string ⟨x.toArray⟩, .bool true]) ∧ RdA w' p g go n c l { r with nx := nx' } ∧ nx' ≤ szF 1 N) ∧ Chg (fun k => k = p) w w'
set_option maxRecDepth 8000 in
set_option maxHeartbeats 1000000 in
theorem takeName_any (w : World) (p g go n c : Nat) (l : List UInt8) (r : Rs) (h : RdA w p g go n c l r) (tb : Nat) (htb : r.nm = .pointer (some ⟨tb, 0, none⟩)) (N : List (List UInt8)) (F : Nat → Prop) (hT : Tab tb w N F) (hsz : szF 1 N ≤ 1000000000000) (hnx : r.nx ≤ szF 1 N) (pl : Nat) : Calls Tryz.prog 82 #[.pointer (some ⟨p, 0, none⟩), .int .i64 (pl : Nat)] w (tnE l p g go n c w r N pl) := by
  have H := hidOf h
  have hpl := h.pl
  have HT := hidOf hT
  obtain ⟨o, s, f, d, nn, e, nm, nx, tv, fv, dv, en⟩ := r
  simp only at htb hnx
  subst htb
  have c8 : w.cell? ⟨p, 8, none⟩ = some (.pointer (some ⟨tb, 0, none⟩)) := h.cell 8 _ rfl
  have c9 : w.cell? ⟨p, 9, none⟩ = some (.int .i64 (nx : Nat)) := h.cell 9 _ rfl
  have f9 := h.frozen 9
  clear h hT
  go_enter Tryz.func82, Tryz.ntmps82
  by_cases h1 : pl < 1
  · have h1' : (pl : Int) < 1 := by omega
    go_wp2
    go_ret2
    have e0 : nmT N nx pl = none := by unfold nmT; rw [if_pos (.inl h1)]
    unfold tnE; dsimp only; rw [e0]
    exact ⟨rfl, Chg.refl _ _⟩
  · have h1' : ¬ (pl : Int) < 1 := by omega
    by_cases h2 : nx < pl
    · have h2' : (nx : Int) < pl := by omega
      go_wp2
      go_ret2
      have e0 : nmT N nx pl = none := by unfold nmT; rw [if_pos (.inr h2)]
      unfold tnE; dsimp only; rw [e0]
      exact ⟨rfl, Chg.refl _ _⟩
    · have h2' : ¬ (nx : Int) < pl := by omega
      cases ha : atF 1 N pl with
      | none =>
        have CA := hidOf (at_none tb w N F pl HT.out hsz (by omega) ha)
        go_wp2_with (go_at_call 94; refine CA.out.mono ?_; rintro e w1 ⟨rfl, m, rfl⟩)
        go_ret2
        have e0 : nmT N nx pl = none := by unfold nmT; rw [if_neg (by omega), ha]
        unfold tnE; dsimp only; rw [e0]
        exact ⟨rfl, (Chg.refl _ _).of_drewN m⟩
      | some x =>
        have CA := hidOf (at_some tb w N F pl x HT.out hsz ha)
        have hsx := atF_sz N 1 pl x ha
        obtain ⟨L, hL⟩ : ∃ L, Hid (L = x.length) := ⟨_, rfl⟩
        have hLs : (⟨x.toArray⟩ : ByteArray).size = L := by rw [hL.out]; rfl
        have hLb : L ≤ 1000000000000 := by rw [hL.out]; omega
        by_cases h3 : pl = nx
        · subst h3
          have hnb : pl + L + 1 ≤ szF 1 N := by rw [hL.out]; omega
          go_upto_region 6 with (go_at_call 94; refine CA.out.mono ?_; rintro e w1 ⟨rfl, m, rfl⟩)
          have d9 : (w.drewN m).cell? ⟨p, 9, none⟩ = some (.int .i64 (pl : Nat)) := c9
          have g9 : (w.drewN m).frozen? ⟨p, 9, none⟩ = false := f9
          have R2 := hidOf (H.out.out (Out.drewN (Out.refl w) m))
          have C2 : Hid (Chg (fun k => k = p) w (w.drewN m)) := hidOf ((Chg.refl _ _).of_drewN m)
          generalize w.drewN m = w2 at *
          clear CA HT c8 c9 f9 H
          go_wp2
          go_ret2
          have e0 : nmT N pl pl = some (x, pl + x.length + 1) := by unfold nmT; rw [if_neg (by omega), ha]; simp
          unfold tnE; dsimp only; rw [e0]
          refine ⟨⟨rfl, ?_, by rw [← hL.out]; exact hnb⟩, Chg.setP C2.out _ _⟩
          refine R2.out.set 9 _ ?_
          rw [← hL.out, show (pl : Int) + ((L : Int) + 1) = ((pl + L + 1 : Nat) : Int) by omega]
          rfl
        · have h3' : ¬ (pl : Int) = nx := by omega
          go_wp2_with (go_at_call 94; refine CA.out.mono ?_; rintro e w1 ⟨rfl, m, rfl⟩)
          go_ret2
          have e0 : nmT N nx pl = some (x, nx) := by unfold nmT; rw [if_neg (by omega), ha]; simp [h3]
          unfold tnE; dsimp only; rw [e0]
          exact ⟨⟨rfl, H.out.out (Out.drewN (Out.refl _) _), hnx⟩, (Chg.refl _ _).of_drewN m⟩
end Go.Proofs.YthdgmhohofakgaaGreatDoor
namespace Go.Proofs.YthdgmhohofakgaaGreatDoor
open Go.RowKit
set_option linter.unusedVariables false
set_option linter.unusedSimpArgs false
/-- numbers are taken up into the fields of a new row -/
theorem numFR (wb w8 : World) (p g go n c o h k q : Nat) (l : List UInt8) (cs : Array Value) (t : TypeId) (H : Tk wb p g go n c o l) (o8 : Out wb w8) (hh : wb.heap.size ≤ h) (hbox : w8.heap[h]? = some (.cells cs t (0, 0))) (hcs : cs.size = k) (hq5 : wb.heap.size ≤ q) (hhq : ¬ h = q) (hcq : ∀ i, i < k → w8.cell? ⟨q, i, none⟩ = some (.pointer (some ⟨h, i, none⟩))) (hk : 0 < k) (hr : o + 4 * k ≤ n) (hn : n ≤ 1000000000000) :
    Calls Tryz.prog 48 #[.pointer (some ⟨p, 0, none⟩), .slice (some ⟨q, 0, none⟩) k k] w8 fun e w' => (∃ v, e = .returned v) ∧ Mv p (o + 4 * k) wb w' ∧ ∀ i, i < k → w'.cell? ⟨h, i, none⟩ = some (.int .i64 (g4 l (o + 4 * i) : Nat)) := by
  have hget : ∀ i y, ((List.range k).map (fun i => (h, i)))[i]? = some y → i < k ∧ y = (h, i) := fun i y hy => by
    rw [List.getElem?_map] at hy
    rcases Nat.lt_or_ge i k with hi | hi
    · rw [List.getElem?_range hi] at hy; simp at hy; exact ⟨hi, hy.symm⟩
    · rw [List.getElem?_eq_none (by simpa using hi)] at hy; simp at hy
  have hlen : ((List.range k).map (fun i => (h, i))).length = k := by simp
  have hmem : ∀ y ∈ (List.range k).map (fun i => (h, i)), y.1 = h ∧ y.2 < k := fun y hy => by
    simp at hy; obtain ⟨i, hi, rfl⟩ := hy; exact ⟨rfl, hi⟩
  have := numR wb w8 p g go n c o q l ((List.range k).map (fun i => (h, i))) (H.out o8) o8 H.pl H.gl (fun y hy => by rw [(hmem y hy).1]; exact hh) (by
      refine List.Pairwise.map _ (fun a b hab e => hab ?_) List.nodup_range
      simpa using e) (by
      intro e; rw [← List.length_eq_zero_iff, hlen] at e; omega) (fun i y hy => by
      obtain ⟨hi, rfl⟩ := hget i y hy; exact hcq i hi) hq5 (fun y hy => by
      obtain ⟨e1, e2⟩ := hmem y hy
      refine ⟨?_, ?_, by rw [e1]; exact hhq⟩
      · rw [e1, cell_atL hbox, Array.getElem?_eq_getElem (by omega)]; rfl
      · rw [e1]; exact frozen_atL hbox _) (by rw [hlen]; exact hr) hn
  rw [hlen] at this
  refine this.mono ?_
  rintro e w' ⟨hv, hm, hg, _⟩
  exact ⟨hv, hm, fun i hi => hg i (h, i) (by rw [List.getElem?_map, List.getElem?_range hi]; rfl)⟩
def Td.cs (x : Td) : List Value := [.string ⟨x.nm.toArray⟩, .int .i64 x.kd, .int .i64 x.ky, .int .i64 x.vl, .int .i64 x.en]
def tdV (l : List Td) : List Value := l.flatMap Td.cs
theorem tdV_snoc (l : List Td) (x : Td) : tdV (l ++ [x]) = tdV l ++ x.cs := by simp [tdV, List.flatMap_append]
theorem td_one (x : Td) : ∀ u ∈ x.cs, u.oneCell' = true := by
  intro u hu
  simp [Td.cs] at hu
  rcases hu with rfl | rfl | rfl | rfl | rfl <;> rfl
theorem infoTD : (Tryz.prog.info? 94).map (fun i => (i.zero, i.size, i.bytes)) = some (some (.agg #[.string ⟨#[]⟩, .int .i64 0, .int .i64 0, .int .i64 0, .int .i64 0]), 5, 48) := by kernel_rfl
def OwD (w : World) (B : Nat) (v : Value) (D : List Td) : Prop := w.ownsRow B 94 5 v D.length (tdV D)
theorem run_make_td (n : Nat) (hn : n ≤ 1000000000000) (w : World) : ∃ cur : Array Value, cur.size = n * 5 ∧ (Instr.makeSlice 32 (.int .i64 0) (.int .i64 (n : Int))).run Tryz.prog w = .ok (.slice (some ⟨w.heap.size, 0, none⟩) 0 n) (w.alloc (.cells cur 94)) := by
  obtain ⟨i0, hi, hz0, hz1, hz2⟩ := info_parts infoTD
  have h := run_make (P := Tryz.prog) w 32 94 i0 _ Tryz.underlying32 hi hz0 .i64 .i64 0 (n : Int) (by omega) (by omega) (by rw [hz2]; omega) (by omega)
  rw [hz1] at h
  refine ⟨_, ?_, h⟩
  simp [madeCells]
/-- what takeTables leaves -/
def tdE (l : List UInt8) (p g go n c : Nat) (w : World) (r : Rs) (N : List (List UInt8)) (e : Ending) (w' : World) : Prop :=
  (match tdR l N r.d r.o r.nx with
   | .ok (D, ny) => e = .returned (.tuple #[.int .i64 0, .bool false]) ∧ ∃ a cp, RdA w' p g go n c l { r with o := r.o + 20 * r.d, nx := ny, dv := .slice a D.length cp } ∧ OwD w' w.heap.size (.slice a D.length cp) D ∧ ny ≤ szF 1 N
   | .error q => e = .returned (.tuple #[.int .i64 (q : Nat), .bool true])) ∧ Chg (fun k => k = p) w w'
end Go.Proofs.YthdgmhohofakgaaGreatDoor
namespace Go.Proofs.YthdgmhohofakgaaGreatDoor
set_option linter.unusedVariables false
/-- wpAnyH, beside the operations that are to be taken first, in order -/
def TkL (P : Program) (md : Region.Mode) (ops : Array Oper) (Q : Exit → Act → World → Prop) (S : World → Prop) (is : List Nat) (fuel : Nat) (listed : Array Bool) (a : Act) (w : World) : Prop := wpAnyH P md ops Q S fuel listed a w
theorem tkLB {P : Program} {md : Region.Mode} {ops : Array Oper} {Q : Exit → Act → World → Prop} {S : World → Prop} {fuel : Nat} {listed : Array Bool} {a : Act} {w : World} (is : List Nat) (h : TkL P md ops Q S is fuel listed a w) : wpAnyH P md ops Q S fuel listed a w := h
theorem tkLE {P : Program} {md : Region.Mode} {ops : Array Oper} {Q : Exit → Act → World → Prop} {S : World → Prop} {fuel : Nat} {listed : Array Bool} {a : Act} {w : World} (h : wpAnyH P md ops Q S fuel listed a w) : TkL P md ops Q S [] fuel listed a w := h
theorem tkLC {P : Program} {md : Region.Mode} {ops : Array Oper} {Q : Exit → Act → World → Prop} {S : World → Prop} {i : Nat} {is : List Nat} {oi : Oper} {d : Tmp} {v : Value} {fuel : Nat} {listed : Array Bool} {a : Act} {w : World} (hi : ops[i]? = some oi) (hd : oi.dst = some d) (hs : Region.noSelect ops = true) (hf : Region.free md ops listed i = true) (hr : (Region.ready md ops listed).contains i = true) (hQ : ∀ c a w, Q (.panic c) (a.put (some d) v) w → Q (.panic c) a w) (hw : Region.wanted oi (yielded ops a.tmps) = true) (hS : S w) (hy : ∀ w, S w → (execOp a.eval oi).run P w = .ok (.value v) w) (h : TkL P md ops Q S is fuel (listed.setIfInBounds i true) (a.put (some d) v) w) : TkL P md ops Q S (i :: is) (fuel + 1) listed a w :=
  wpAnyH_take hi hs hf hr (by rw [hd]; exact hQ) (Or.inl ⟨hw, hy⟩) hS (by rw [hd]; exact h)
end Go.Proofs.YthdgmhohofakgaaGreatDoor
namespace Go.Proofs.YthdgmhohofakgaaGreatDoor
open Go.RowKit
set_option linter.unusedVariables false
set_option linter.unusedSimpArgs false
set_option maxRecDepth 8000 in
set_option maxHeartbeats 2000000 in
theorem takeTables_any (w : World) (p g go n c : Nat) (l : List UInt8) (r : Rs) (h : RdA w p g go n c l r) (tb : Nat) (htb : r.nm = .pointer (some ⟨tb, 0, none⟩)) (N : List (List UInt8)) (F : Nat → Prop) (hT : Tab tb w N F) (hF : ∀ k, F k → ¬ k = p) (hsz : szF 1 N ≤ 1000000000000) (hnx : r.nx ≤ szF 1 N) (hr : r.o + 20 * r.d ≤ n) (hn : n ≤ 1000000000000) : Calls Tryz.prog 61 #[.pointer (some ⟨p, 0, none⟩)] w (tdE l p g go n c w r N) := by
  have hpl := h.pl
  have hgl := h.gl
  have H := hidOf h
  have HT := hidOf hT
  obtain ⟨o, s, f, d, nn, eh, nm, nx, tv, fv, dv, en⟩ := r
  simp only at hr htb hnx
  subst htb
  have c5 : w.cell? ⟨p, 5, none⟩ = some (.int .i64 (d : Nat)) := h.cell 5 _ rfl
  obtain ⟨cur, hcs, mk⟩ := run_make_td d (by omega) w
  obtain ⟨w1, hw1⟩ : ∃ w1, Hid (w1 = (w.setCell ⟨p, 12, none⟩ (.slice (some ⟨w.heap.size, 0, none⟩) 0 d)).alloc (.cells cur 94)) := ⟨_, rfl⟩
  have f12 : w.frozen? ⟨p, 12, none⟩ = false := h.frozen 12
  have g12 : w.cell? ⟨p, 12, none⟩ = some dv := h.cell 12 _ rfl
  have R1 : Hid (RdA w1 p g go n c l ⟨o, s, f, d, nn, eh, .pointer (some ⟨tb, 0, none⟩), nx, tv, fv, .slice (some ⟨w.heap.size, 0, none⟩) 0 d, en⟩) := hidOf (by rw [hw1.out]; exact (h.set (r' := ⟨o, s, f, d, nn, eh, .pointer (some ⟨tb, 0, none⟩), nx, tv, fv, .slice (some ⟨w.heap.size, 0, none⟩) 0 d, en⟩) 12 (.slice (some ⟨w.heap.size, 0, none⟩) 0 d) rfl).out (Out.alloc (Out.refl _) _))
  have C1 : Hid (Chg (fun k => k = p) w w1) := hidOf (by rw [hw1.out]; exact (Chg.setP (Chg.refl _ _) _ _).trans (T := fun _ => False) (Chg.of_out (Out.alloc (Out.refl _) _)) (fun _ h _ => h.elim))
  have W1 : Hid (OwD w1 w.heap.size (.slice (some ⟨w.heap.size, 0, none⟩) 0 d) []) := hidOf (by
    rw [hw1.out]
    have hsz : (w.setCell ⟨p, 12, none⟩ (.slice (some ⟨w.heap.size, 0, none⟩) 0 d)).heap.size = w.heap.size := by simp [World.setCell]
    have := World.ownsRow_made (base := w.heap.size) (e := 94) (size := 5) (w.setCell ⟨p, 12, none⟩ (.slice (some ⟨w.heap.size, 0, none⟩) 0 d)) cur d (by rw [hsz]; exact Nat.le_refl _) (by unfold maxLen; omega) hcs
    rw [hsz] at this
    exact this)
  clear h hT
  go_enter Tryz.func61, Tryz.ntmps61
  go_upto_region 2 with fail
  rw [← hw1.out]
  clear mk g12 f12 c5 hw1
  have c5 : w1.cell? ⟨p, 5, none⟩ = some (.int .i64 (d : Nat)) := R1.out.cell 5 _ rfl
  go_wp2
  clear c5
  go_loopw [23] (fun v wr => ∃ (i ny : Nat) (D : List Td) (a : Option Addr) (cp : Nat), v = .int .i64 (i : Nat) ∧ i ≤ d ∧ Hid (D.length = i) ∧ ny ≤ szF 1 N ∧ Hid (tdR l N d o nx = (tdR l N (d - i) (o + 20 * i) ny).map (fun r => (D ++ r.1, r.2))) ∧ Hid (RdA wr p g go n c l ⟨o + 20 * i, s, f, d, nn, eh, .pointer (some ⟨tb, 0, none⟩), ny, tv, fv, .slice a i cp, en⟩) ∧ Hid (OwD wr w.heap.size (.slice a i cp) D) ∧ Hid (Chg (fun k => k = p) w wr)) (fun v _ => d - (intOf v).toNat)
  case atStart => exact ⟨0, nx, [], some ⟨w.heap.size, 0, none⟩, d, rfl, by omega, hidOf rfl, hnx, hidOf (by simp only [Nat.sub_zero, Nat.mul_zero, Nat.add_zero, List.nil_append]; cases tdR l N d o nx <;> rfl), hidOf R1.out, hidOf W1.out, hidOf C1.out⟩
  case round =>
    obtain ⟨i, ny, D, a, cp, rfl, hi, HL, hny, HX, HR, HO, HC⟩ := hrel
    by_cases hid : i < d
    · have hlt : (i : Int) < d := by omega
      obtain ⟨oo, hoo⟩ : ∃ oo, Hid (oo = o + 20 * i) := ⟨_, rfl⟩
      rw [← hoo.out] at HR HX
      have hob : oo + 20 ≤ n := by rw [hoo.out]; omega
      have c1 : wr.cell? ⟨p, 1, none⟩ = some (.int .i64 (oo : Nat)) := HR.out.cell 1 _ rfl
      obtain ⟨w5, hw5⟩ : ∃ w5, Hid (w5 = wr.alloc (.cells #[.int .i64 0, .int .i64 0, .int .i64 0, .int .i64 0, .int .i64 0] 129)) := ⟨_, rfl⟩
      have O5 : Hid (Out wr w5) := hidOf (by rw [hw5.out]; exact Out.alloc (Out.refl _) _)
      have hs5 : w5.heap.size = wr.heap.size + 1 := by rw [hw5.out, size_alloc]
      have B5 : Hid (w5.heap[wr.heap.size]? = some (.cells #[.int .i64 0, .int .i64 0, .int .i64 0, .int .i64 0, .int .i64 0] 129 (0, 0))) := hidOf (by rw [hw5.out]; exact heap_alloc_new wr _)
      have NU : Hid (∀ w8 q, Out w5 w8 → w5.heap.size ≤ q → (∀ i, i < 5 → w8.cell? ⟨q, i, none⟩ = some (.pointer (some ⟨wr.heap.size, i, none⟩))) → Calls Tryz.prog 48 #[.pointer (some ⟨p, 0, none⟩), .slice (some ⟨q, 0, none⟩) 5 5] w8 fun e w' => (∃ v, e = .returned v) ∧ Mv p (oo + 20) wr w' ∧ ∀ i, i < 5 → w'.cell? ⟨wr.heap.size, i, none⟩ = some (.int .i64 (g4 l (oo + 4 * i) : Nat))) := hidOf (fun w8 q o8 hq hcq =>
        numFR wr w8 p g go n c oo wr.heap.size 5 q l _ _ HR.out.tk (O5.out.trans o8) (Nat.le_refl _) ((o8.block _ (by omega)).trans B5.out) rfl (by omega) (by omega) hcq (by omega) hob hn)
      obtain ⟨v0, hv0⟩ : ∃ v0, Hid (v0 = g4 l oo) := ⟨_, rfl⟩
      obtain ⟨v1, hv1⟩ : ∃ v1, Hid (v1 = g4 l (oo + 4)) := ⟨_, rfl⟩
      obtain ⟨v2, hv2⟩ : ∃ v2, Hid (v2 = g4 l (oo + 8)) := ⟨_, rfl⟩
      obtain ⟨v3, hv3⟩ : ∃ v3, Hid (v3 = g4 l (oo + 12)) := ⟨_, rfl⟩
      obtain ⟨v4, hv4⟩ : ∃ v4, Hid (v4 = g4 l (oo + 16)) := ⟨_, rfl⟩
      have hstep : Hid (tdR l N (d - i) oo ny = match nmT N ny v0 with | none => .error oo | some (x, nx') => (tdR l N (d - (i + 1)) (o + 20 * (i + 1)) nx').map (fun r => (⟨x, v1, v2, v3, v4⟩ :: r.1, r.2))) := hidOf (by
        rw [show d - i = (d - (i + 1)) + 1 by omega, tdR, hv0.out, hv1.out, hv2.out, hv3.out, hv4.out, show o + 20 * (i + 1) = oo + 20 by rw [hoo.out]; omega]
        cases nmT N ny (g4 l oo) <;> rfl)
      have HT2 : Hid (∀ wx, Chg (fun k => k = p) w wx → Tab tb wx N F) := hidOf (fun wx hc => HT.out.chg hc hF)
      have CN : Hid (∀ w9, Mv p (oo + 20) wr w9 → Calls Tryz.prog 82 #[.pointer (some ⟨p, 0, none⟩), .int .i64 (v0 : Nat)] w9 (tnE l p g go n c w9 ⟨oo + 20, s, f, d, nn, eh, .pointer (some ⟨tb, 0, none⟩), ny, tv, fv, .slice a i cp, en⟩ N v0)) := hidOf (fun w9 m9 =>
        takeName_any w9 p g go n c l _ (HR.out.mv m9) tb rfl N F (HT2.out w9 (HC.out.trans m9.chg (fun x h _ => h))) hsz hny v0)
      go_upto_region 6 with fail
      rw [← hw5.out]
      go_region_held3 (fun _ => True) (trivial) (first | (go_at_call 48; refine (NU.out _ _ o8 hq5 hcq).mono ?_; rintro e w9 ⟨⟨rv, rfl⟩, m9, b9⟩) | (go_at_call 74; refine (tableFields_any _ _).mono ?_; rintro e w8 ⟨q, rfl, hq5, hq6, hcq, o8'⟩; have o8 : Out w5 w8 := (Out.drew (Out.refl _)).trans o8'))
      have M9 := hidOf m9
      have b0 : w9.cell? ⟨wr.heap.size, 0, none⟩ = some (.int .i64 (v0 : Nat)) := by rw [hv0.out]; exact b9 0 (by omega)
      have b1 : w9.cell? ⟨wr.heap.size, 1, none⟩ = some (.int .i64 (v1 : Nat)) := by rw [hv1.out]; exact b9 1 (by omega)
      have b2 : w9.cell? ⟨wr.heap.size, 2, none⟩ = some (.int .i64 (v2 : Nat)) := by rw [hv2.out]; exact b9 2 (by omega)
      have b3 : w9.cell? ⟨wr.heap.size, 3, none⟩ = some (.int .i64 (v3 : Nat)) := by rw [hv3.out]; exact b9 3 (by omega)
      have b4 : w9.cell? ⟨wr.heap.size, 4, none⟩ = some (.int .i64 (v4 : Nat)) := by rw [hv4.out]; exact b9 4 (by omega)
      clear m9 b9 NU o8 o8' hq5 hq6 hcq c1
      have C9 := hidOf (CN.out w9 M9.out)
      have hsr : w.heap.size ≤ wr.heap.size := HC.out.size
      cases hnm : nmT N ny v0 with
      | none =>
        have C9' : Hid (Calls Tryz.prog 82 #[.pointer (some ⟨p, 0, none⟩), .int .i64 (v0 : Nat)] w9 fun e w' => e = .returned (.tuple #[.string ⟨#[]⟩, .bool false]) ∧ Chg (fun k => k = p) w9 w') := hidOf (C9.out.mono (fun e w' h => by unfold tnE at h; dsimp only at h; rw [hnm] at h; exact h))
        go_wp2_with (go_at_call 82; refine C9'.out.mono ?_; rintro e w10 ⟨rfl, k10⟩)
        go_ret2
        refine ⟨?_, (HC.out.trans M9.out.chg (fun x h _ => h)).trans k10 (fun x h _ => h)⟩
        have hx := HX.out
        rw [hstep.out, hnm] at hx
        show (match tdR l N d o nx with | .ok (D, ny) => _ | .error q => _)
        rw [hx]
        rfl
      | some y =>
        obtain ⟨x, nx'⟩ := y
        have C9' : Hid (Calls Tryz.prog 82 #[.pointer (some ⟨p, 0, none⟩), .int .i64 (v0 : Nat)] w9 fun e w' => e = .returned (.tuple #[.string ⟨x.toArray⟩, .bool true]) ∧ (RdA w' p g go n c l ⟨oo + 20, s, f, d, nn, eh, .pointer (some ⟨tb, 0, none⟩), nx', tv, fv, .slice a i cp, en⟩ ∧ nx' ≤ szF 1 N) ∧ Chg (fun k => k = p) w9 w') := hidOf (C9.out.mono (fun e w' h => by unfold tnE at h; dsimp only at h; rw [hnm] at h; exact ⟨h.1.1, h.1.2, h.2⟩))
        go_upto_region 10 with (go_at_call 82; refine C9'.out.mono ?_; rintro e w10 ⟨rfl, ⟨r10, hnx'⟩, k10⟩)
        have R3 := hidOf r10
        have K9 := M9.out.chg
        have C3 := hidOf ((HC.out.trans K9 (fun x h _ => h)).trans k10 (fun x h _ => h))
        have Ow3 := hidOf (owns_chg (owns_chg HO.out (fun k hk e => by have := (HO.out.lt k hk).1; omega) K9) (fun k hk e => by have := (HO.out.lt k hk).1; omega) k10)
        rw [HL.out] at Ow3
        have hpr : ¬ wr.heap.size = p := by omega
        have q1 := k10.cell b1 hpr
        have q2 := k10.cell b2 hpr
        have q3 := k10.cell b3 hpr
        have q4 := k10.cell b4 hpr
        have hs3 : w.heap.size ≤ w10.heap.size := C3.out.size
        have h9s : wr.heap.size < w9.heap.size := by
          rcases Nat.lt_or_ge wr.heap.size w9.heap.size with h | h
          · exact h
          · simp [World.cell?, Array.getElem?_eq_none h] at b1
        have h10s : wr.heap.size < w10.heap.size := Nat.lt_of_lt_of_le h9s k10.size
        have HOlt : Hid (∀ k, (Value.slice a i cp).ownBlock = some k → k < wr.heap.size) := hidOf (fun k hk => (HO.out.lt k hk).2)
        have HJ : Hid (tdR l N d o nx = (tdR l N (d - (i + 1)) (o + 20 * (i + 1)) nx').map (fun r => ((D ++ [⟨x, v1, v2, v3, v4⟩]) ++ r.1, r.2))) := hidOf (by
          rw [HX.out, hstep.out, hnm]
          show Except.map _ (Except.map _ _) = _
          cases tdR l N (d - (i + 1)) (o + 20 * (i + 1)) nx' <;> simp [Except.map])
        clear r10 k10 K9 b0 b1 b2 b3 b4 C9 C9' CN M9 hstep HX HR HC HO B5 O5 hw5
        have c12 : w10.cell? ⟨p, 12, none⟩ = some (.slice a i cp) := R3.out.cell 12 _ rfl
        have a12 : ∀ O, (w10.alloc O).cell? ⟨p, 12, none⟩ = some (.slice a i cp) := fun O => (R3.out.out (Out.alloc (Out.refl _) O)).cell 12 _ rfl
        have OA : Hid (∀ O, (w10.alloc O).drew.ownsRow w.heap.size 94 5 (.slice a i cp) i (tdV D)) := hidOf (fun O => World.ownsRow.alloc Ow3.out O)
        have FAR : Hid (∀ O w', (w10.alloc O).drew.grownBy w' (Value.slice a i cp).ownBlock → RdA w' p g go n c l ⟨oo + 20, s, f, d, nn, eh, .pointer (some ⟨tb, 0, none⟩), nx', tv, fv, .slice a i cp, en⟩ ∧ Chg (fun k => k = p) w w' ∧ (w'.cell? ⟨wr.heap.size, 1, none⟩ = some (.int .i64 (v1 : Nat)) ∧ w'.cell? ⟨wr.heap.size, 2, none⟩ = some (.int .i64 (v2 : Nat)) ∧ w'.cell? ⟨wr.heap.size, 3, none⟩ = some (.int .i64 (v3 : Nat)) ∧ w'.cell? ⟨wr.heap.size, 4, none⟩ = some (.int .i64 (v4 : Nat)))) := hidOf (fun O w' hg => by
          have hne : ∀ k, (Value.slice a i cp).ownBlock = some k → w.heap.size ≤ k := fun k hk => (Ow3.out.lt k hk).1
          have hc := Chg.of_grown (S := fun k => (Value.slice a i cp).ownBlock = some k) hg (fun k hk => hk)
          refine ⟨(R3.out.out (Out.drew (Out.alloc (Out.refl _) O))).chg hc (fun h => by have := hne p h; omega) (fun h => by have := hne g h; omega), ?_, ?_⟩
          rotate_left
          · have hb : ¬ (Value.slice a i cp).ownBlock = some wr.heap.size := fun h => by have := HOlt.out _ h; omega
            exact ⟨hc.cell (cell_later (Out.drew (Out.alloc (Out.refl _) O)) q1) hb, hc.cell (cell_later (Out.drew (Out.alloc (Out.refl _) O)) q2) hb, hc.cell (cell_later (Out.drew (Out.alloc (Out.refl _) O)) q3) hb, hc.cell (cell_later (Out.drew (Out.alloc (Out.refl _) O)) q4) hb⟩
          exact (C3.out.trans (T := fun _ => False) (Chg.of_out (Out.drew (Out.alloc (Out.refl _) O))) (fun _ h _ => h.elim)).trans hc (fun x h hlt => by have := hne x h; omega))
        obtain ⟨t0, hi0, hz0, hz1, hz2⟩ := info_parts infoTD
        have hTs : i ≤ 1000000000000 := by omega
        have SA : Hid (∀ O, ((w10.alloc O).cell? ⟨wr.heap.size, 1, none⟩ = some (.int .i64 (v1 : Nat)) ∧ (w10.alloc O).cell? ⟨wr.heap.size, 2, none⟩ = some (.int .i64 (v2 : Nat)) ∧ (w10.alloc O).cell? ⟨wr.heap.size, 3, none⟩ = some (.int .i64 (v3 : Nat)) ∧ (w10.alloc O).cell? ⟨wr.heap.size, 4, none⟩ = some (.int .i64 (v4 : Nat)))) := hidOf (fun O => ⟨cell_later (Out.alloc (Out.refl _) O) q1, cell_later (Out.alloc (Out.refl _) O) q2, cell_later (Out.alloc (Out.refl _) O) q3, cell_later (Out.alloc (Out.refl _) O) q4⟩)
        refine wp_region_held_drew (S := (fun wx => (wx.cell? ⟨wr.heap.size, 1, none⟩ = some (.int .i64 (v1 : Nat)) ∧ wx.cell? ⟨wr.heap.size, 2, none⟩ = some (.int .i64 (v2 : Nat)) ∧ wx.cell? ⟨wr.heap.size, 3, none⟩ = some (.int .i64 (v3 : Nat)) ∧ wx.cell? ⟨wr.heap.size, 4, none⟩ = some (.int .i64 (v4 : Nat))))) (by kernel_rfl) ?_ (fun hHeld => ?_)
        · exact ⟨q1, q2, q3, q4⟩
        refine tkLB [0,1,2,3,4,6,7,8,9,10,11,12,13,14,15] ?_
        iterate 15 (refine tkLC (v := ?_) rfl rfl (by kernel_rfl) (by kernel_rfl) (by kernel_rfl) (fun _ _ _ h => h) (by rfl) (by assumption) ?_ ?_; rotate_left; (· (intro w hSw; (try dsimp only at hSw); go_simp; (try with_reducible rfl))); simp only [Act.put, List.setIfInBounds_toArray, List.set_cons_zero, List.set_cons_succ])
        refine tkLE ?_
        refine wpAnyH_ready (rs := [5, 16]) (by kernel_rfl) (by simp) ?_
        refine AllReadyH.cons rfl (fun K1 hK1 => ?_) (AllReadyH.cons rfl (fun K1 hK1 => ?_) AllReadyH.nil)
        · rw [if_pos (by rfl)]
          go_simp
          refine hK1.out _ _ ⟨q1, q2, q3, q4⟩ (fun hHeld1 => ?_)
          refine wpAnyH_ready (rs := [16]) (by kernel_rfl) (by simp) ?_
          refine AllReadyH.cons rfl (fun K2 hK2 => ?_) AllReadyH.nil
          rw [if_pos (by rfl)]
          go_simp
          refine hK2.out _ _ (SA.out _) (fun hHeld2 => ?_)
          refine wpAnyH_ready (rs := [17]) (by kernel_rfl) (by simp) ?_
          refine AllReadyH.cons rfl (fun K3 hK3 => ?_) AllReadyH.nil
          refine step_append_lies _ rfl (.tmp 50) (.tmp 61) 32 rfl w.heap.size 94 t0 _ 5 48 Tryz.underlying32 hi0 hz0 hz1 hz2 rfl (by decide) (.slice a i cp) i (tdV D) rfl (OA.out _) ⟨w10.heap.size, 0, none⟩ 1 1 (Td.cs ⟨x, v1, v2, v3, v4⟩) rfl rfl (news_drew17 _ _ _ _ rfl) (td_one _) (by decide) (by unfold maxLen; omega) (by omega) (Nat.le_trans hs3 (Out.size (Out.drew (Out.alloc (Out.refl _) _)))) _ rfl ?_
          intro g2 cap w4 hown' hgrow hg hlt
          obtain ⟨hR4, hC4, hS4⟩ := FAR.out _ _ hgrow
          have q10 : w4.cell? ⟨p, 12, none⟩ = some (.slice a i cp) := hR4.cell 12 _ rfl
          have qf : w4.frozen? ⟨p, 12, none⟩ = false := hR4.frozen 12
          have R4 := hidOf hR4
          have C4 := hidOf hC4
          have Ow4 := hidOf hown'
          clear hown' hgrow hg hlt hR4 hC4
          refine hK3.out _ _ hS4 (fun hHeld3 => ?_)
          refine tkLB [18,19,20] ?_
          iterate 3 (refine tkLC (v := ?_) rfl rfl (by kernel_rfl) (by kernel_rfl) (by kernel_rfl) (fun _ _ _ h => h) (by rfl) (by assumption) ?_ ?_; rotate_left; (· (intro w hSw; (try dsimp only at hSw); go_simp; (try with_reducible rfl))); simp only [Act.put, List.setIfInBounds_toArray, List.set_cons_zero, List.set_cons_succ])
          refine tkLE ?_
          refine wpAnyH_ready (rs := [21]) (by kernel_rfl) (by simp) ?_
          refine AllReadyH.cons rfl (fun K4 hK4 => ?_) AllReadyH.nil
          rw [if_pos (by rfl)]
          go_simp
          refine hK4.out _ _ ⟨(Chg.setP (Chg.refl _ w4) 12 _).cell hS4.1 hpr, (Chg.setP (Chg.refl _ w4) 12 _).cell hS4.2.1 hpr, (Chg.setP (Chg.refl _ w4) 12 _).cell hS4.2.2.1 hpr, (Chg.setP (Chg.refl _ w4) 12 _).cell hS4.2.2.2 hpr⟩ (fun hHeld4 => ?_)
          refine wpAnyH_done (by kernel_rfl) ?_ _
          go_wp2
          go_roundw
          case rel =>
            refine ⟨i + 1, nx', D ++ [⟨x, v1, v2, v3, v4⟩], some ⟨g2, 0, none⟩, cap, by simp, by omega, hidOf (by rw [List.length_append, HL.out]; rfl), hnx', HJ, hidOf ?_, hidOf ?_, hidOf (Chg.setP C4.out _ _)⟩
            · rw [show o + 20 * (i + 1) = oo + 20 by rw [hoo.out]; omega]; exact R4.out.set 12 _ rfl
            · unfold OwD
              rw [List.length_append, HL.out, tdV_snoc]
              exact owns_chg (S := fun k => k = p) Ow4.out (fun k hk e => by have := (Ow4.out.lt k hk).1; omega) (Chg.setP (Chg.refl _ _) _ _)
          case measure => simp [intOf]; omega
        · rw [if_pos (by rfl)]
          go_simp
          refine hK1.out _ _ (SA.out _) (fun hHeld1 => ?_)
          refine wpAnyH_ready (rs := [5]) (by kernel_rfl) (by simp) ?_
          refine AllReadyH.cons rfl (fun K2 hK2 => ?_) AllReadyH.nil
          rw [if_pos (by rfl)]
          go_simp
          refine hK2.out _ _ (SA.out _) (fun hHeld2 => ?_)
          refine wpAnyH_ready (rs := [17]) (by kernel_rfl) (by simp) ?_
          refine AllReadyH.cons rfl (fun K3 hK3 => ?_) AllReadyH.nil
          refine step_append_lies _ rfl (.tmp 50) (.tmp 61) 32 rfl w.heap.size 94 t0 _ 5 48 Tryz.underlying32 hi0 hz0 hz1 hz2 rfl (by decide) (.slice a i cp) i (tdV D) rfl (OA.out _) ⟨w10.heap.size, 0, none⟩ 1 1 (Td.cs ⟨x, v1, v2, v3, v4⟩) rfl rfl (news_drew17 _ _ _ _ rfl) (td_one _) (by decide) (by unfold maxLen; omega) (by omega) (Nat.le_trans hs3 (Out.size (Out.drew (Out.alloc (Out.refl _) _)))) _ rfl ?_
          intro g2 cap w4 hown' hgrow hg hlt
          obtain ⟨hR4, hC4, hS4⟩ := FAR.out _ _ hgrow
          have q10 : w4.cell? ⟨p, 12, none⟩ = some (.slice a i cp) := hR4.cell 12 _ rfl
          have qf : w4.frozen? ⟨p, 12, none⟩ = false := hR4.frozen 12
          have R4 := hidOf hR4
          have C4 := hidOf hC4
          have Ow4 := hidOf hown'
          clear hown' hgrow hg hlt hR4 hC4
          refine hK3.out _ _ hS4 (fun hHeld3 => ?_)
          refine tkLB [18,19,20] ?_
          iterate 3 (refine tkLC (v := ?_) rfl rfl (by kernel_rfl) (by kernel_rfl) (by kernel_rfl) (fun _ _ _ h => h) (by rfl) (by assumption) ?_ ?_; rotate_left; (· (intro w hSw; (try dsimp only at hSw); go_simp; (try with_reducible rfl))); simp only [Act.put, List.setIfInBounds_toArray, List.set_cons_zero, List.set_cons_succ])
          refine tkLE ?_
          refine wpAnyH_ready (rs := [21]) (by kernel_rfl) (by simp) ?_
          refine AllReadyH.cons rfl (fun K4 hK4 => ?_) AllReadyH.nil
          rw [if_pos (by rfl)]
          go_simp
          refine hK4.out _ _ ⟨(Chg.setP (Chg.refl _ w4) 12 _).cell hS4.1 hpr, (Chg.setP (Chg.refl _ w4) 12 _).cell hS4.2.1 hpr, (Chg.setP (Chg.refl _ w4) 12 _).cell hS4.2.2.1 hpr, (Chg.setP (Chg.refl _ w4) 12 _).cell hS4.2.2.2 hpr⟩ (fun hHeld4 => ?_)
          refine wpAnyH_done (by kernel_rfl) ?_ _
          go_wp2
          go_roundw
          case rel =>
            refine ⟨i + 1, nx', D ++ [⟨x, v1, v2, v3, v4⟩], some ⟨g2, 0, none⟩, cap, by simp, by omega, hidOf (by rw [List.length_append, HL.out]; rfl), hnx', HJ, hidOf ?_, hidOf ?_, hidOf (Chg.setP C4.out _ _)⟩
            · rw [show o + 20 * (i + 1) = oo + 20 by rw [hoo.out]; omega]; exact R4.out.set 12 _ rfl
            · unfold OwD
              rw [List.length_append, HL.out, tdV_snoc]
              exact owns_chg (S := fun k => k = p) Ow4.out (fun k hk e => by have := (Ow4.out.lt k hk).1; omega) (Chg.setP (Chg.refl _ _) _ _)
          case measure => simp [intOf]; omega
    · have hlt : ¬ (i : Int) < d := by omega
      obtain rfl : i = d := by omega
      go_wp2
      go_ret2
      refine ⟨?_, HC.out⟩
      have hx := HX.out
      rw [Nat.sub_self, tdR] at hx
      show (match tdR l N i o nx with | .ok (D, ny) => _ | .error q => _)
      rw [hx]
      have hL := HL.out
      refine ⟨rfl, a, cp, ?_, ?_, hny⟩
      · simp only [List.append_nil, hL]; exact HR.out
      · simp only [List.append_nil, hL]; exact HO.out
end Go.Proofs.YthdgmhohofakgaaGreatDoor
namespace Go.Proofs.YthdgmhohofakgaaGreatDoor
open Go.RowKit
set_option linter.unusedVariables false
set_option linter.unusedSimpArgs false
def Fn.cs (x : Fn) : List Value := [.string ⟨x.nm.toArray⟩, .int .i64 x.ob, .int .i64 x.fi, .int .i64 x.ct]
def fnV (l : List Fn) : List Value := l.flatMap Fn.cs
theorem fnV_snoc (l : List Fn) (x : Fn) : fnV (l ++ [x]) = fnV l ++ x.cs := by simp [fnV, List.flatMap_append]
theorem fn_one (x : Fn) : ∀ u ∈ x.cs, u.oneCell' = true := by
  intro u hu
  simp [Fn.cs] at hu
  rcases hu with rfl | rfl | rfl | rfl <;> rfl
theorem infoIF : (Tryz.prog.info? 85).map (fun i => (i.zero, i.size, i.bytes)) = some (some (.agg #[.string ⟨#[]⟩, .int .i64 0, .int .i64 0, .int .i64 0]), 4, 40) := by kernel_rfl
def OwF (w : World) (B : Nat) (v : Value) (D : List Fn) : Prop := w.ownsRow B 85 4 v D.length (fnV D)
theorem run_make_fn (n : Nat) (hn : n ≤ 1000000000000) (w : World) : ∃ cur : Array Value, cur.size = n * 4 ∧ (Instr.makeSlice 31 (.int .i64 0) (.int .i64 (n : Int))).run Tryz.prog w = .ok (.slice (some ⟨w.heap.size, 0, none⟩) 0 n) (w.alloc (.cells cur 85)) := by
  obtain ⟨i0, hi, hz0, hz1, hz2⟩ := info_parts infoIF
  have h := run_make (P := Tryz.prog) w 31 85 i0 _ Tryz.underlying31 hi hz0 .i64 .i64 0 (n : Int) (by omega) (by omega) (by rw [hz2]; omega) (by omega)
  rw [hz1] at h
  refine ⟨_, ?_, h⟩
  simp [madeCells]
theorem InsA.chg {w w' : World} {ga go : Nat} {T : List Ins} {S : Nat → Prop} (h : InsA w (some ⟨ga, go, none⟩) T) (k : Chg S w w') (hs : ¬ S ga) : InsA w' (some ⟨ga, go, none⟩) T := by
  rcases h with h | ⟨b, off, e, h⟩
  · exact .inl h
  · cases e
    exact .inr ⟨ga, go, rfl, fun j x hx => by
      obtain ⟨h0, h1, h2, h3, h4⟩ := h j x hx
      exact ⟨k.cell h0 hs, k.cell h1 hs, k.cell h2 hs, k.cell h3 hs, k.cell h4 hs⟩⟩
theorem InsA.tail {w : World} {ga go : Nat} {T : List Ins} (h : InsA w (some ⟨ga, go, none⟩) T) (i : Nat) : InsA w (some ⟨ga, go + i * 5, none⟩) (T.drop i) := by
  rcases h with h | ⟨b, off, e, h⟩
  · exact .inl (by simp [h])
  · cases e
    exact .inr ⟨ga, go + i * 5, rfl, fun k x hx => by
      rw [List.getElem?_drop] at hx
      have := h (i + k) x hx
      rw [show go + (i + k) * 5 = go + i * 5 + k * 5 by omega] at this
      exact this⟩
theorem cnt_le : ∀ (T : List Ins) (s : Nat), (cntO T s).1 ≤ T.length ∧ (cntO T s).2 ≤ 2 * (cntO T s).1
  | [], s => by simp [cntO]
  | x :: r, s => by
    rcases Nat.eq_zero_or_pos s with h | h
    · rw [h, cnt_zero]; simp
    · rw [cnt_cons x r s h]
      have := cnt_le r (s - slW x)
      have := slW_le x
      simp only [List.length_cons]; omega
/-- what takeFuncs leaves -/
def fnE (l : List UInt8) (p g go n c : Nat) (w : World) (r : Rs) (N : List (List UInt8)) (T : List Ins) (e : Ending) (w' : World) : Prop :=
  (match fnR l N T r.f r.o 0 0 r.nx with
   | .ok (D, ny) => e = .returned (.tuple #[.int .i64 0, .bool false]) ∧ ∃ a cp, RdA w' p g go n c l { r with o := r.o + 16 * r.f, nx := ny, fv := .slice a D.length cp } ∧ OwF w' w.heap.size (.slice a D.length cp) D ∧ ny ≤ szF 1 N
   | .error q => e = .returned (.tuple #[.int .i64 (q : Nat), .bool true])) ∧ Chg (fun k => k = p) w w'
set_option maxRecDepth 8000 in
set_option maxHeartbeats 2000000 in
theorem takeFuncs_any (w : World) (p g go n c : Nat) (l : List UInt8) (r : Rs) (h : RdA w p g go n c l r) (tb : Nat) (htb : r.nm = .pointer (some ⟨tb, 0, none⟩)) (N : List (List UInt8)) (F : Nat → Prop) (hT : Tab tb w N F) (hF : ∀ k, F k → ¬ k = p) (hsz : szF 1 N ≤ 1000000000000) (hnx : r.nx ≤ szF 1 N) (T : List Ins) (ga tcp : Nat) (htv : r.tv = .slice (some ⟨ga, 0, none⟩) T.length tcp) (hIA : InsA w (some ⟨ga, 0, none⟩) T) (hgp : ¬ ga = p) (htc : T.length ≤ tcp) (hTl : T.length ≤ 1000000000000) (hr : r.o + 16 * r.f ≤ n) (hn : n ≤ 1000000000000) : Calls Tryz.prog 60 #[.pointer (some ⟨p, 0, none⟩)] w (fnE l p g go n c w r N T) := by
  have hpl := h.pl
  have hgl := h.gl
  have H := hidOf h
  have HT := hidOf hT
  obtain ⟨o, s, f, d, nn, eh, nm, nx, tv, fv, dv, en⟩ := r
  simp only at hr htb hnx htv
  subst htb
  subst htv
  have HIA := hidOf hIA
  obtain ⟨tn, htn⟩ : ∃ tn, Hid (tn = T.length) := ⟨_, rfl⟩
  rw [← htn.out] at htc hTl
  rw [← htn.out] at H h
  have c5 : w.cell? ⟨p, 4, none⟩ = some (.int .i64 (f : Nat)) := h.cell 4 _ rfl
  obtain ⟨cur, hcs, mk⟩ := run_make_fn f (by omega) w
  obtain ⟨w1, hw1⟩ : ∃ w1, Hid (w1 = (w.setCell ⟨p, 11, none⟩ (.slice (some ⟨w.heap.size, 0, none⟩) 0 f)).alloc (.cells cur 85)) := ⟨_, rfl⟩
  have f12 : w.frozen? ⟨p, 11, none⟩ = false := h.frozen 11
  have g12 : w.cell? ⟨p, 11, none⟩ = some fv := h.cell 11 _ rfl
  have R1 : Hid (RdA w1 p g go n c l ⟨o, s, f, d, nn, eh, .pointer (some ⟨tb, 0, none⟩), nx, .slice (some ⟨ga, 0, none⟩) tn tcp, .slice (some ⟨w.heap.size, 0, none⟩) 0 f, dv, en⟩) := hidOf (by rw [hw1.out]; exact (h.set (r' := ⟨o, s, f, d, nn, eh, .pointer (some ⟨tb, 0, none⟩), nx, .slice (some ⟨ga, 0, none⟩) tn tcp, .slice (some ⟨w.heap.size, 0, none⟩) 0 f, dv, en⟩) 11 (.slice (some ⟨w.heap.size, 0, none⟩) 0 f) rfl).out (Out.alloc (Out.refl _) _))
  have C1 : Hid (Chg (fun k => k = p) w w1) := hidOf (by rw [hw1.out]; exact (Chg.setP (Chg.refl _ _) _ _).trans (T := fun _ => False) (Chg.of_out (Out.alloc (Out.refl _) _)) (fun _ h _ => h.elim))
  have W1 : Hid (OwF w1 w.heap.size (.slice (some ⟨w.heap.size, 0, none⟩) 0 f) []) := hidOf (by
    rw [hw1.out]
    have hsz : (w.setCell ⟨p, 11, none⟩ (.slice (some ⟨w.heap.size, 0, none⟩) 0 f)).heap.size = w.heap.size := by simp [World.setCell]
    have := World.ownsRow_made (base := w.heap.size) (e := 85) (size := 4) (w.setCell ⟨p, 11, none⟩ (.slice (some ⟨w.heap.size, 0, none⟩) 0 f)) cur f (by rw [hsz]; exact Nat.le_refl _) (by unfold maxLen; omega) hcs
    rw [hsz] at this
    exact this)
  clear h hT hIA
  go_enter Tryz.func60, Tryz.ntmps60
  go_upto_region 2 with fail
  rw [← hw1.out]
  clear mk g12 f12 c5 hw1
  have c5 : w1.cell? ⟨p, 4, none⟩ = some (.int .i64 (f : Nat)) := R1.out.cell 4 _ rfl
  go_wp2
  clear c5
  go_loopw [4, 5, 27] (fun vf vs v wr => ∃ (i ny fi sl : Nat) (D : List Fn) (a : Option Addr) (cp : Nat), vf = .int .i64 (fi : Nat) ∧ vs = .int .i64 (sl : Nat) ∧ v = .int .i64 (i : Nat) ∧ i ≤ f ∧ fi ≤ tn ∧ sl ≤ 2 * fi ∧ Hid (D.length = i) ∧ ny ≤ szF 1 N ∧ Hid (fnR l N T f o 0 0 nx = (fnR l N T (f - i) (o + 16 * i) fi sl ny).map (fun r => (D ++ r.1, r.2))) ∧ Hid (RdA wr p g go n c l ⟨o + 16 * i, s, f, d, nn, eh, .pointer (some ⟨tb, 0, none⟩), ny, .slice (some ⟨ga, 0, none⟩) tn tcp, .slice a i cp, dv, en⟩) ∧ Hid (OwF wr w.heap.size (.slice a i cp) D) ∧ Hid (Chg (fun k => k = p) w wr)) (fun _ _ v _ => f - (intOf v).toNat)
  case atStart => exact ⟨0, nx, 0, 0, [], some ⟨w.heap.size, 0, none⟩, f, rfl, rfl, rfl, by omega, by omega, by omega, hidOf rfl, hnx, hidOf (by simp only [Nat.sub_zero, Nat.mul_zero, Nat.add_zero, List.nil_append]; cases fnR l N T f o 0 0 nx <;> rfl), hidOf R1.out, hidOf W1.out, hidOf C1.out⟩
  case round =>
    obtain ⟨i, ny, fi, sl, D, a, cp, rfl, rfl, rfl, hi, hfi, hsl, HL, hny, HX, HR, HO, HC⟩ := hrel
    by_cases hid : i < f
    · have hlt : (i : Int) < f := by omega
      obtain ⟨oo, hoo⟩ : ∃ oo, Hid (oo = o + 16 * i) := ⟨_, rfl⟩
      rw [← hoo.out] at HR HX
      have hob : oo + 16 ≤ n := by rw [hoo.out]; omega
      have c1 : wr.cell? ⟨p, 1, none⟩ = some (.int .i64 (oo : Nat)) := HR.out.cell 1 _ rfl
      obtain ⟨w5, hw5⟩ : ∃ w5, Hid (w5 = wr.alloc (.cells #[.int .i64 0, .int .i64 0, .int .i64 0, .int .i64 0] 127)) := ⟨_, rfl⟩
      have O5 : Hid (Out wr w5) := hidOf (by rw [hw5.out]; exact Out.alloc (Out.refl _) _)
      have hs5 : w5.heap.size = wr.heap.size + 1 := by rw [hw5.out, size_alloc]
      have B5 : Hid (w5.heap[wr.heap.size]? = some (.cells #[.int .i64 0, .int .i64 0, .int .i64 0, .int .i64 0] 127 (0, 0))) := hidOf (by rw [hw5.out]; exact heap_alloc_new wr _)
      have NU : Hid (∀ w8 q, Out w5 w8 → w5.heap.size ≤ q → (∀ i, i < 4 → w8.cell? ⟨q, i, none⟩ = some (.pointer (some ⟨wr.heap.size, i, none⟩))) → Calls Tryz.prog 48 #[.pointer (some ⟨p, 0, none⟩), .slice (some ⟨q, 0, none⟩) 4 4] w8 fun e w' => (∃ v, e = .returned v) ∧ Mv p (oo + 16) wr w' ∧ ∀ i, i < 4 → w'.cell? ⟨wr.heap.size, i, none⟩ = some (.int .i64 (g4 l (oo + 4 * i) : Nat))) := hidOf (fun w8 q o8 hq hcq =>
        numFR wr w8 p g go n c oo wr.heap.size 4 q l _ _ HR.out.tk (O5.out.trans o8) (Nat.le_refl _) ((o8.block _ (by omega)).trans B5.out) rfl (by omega) (by omega) hcq (by omega) hob hn)
      obtain ⟨v0, hv0⟩ : ∃ v0, Hid (v0 = g4 l oo) := ⟨_, rfl⟩
      obtain ⟨v1, hv1⟩ : ∃ v1, Hid (v1 = g4 l (oo + 4)) := ⟨_, rfl⟩
      obtain ⟨v2, hv2⟩ : ∃ v2, Hid (v2 = g4 l (oo + 8)) := ⟨_, rfl⟩
      obtain ⟨v3, hv3⟩ : ∃ v3, Hid (v3 = g4 l (oo + 12)) := ⟨_, rfl⟩
      have hv3l : v3 < 4294967296 := by rw [hv3.out]; exact g4_lt17 l _
      obtain ⟨k1, k2, hcn⟩ : ∃ k1 k2, Hid (cntO (T.drop fi) v3 = (k1, k2)) := ⟨_, _, hidOf rfl⟩
      have hk1 : k1 ≤ tn - fi ∧ k2 ≤ 2 * k1 := by have := cnt_le (T.drop fi) v3; rw [hcn.out, List.length_drop, ← htn.out] at this; exact this
      have hstep : Hid (fnR l N T (f - i) oo fi sl ny = match nmT N ny v0 with | none => .error oo | some (x, nx') => if v2 ≠ sl then .error (oo + 8) else if k2 ≠ v3 ∨ v3 = 0 then .error (oo + 12) else (fnR l N T (f - (i + 1)) (o + 16 * (i + 1)) (fi + k1) (sl + v3) nx').map (fun r => (⟨x, v1, fi, k1⟩ :: r.1, r.2))) := hidOf (by
        have hcn' := hcn.out
        rw [hv3.out] at hcn'
        rw [show f - i = (f - (i + 1)) + 1 by omega, fnR, hv0.out, hv1.out, hv2.out, hv3.out, hcn', show o + 16 * (i + 1) = oo + 16 by rw [hoo.out]; omega]
        cases nmT N ny (g4 l oo) <;> rfl)
      have HT2 : Hid (∀ wx, Chg (fun k => k = p) w wx → Tab tb wx N F) := hidOf (fun wx hc => HT.out.chg hc hF)
      have CN : Hid (∀ w9, Mv p (oo + 16) wr w9 → Calls Tryz.prog 82 #[.pointer (some ⟨p, 0, none⟩), .int .i64 (v0 : Nat)] w9 (tnE l p g go n c w9 ⟨oo + 16, s, f, d, nn, eh, .pointer (some ⟨tb, 0, none⟩), ny, .slice (some ⟨ga, 0, none⟩) tn tcp, .slice a i cp, dv, en⟩ N v0)) := hidOf (fun w9 m9 =>
        takeName_any w9 p g go n c l _ (HR.out.mv m9) tb rfl N F (HT2.out w9 (HC.out.trans m9.chg (fun x h _ => h))) hsz hny v0)
      go_upto_region 7 with fail
      rw [← hw5.out]
      go_region_held3 (fun _ => True) (trivial) (first | (go_at_call 48; refine (NU.out _ _ o8 hq5 hcq).mono ?_; rintro e w9 ⟨⟨rv, rfl⟩, m9, b9⟩) | (go_at_call 73; refine (funcFields_any _ _).mono ?_; rintro e w8 ⟨q, rfl, hq5, hq6, hcq, o8'⟩; have o8 : Out w5 w8 := (Out.drew (Out.refl _)).trans o8'))
      have M9 := hidOf m9
      have b0 : w9.cell? ⟨wr.heap.size, 0, none⟩ = some (.int .i64 (v0 : Nat)) := by rw [hv0.out]; exact b9 0 (by omega)
      have b1 : w9.cell? ⟨wr.heap.size, 1, none⟩ = some (.int .i64 (v1 : Nat)) := by rw [hv1.out]; exact b9 1 (by omega)
      have b2 : w9.cell? ⟨wr.heap.size, 2, none⟩ = some (.int .i64 (v2 : Nat)) := by rw [hv2.out]; exact b9 2 (by omega)
      have b3 : w9.cell? ⟨wr.heap.size, 3, none⟩ = some (.int .i64 (v3 : Nat)) := by rw [hv3.out]; exact b9 3 (by omega)
      clear m9 b9 NU o8 o8' hq5 hq6 hcq c1
      have C9 := hidOf (CN.out w9 M9.out)
      have hsr : w.heap.size ≤ wr.heap.size := HC.out.size
      cases hnm : nmT N ny v0 with
      | none =>
        have C9' : Hid (Calls Tryz.prog 82 #[.pointer (some ⟨p, 0, none⟩), .int .i64 (v0 : Nat)] w9 fun e w' => e = .returned (.tuple #[.string ⟨#[]⟩, .bool false]) ∧ Chg (fun k => k = p) w9 w') := hidOf (C9.out.mono (fun e w' h => by unfold tnE at h; dsimp only at h; rw [hnm] at h; exact h))
        go_wp2_with (go_at_call 82; refine C9'.out.mono ?_; rintro e w10 ⟨rfl, k10⟩)
        go_ret2
        refine ⟨?_, (HC.out.trans M9.out.chg (fun x h _ => h)).trans k10 (fun x h _ => h)⟩
        have hx := HX.out
        rw [hstep.out, hnm] at hx
        show (match fnR l N T f o 0 0 nx with | .ok (D, ny) => _ | .error q => _)
        rw [hx]
        rfl
      | some y =>
        obtain ⟨x, nx'⟩ := y
        have C9' : Hid (Calls Tryz.prog 82 #[.pointer (some ⟨p, 0, none⟩), .int .i64 (v0 : Nat)] w9 fun e w' => e = .returned (.tuple #[.string ⟨x.toArray⟩, .bool true]) ∧ (RdA w' p g go n c l ⟨oo + 16, s, f, d, nn, eh, .pointer (some ⟨tb, 0, none⟩), nx', .slice (some ⟨ga, 0, none⟩) tn tcp, .slice a i cp, dv, en⟩ ∧ nx' ≤ szF 1 N) ∧ Chg (fun k => k = p) w9 w') := hidOf (C9.out.mono (fun e w' h => by unfold tnE at h; dsimp only at h; rw [hnm] at h; exact ⟨h.1.1, h.1.2, h.2⟩))
        go_upto_region 11 with (go_at_call 82; refine C9'.out.mono ?_; rintro e w10 ⟨rfl, ⟨r10, hnx'⟩, k10⟩)
        have R3 := hidOf r10
        have K9 := M9.out.chg
        have C3 := hidOf ((HC.out.trans K9 (fun x h _ => h)).trans k10 (fun x h _ => h))
        have Ow3 := hidOf (owns_chg (owns_chg HO.out (fun k hk e => by have := (HO.out.lt k hk).1; omega) K9) (fun k hk e => by have := (HO.out.lt k hk).1; omega) k10)
        rw [HL.out] at Ow3
        have hpr : ¬ wr.heap.size = p := by omega
        have q1 := k10.cell b1 hpr
        have q2 := k10.cell b2 hpr
        have q3 := k10.cell b3 hpr
        have h9s : wr.heap.size < w9.heap.size := by
          rcases Nat.lt_or_ge wr.heap.size w9.heap.size with h | h
          · exact h
          · simp [World.cell?, Array.getElem?_eq_none h] at b1
        have h10s : wr.heap.size < w10.heap.size := Nat.lt_of_lt_of_le h9s k10.size
        have HOlt : Hid (∀ k, (Value.slice a i cp).ownBlock = some k → k < wr.heap.size) := hidOf (fun k hk => (HO.out.lt k hk).2)
        have IA3 := hidOf (HIA.out.chg C3.out hgp)
        clear r10 k10 K9 b0 b1 b2 b3 C9 C9' CN M9 HR HC HO B5 O5 hw5
        by_cases hv2s : v2 = sl
        · subst hv2s
          have c10 : w10.cell? ⟨p, 10, none⟩ = some (.slice (some ⟨ga, 0, none⟩) tn tcp) := R3.out.cell 10 _ rfl
          have CO0 : Hid (∀ wx, Out w10 wx → Calls Tryz.prog 83 #[.slice (some ⟨ga, fi * 5, none⟩) (tn - fi) (tcp - fi), .int .i64 (v3 : Nat)] wx fun e w' => e = .returned (.tuple #[.int .i64 (k1 : Nat), .bool (decide (k2 = v3 ∧ 0 < v3))]) ∧ Out w10 w') := hidOf (fun wx ox => by
            have hia := (IA3.out.out ox).tail fi
            rw [Nat.zero_add] at hia
            have := countOf_any wx _ (tn - fi) (tcp - fi) v3 (T.drop fi) (by rw [List.length_drop, htn.out]) hia (by omega) (by omega)
            rw [hcn.out] at this
            exact this.mono (fun e w' h => ⟨h.1, ox.trans h.2⟩))
          by_cases hb : k2 = v3 ∧ 0 < v3
          · have htf : ¬ tcp = fi := fun e => by
              have h1 : T.drop fi = [] := List.drop_eq_nil_of_le (by rw [← htn.out]; omega)
              have h2 := hcn.out
              rw [h1] at h2
              simp [cntO] at h2
              omega
            have CO := CO0
            simp only [hb, and_self, decide_true] at CO
            have hk23 := hb.1
            have hv3p := hb.2
            clear CO0 hb
            go_upto_region 13 with fail
            go_region_held3 (fun wx => wx.cell? ⟨p, 10, none⟩ = some (.slice (some ⟨ga, 0, none⟩) tn tcp) ∧ wx.cell? ⟨wr.heap.size, 3, none⟩ = some (.int .i64 (v3 : Nat))) (first | go_keep | assumption | exact ⟨cell_later o11 c10, cell_later o11 q3⟩) (first | (go_at_call 83; refine (CO.out _ (by exact Out.drew (Out.refl _))).mono ?_; rintro e w11 ⟨rfl, o11⟩))
            have c11 : w11.cell? ⟨p, 11, none⟩ = some (.slice a i cp) := (R3.out.out o11).cell 11 _ rfl
            have p1 := cell_later o11 q1
            have p3 := cell_later o11 q3
            have R5 := hidOf (R3.out.out o11)
            have C5 := hidOf (C3.out.trans (T := fun _ => False) (Chg.of_out o11) (fun _ h _ => h.elim))
            have Ow5 := hidOf (owns_chg (S := fun _ => False) Ow3.out (fun _ _ h => h) (Chg.of_out o11))
            have hs3 : w.heap.size ≤ w11.heap.size := C5.out.size
            have HJ : Hid (fnR l N T f o 0 0 nx = (fnR l N T (f - (i + 1)) (o + 16 * (i + 1)) (fi + k1) (v2 + v3) nx').map (fun r => ((D ++ [⟨x, v1, fi, k1⟩]) ++ r.1, r.2))) := hidOf (by
              rw [HX.out, hstep.out, hnm]
              show Except.map _ (if v2 ≠ v2 then _ else if k2 ≠ v3 ∨ v3 = 0 then _ else Except.map _ _) = _
              rw [if_neg (by simp), if_neg (by omega)]
              cases fnR l N T (f - (i + 1)) (o + 16 * (i + 1)) (fi + k1) (v2 + v3) nx' <;> simp [Except.map])
            clear hstep HX q1 q2 q3 c10 CO IA3
            have a11 : ∀ O, (w11.alloc O).cell? ⟨p, 11, none⟩ = some (.slice a i cp) := fun O => (R5.out.out (Out.alloc (Out.refl _) O)).cell 11 _ rfl
            have OA : Hid (∀ O, (w11.alloc O).drew.ownsRow w.heap.size 85 4 (.slice a i cp) i (fnV D)) := hidOf (fun O => World.ownsRow.alloc Ow5.out O)
            have FAR : Hid (∀ O w', (w11.alloc O).drew.grownBy w' (Value.slice a i cp).ownBlock → RdA w' p g go n c l ⟨oo + 16, s, f, d, nn, eh, .pointer (some ⟨tb, 0, none⟩), nx', .slice (some ⟨ga, 0, none⟩) tn tcp, .slice a i cp, dv, en⟩ ∧ Chg (fun k => k = p) w w' ∧ (w'.cell? ⟨wr.heap.size, 1, none⟩ = some (.int .i64 (v1 : Nat)) ∧ w'.cell? ⟨wr.heap.size, 3, none⟩ = some (.int .i64 (v3 : Nat)))) := hidOf (fun O w' hg => by
              have hne : ∀ k, (Value.slice a i cp).ownBlock = some k → w.heap.size ≤ k := fun k hk => (Ow5.out.lt k hk).1
              have hc := Chg.of_grown (S := fun k => (Value.slice a i cp).ownBlock = some k) hg (fun k hk => hk)
              refine ⟨(R5.out.out (Out.drew (Out.alloc (Out.refl _) O))).chg hc (fun h => by have := hne p h; omega) (fun h => by have := hne g h; omega), ?_, ?_⟩
              rotate_left
              · have hb : ¬ (Value.slice a i cp).ownBlock = some wr.heap.size := fun h => by have := HOlt.out _ h; omega
                exact ⟨hc.cell (cell_later (Out.drew (Out.alloc (Out.refl _) O)) p1) hb, hc.cell (cell_later (Out.drew (Out.alloc (Out.refl _) O)) p3) hb⟩
              exact (C5.out.trans (T := fun _ => False) (Chg.of_out (Out.drew (Out.alloc (Out.refl _) O))) (fun _ h _ => h.elim)).trans hc (fun x h hlt => by have := hne x h; omega))
            obtain ⟨t0, hi0, hz0, hz1, hz2⟩ := info_parts infoIF
            have hTs : i ≤ 1000000000000 := by omega
            have SA : Hid (∀ O, ((w11.alloc O).cell? ⟨wr.heap.size, 1, none⟩ = some (.int .i64 (v1 : Nat)) ∧ (w11.alloc O).cell? ⟨wr.heap.size, 3, none⟩ = some (.int .i64 (v3 : Nat)))) := hidOf (fun O => ⟨cell_later (Out.alloc (Out.refl _) O) p1, cell_later (Out.alloc (Out.refl _) O) p3⟩)
            go_upto_region 16 with fail
            refine wp_region_held_drew (S := (fun wx => (wx.cell? ⟨wr.heap.size, 1, none⟩ = some (.int .i64 (v1 : Nat)) ∧ wx.cell? ⟨wr.heap.size, 3, none⟩ = some (.int .i64 (v3 : Nat))))) (by kernel_rfl) ?_ (fun hHeld => ?_)
            · exact ⟨p1, p3⟩
            refine tkLB [0,1,2,3,4,6,7,8,9,10,11] ?_
            iterate 11 (refine tkLC (v := ?_) rfl rfl (by kernel_rfl) (by kernel_rfl) (by kernel_rfl) (fun _ _ _ h => h) (by rfl) (by assumption) ?_ ?_; rotate_left; (· (intro w hSw; (try dsimp only at hSw); go_simp; (try with_reducible rfl))); simp only [Act.put, List.setIfInBounds_toArray, List.set_cons_zero, List.set_cons_succ])
            refine tkLE ?_
            refine wpAnyH_ready (rs := [5, 12]) (by kernel_rfl) (by simp) ?_
            refine AllReadyH.cons rfl (fun K1 hK1 => ?_) (AllReadyH.cons rfl (fun K1 hK1 => ?_) AllReadyH.nil)
            · rw [if_pos (by rfl)]
              go_simp
              refine hK1.out _ _ ⟨p1, p3⟩ (fun hHeld1 => ?_)
              refine wpAnyH_ready (rs := [12]) (by kernel_rfl) (by simp) ?_
              refine AllReadyH.cons rfl (fun K2 hK2 => ?_) AllReadyH.nil
              rw [if_pos (by rfl)]
              go_simp
              refine hK2.out _ _ (SA.out _) (fun hHeld2 => ?_)
              refine wpAnyH_ready (rs := [13]) (by kernel_rfl) (by simp) ?_
              refine AllReadyH.cons rfl (fun K3 hK3 => ?_) AllReadyH.nil
              refine step_append_lies _ rfl (.tmp 77) (.tmp 84) 31 rfl w.heap.size 85 t0 _ 4 40 Tryz.underlying31 hi0 hz0 hz1 hz2 rfl (by decide) (.slice a i cp) i (fnV D) rfl (OA.out _) ⟨w11.heap.size, 0, none⟩ 1 1 (Fn.cs ⟨x, v1, fi, k1⟩) rfl rfl (news_drew17 _ _ _ _ rfl) (fn_one _) (by decide) (by unfold maxLen; omega) (by omega) (Nat.le_trans hs3 (Out.size (Out.drew (Out.alloc (Out.refl _) _)))) _ rfl ?_
              intro g2 cap w4 hown' hgrow hg hlt
              obtain ⟨hR4, hC4, hS4⟩ := FAR.out _ _ hgrow
              have q10 : w4.cell? ⟨p, 11, none⟩ = some (.slice a i cp) := hR4.cell 11 _ rfl
              have qf : w4.frozen? ⟨p, 11, none⟩ = false := hR4.frozen 11
              have R4 := hidOf hR4
              have C4 := hidOf hC4
              have Ow4 := hidOf hown'
              clear hown' hgrow hg hlt hR4 hC4
              refine hK3.out _ _ hS4 (fun hHeld3 => ?_)
              refine tkLB [14,15,16] ?_
              iterate 3 (refine tkLC (v := ?_) rfl rfl (by kernel_rfl) (by kernel_rfl) (by kernel_rfl) (fun _ _ _ h => h) (by rfl) (by assumption) ?_ ?_; rotate_left; (· (intro w hSw; (try dsimp only at hSw); go_simp; (try with_reducible rfl))); simp only [Act.put, List.setIfInBounds_toArray, List.set_cons_zero, List.set_cons_succ])
              refine tkLE ?_
              refine wpAnyH_ready (rs := [17]) (by kernel_rfl) (by simp) ?_
              refine AllReadyH.cons rfl (fun K4 hK4 => ?_) AllReadyH.nil
              rw [if_pos (by rfl)]
              go_simp
              refine hK4.out _ _ ⟨(Chg.setP (Chg.refl _ w4) 11 _).cell hS4.1 hpr, (Chg.setP (Chg.refl _ w4) 11 _).cell hS4.2 hpr⟩ (fun hHeld4 => ?_)
              refine wpAnyH_done (by kernel_rfl) ?_ _
              have e3 := (Chg.setP (Chg.refl _ w4) 11 (.slice (some ⟨g2, 0, none⟩) (i + 1) cap)).cell hS4.2 hpr
              go_wp2
              go_roundw
              case rel =>
                refine ⟨i + 1, nx', fi + k1, v2 + v3, D ++ [⟨x, v1, fi, k1⟩], some ⟨g2, 0, none⟩, cap, by simp, by simp, by simp, by omega, by omega, by omega, hidOf (by rw [List.length_append, HL.out]; rfl), hnx', HJ, hidOf ?_, hidOf ?_, hidOf (Chg.setP C4.out _ _)⟩
                · rw [show o + 16 * (i + 1) = oo + 16 by rw [hoo.out]; omega]; exact R4.out.set 11 _ rfl
                · unfold OwF
                  rw [List.length_append, HL.out, fnV_snoc]
                  exact owns_chg (S := fun k => k = p) Ow4.out (fun k hk e => by have := (Ow4.out.lt k hk).1; omega) (Chg.setP (Chg.refl _ _) _ _)
              case measure => simp [intOf]; omega
            · rw [if_pos (by rfl)]
              go_simp
              refine hK1.out _ _ (SA.out _) (fun hHeld1 => ?_)
              refine wpAnyH_ready (rs := [5]) (by kernel_rfl) (by simp) ?_
              refine AllReadyH.cons rfl (fun K2 hK2 => ?_) AllReadyH.nil
              rw [if_pos (by rfl)]
              go_simp
              refine hK2.out _ _ (SA.out _) (fun hHeld2 => ?_)
              refine wpAnyH_ready (rs := [13]) (by kernel_rfl) (by simp) ?_
              refine AllReadyH.cons rfl (fun K3 hK3 => ?_) AllReadyH.nil
              refine step_append_lies _ rfl (.tmp 77) (.tmp 84) 31 rfl w.heap.size 85 t0 _ 4 40 Tryz.underlying31 hi0 hz0 hz1 hz2 rfl (by decide) (.slice a i cp) i (fnV D) rfl (OA.out _) ⟨w11.heap.size, 0, none⟩ 1 1 (Fn.cs ⟨x, v1, fi, k1⟩) rfl rfl (news_drew17 _ _ _ _ rfl) (fn_one _) (by decide) (by unfold maxLen; omega) (by omega) (Nat.le_trans hs3 (Out.size (Out.drew (Out.alloc (Out.refl _) _)))) _ rfl ?_
              intro g2 cap w4 hown' hgrow hg hlt
              obtain ⟨hR4, hC4, hS4⟩ := FAR.out _ _ hgrow
              have q10 : w4.cell? ⟨p, 11, none⟩ = some (.slice a i cp) := hR4.cell 11 _ rfl
              have qf : w4.frozen? ⟨p, 11, none⟩ = false := hR4.frozen 11
              have R4 := hidOf hR4
              have C4 := hidOf hC4
              have Ow4 := hidOf hown'
              clear hown' hgrow hg hlt hR4 hC4
              refine hK3.out _ _ hS4 (fun hHeld3 => ?_)
              refine tkLB [14,15,16] ?_
              iterate 3 (refine tkLC (v := ?_) rfl rfl (by kernel_rfl) (by kernel_rfl) (by kernel_rfl) (fun _ _ _ h => h) (by rfl) (by assumption) ?_ ?_; rotate_left; (· (intro w hSw; (try dsimp only at hSw); go_simp; (try with_reducible rfl))); simp only [Act.put, List.setIfInBounds_toArray, List.set_cons_zero, List.set_cons_succ])
              refine tkLE ?_
              refine wpAnyH_ready (rs := [17]) (by kernel_rfl) (by simp) ?_
              refine AllReadyH.cons rfl (fun K4 hK4 => ?_) AllReadyH.nil
              rw [if_pos (by rfl)]
              go_simp
              refine hK4.out _ _ ⟨(Chg.setP (Chg.refl _ w4) 11 _).cell hS4.1 hpr, (Chg.setP (Chg.refl _ w4) 11 _).cell hS4.2 hpr⟩ (fun hHeld4 => ?_)
              refine wpAnyH_done (by kernel_rfl) ?_ _
              have e3 := (Chg.setP (Chg.refl _ w4) 11 (.slice (some ⟨g2, 0, none⟩) (i + 1) cap)).cell hS4.2 hpr
              go_wp2
              go_roundw
              case rel =>
                refine ⟨i + 1, nx', fi + k1, v2 + v3, D ++ [⟨x, v1, fi, k1⟩], some ⟨g2, 0, none⟩, cap, by simp, by simp, by simp, by omega, by omega, by omega, hidOf (by rw [List.length_append, HL.out]; rfl), hnx', HJ, hidOf ?_, hidOf ?_, hidOf (Chg.setP C4.out _ _)⟩
                · rw [show o + 16 * (i + 1) = oo + 16 by rw [hoo.out]; omega]; exact R4.out.set 11 _ rfl
                · unfold OwF
                  rw [List.length_append, HL.out, fnV_snoc]
                  exact owns_chg (S := fun k => k = p) Ow4.out (fun k hk e => by have := (Ow4.out.lt k hk).1; omega) (Chg.setP (Chg.refl _ _) _ _)
              case measure => simp [intOf]; omega
          · have CO1 := CO0
            simp only [hb, decide_false] at CO1
            have hx := HX.out
            rw [hstep.out, hnm] at hx
            simp only [ne_eq, not_true_eq_false, if_false] at hx
            rw [if_pos (show ¬ k2 = v3 ∨ v3 = 0 by omega)] at hx
            have HX2 := hidOf hx
            clear hx HX hstep CO0
            go_upto_region 13 with fail
            by_cases htf : tcp = fi
            · subst htf
              obtain rfl : tn = tcp := by omega
              have CO : Hid (∀ wx, Out w10 wx → Calls Tryz.prog 83 #[.slice (some ⟨ga, 0, none⟩) 0 0, .int .i64 (v3 : Nat)] wx fun e w' => e = .returned (.tuple #[.int .i64 (k1 : Nat), .bool false]) ∧ Out w10 w') := hidOf (fun wx ox => by
                have h1 : T.drop tn = [] := List.drop_eq_nil_of_le (by rw [← htn.out]; omega)
                have := countOf_any wx (some ⟨ga, 0, none⟩) 0 0 v3 (T.drop tn) (by rw [h1]; rfl) (.inl h1) (by omega) (by omega)
                rw [hcn.out] at this
                simp only [hb, decide_false] at this
                exact this.mono (fun e w' h => ⟨h.1, ox.trans h.2⟩))
              clear CO1
              go_region_held3 (fun wx => wx.cell? ⟨p, 10, none⟩ = some (.slice (some ⟨ga, 0, none⟩) tn tn) ∧ wx.cell? ⟨wr.heap.size, 3, none⟩ = some (.int .i64 (v3 : Nat))) (first | go_keep | assumption | exact ⟨cell_later o11 c10, cell_later o11 q3⟩) (first | (go_at_call 83; refine (CO.out _ (by exact Out.drew (Out.refl _))).mono ?_; rintro e w11 ⟨rfl, o11⟩))
              go_wp2
              go_ret2
              refine ⟨?_, C3.out.trans (T := fun _ => False) (Chg.of_out o11) (fun _ h _ => h.elim)⟩
              show (match fnR l N T f o 0 0 nx with | .ok (D, ny) => _ | .error q => _)
              rw [HX2.out]
              rfl
            · have CO := CO1
              clear CO1
              go_region_held3 (fun wx => wx.cell? ⟨p, 10, none⟩ = some (.slice (some ⟨ga, 0, none⟩) tn tcp) ∧ wx.cell? ⟨wr.heap.size, 3, none⟩ = some (.int .i64 (v3 : Nat))) (first | go_keep | assumption | exact ⟨cell_later o11 c10, cell_later o11 q3⟩) (first | (go_at_call 83; refine (CO.out _ (by exact Out.drew (Out.refl _))).mono ?_; rintro e w11 ⟨rfl, o11⟩))
              go_wp2
              go_ret2
              refine ⟨?_, C3.out.trans (T := fun _ => False) (Chg.of_out o11) (fun _ h _ => h.elim)⟩
              show (match fnR l N T f o 0 0 nx with | .ok (D, ny) => _ | .error q => _)
              rw [HX2.out]
              rfl
        · have hne : ¬ (v2 : Int) = sl := by omega
          go_wp2
          go_ret2
          refine ⟨?_, C3.out⟩
          have hx := HX.out
          rw [hstep.out, hnm] at hx
          simp only [ne_eq, hv2s, not_false_eq_true, if_true] at hx
          show (match fnR l N T f o 0 0 nx with | .ok (D, ny) => _ | .error q => _)
          rw [hx]
          rfl
    · have hlt : ¬ (i : Int) < f := by omega
      obtain rfl : i = f := by omega
      go_wp2
      go_ret2
      refine ⟨?_, HC.out⟩
      have hx := HX.out
      rw [Nat.sub_self, fnR] at hx
      show (match fnR l N T i o 0 0 nx with | .ok (D, ny) => _ | .error q => _)
      rw [hx]
      have hL := HL.out
      refine ⟨rfl, a, cp, ?_, ?_, hny⟩
      · simp only [List.append_nil, hL, ← htn.out]; exact HR.out
      · simp only [List.append_nil, hL]; exact HO.out
end Go.Proofs.YthdgmhohofakgaaGreatDoor
