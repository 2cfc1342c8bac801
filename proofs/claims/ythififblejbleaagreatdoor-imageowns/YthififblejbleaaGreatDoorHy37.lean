import Derived.Test.YthififblejbleaaGreatDoorHy36
import Derived.Test.YthififblejbleaaGreatDoorHy34
namespace Go.Proofs.YthififblejbleaaGreatDoor
open Go.RowKit
set_option linter.unusedVariables false
set_option linter.unusedSimpArgs false
def slW (x : Ins) : Nat := if isW x.o then 2 else 1
theorem cnt_cons (x : Ins) (r : List Ins) (s : Nat) (h : 0 < s) : cntO (x :: r) s = ((cntO r (s - slW x)).1 + 1, (cntO r (s - slW x)).2 + slW x) := by
  rw [cntO, if_neg (by omega)]; rfl
theorem cnt_zero (r : List Ins) : cntO r 0 = (0, 0) := by cases r <;> simp [cntO]
theorem slots_one (x : Ins) : slotsP [x] = slW x := by unfold slotsP slW; cases h : isW x.o <;> simp [h]
theorem slW_le (x : Ins) : 1 ≤ slW x ∧ slW x ≤ 2 := by unfold slW; split <;> omega
set_option maxRecDepth 8000 in
set_option maxHeartbeats 2000000 in
theorem countOf_any (w : World) (a : Option Addr) (n cap sl : Nat) (T : List Ins) (hn : T.length = n) (hi : InsA w a T) (hm : n ≤ 1000000000000) (hs : sl ≤ 1000000000000) : Calls Tryz.prog 111 #[.slice a n cap, .int .i64 (sl : Nat)] w fun e w' => e = .returned (.tuple #[.int .i64 ((cntO T sl).1 : Nat), .bool (decide ((cntO T sl).2 = sl ∧ 0 < sl))]) ∧ Out w w' := by
  have HI := hidOf hi
  have hn' := hidOf hn
  clear hi hn
  go_enter Tryz.func111, Tryz.ntmps111
  go_wp2
  go_loopw [6, 7] (fun c t wr => ∃ k tk : Nat, k ≤ n ∧ tk ≤ 2 * k ∧ c = .int .i64 k ∧ t = .int .i64 tk ∧ Hid (cntO T sl = ((cntO (T.drop k) (sl - tk)).1 + k, (cntO (T.drop k) (sl - tk)).2 + tk)) ∧ Out w wr) (fun c _ _ => n - (intOf c).toNat)
  case atStart => exact ⟨0, 0, by omega, by omega, rfl, rfl, hidOf (by simp), Out.refl _⟩
  case round =>
    obtain ⟨k, tk, hk, htk, rfl, rfl, HX, hor⟩ := hrel
    by_cases h1 : tk < sl
    · have h1' : (tk : Int) < sl := by omega
      by_cases h2 : k < n
      · have h2' : (k : Int) < n := by omega
        obtain ⟨x, hx⟩ : ∃ x, T[k]? = some x := ⟨_, List.getElem?_eq_getElem (by rw [hn'.out]; exact h2)⟩
        obtain ⟨b, off, rfl, c0, c1, c2, c3, c4⟩ := HI.out.get hx
        have q0 := cell_later hor c0
        have q1 := cell_later hor c1
        have q2 := cell_later hor c2
        have q3 := cell_later hor c3
        have q4 := cell_later hor c4
        clear c0 c1 c2 c3 c4
        have HX2 : Hid (cntO T sl = ((cntO (T.drop (k + 1)) (sl - (tk + slW x))).1 + (k + 1), (cntO (T.drop (k + 1)) (sl - (tk + slW x))).2 + (tk + slW x))) := hidOf (by
          rw [HX.out, List.drop_eq_getElem_cons (by rw [hn'.out]; exact h2), show T[k]'(by rw [hn'.out]; exact h2) = x from (List.getElem?_eq_some_iff.1 hx).2, cnt_cons _ _ _ (by omega), Nat.sub_sub]
          simp only [Prod.mk.injEq]; omega)
        obtain ⟨u, hu⟩ : ∃ u, Hid (u = slW x) := ⟨_, rfl⟩
        have hub : 1 ≤ u ∧ u ≤ 2 := by rw [hu.out]; exact slW_le x
        obtain ⟨o, d, s, f, i⟩ := x
        simp only at q0 q1 q2 q3 q4
        have CS : Hid (∀ t, Calls Tryz.prog 52 #[.slice (some ⟨wr.heap.size, 0, none⟩) 1 1] (wr.alloc (.cells #[.int .i64 o, .int .i64 d, .int .i64 s, .int .i64 f, .int .i64 i] t)) fun e w' => e = .returned (.int .i64 (u : Nat)) ∧ Out wr w') := hidOf (fun t => by
          rw [hu.out, ← slots_one]
          refine (slotsI_any _ _ 1 1 [⟨o, d, s, f, i⟩] rfl (.inr ⟨wr.heap.size, 0, rfl, fun k x hx => ?_⟩) (by omega)).mono ?_
          · rcases k with _ | k
            · simp at hx; subst hx
              exact ⟨cell_fresh wr _ _ 0 _ rfl, cell_fresh wr _ _ 1 _ rfl, cell_fresh wr _ _ 2 _ rfl, cell_fresh wr _ _ 3 _ rfl, cell_fresh wr _ _ 4 _ rfl⟩
            · simp at hx
          · rintro e w' ⟨he, o2⟩
            exact ⟨he, (Out.alloc (Out.refl _) _).trans o2⟩)
        rw [← hu.out] at HX2
        clear HX hx
        go_wp2_with (go_at_call 52; refine (CS.out _).mono ?_; rintro e w1 ⟨rfl, o1⟩)
        go_roundw
        case rel => exact ⟨k + 1, tk + u, by omega, by omega, by simp, by simp, HX2, hor.trans o1⟩
        case measure => simp [intOf]; omega
      · have h2' : ¬ (k : Int) < n := by omega
        have hf : Hid (cntO T sl = (k, tk)) := hidOf (by rw [HX.out, List.drop_eq_nil_of_le (by rw [hn'.out]; omega)]; simp [cntO])
        have h3 : ¬ (tk : Int) = sl := by omega
        have h4 : ¬ tk = sl := by omega
        clear HX
        go_wp2
        go_ret2
        rw [hf.out]
        exact ⟨by simp [h4], hor⟩
    · have h1' : ¬ (tk : Int) < sl := by omega
      have hf : Hid (cntO T sl = (k, tk)) := hidOf (by rw [HX.out, show sl - tk = 0 by omega, cnt_zero]; simp)
      clear HX
      by_cases h3 : tk = sl
      · subst h3
        by_cases h5 : tk = 0
        · subst h5
          go_wp2
          go_ret2
          rw [hf.out]
          exact ⟨by simp, hor⟩
        · have h6 : (0 : Int) < tk := by omega
          go_wp2
          go_ret2
          rw [hf.out]
          exact ⟨by simp, hor⟩
      · have h4 : ¬ (tk : Int) = sl := by omega
        go_wp2
        go_ret2
        rw [hf.out]
        exact ⟨by simp [h3], hor⟩
set_option maxRecDepth 8000 in
theorem stringsAt_any (w : World) (p g go n c : Nat) (l : List UInt8) (r : Rs) (h : RdA w p g go n c l r) (hr : r.n ≤ n) (hn : n ≤ 1000000000000) : Calls Tryz.prog 93 #[.pointer (some ⟨p, 0, none⟩)] w fun e w' => e = .returned (.int .i64 ((n - r.n : Nat) : Int)) ∧ ∃ m, w' = w.drewN m := by
  obtain ⟨o, s, f, d, nn, e, nm, nx, tv, fv, dv, en⟩ := r
  simp only at hr
  have c0 : w.cell? ⟨p, 0, none⟩ = some (.slice (some ⟨g, go, none⟩) n c) := h.cell 0 _ rfl
  have c6 : w.cell? ⟨p, 6, none⟩ = some (.int .i64 (nn : Nat)) := h.cell 6 _ rfl
  clear h
  have w1 : IntKind.i64.wrap ((n : Int) - (nn : Int)) = (n : Int) - (nn : Int) := by rw [wrap64_eq17]; unfold wrap64; omega
  have hs : Hid (((n - nn : Nat) : Int) = (n : Int) - (nn : Int)) := hidOf (by omega)
  go_enter Tryz.func93, Tryz.ntmps93
  go_upto_region 1 with fail
  go_quiet (fail)
  go_wp2
  go_ret
  exact ⟨by rw [hs.out]; rfl, _, rfl⟩
theorem Eqh.of_drewN {a b : World} (h : Eqh a b) (m : Nat) : Eqh a (b.drewN m) := h.trans (Eqh.drewN _ _)
theorem RdA.eqh {w w' : World} {p g go n c : Nat} {l : List UInt8} {r : Rs} (h : RdA w p g go n c l r) (k : Eqh w w') : RdA w' p g go n c l r := h.out k.out
theorem BtA.rest {w : World} {g go : Nat} {l : List UInt8} (h : BtA w g go l) (N k : Nat) (hg : g < N) : RestAt N w (some ⟨g, go + k, none⟩) (l.drop k) := .inr ⟨g, go + k, hg, rfl, fun j x hx => by
  rw [List.getElem?_drop] at hx
  have := h (k + j) x hx
  rw [Nat.add_assoc]; exact this⟩
def nmE (l : List UInt8) (p g go n c : Nat) (w : World) (r : Rs) (e : Ending) (w' : World) : Prop :=
  (match rdP (l.drop (n - r.n)) with
   | (none, q) => e = .returned (.tuple #[.int .i64 ((n - r.n + q : Nat) : Int), .bool true])
   | (some N, _) => e = .returned (.tuple #[.int .i64 ((n - r.n : Nat) : Int), .bool false]) ∧ szF 1 N = r.n ∧ ∃ tb, RdA w' p g go n c l { r with nm := .pointer (some ⟨tb, 0, none⟩), nx := 1 } ∧ Tab tb w' N (fun k => w.heap.size ≤ k)) ∧ Chg (fun k => k = p) w w'
set_option maxRecDepth 8000 in
set_option maxHeartbeats 400000 in
theorem takeNames_any (w : World) (p g go n c : Nat) (l : List UInt8) (r : Rs) (h : RdA w p g go n c l r) (hr : r.n ≤ n) (hn : n ≤ 1000000000000) : Calls Tryz.prog 66 #[.pointer (some ⟨p, 0, none⟩)] w (nmE l p g go n c w r) := by
  have H := hidOf h
  have hpl := h.pl
  have hgl := h.gl
  have hnc := h.nc
  obtain ⟨o, s, f, d, nn, e, nm, nx, tv, fv, dv, en⟩ := r
  simp only at hr
  obtain ⟨k, hk⟩ : ∃ k, Hid (k = n - nn) := ⟨_, rfl⟩
  have hkn : k ≤ n := by rw [hk.out]; omega
  have hkr : n - k = nn := by rw [hk.out]; omega
  have hll : Hid ((l.drop k).length = nn) := hidOf (by rw [List.length_drop, h.l_]; exact hkr)
  have c0 : w.cell? ⟨p, 0, none⟩ = some (.slice (some ⟨g, go, none⟩) n c) := h.cell 0 _ rfl
  have CS : Hid (∀ wx, Eqh w wx → Calls Tryz.prog 93 #[.pointer (some ⟨p, 0, none⟩)] wx fun e w' => e = .returned (.int .i64 (k : Nat)) ∧ Eqh w w') := hidOf (fun wx hx => by
    refine (stringsAt_any wx p g go n c l _ (H.out.eqh hx) hr hn).mono ?_
    rintro e w' ⟨rfl, m, rfl⟩
    rw [← hk.out]
    exact ⟨rfl, hx.of_drewN m⟩)
  have CR : Hid (∀ wx, Eqh w wx → Calls Tryz.prog 92 #[.slice (if c = k then some ⟨g, go, none⟩ else some ⟨g, go + k, none⟩) nn (c - k)] wx fun e w' => REnd w (l.drop k) e w') := hidOf (fun wx hx => by
    have := read_any (if c = k then some ⟨g, go, none⟩ else some ⟨g, go + k, none⟩) (c - k) (l.drop k) wx (by
      by_cases hck : c = k
      · exact .inl (List.eq_nil_of_length_eq_zero (by rw [hll.out]; omega))
      · rw [if_neg hck]; exact (H.out.eqh hx).bt.rest _ k (by rw [hx.heap]; exact hgl)) (by rw [hll.out]; omega) (by rw [hll.out]; omega)
    rw [hll.out] at this
    refine this.mono ?_
    intro e w' ⟨o3, h3⟩
    refine ⟨hx.out.trans o3, ?_⟩
    rcases h3 with h3 | ⟨N, tb, h1, h2, h3, h4, h5⟩
    · exact .inl h3
    · exact .inr ⟨N, tb, h1, h2, h3, by rw [← hx.heap]; exact h4, by unfold FN at h5 ⊢; rw [← hx.heap]; exact h5⟩)
  clear h
  go_enter Tryz.func66, Tryz.ntmps66
  go_upto_region 1 with fail
  obtain ⟨rN, rq, hrd⟩ : ∃ rN rq, Hid (rdP (l.drop k) = (rN, rq)) := ⟨_, _, hidOf rfl⟩
  have hrl : rq ≤ n := by have := rdP_le17 (l.drop k); rw [hrd.out, hll.out] at this; simp only at this; omega
  cases rN with
  | none =>
    have CR1 : Hid (∀ wx, Eqh w wx → Calls Tryz.prog 92 #[.slice (if c = k then some ⟨g, go, none⟩ else some ⟨g, go + k, none⟩) nn (c - k)] wx fun e w' => e = .returned (.tuple #[.pointer none, .int .i64 (rq : Nat), .int .i64 80]) ∧ Out w w') := hidOf (fun wx hx => (CR.out wx hx).mono (fun e w' ⟨o3, h3⟩ => by
      rw [hrd.out] at h3
      rcases h3 with ⟨_, h3⟩ | ⟨N, tb, h1, _⟩
      · exact ⟨h3, o3⟩
      · cases h1))
    clear CR
    by_cases hck : c = k
    · obtain rfl : n = k := by omega
      have hnn : nn = 0 := by omega
      subst hnn
      subst hck
      rw [if_pos rfl, Nat.sub_self] at CR1
      go_region_held3 (fun wx => wx.cell? ⟨p, 0, none⟩ = some (.slice (some ⟨g, go, none⟩) c c)) (first | go_keep | assumption) (first | (go_at_call 92; refine (CR1.out _ (by exact q2)).mono ?_; rintro e w3 ⟨rfl, o3⟩; have d3 := cell_later o3 c0) | (go_at_call 93; refine (CS.out _ (by first | exact Eqh.refl _ | exact Eqh.drew _)).mono ?_; rintro e w2 ⟨rfl, q2⟩; have d2 := (q2.cell ⟨p, 0, none⟩).trans c0))
      have HR3 := H.out.out o3
      have e8 : w3.cell? ⟨p, 8, none⟩ = some nm := HR3.cell 8 _ rfl
      have e9 : w3.cell? ⟨p, 9, none⟩ = some (.int .i64 (nx : Nat)) := HR3.cell 9 _ rfl
      have f8 := HR3.frozen 8
      have f9 := HR3.frozen 9
      have R3 := hidOf HR3
      have C3 : Hid (Chg (fun k => k = p) w w3) := hidOf (Chg.of_out o3)
      clear HR3 d2 d3 q2 CS CR1
      go_upto_region 3 with fail
      have R4 := hidOf ((R3.out.set (r' := ⟨o, s, f, d, 0, e, .pointer none, nx, tv, fv, dv, en⟩) 8 (.pointer none) rfl).set (r' := ⟨o, s, f, d, 0, e, .pointer none, 1, tv, fv, dv, en⟩) 9 (.int .i64 1) rfl)
      have C4 := hidOf (Chg.setP (Chg.setP C3.out 8 (.pointer none)) 9 (.int .i64 1))
      generalize (w3.setCell ⟨p, 8, none⟩ (.pointer none)).setCell ⟨p, 9, none⟩ (.int .i64 1) = w4 at *
      have CS := hidOf (stringsAt_any w4 p g go c c l _ R4.out hr hn)
      simp only at CS
      rw [← hk.out] at CS
      clear e8 e9 f8 f9
      go_wp2_with (go_at_call 93; refine CS.out.mono ?_; rintro e w5 ⟨rfl, m, rfl⟩)
      go_ret2
      refine ⟨?_, C4.out.of_drewN m⟩
      show (match rdP (l.drop (c - 0)) with | (none, q) => _ | (some N, _) => _)
      rw [← hk.out, hrd.out]
      exact rfl
    · rw [if_neg hck] at CR1
      go_region_held3 (fun wx => wx.cell? ⟨p, 0, none⟩ = some (.slice (some ⟨g, go, none⟩) n c)) (first | go_keep | assumption) (first | (go_at_call 92; refine (CR1.out _ (by exact q2)).mono ?_; rintro e w3 ⟨rfl, o3⟩; have d3 := cell_later o3 c0) | (go_at_call 93; refine (CS.out _ (by first | exact Eqh.refl _ | exact Eqh.drew _)).mono ?_; rintro e w2 ⟨rfl, q2⟩; have d2 := (q2.cell ⟨p, 0, none⟩).trans c0))
      have HR3 := H.out.out o3
      have e8 : w3.cell? ⟨p, 8, none⟩ = some nm := HR3.cell 8 _ rfl
      have e9 : w3.cell? ⟨p, 9, none⟩ = some (.int .i64 (nx : Nat)) := HR3.cell 9 _ rfl
      have f8 := HR3.frozen 8
      have f9 := HR3.frozen 9
      have R3 := hidOf HR3
      have C3 : Hid (Chg (fun k => k = p) w w3) := hidOf (Chg.of_out o3)
      clear HR3 d2 d3 q2 CS CR1
      go_upto_region 3 with fail
      have R4 := hidOf ((R3.out.set (r' := ⟨o, s, f, d, nn, e, .pointer none, nx, tv, fv, dv, en⟩) 8 (.pointer none) rfl).set (r' := ⟨o, s, f, d, nn, e, .pointer none, 1, tv, fv, dv, en⟩) 9 (.int .i64 1) rfl)
      have C4 := hidOf (Chg.setP (Chg.setP C3.out 8 (.pointer none)) 9 (.int .i64 1))
      generalize (w3.setCell ⟨p, 8, none⟩ (.pointer none)).setCell ⟨p, 9, none⟩ (.int .i64 1) = w4 at *
      have CS := hidOf (stringsAt_any w4 p g go n c l _ R4.out hr hn)
      simp only at CS
      rw [← hk.out] at CS
      clear e8 e9 f8 f9
      go_wp2_with (go_at_call 93; refine CS.out.mono ?_; rintro e w5 ⟨rfl, m, rfl⟩)
      go_ret2
      refine ⟨?_, C4.out.of_drewN m⟩
      show (match rdP (l.drop (n - nn)) with | (none, q) => _ | (some N, _) => _)
      rw [← hk.out, hrd.out]
      exact rfl
  | some N =>
    have hck : ¬ c = k := fun e => by
      have h1 : l.drop k = [] := List.eq_nil_of_length_eq_zero (by rw [hll.out]; omega)
      have h2 := hrd.out
      rw [h1] at h2
      cases h2
    have CR1 : Hid (∀ wx, Eqh w wx → Calls Tryz.prog 92 #[.slice (some ⟨g, go + k, none⟩) nn (c - k)] wx fun e w' => ∃ tb, e = .returned (.tuple #[.pointer (some ⟨tb, 0, none⟩), .int .i64 0, .int .i64 0]) ∧ Out w w' ∧ szF 1 N = nn ∧ Tab tb w' N (fun k => w.heap.size ≤ k)) := hidOf (fun wx hx => by
      have := CR.out wx hx
      rw [if_neg hck] at this
      refine this.mono (fun e w' ⟨o3, h3⟩ => ?_)
      rw [hrd.out] at h3
      rcases h3 with ⟨h1, _⟩ | ⟨N', tb, h1, h2, h3, h4, h5⟩
      · cases h1
      · cases h1
        refine ⟨tb, h2, o3, by rw [h3, hll.out], ?_⟩
        obtain ⟨nv, sv, mv, t, hf⟩ := h5
        exact ⟨nv, sv, mv, t, fun k hk => (hf k hk).elim False.elim And.left⟩)
    clear CR
    go_region_held3 (fun wx => wx.cell? ⟨p, 0, none⟩ = some (.slice (some ⟨g, go, none⟩) n c)) (first | go_keep | assumption) (first | (go_at_call 92; refine (CR1.out _ (by exact q2)).mono ?_; rintro e w3 ⟨tb, rfl, o3, sz3, t3⟩; have d3 := cell_later o3 c0) | (go_at_call 93; refine (CS.out _ (by first | exact Eqh.refl _ | exact Eqh.drew _)).mono ?_; rintro e w2 ⟨rfl, q2⟩; have d2 := (q2.cell ⟨p, 0, none⟩).trans c0))
    have HR3 := H.out.out o3
    have e8 : w3.cell? ⟨p, 8, none⟩ = some nm := HR3.cell 8 _ rfl
    have e9 : w3.cell? ⟨p, 9, none⟩ = some (.int .i64 (nx : Nat)) := HR3.cell 9 _ rfl
    have f8 := HR3.frozen 8
    have f9 := HR3.frozen 9
    have R3 := hidOf HR3
    have C3 : Hid (Chg (fun k => k = p) w w3) := hidOf (Chg.of_out o3)
    clear HR3 d2 d3 q2 CS CR1
    go_upto_region 3 with fail
    have R4 := hidOf ((R3.out.set (r' := ⟨o, s, f, d, nn, e, .pointer (some ⟨tb, 0, none⟩), nx, tv, fv, dv, en⟩) 8 (.pointer (some ⟨tb, 0, none⟩)) rfl).set (r' := ⟨o, s, f, d, nn, e, .pointer (some ⟨tb, 0, none⟩), 1, tv, fv, dv, en⟩) 9 (.int .i64 1) rfl)
    have C4 := hidOf (Chg.setP (Chg.setP C3.out 8 (.pointer (some ⟨tb, 0, none⟩))) 9 (.int .i64 1))
    have T4 : Hid (Tab tb ((w3.setCell ⟨p, 8, none⟩ (.pointer (some ⟨tb, 0, none⟩))).setCell ⟨p, 9, none⟩ (.int .i64 1)) N (fun k => w.heap.size ≤ k)) := hidOf (t3.chg (Chg.setP (Chg.setP (Chg.refl _ _) 8 _) 9 _) (fun k hk e => by omega))
    generalize (w3.setCell ⟨p, 8, none⟩ (.pointer (some ⟨tb, 0, none⟩))).setCell ⟨p, 9, none⟩ (.int .i64 1) = w4 at *
    have CS := hidOf (stringsAt_any w4 p g go n c l _ R4.out hr hn)
    simp only at CS
    rw [← hk.out] at CS
    clear e8 e9 f8 f9
    go_wp2_with (go_at_call 93; refine CS.out.mono ?_; rintro e w5 ⟨rfl, m, rfl⟩)
    go_ret2
    refine ⟨?_, C4.out.of_drewN m⟩
    show (match rdP (l.drop (n - nn)) with | (none, q) => _ | (some N, _) => _)
    rw [← hk.out, hrd.out]
    exact ⟨rfl, sz3, tb, R4.out.out (Out.drewN (Out.refl _) _), T4.out.out (Out.drewN (Out.refl _) _)⟩
theorem atF_sz : ∀ (N : List (List UInt8)) (a : Nat) (q : Int) (x : List UInt8), atF a N q = some x → q + x.length + 1 ≤ szF a N
  | [], _, _, _, h => by simp [atF] at h
  | y :: r, a, q, x, h => by
    rw [atF] at h
    have h1 := szF_ge r (a + y.length + 1)
    rw [show szF a (y :: r) = szF (a + y.length + 1) r from rfl]
    split at h
    · cases h; omega
    · exact atF_sz r _ q x h
def tnE (l : List UInt8) (p g go n c : Nat) (w : World) (r : Rs) (N : List (List UInt8)) (pl : Nat) (e : Ending) (w' : World) : Prop :=
  (match nmT N r.nx pl with
   | none => e = .returned (.tuple #[.string ⟨#[]⟩, .bool false])
   | some (x, nx') => e = .returned (.tuple #[.string ⟨x.toArray⟩, .bool true]) ∧ RdA w' p g go n c l { r with nx := nx' } ∧ nx' ≤ szF 1 N) ∧ Chg (fun k => k = p) w w'
set_option maxRecDepth 8000 in
set_option maxHeartbeats 1000000 in
theorem takeName_any (w : World) (p g go n c : Nat) (l : List UInt8) (r : Rs) (h : RdA w p g go n c l r) (tb : Nat) (htb : r.nm = .pointer (some ⟨tb, 0, none⟩)) (N : List (List UInt8)) (F : Nat → Prop) (hT : Tab tb w N F) (hsz : szF 1 N ≤ 1000000000000) (hnx : r.nx ≤ szF 1 N) (pl : Nat) : Calls Tryz.prog 110 #[.pointer (some ⟨p, 0, none⟩), .int .i64 (pl : Nat)] w (tnE l p g go n c w r N pl) := by
  have H := hidOf h
  have hpl := h.pl
  have HT := hidOf hT
  obtain ⟨o, s, f, d, nn, e, nm, nx, tv, fv, dv, en⟩ := r
  simp only at htb hnx
  subst htb
  have c8 : w.cell? ⟨p, 8, none⟩ = some (.pointer (some ⟨tb, 0, none⟩)) := h.cell 8 _ rfl
  have c9 : w.cell? ⟨p, 9, none⟩ = some (.int .i64 (nx : Nat)) := h.cell 9 _ rfl
  have f9 := h.frozen 9
  clear h hT
  go_enter Tryz.func110, Tryz.ntmps110
  by_cases h1 : pl < 1
  · have h1' : (pl : Int) < 1 := by omega
    go_wp2
    go_ret2
    have e0 : nmT N nx pl = none := by unfold nmT; rw [if_pos (.inl h1)]
    unfold tnE; dsimp only; rw [e0]
    exact ⟨rfl, Chg.refl _ _⟩
  · have h1' : ¬ (pl : Int) < 1 := by omega
    by_cases h2 : nx < pl
    · have h2' : (nx : Int) < pl := by omega
      go_wp2
      go_ret2
      have e0 : nmT N nx pl = none := by unfold nmT; rw [if_pos (.inr h2)]
      unfold tnE; dsimp only; rw [e0]
      exact ⟨rfl, Chg.refl _ _⟩
    · have h2' : ¬ (nx : Int) < pl := by omega
      cases ha : atF 1 N pl with
      | none =>
        have CA := hidOf (at_none tb w N F pl HT.out hsz (by omega) ha)
        go_wp2_with (go_at_call 119; refine CA.out.mono ?_; rintro e w1 ⟨rfl, m, rfl⟩)
        go_ret2
        have e0 : nmT N nx pl = none := by unfold nmT; rw [if_neg (by omega), ha]
        unfold tnE; dsimp only; rw [e0]
        exact ⟨rfl, (Chg.refl _ _).of_drewN m⟩
      | some x =>
        have CA := hidOf (at_some tb w N F pl x HT.out hsz ha)
        have hsx := atF_sz N 1 pl x ha
        obtain ⟨L, hL⟩ : ∃ L, Hid (L = x.length) := ⟨_, rfl⟩
        have hLs : (⟨x.toArray⟩ : ByteArray).size = L := by rw [hL.out]; rfl
        have hLb : L ≤ 1000000000000 := by rw [hL.out]; omega
        by_cases h3 : pl = nx
        · subst h3
          have hnb : pl + L + 1 ≤ szF 1 N := by rw [hL.out]; omega
          go_upto_region 6 with (go_at_call 119; refine CA.out.mono ?_; rintro e w1 ⟨rfl, m, rfl⟩)
          have d9 : (w.drewN m).cell? ⟨p, 9, none⟩ = some (.int .i64 (pl : Nat)) := c9
          have g9 : (w.drewN m).frozen? ⟨p, 9, none⟩ = false := f9
          have R2 := hidOf (H.out.out (Out.drewN (Out.refl w) m))
          have C2 : Hid (Chg (fun k => k = p) w (w.drewN m)) := hidOf ((Chg.refl _ _).of_drewN m)
          generalize w.drewN m = w2 at *
          clear CA HT c8 c9 f9 H
          go_wp2
          go_ret2
          have e0 : nmT N pl pl = some (x, pl + x.length + 1) := by unfold nmT; rw [if_neg (by omega), ha]; simp
          unfold tnE; dsimp only; rw [e0]
          refine ⟨⟨rfl, ?_, by rw [← hL.out]; exact hnb⟩, Chg.setP C2.out _ _⟩
          refine R2.out.set 9 _ ?_
          rw [← hL.out, show (pl : Int) + ((L : Int) + 1) = ((pl + L + 1 : Nat) : Int) by omega]
          rfl
        · have h3' : ¬ (pl : Int) = nx := by omega
          go_wp2_with (go_at_call 119; refine CA.out.mono ?_; rintro e w1 ⟨rfl, m, rfl⟩)
          go_ret2
          have e0 : nmT N nx pl = some (x, nx) := by unfold nmT; rw [if_neg (by omega), ha]; simp [h3]
          unfold tnE; dsimp only; rw [e0]
          exact ⟨⟨rfl, H.out.out (Out.drewN (Out.refl _) _), hnx⟩, (Chg.refl _ _).of_drewN m⟩
theorem numFR (wb w8 : World) (p g go n c o h k q : Nat) (l : List UInt8) (cs : Array Value) (t : TypeId) (H : Tk wb p g go n c o l) (o8 : Out wb w8) (hh : wb.heap.size ≤ h) (hbox : w8.heap[h]? = some (.cells cs t (0, 0))) (hcs : cs.size = k) (hq5 : wb.heap.size ≤ q) (hhq : ¬ h = q) (hcq : ∀ i, i < k → w8.cell? ⟨q, i, none⟩ = some (.pointer (some ⟨h, i, none⟩))) (hk : 0 < k) (hr : o + 4 * k ≤ n) (hn : n ≤ 1000000000000) :
    Calls Tryz.prog 54 #[.pointer (some ⟨p, 0, none⟩), .slice (some ⟨q, 0, none⟩) k k] w8 fun e w' => (∃ v, e = .returned v) ∧ Mv p (o + 4 * k) wb w' ∧ ∀ i, i < k → w'.cell? ⟨h, i, none⟩ = some (.int .i64 (g4 l (o + 4 * i) : Nat)) := by
  have hget : ∀ i y, ((List.range k).map (fun i => (h, i)))[i]? = some y → i < k ∧ y = (h, i) := fun i y hy => by
    rw [List.getElem?_map] at hy
    rcases Nat.lt_or_ge i k with hi | hi
    · rw [List.getElem?_range hi] at hy; simp at hy; exact ⟨hi, hy.symm⟩
    · rw [List.getElem?_eq_none (by simpa using hi)] at hy; simp at hy
  have hlen : ((List.range k).map (fun i => (h, i))).length = k := by simp
  have hmem : ∀ y ∈ (List.range k).map (fun i => (h, i)), y.1 = h ∧ y.2 < k := fun y hy => by
    simp at hy; obtain ⟨i, hi, rfl⟩ := hy; exact ⟨rfl, hi⟩
  have := numR wb w8 p g go n c o q l ((List.range k).map (fun i => (h, i))) (H.out o8) o8 H.pl H.gl (fun y hy => by rw [(hmem y hy).1]; exact hh) (by
      refine List.Pairwise.map _ (fun a b hab e => hab ?_) List.nodup_range
      simpa using e) (by
      intro e; rw [← List.length_eq_zero_iff, hlen] at e; omega) (fun i y hy => by
      obtain ⟨hi, rfl⟩ := hget i y hy; exact hcq i hi) hq5 (fun y hy => by
      obtain ⟨e1, e2⟩ := hmem y hy
      refine ⟨?_, ?_, by rw [e1]; exact hhq⟩
      · rw [e1, cell_atL hbox, Array.getElem?_eq_getElem (by omega)]; rfl
      · rw [e1]; exact frozen_atL hbox _) (by rw [hlen]; exact hr) hn
  rw [hlen] at this
  refine this.mono ?_
  rintro e w' ⟨hv, hm, hg, _⟩
  exact ⟨hv, hm, fun i hi => hg i (h, i) (by rw [List.getElem?_map, List.getElem?_range hi]; rfl)⟩
def Td.cs (x : Td) : List Value := [.string ⟨x.nm.toArray⟩, .int .i64 x.kd, .int .i64 x.ky, .int .i64 x.vl, .int .i64 x.en]
def tdV (l : List Td) : List Value := l.flatMap Td.cs
theorem tdV_snoc (l : List Td) (x : Td) : tdV (l ++ [x]) = tdV l ++ x.cs := by simp [tdV, List.flatMap_append]
theorem td_one (x : Td) : ∀ u ∈ x.cs, u.oneCell' = true := by
  intro u hu
  simp [Td.cs] at hu
  rcases hu with rfl | rfl | rfl | rfl | rfl <;> rfl
theorem infoTD : (Tryz.prog.info? 72).map (fun i => (i.zero, i.size, i.bytes)) = some (some (.agg #[.string ⟨#[]⟩, .int .i64 0, .int .i64 0, .int .i64 0, .int .i64 0]), 5, 48) := by kernel_rfl
def OwD (w : World) (B : Nat) (v : Value) (D : List Td) : Prop := w.ownsRow B 72 5 v D.length (tdV D)
theorem run_make_td (n : Nat) (hn : n ≤ 1000000000000) (w : World) : ∃ cur : Array Value, cur.size = n * 5 ∧ (Instr.makeSlice 24 (.int .i64 0) (.int .i64 (n : Int))).run Tryz.prog w = .ok (.slice (some ⟨w.heap.size, 0, none⟩) 0 n) (w.alloc (.cells cur 72)) := by
  obtain ⟨i0, hi, hz0, hz1, hz2⟩ := info_parts infoTD
  have h := run_make (P := Tryz.prog) w 24 72 i0 _ Tryz.underlying24 hi hz0 .i64 .i64 0 (n : Int) (by omega) (by omega) (by rw [hz2]; omega) (by omega)
  rw [hz1] at h
  refine ⟨_, ?_, h⟩
  simp [madeCells]
def tdE (l : List UInt8) (p g go n c : Nat) (w : World) (r : Rs) (N : List (List UInt8)) (e : Ending) (w' : World) : Prop :=
  (match tdR l N r.d r.o r.nx with
   | .ok (D, ny) => e = .returned (.tuple #[.int .i64 0, .bool false]) ∧ ∃ a cp, RdA w' p g go n c l { r with o := r.o + 20 * r.d, nx := ny, dv := .slice a D.length cp } ∧ OwD w' w.heap.size (.slice a D.length cp) D ∧ ny ≤ szF 1 N
   | .error q => e = .returned (.tuple #[.int .i64 (q : Nat), .bool true])) ∧ Chg (fun k => k = p) w w'
end Go.Proofs.YthififblejbleaaGreatDoor
