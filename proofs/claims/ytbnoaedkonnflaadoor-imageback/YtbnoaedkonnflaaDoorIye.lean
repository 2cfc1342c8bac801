import Derived.Test.YtbnoaedkonnflaaDoorIyd
import Derived.Test.YtbnoaedkonnflaaDoorAj
import Derived.Test.YtbnoaedkonnflaaDoorImf
namespace Go.Proofs.YtbnoaedkonnflaaDoor
open Go.RowKit
set_option linter.unusedVariables false
set_option linter.unusedSimpArgs false
theorem Eqh.of_drewN {a b : World} (h : Eqh a b) (m : Nat) : Eqh a (b.drewN m) := h.trans (Eqh.drewN _ _)
theorem RdA.eqh {w w' : World} {p g go n c : Nat} {l : List UInt8} {r : Rs} (h : RdA w p g go n c l r) (k : Eqh w w') : RdA w' p g go n c l r := h.out k.out
theorem BtA.rest {w : World} {g go : Nat} {l : List UInt8} (h : BtA w g go l) (N k : Nat) (hg : g < N) : RestAt N w (some ⟨g, go + k, none⟩) (l.drop k) := .inr ⟨g, go + k, hg, rfl, fun j x hx => by
  rw [List.getElem?_drop] at hx
  have := h (k + j) x hx
  rw [Nat.add_assoc]; exact this⟩
/-- what takeNames leaves -/
def nmE (l : List UInt8) (p g go n c : Nat) (w : World) (r : Rs) (e : Ending) (w' : World) : Prop :=
  (match rdP (l.drop (n - r.n)) with
   | (none, q) => e = .returned (.tuple #[.int .i64 ((n - r.n + q : Nat) : Int), .bool true])
   | (some N, _) => e = .returned (.tuple #[.int .i64 ((n - r.n : Nat) : Int), .bool false]) ∧ szF 1 N = r.n ∧ ∃ tb, RdA w' p g go n c l { r with nm := .pointer (some ⟨tb, 0, none⟩), nx := 1 } ∧ Tab tb w' N (fun k => w.heap.size ≤ k)) ∧ Chg (fun k => k = p) w w'
set_option maxRecDepth 8000 in
set_option maxHeartbeats 400000 in
theorem takeNames_any (w : World) (p g go n c : Nat) (l : List UInt8) (r : Rs) (h : RdA w p g go n c l r) (hr : r.n ≤ n) (hn : n ≤ 1000000000000) : Calls Tryd.prog 36 #[.pointer (some ⟨p, 0, none⟩)] w (nmE l p g go n c w r) := by
  have H := hidOf h
  have hpl := h.pl
  have hgl := h.gl
  have hnc := h.nc
  obtain ⟨o, s, f, d, nn, e, nm, nx, tv, fv, dv, en⟩ := r
  simp only at hr
  obtain ⟨k, hk⟩ : ∃ k, Hid (k = n - nn) := ⟨_, rfl⟩
  have hkn : k ≤ n := by rw [hk.out]; omega
  have hkr : n - k = nn := by rw [hk.out]; omega
  have hll : Hid ((l.drop k).length = nn) := hidOf (by rw [List.length_drop, h.l_]; exact hkr)
  have c0 : w.cell? ⟨p, 0, none⟩ = some (.slice (some ⟨g, go, none⟩) n c) := h.cell 0 _ rfl
  have CS : Hid (∀ wx, Eqh w wx → Calls Tryd.prog 52 #[.pointer (some ⟨p, 0, none⟩)] wx fun e w' => e = .returned (.int .i64 (k : Nat)) ∧ Eqh w w') := hidOf (fun wx hx => by
    refine (stringsAt_any wx p g go n c l _ (H.out.eqh hx) hr hn).mono ?_
    rintro e w' ⟨rfl, m, rfl⟩
    rw [← hk.out]
    exact ⟨rfl, hx.of_drewN m⟩)
  have CR : Hid (∀ wx, Eqh w wx → Calls Tryd.prog 51 #[.slice (if c = k then some ⟨g, go, none⟩ else some ⟨g, go + k, none⟩) nn (c - k)] wx fun e w' => REnd w (l.drop k) e w') := hidOf (fun wx hx => by
    have := read_any (if c = k then some ⟨g, go, none⟩ else some ⟨g, go + k, none⟩) (c - k) (l.drop k) wx (by
      by_cases hck : c = k
      · exact .inl (List.eq_nil_of_length_eq_zero (by rw [hll.out]; omega))
      · rw [if_neg hck]; exact (H.out.eqh hx).bt.rest _ k (by rw [hx.heap]; exact hgl)) (by rw [hll.out]; omega) (by rw [hll.out]; omega)
    rw [hll.out] at this
    refine this.mono ?_
    intro e w' ⟨o3, h3⟩
    refine ⟨hx.out.trans o3, ?_⟩
    rcases h3 with h3 | ⟨N, tb, h1, h2, h3, h4, h5⟩
    · exact .inl h3
    · exact .inr ⟨N, tb, h1, h2, h3, by rw [← hx.heap]; exact h4, by unfold FN at h5 ⊢; rw [← hx.heap]; exact h5⟩)
  clear h
  go_enter Tryd.func36, Tryd.ntmps36
  go_upto_region 1 with fail
  obtain ⟨rN, rq, hrd⟩ : ∃ rN rq, Hid (rdP (l.drop k) = (rN, rq)) := ⟨_, _, hidOf rfl⟩
  have hrl : rq ≤ n := by have := rdP_le17 (l.drop k); rw [hrd.out, hll.out] at this; simp only at this; omega
  cases rN with
  | none =>
    have CR1 : Hid (∀ wx, Eqh w wx → Calls Tryd.prog 51 #[.slice (if c = k then some ⟨g, go, none⟩ else some ⟨g, go + k, none⟩) nn (c - k)] wx fun e w' => e = .returned (.tuple #[.pointer none, .int .i64 (rq : Nat), .int .i64 80]) ∧ Out w w') := hidOf (fun wx hx => (CR.out wx hx).mono (fun e w' ⟨o3, h3⟩ => by
      rw [hrd.out] at h3
      rcases h3 with ⟨_, h3⟩ | ⟨N, tb, h1, _⟩
      · exact ⟨h3, o3⟩
      · cases h1))
    clear CR
    by_cases hck : c = k
    · obtain rfl : n = k := by omega
      have hnn : nn = 0 := by omega
      subst hnn
      subst hck
      rw [if_pos rfl, Nat.sub_self] at CR1
      go_region_held3 (fun wx => wx.cell? ⟨p, 0, none⟩ = some (.slice (some ⟨g, go, none⟩) c c)) (first | go_keep | assumption) (first | (go_at_call 51; refine (CR1.out _ (by exact q2)).mono ?_; rintro e w3 ⟨rfl, o3⟩; have d3 := cell_later o3 c0) | (go_at_call 52; refine (CS.out _ (by first | exact Eqh.refl _ | exact Eqh.drew _)).mono ?_; rintro e w2 ⟨rfl, q2⟩; have d2 := (q2.cell ⟨p, 0, none⟩).trans c0))
      have HR3 := H.out.out o3
      have e8 : w3.cell? ⟨p, 8, none⟩ = some nm := HR3.cell 8 _ rfl
      have e9 : w3.cell? ⟨p, 9, none⟩ = some (.int .i64 (nx : Nat)) := HR3.cell 9 _ rfl
      have f8 := HR3.frozen 8
      have f9 := HR3.frozen 9
      have R3 := hidOf HR3
      have C3 : Hid (Chg (fun k => k = p) w w3) := hidOf (Chg.of_out o3)
      clear HR3 d2 d3 q2 CS CR1
      go_upto_region 3 with fail
      have R4 := hidOf ((R3.out.set (r' := ⟨o, s, f, d, 0, e, .pointer none, nx, tv, fv, dv, en⟩) 8 (.pointer none) rfl).set (r' := ⟨o, s, f, d, 0, e, .pointer none, 1, tv, fv, dv, en⟩) 9 (.int .i64 1) rfl)
      have C4 := hidOf (Chg.setP (Chg.setP C3.out 8 (.pointer none)) 9 (.int .i64 1))
      generalize (w3.setCell ⟨p, 8, none⟩ (.pointer none)).setCell ⟨p, 9, none⟩ (.int .i64 1) = w4 at *
      have CS := hidOf (stringsAt_any w4 p g go c c l _ R4.out hr hn)
      simp only at CS
      rw [← hk.out] at CS
      clear e8 e9 f8 f9
      go_wp2_with (go_at_call 52; refine CS.out.mono ?_; rintro e w5 ⟨rfl, m, rfl⟩)
      go_ret2
      refine ⟨?_, C4.out.of_drewN m⟩
      show (match rdP (l.drop (c - 0)) with | (none, q) => _ | (some N, _) => _)
      rw [← hk.out, hrd.out]
      exact rfl
    · rw [if_neg hck] at CR1
      go_region_held3 (fun wx => wx.cell? ⟨p, 0, none⟩ = some (.slice (some ⟨g, go, none⟩) n c)) (first | go_keep | assumption) (first | (go_at_call 51; refine (CR1.out _ (by exact q2)).mono ?_; rintro e w3 ⟨rfl, o3⟩; have d3 := cell_later o3 c0) | (go_at_call 52; refine (CS.out _ (by first | exact Eqh.refl _ | exact Eqh.drew _)).mono ?_; rintro e w2 ⟨rfl, q2⟩; have d2 := (q2.cell ⟨p, 0, none⟩).trans c0))
      have HR3 := H.out.out o3
      have e8 : w3.cell? ⟨p, 8, none⟩ = some nm := HR3.cell 8 _ rfl
      have e9 : w3.cell? ⟨p, 9, none⟩ = some (.int .i64 (nx : Nat)) := HR3.cell 9 _ rfl
      have f8 := HR3.frozen 8
      have f9 := HR3.frozen 9
      have R3 := hidOf HR3
      have C3 : Hid (Chg (fun k => k = p) w w3) := hidOf (Chg.of_out o3)
      clear HR3 d2 d3 q2 CS CR1
      go_upto_region 3 with fail
      have R4 := hidOf ((R3.out.set (r' := ⟨o, s, f, d, nn, e, .pointer none, nx, tv, fv, dv, en⟩) 8 (.pointer none) rfl).set (r' := ⟨o, s, f, d, nn, e, .pointer none, 1, tv, fv, dv, en⟩) 9 (.int .i64 1) rfl)
      have C4 := hidOf (Chg.setP (Chg.setP C3.out 8 (.pointer none)) 9 (.int .i64 1))
      generalize (w3.setCell ⟨p, 8, none⟩ (.pointer none)).setCell ⟨p, 9, none⟩ (.int .i64 1) = w4 at *
      have CS := hidOf (stringsAt_any w4 p g go n c l _ R4.out hr hn)
      simp only at CS
      rw [← hk.out] at CS
      clear e8 e9 f8 f9
      go_wp2_with (go_at_call 52; refine CS.out.mono ?_; rintro e w5 ⟨rfl, m, rfl⟩)
      go_ret2
      refine ⟨?_, C4.out.of_drewN m⟩
      show (match rdP (l.drop (n - nn)) with | (none, q) => _ | (some N, _) => _)
      rw [← hk.out, hrd.out]
      exact rfl
  | some N =>
    have hck : ¬ c = k := fun e => by
      have h1 : l.drop k = [] := List.eq_nil_of_length_eq_zero (by rw [hll.out]; omega)
      have h2 := hrd.out
      rw [h1] at h2
      cases h2
    have CR1 : Hid (∀ wx, Eqh w wx → Calls Tryd.prog 51 #[.slice (some ⟨g, go + k, none⟩) nn (c - k)] wx fun e w' => ∃ tb, e = .returned (.tuple #[.pointer (some ⟨tb, 0, none⟩), .int .i64 0, .int .i64 0]) ∧ Out w w' ∧ szF 1 N = nn ∧ Tab tb w' N (fun k => w.heap.size ≤ k)) := hidOf (fun wx hx => by
      have := CR.out wx hx
      rw [if_neg hck] at this
      refine this.mono (fun e w' ⟨o3, h3⟩ => ?_)
      rw [hrd.out] at h3
      rcases h3 with ⟨h1, _⟩ | ⟨N', tb, h1, h2, h3, h4, h5⟩
      · cases h1
      · cases h1
        refine ⟨tb, h2, o3, by rw [h3, hll.out], ?_⟩
        obtain ⟨nv, sv, mv, t, hf⟩ := h5
        exact ⟨nv, sv, mv, t, fun k hk => (hf k hk).elim False.elim And.left⟩)
    clear CR
    go_region_held3 (fun wx => wx.cell? ⟨p, 0, none⟩ = some (.slice (some ⟨g, go, none⟩) n c)) (first | go_keep | assumption) (first | (go_at_call 51; refine (CR1.out _ (by exact q2)).mono ?_; rintro e w3 ⟨tb, rfl, o3, sz3, t3⟩; have d3 := cell_later o3 c0) | (go_at_call 52; refine (CS.out _ (by first | exact Eqh.refl _ | exact Eqh.drew _)).mono ?_; rintro e w2 ⟨rfl, q2⟩; have d2 := (q2.cell ⟨p, 0, none⟩).trans c0))
    have HR3 := H.out.out o3
    have e8 : w3.cell? ⟨p, 8, none⟩ = some nm := HR3.cell 8 _ rfl
    have e9 : w3.cell? ⟨p, 9, none⟩ = some (.int .i64 (nx : Nat)) := HR3.cell 9 _ rfl
    have f8 := HR3.frozen 8
    have f9 := HR3.frozen 9
    have R3 := hidOf HR3
    have C3 : Hid (Chg (fun k => k = p) w w3) := hidOf (Chg.of_out o3)
    clear HR3 d2 d3 q2 CS CR1
    go_upto_region 3 with fail
    have R4 := hidOf ((R3.out.set (r' := ⟨o, s, f, d, nn, e, .pointer (some ⟨tb, 0, none⟩), nx, tv, fv, dv, en⟩) 8 (.pointer (some ⟨tb, 0, none⟩)) rfl).set (r' := ⟨o, s, f, d, nn, e, .pointer (some ⟨tb, 0, none⟩), 1, tv, fv, dv, en⟩) 9 (.int .i64 1) rfl)
    have C4 := hidOf (Chg.setP (Chg.setP C3.out 8 (.pointer (some ⟨tb, 0, none⟩))) 9 (.int .i64 1))
    have T4 : Hid (Tab tb ((w3.setCell ⟨p, 8, none⟩ (.pointer (some ⟨tb, 0, none⟩))).setCell ⟨p, 9, none⟩ (.int .i64 1)) N (fun k => w.heap.size ≤ k)) := hidOf (t3.chg (Chg.setP (Chg.setP (Chg.refl _ _) 8 _) 9 _) (fun k hk e => by omega))
    generalize (w3.setCell ⟨p, 8, none⟩ (.pointer (some ⟨tb, 0, none⟩))).setCell ⟨p, 9, none⟩ (.int .i64 1) = w4 at *
    have CS := hidOf (stringsAt_any w4 p g go n c l _ R4.out hr hn)
    simp only at CS
    rw [← hk.out] at CS
    clear e8 e9 f8 f9
    go_wp2_with (go_at_call 52; refine CS.out.mono ?_; rintro e w5 ⟨rfl, m, rfl⟩)
    go_ret2
    refine ⟨?_, C4.out.of_drewN m⟩
    show (match rdP (l.drop (n - nn)) with | (none, q) => _ | (some N, _) => _)
    rw [← hk.out, hrd.out]
    exact ⟨rfl, sz3, tb, R4.out.out (Out.drewN (Out.refl _) _), T4.out.out (Out.drewN (Out.refl _) _)⟩
end Go.Proofs.YtbnoaedkonnflaaDoor
