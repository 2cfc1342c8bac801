import Derived.Test.YtbnoaedkonnflaaDoorIyc
import Derived.Test.YtbnoaedkonnflaaDoorIms
namespace Go.Proofs.YtbnoaedkonnflaaDoor
open Go.RowKit
set_option linter.unusedVariables false
set_option linter.unusedSimpArgs false
def slW (x : Ins) : Nat := if isW x.o then 2 else 1
theorem cnt_cons (x : Ins) (r : List Ins) (s : Nat) (h : 0 < s) : cntO (x :: r) s = ((cntO r (s - slW x)).1 + 1, (cntO r (s - slW x)).2 + slW x) := by
  rw [cntO, if_neg (by omega)]; rfl
theorem cnt_zero (r : List Ins) : cntO r 0 = (0, 0) := by cases r <;> simp [cntO]
theorem slots_one (x : Ins) : slotsP [x] = slW x := by unfold slotsP slW; cases h : isW x.o <;> simp [h]
theorem slW_le (x : Ins) : 1 ≤ slW x ∧ slW x ≤ 2 := by unfold slW; split <;> omega
set_option maxRecDepth 8000 in
set_option maxHeartbeats 2000000 in
theorem countOf_any (w : World) (a : Option Addr) (n cap sl : Nat) (T : List Ins) (hn : T.length = n) (hi : InsA w a T) (hm : n ≤ 1000000000000) (hs : sl ≤ 1000000000000) : Calls Tryd.prog 65 #[.slice a n cap, .int .i64 (sl : Nat)] w fun e w' => e = .returned (.tuple #[.int .i64 ((cntO T sl).1 : Nat), .bool (decide ((cntO T sl).2 = sl ∧ 0 < sl))]) ∧ Out w w' := by
  have HI := hidOf hi
  have hn' := hidOf hn
  clear hi hn
  go_enter Tryd.func65, Tryd.ntmps65
  go_wp2
  go_loopw [6, 7] (fun c t wr => ∃ k tk : Nat, k ≤ n ∧ tk ≤ 2 * k ∧ c = .int .i64 k ∧ t = .int .i64 tk ∧ Hid (cntO T sl = ((cntO (T.drop k) (sl - tk)).1 + k, (cntO (T.drop k) (sl - tk)).2 + tk)) ∧ Out w wr) (fun c _ _ => n - (intOf c).toNat)
  case atStart => exact ⟨0, 0, by omega, by omega, rfl, rfl, hidOf (by simp), Out.refl _⟩
  case round =>
    obtain ⟨k, tk, hk, htk, rfl, rfl, HX, hor⟩ := hrel
    by_cases h1 : tk < sl
    · have h1' : (tk : Int) < sl := by omega
      by_cases h2 : k < n
      · have h2' : (k : Int) < n := by omega
        obtain ⟨x, hx⟩ : ∃ x, T[k]? = some x := ⟨_, List.getElem?_eq_getElem (by rw [hn'.out]; exact h2)⟩
        obtain ⟨b, off, rfl, c0, c1, c2, c3, c4⟩ := HI.out.get hx
        have q0 := cell_later hor c0
        have q1 := cell_later hor c1
        have q2 := cell_later hor c2
        have q3 := cell_later hor c3
        have q4 := cell_later hor c4
        clear c0 c1 c2 c3 c4
        have HX2 : Hid (cntO T sl = ((cntO (T.drop (k + 1)) (sl - (tk + slW x))).1 + (k + 1), (cntO (T.drop (k + 1)) (sl - (tk + slW x))).2 + (tk + slW x))) := hidOf (by
          rw [HX.out, List.drop_eq_getElem_cons (by rw [hn'.out]; exact h2), show T[k]'(by rw [hn'.out]; exact h2) = x from (List.getElem?_eq_some_iff.1 hx).2, cnt_cons _ _ _ (by omega), Nat.sub_sub]
          simp only [Prod.mk.injEq]; omega)
        obtain ⟨u, hu⟩ : ∃ u, Hid (u = slW x) := ⟨_, rfl⟩
        have hub : 1 ≤ u ∧ u ≤ 2 := by rw [hu.out]; exact slW_le x
        obtain ⟨o, d, s, f, i⟩ := x
        simp only at q0 q1 q2 q3 q4
        have CS : Hid (∀ t, Calls Tryd.prog 27 #[.slice (some ⟨wr.heap.size, 0, none⟩) 1 1] (wr.alloc (.cells #[.int .i64 o, .int .i64 d, .int .i64 s, .int .i64 f, .int .i64 i] t)) fun e w' => e = .returned (.int .i64 (u : Nat)) ∧ Out wr w') := hidOf (fun t => by
          rw [hu.out, ← slots_one]
          refine (slotsI_any _ _ 1 1 [⟨o, d, s, f, i⟩] rfl (.inr ⟨wr.heap.size, 0, rfl, fun k x hx => ?_⟩) (by omega)).mono ?_
          · rcases k with _ | k
            · simp at hx; subst hx
              exact ⟨cell_fresh wr _ _ 0 _ rfl, cell_fresh wr _ _ 1 _ rfl, cell_fresh wr _ _ 2 _ rfl, cell_fresh wr _ _ 3 _ rfl, cell_fresh wr _ _ 4 _ rfl⟩
            · simp at hx
          · rintro e w' ⟨he, o2⟩
            exact ⟨he, (Out.alloc (Out.refl _) _).trans o2⟩)
        rw [← hu.out] at HX2
        clear HX hx
        go_wp2_with (go_at_call 27; refine (CS.out _).mono ?_; rintro e w1 ⟨rfl, o1⟩)
        go_roundw
        case rel => exact ⟨k + 1, tk + u, by omega, by omega, by simp, by simp, HX2, hor.trans o1⟩
        case measure => simp [intOf]; omega
      · have h2' : ¬ (k : Int) < n := by omega
        have hf : Hid (cntO T sl = (k, tk)) := hidOf (by rw [HX.out, List.drop_eq_nil_of_le (by rw [hn'.out]; omega)]; simp [cntO])
        have h3 : ¬ (tk : Int) = sl := by omega
        have h4 : ¬ tk = sl := by omega
        clear HX
        go_wp2
        go_ret2
        rw [hf.out]
        exact ⟨by simp [h4], hor⟩
    · have h1' : ¬ (tk : Int) < sl := by omega
      have hf : Hid (cntO T sl = (k, tk)) := hidOf (by rw [HX.out, show sl - tk = 0 by omega, cnt_zero]; simp)
      clear HX
      by_cases h3 : tk = sl
      · subst h3
        by_cases h5 : tk = 0
        · subst h5
          go_wp2
          go_ret2
          rw [hf.out]
          exact ⟨by simp, hor⟩
        · have h6 : (0 : Int) < tk := by omega
          go_wp2
          go_ret2
          rw [hf.out]
          exact ⟨by simp, hor⟩
      · have h4 : ¬ (tk : Int) = sl := by omega
        go_wp2
        go_ret2
        rw [hf.out]
        exact ⟨by simp [h3], hor⟩
set_option maxRecDepth 8000 in
theorem stringsAt_any (w : World) (p g go n c : Nat) (l : List UInt8) (r : Rs) (h : RdA w p g go n c l r) (hr : r.n ≤ n) (hn : n ≤ 1000000000000) : Calls Tryd.prog 52 #[.pointer (some ⟨p, 0, none⟩)] w fun e w' => e = .returned (.int .i64 ((n - r.n : Nat) : Int)) ∧ ∃ m, w' = w.drewN m := by
  obtain ⟨o, s, f, d, nn, e, nm, nx, tv, fv, dv, en⟩ := r
  simp only at hr
  have c0 : w.cell? ⟨p, 0, none⟩ = some (.slice (some ⟨g, go, none⟩) n c) := h.cell 0 _ rfl
  have c6 : w.cell? ⟨p, 6, none⟩ = some (.int .i64 (nn : Nat)) := h.cell 6 _ rfl
  clear h
  have w1 : IntKind.i64.wrap ((n : Int) - (nn : Int)) = (n : Int) - (nn : Int) := by rw [wrap64_eq17]; unfold wrap64; omega
  have hs : Hid (((n - nn : Nat) : Int) = (n : Int) - (nn : Int)) := hidOf (by omega)
  go_enter Tryd.func52, Tryd.ntmps52
  go_upto_region 1 with fail
  go_quiet (fail)
  go_wp2
  go_ret
  exact ⟨by rw [hs.out]; rfl, _, rfl⟩
end Go.Proofs.YtbnoaedkonnflaaDoor
