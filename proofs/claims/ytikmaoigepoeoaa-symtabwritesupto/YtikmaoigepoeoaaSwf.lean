import Derived.Test.YtikmaoigepoeoaaSwe
namespace Go.Proofs.Ytikmaoigepoeoaa
open Go.RowKit
set_option linter.unusedVariables false
set_option linter.unusedSimpArgs false
/-- behind Lend -/
def LendEnd (w : World) (p g m : Nat) (l L : List Sy) (e : Ending) (w' : World) : Prop :=
  e = .returned (.slice (some ⟨g, 0, none⟩) l.length (2 * l.length + 70)) ∧ Db w' p g m (tgY l ++ L.drop (2 * l.length + 70)) ∧ Chg (SL p g) w w'
set_option maxRecDepth 20000 in
set_option maxHeartbeats 4000000 in
theorem lendY_again (W : World) (p g m : Nat) (L : List Sy) (h : Db W p g m L) (a : Option Addr) (cap : Nat) (l : List Sy) (hr : SyAt W.heap.size W a l) (hne : ¬ l = [] → ∀ ad, a = some ad → ¬ SL p g ad.block) (hcap : l.length ≤ cap) (hm : 2 * l.length + 70 ≤ m) (hmm : m ≤ 1000000000000) :
    Calls Try.prog 19 #[.pointer (some ⟨p, 0, none⟩), .slice a l.length cap] W fun e w' => LendEnd W p g m l L e w' := by
  have H : Hid (Db W p g m (ovY 0 (tgY l) L)) := by rw [show ovY 0 (tgY l) L = L from rfl]; exact hidOf h
  have HLl := hidOf h.len_
  have HR := hidOf hr
  have HNe := hidOf hne
  have c0 := h.c0
  have hmI : ¬ (m : Int) < 2 * (l.length : Int) + 70 := by omega
  have hcI : (l.length : Int) ≤ cap := by omega
  clear h hr hne
  go_enter Try.func19, Try.ntmps19
  go_wp2
  clear c0
  have HC0 := hidOf (Chg.refl (SL p g) W)
  go_loopw [5] (fun kv wr => ∃ j : Nat, kv = .int .i64 j ∧ j ≤ 2 * l.length + 70 ∧ Hid (Db wr p g m (ovY j (tgY l) L)) ∧ Hid (Chg (SL p g) W wr)) (fun kv _ => 2 * l.length + 70 - (intOf kv).toNat)
  case atStart => exact ⟨0, rfl, by omega, H, HC0⟩
  case round =>
    clear H HC0
    obtain ⟨j, rfl, hj, HB, HC⟩ := hrel
    have d0 := HB.out.c0
    have hj0 : (0 : Int) ≤ j := by omega
    by_cases hlt : j < 2 * l.length + 70
    · have hltI : (j : Int) < 2 * (l.length : Int) + 70 := by omega
      have hjm : (j : Int) < m := by omega
      have hjl : Hid (j < (ovY j (tgY l) L).length) := by rw [ovY_len (by rw [tgY_len]; omega) (by rw [tgY_len, HLl.out]; omega), HLl.out]; exact hidOf (by omega)
      obtain ⟨z, hz⟩ : ∃ z, (ovY j (tgY l) L)[j]? = some z := ⟨_, List.getElem?_eq_getElem hjl.out⟩
      obtain ⟨y0, y1, y2, y3, y4, y5⟩ := HB.out.hg.cells hz
      have f0 := HB.out.hg.frozen (j * 6)
      have f1 := HB.out.hg.frozen (j * 6 + 1)
      have f2 := HB.out.hg.frozen (j * 6 + 2)
      have f3 := HB.out.hg.frozen (j * 6 + 3)
      have f4 := HB.out.hg.frozen (j * 6 + 4)
      have f5 := HB.out.hg.frozen (j * 6 + 5)
      have hgp : ¬ g = p := fun e => HB.out.ne e.symm
      have Hz := hidOf hz
      clear hz
      go_upto_region 6 with fail
      go_region_held3 (fun w' => w'.cell? ⟨p, 0, none⟩ = some (.slice (some ⟨g, 0, none⟩) m m)) (first | with_reducible exact d0 | with_reducible exact e0 | go_keep) (first | (go_at_call 36; refine (behindY_any j (by omega) _).mono ?_; rintro e w2 ⟨rfl, h2⟩; have e0 := cell_later h2 (show (World.drew _).cell? _ = _ from d0); have B2 := hidOf (HB.out.drew.out h2); have C2 := hidOf (HC.out.drew.then_out h2); obtain ⟨x0, x1, x2, x3, x4, x5⟩ := B2.out.hg.cells Hz.out; have g0 := B2.out.hg.frozen (j * 6); have g1 := B2.out.hg.frozen (j * 6 + 1); have g2 := B2.out.hg.frozen (j * 6 + 2); have g3 := B2.out.hg.frozen (j * 6 + 3); have g4 := B2.out.hg.frozen (j * 6 + 4); have g5 := B2.out.hg.frozen (j * 6 + 5); clear h2))
      have B3 := hidOf (B2.out.set hjl.out (-9 - (j : Int)) 0 0 0 (3 * (j : Int)) 0)
      have C3 := hidOf (chg6 C2.out (j * 6) (-9 - (j : Int)) 0 0 0 (3 * (j : Int)) 0)
      unfold putY at B3 C3
      generalize (((((w2.setCell ⟨g, j * 6, none⟩ (.int .i64 (-9 - (j : Int)))).setCell ⟨g, j * 6 + 1, none⟩ (.int .i64 0)).setCell ⟨g, j * 6 + 2, none⟩ (.int .i64 0)).setCell ⟨g, j * 6 + 3, none⟩ (.int .i64 0)).setCell ⟨g, j * 6 + 4, none⟩ (.int .i64 (3 * (j : Int)))).setCell ⟨g, j * 6 + 5, none⟩ (.int .i64 0) = w3 at *
      clear y0 y1 y2 y3 y4 y5 f0 f1 f2 f3 f4 f5 x0 x1 x2 x3 x4 x5 g0 g1 g2 g3 g4 g5 d0 e0
      by_cases hjn : j < l.length
      · have hjnI : (j : Int) < l.length := by omega
        obtain ⟨x, hx⟩ : ∃ x, l[j]? = some x := ⟨_, List.getElem?_eq_getElem hjn⟩
        have hln : ¬ l = [] := fun e => by rw [e] at hjn; simp at hjn
        obtain ⟨b, off, rfl, _, hX⟩ := (HR.out.keep C3.out (Nat.le_refl _) HNe.out).get hx
        have HOv := hidOf (ovY_put (y := ⟨-9 - (j : Int), 0, 0, 0, 3 * (j : Int), 0⟩) (L := L) (tgY_lo hx) (by rw [tgY_len, HLl.out]; omega))
        obtain ⟨na, bi, ki, se, va, si⟩ := x
        obtain ⟨q0, q1, q2, q3, q4, q5⟩ := hX
        simp only at q0 q1 q2 q3 q4 q5
        have Hbg : Hid (¬ g = b) := hidOf (fun e => HNe.out hln _ rfl (.inr e.symm))
        have hgb := Hbg.out
        have hjl3 : Hid (j < ((ovY j (tgY l) L).set j ⟨-9 - (j : Int), 0, 0, 0, 3 * (j : Int), 0⟩).length) := by rw [List.length_set]; exact hjl
        obtain ⟨z3, hz3⟩ : ∃ z, ((ovY j (tgY l) L).set j ⟨-9 - (j : Int), 0, 0, 0, 3 * (j : Int), 0⟩)[j]? = some z := ⟨_, List.getElem?_eq_getElem hjl3.out⟩
        have B4a := B3.out.drew.set hjl3.out na bi ki se va si
        have C4a := chg6 C3.out.drew (j * 6) na bi ki se va si
        have B4b := (B3.out.set hjl3.out na bi ki se va si).drew
        have C4b := (chg6 C3.out (j * 6) na bi ki se va si).drew
        rw [HOv.out] at B4a B4b
        unfold putY at B4a C4a B4b C4b
        have HB4a := hidOf B4a
        have HC4a := hidOf C4a
        have HB4b := hidOf B4b
        have HC4b := hidOf C4b
        clear B4a C4a B4b C4b
        obtain ⟨x0, x1, x2, x3, x4, x5⟩ := B3.out.hg.cells hz3
        have g0 := B3.out.hg.frozen (j * 6)
        have g1 := B3.out.hg.frozen (j * 6 + 1)
        have g2 := B3.out.hg.frozen (j * 6 + 2)
        have g3 := B3.out.hg.frozen (j * 6 + 3)
        have g4 := B3.out.hg.frozen (j * 6 + 4)
        have g5 := B3.out.hg.frozen (j * 6 + 5)
        have d3 := B3.out.c0
        clear hx hz3
        go_upto_region 8 with fail
        go_region_law (fail)
        all_goals
          go_wp2
          go_roundw
          case rel =>
            refine ⟨j + 1, by simp, by omega, ?_, ?_⟩
            · first | with_reducible exact HB4a | with_reducible exact HB4b
            · first | with_reducible exact HC4a | with_reducible exact HC4b
          case measure => simp [intOf]; omega
      · have hjnI : ¬ (j : Int) < l.length := by omega
        have HOv := hidOf (ovY_set (L := L) (tgY_hi (l := l) (j := j) (by omega) hlt) (by rw [tgY_len, HLl.out]; omega))
        go_wp2
        go_roundw
        case rel =>
          refine ⟨j + 1, by simp, by omega, ?_, C3⟩
          have h := B3.out
          rw [show (⟨-9 - (j : Int), 0, 0, 0, 3 * (j : Int), 0⟩ : Sy) = behY j from rfl, HOv.out] at h
          exact hidOf h
        case measure => simp [intOf]; omega
    · have hltI : ¬ (j : Int) < 2 * (l.length : Int) + 70 := by omega
      obtain rfl : j = 2 * l.length + 70 := by omega
      have hmI : 2 * (l.length : Int) + 70 ≤ m := by omega
      go_wp2
      go_ret
      have h := HB.out
      rw [show ovY (2 * l.length + 70) (tgY l) L = tgY l ++ L.drop (2 * l.length + 70) by unfold ovY; rw [List.take_of_length_le (by rw [tgY_len]; omega)]] at h
      exact ⟨rfl, h, HC.out⟩
set_option maxRecDepth 20000 in
set_option maxHeartbeats 4000000 in
theorem lendY_new (W : World) (p g m : Nat) (L : List Sy) (ha : Option Addr) (hn hc : Nat) (h : W.heap[p]? = some (.cells #[.slice ha hn hc] 27 (0, 0))) (a : Option Addr) (cap : Nat) (l : List Sy) (hr : SyAt W.heap.size W a l) (hne : ¬ l = [] → ∀ ad, a = some ad → ¬ SL p g ad.block) (hcap : l.length ≤ cap) (hhn : hn < 2 * l.length + 70) (hg : g = W.heap.size) (hm0 : m = 4 * l.length + 200) (hL : L = List.replicate m zeroY) (hll : l.length ≤ 100000000000) :
    Calls Try.prog 19 #[.pointer (some ⟨p, 0, none⟩), .slice a l.length cap] W fun e w' => LendEnd W p g m l L e w' := by
  have hplt : p < W.heap.size := (Array.getElem?_eq_some_iff.1 h).1
  have HR := hidOf hr
  have HNe := hidOf hne
  have hcI : (l.length : Int) ≤ cap := by omega
  have c0 : W.cell? ⟨p, 0, none⟩ = some (.slice ha hn hc) := by rw [cell_atL h]; rfl
  have f0 : W.frozen? ⟨p, 0, none⟩ = false := frozen_atL h 0
  have hmk : (Instr.makeSlice 25 (.int .i64 (4 * (l.length : Int) + 200)) (.int .i64 (4 * (l.length : Int) + 200))).run Try.prog W = .ok (.slice (some ⟨g, 0, none⟩) m m) (W.alloc (.cells (syV L).toArray 57)) := by
    have := run_make_syms m (by omega) W
    rw [← hL, ← hg, hm0] at this
    simpa [hm0] using this
  have hsm : (hn : Int) < 2 * (l.length : Int) + 70 := by omega
  have hsz : (W.setCell ⟨p, 0, none⟩ (.slice (some ⟨g, 0, none⟩) m m)).heap.size = W.heap.size := by simp [World.setCell]
  have H : Hid (Db ((W.setCell ⟨p, 0, none⟩ (.slice (some ⟨g, 0, none⟩) m m)).alloc (.cells (syV L).toArray 57)) p g m (ovY 0 (tgY l) L)) := by
    refine ⟨?_, ?_, by rw [show ovY 0 (tgY l) L = L from rfl, hL]; simp⟩
    · rw [Below.heap_alloc _ _ _ (by rw [hsz]; exact hplt), set_atL h]; rfl
    · have := heap_alloc_new (W.setCell ⟨p, 0, none⟩ (.slice (some ⟨g, 0, none⟩) m m)) (.cells (syV L).toArray 57)
      rw [hsz, ← hg] at this
      exact this
  have HC0 : Hid (Chg (SL p g) W ((W.setCell ⟨p, 0, none⟩ (.slice (some ⟨g, 0, none⟩) m m)).alloc (.cells (syV L).toArray 57))) := (Chg.setCell (Chg.refl _ W) (p := ⟨p, 0, none⟩) (.inl rfl) _).alloc _
  have HLl : Hid (L.length = m) := by rw [hL]; exact hidOf (by simp)
  have hm : 2 * l.length + 70 ≤ m := by omega
  have hmm : m ≤ 1000000000000 := by omega
  have Hx := hidOf (And.intro hg hm0)
  clear h hr hne hm0 hg hL
  go_enter Try.func19, Try.ntmps19
  go_upto_region 3 with fail
  generalize (W.setCell ⟨p, 0, none⟩ (.slice (some ⟨g, 0, none⟩) m m)).alloc (.cells (syV L).toArray 57) = W1 at *
  clear c0 f0 hmk hsm hsz hhn
  go_wp2
  go_loopw [5] (fun kv wr => ∃ j : Nat, kv = .int .i64 j ∧ j ≤ 2 * l.length + 70 ∧ Hid (Db wr p g m (ovY j (tgY l) L)) ∧ Hid (Chg (SL p g) W wr)) (fun kv _ => 2 * l.length + 70 - (intOf kv).toNat)
  case atStart => exact ⟨0, rfl, by omega, H, HC0⟩
  case round =>
    clear H HC0
    obtain ⟨j, rfl, hj, HB, HC⟩ := hrel
    have d0 := HB.out.c0
    have hj0 : (0 : Int) ≤ j := by omega
    by_cases hlt : j < 2 * l.length + 70
    · have hltI : (j : Int) < 2 * (l.length : Int) + 70 := by omega
      have hjm : (j : Int) < m := by omega
      have hjl : Hid (j < (ovY j (tgY l) L).length) := by rw [ovY_len (by rw [tgY_len]; omega) (by rw [tgY_len, HLl.out]; omega), HLl.out]; exact hidOf (by omega)
      obtain ⟨z, hz⟩ : ∃ z, (ovY j (tgY l) L)[j]? = some z := ⟨_, List.getElem?_eq_getElem hjl.out⟩
      obtain ⟨y0, y1, y2, y3, y4, y5⟩ := HB.out.hg.cells hz
      have f0 := HB.out.hg.frozen (j * 6)
      have f1 := HB.out.hg.frozen (j * 6 + 1)
      have f2 := HB.out.hg.frozen (j * 6 + 2)
      have f3 := HB.out.hg.frozen (j * 6 + 3)
      have f4 := HB.out.hg.frozen (j * 6 + 4)
      have f5 := HB.out.hg.frozen (j * 6 + 5)
      have hgp : ¬ g = p := fun e => HB.out.ne e.symm
      have Hz := hidOf hz
      clear hz
      go_upto_region 6 with fail
      go_region_held3 (fun w' => w'.cell? ⟨p, 0, none⟩ = some (.slice (some ⟨g, 0, none⟩) m m)) (first | with_reducible exact d0 | with_reducible exact e0 | go_keep) (first | (go_at_call 36; refine (behindY_any j (by omega) _).mono ?_; rintro e w2 ⟨rfl, h2⟩; have e0 := cell_later h2 (show (World.drew _).cell? _ = _ from d0); have B2 := hidOf (HB.out.drew.out h2); have C2 := hidOf (HC.out.drew.then_out h2); obtain ⟨x0, x1, x2, x3, x4, x5⟩ := B2.out.hg.cells Hz.out; have g0 := B2.out.hg.frozen (j * 6); have g1 := B2.out.hg.frozen (j * 6 + 1); have g2 := B2.out.hg.frozen (j * 6 + 2); have g3 := B2.out.hg.frozen (j * 6 + 3); have g4 := B2.out.hg.frozen (j * 6 + 4); have g5 := B2.out.hg.frozen (j * 6 + 5); clear h2))
      have B3 := hidOf (B2.out.set hjl.out (-9 - (j : Int)) 0 0 0 (3 * (j : Int)) 0)
      have C3 := hidOf (chg6 C2.out (j * 6) (-9 - (j : Int)) 0 0 0 (3 * (j : Int)) 0)
      unfold putY at B3 C3
      generalize (((((w2.setCell ⟨g, j * 6, none⟩ (.int .i64 (-9 - (j : Int)))).setCell ⟨g, j * 6 + 1, none⟩ (.int .i64 0)).setCell ⟨g, j * 6 + 2, none⟩ (.int .i64 0)).setCell ⟨g, j * 6 + 3, none⟩ (.int .i64 0)).setCell ⟨g, j * 6 + 4, none⟩ (.int .i64 (3 * (j : Int)))).setCell ⟨g, j * 6 + 5, none⟩ (.int .i64 0) = w3 at *
      clear y0 y1 y2 y3 y4 y5 f0 f1 f2 f3 f4 f5 x0 x1 x2 x3 x4 x5 g0 g1 g2 g3 g4 g5 d0 e0
      by_cases hjn : j < l.length
      · have hjnI : (j : Int) < l.length := by omega
        obtain ⟨x, hx⟩ : ∃ x, l[j]? = some x := ⟨_, List.getElem?_eq_getElem hjn⟩
        have hln : ¬ l = [] := fun e => by rw [e] at hjn; simp at hjn
        obtain ⟨b, off, rfl, _, hX⟩ := (HR.out.keep C3.out (Nat.le_refl _) HNe.out).get hx
        have HOv := hidOf (ovY_put (y := ⟨-9 - (j : Int), 0, 0, 0, 3 * (j : Int), 0⟩) (L := L) (tgY_lo hx) (by rw [tgY_len, HLl.out]; omega))
        obtain ⟨na, bi, ki, se, va, si⟩ := x
        obtain ⟨q0, q1, q2, q3, q4, q5⟩ := hX
        simp only at q0 q1 q2 q3 q4 q5
        have Hbg : Hid (¬ g = b) := hidOf (fun e => HNe.out hln _ rfl (.inr e.symm))
        have hgb := Hbg.out
        have hjl3 : Hid (j < ((ovY j (tgY l) L).set j ⟨-9 - (j : Int), 0, 0, 0, 3 * (j : Int), 0⟩).length) := by rw [List.length_set]; exact hjl
        obtain ⟨z3, hz3⟩ : ∃ z, ((ovY j (tgY l) L).set j ⟨-9 - (j : Int), 0, 0, 0, 3 * (j : Int), 0⟩)[j]? = some z := ⟨_, List.getElem?_eq_getElem hjl3.out⟩
        have B4a := B3.out.drew.set hjl3.out na bi ki se va si
        have C4a := chg6 C3.out.drew (j * 6) na bi ki se va si
        have B4b := (B3.out.set hjl3.out na bi ki se va si).drew
        have C4b := (chg6 C3.out (j * 6) na bi ki se va si).drew
        rw [HOv.out] at B4a B4b
        unfold putY at B4a C4a B4b C4b
        have HB4a := hidOf B4a
        have HC4a := hidOf C4a
        have HB4b := hidOf B4b
        have HC4b := hidOf C4b
        clear B4a C4a B4b C4b
        obtain ⟨x0, x1, x2, x3, x4, x5⟩ := B3.out.hg.cells hz3
        have g0 := B3.out.hg.frozen (j * 6)
        have g1 := B3.out.hg.frozen (j * 6 + 1)
        have g2 := B3.out.hg.frozen (j * 6 + 2)
        have g3 := B3.out.hg.frozen (j * 6 + 3)
        have g4 := B3.out.hg.frozen (j * 6 + 4)
        have g5 := B3.out.hg.frozen (j * 6 + 5)
        have d3 := B3.out.c0
        clear hx hz3
        go_upto_region 8 with fail
        go_region_law (fail)
        all_goals
          go_wp2
          go_roundw
          case rel =>
            refine ⟨j + 1, by simp, by omega, ?_, ?_⟩
            · first | with_reducible exact HB4a | with_reducible exact HB4b
            · first | with_reducible exact HC4a | with_reducible exact HC4b
          case measure => simp [intOf]; omega
      · have hjnI : ¬ (j : Int) < l.length := by omega
        have HOv := hidOf (ovY_set (L := L) (tgY_hi (l := l) (j := j) (by omega) hlt) (by rw [tgY_len, HLl.out]; omega))
        go_wp2
        go_roundw
        case rel =>
          refine ⟨j + 1, by simp, by omega, ?_, C3⟩
          have h := B3.out
          rw [show (⟨-9 - (j : Int), 0, 0, 0, 3 * (j : Int), 0⟩ : Sy) = behY j from rfl, HOv.out] at h
          exact hidOf h
        case measure => simp [intOf]; omega
    · have hltI : ¬ (j : Int) < 2 * (l.length : Int) + 70 := by omega
      obtain rfl : j = 2 * l.length + 70 := by omega
      have hmI : 2 * (l.length : Int) + 70 ≤ m := by omega
      go_wp2
      go_ret
      have h := HB.out
      rw [show ovY (2 * l.length + 70) (tgY l) L = tgY l ++ L.drop (2 * l.length + 70) by unfold ovY; rw [List.take_of_length_le (by rw [tgY_len]; omega)]] at h
      exact ⟨rfl, h, HC.out⟩
end Go.Proofs.Ytikmaoigepoeoaa
