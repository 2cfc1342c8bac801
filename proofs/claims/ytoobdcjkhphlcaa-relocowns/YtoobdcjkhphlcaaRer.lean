import Derived.Test.YtoobdcjkhphlcaaReq
namespace Go.Proofs.Ytoobdcjkhphlcaa
open Go.RowKit
set_option linter.unusedVariables false
set_option linter.unusedSimpArgs false
theorem sameRels_eq (w : World) (a a' : Option Addr) (c c' : Nat) (L : List Rl) (h : RlAt w.heap.size w a L) (h' : RlAt w.heap.size w a' L) (hl : L.length ≤ 140737488355328) : Calls Try.prog 19 #[.slice a L.length c, .slice a' L.length c'] w fun e w' => e = .returned (.bool true) ∧ Out w w' := by
  refine (sameRels_any w a a' c c' L L h h' hl).mono ?_
  rintro e w' ⟨he, ho⟩
  exact ⟨by rw [he]; simp, ho⟩
set_option maxRecDepth 20000 in
set_option maxHeartbeats 3000000 in
theorem tback_any (w : World) (p g m : Nat) (l : List Rl) (h : Tb w p g m (l ++ behsR l.length (m - l.length))) (a : Option Addr) (cap : Nat) (hr : RlAt w.heap.size w a l) (hmm : m ≤ 1000000000000) (hlm : l.length ≤ m) :
    Calls Try.prog 25 #[.pointer (some ⟨p, 0, none⟩), .slice a l.length cap] w fun e w' => e = .returned (.bool true) ∧ (∃ L', Tb w' p g m L') ∧ Chg (SL p g) w w' := by
  have H := hidOf h
  have c0 := h.c0
  have CS := hidOf (sameRels_eq w (some ⟨g, 0, none⟩) a m cap l h.hg.rels hr (by omega))
  have hmI : (l.length : Int) ≤ m := by omega
  clear h hr
  go_enter Try.func25, Try.ntmps25
  go_upto_region 2 with (go_at_call 19; refine CS.out.mono ?_; rintro e w1 ⟨rfl, ho⟩; have O1 := hidOf ho; clear ho)
  clear c0
  go_wp2
  go_loopw [5, 6] (fun okv kv wr => ∃ j : Nat, okv = .bool true ∧ kv = .int .i64 j ∧ l.length ≤ j ∧ j ≤ m ∧ Hid (Out w wr)) (fun _ kv _ => m - (intOf kv).toNat)
  case atStart => exact ⟨l.length, rfl, rfl, by omega, by omega, O1⟩
  case round =>
    obtain ⟨j, rfl, rfl, hj0, hj, HO⟩ := hrel
    have HB := hidOf (H.out.out HO.out)
    have d0 := HB.out.c0
    by_cases hlt : j < m
    · have hltI : (j : Int) < m := by omega
      have hx : (l ++ behsR l.length (m - l.length))[j]? = some (behR j) := by
        rw [List.getElem?_append_right (by omega), behsR_get (by omega), show l.length + (j - l.length) = j by omega]
      obtain ⟨y0, y1, y2⟩ := HB.out.hg.cells hx
      simp only [behR] at y0 y1 y2
      clear hx
      go_upto_region 5 with fail
      go_region_held3 (fun w' => w'.cell? ⟨p, 0, none⟩ = some (.slice (some ⟨g, 0, none⟩) m m) ∧ w'.cell? ⟨g, j * 3, none⟩ = some (.int .i64 (-1 - (j : Int))) ∧ w'.cell? ⟨g, j * 3 + 1, none⟩ = some (.int .i64 40) ∧ w'.cell? ⟨g, j * 3 + 2, none⟩ = some (.int .i64 (j : Int))) (go_keep) (first | (go_at_call 40; refine (behind_any j (by omega) _).mono ?_; rintro e w2 ⟨rfl, h2⟩; have e0 := cell_later h2 d0; have z0 := cell_later h2 y0; have z1 := cell_later h2 y1; have z2 := cell_later h2 y2))
      go_wp2
      go_roundw
      case rel => exact ⟨j + 1, rfl, by simp, by omega, by omega, hidOf (Out.trans (HO.out.drewN _) h2)⟩
      case measure => simp [intOf]; omega
    · have hltI : ¬ (j : Int) < m := by omega
      go_wp2
      obtain ⟨w2, hw2⟩ : ∃ w2, w2 = wr := ⟨_, rfl⟩
      rw [← hw2] at HB HO
      have Hw2 := hidOf hw2
      clear hw2 d0
      go_loopw [7] (fun kv wr => ∃ (j : Nat) (L : List Rl), kv = .int .i64 j ∧ j ≤ l.length ∧ Hid (Tb wr p g m L) ∧ Hid (Chg (SL p g) w wr)) (fun kv _ => l.length - (intOf kv).toNat)
      case atStart => exact ⟨0, _, rfl, by omega, by rw [← Hw2.out]; exact HB, by rw [← Hw2.out]; exact Chg.of_out HO.out⟩
      case round =>
        clear HB HO Hw2
        obtain ⟨j, L, rfl, hj, HB, HC⟩ := hrel
        have d0 := HB.out.c0
        by_cases hlt : j < l.length
        · have hltI : (j : Int) < l.length := by omega
          have hjl : Hid (j < L.length) := by have := HB.out.len_; exact hidOf (by omega)
          obtain ⟨z, hz⟩ : ∃ z, L[j]? = some z := ⟨_, List.getElem?_eq_getElem hjl.out⟩
          obtain ⟨y0, y1, y2⟩ := HB.out.hg.cells hz
          have f0 := HB.out.hg.frozen (j * 3)
          have f1 := HB.out.hg.frozen (j * 3 + 1)
          have f2 := HB.out.hg.frozen (j * 3 + 2)
          have hjm : (j : Int) < m := by omega
          clear hz
          go_wp2
          go_roundw
          case rel => exact ⟨j + 1, _, by simp, by omega, hidOf (HB.out.set hjl.out 0 39 0), hidOf (chg3 HC.out (j * 3) _ _ _)⟩
          case measure => simp [intOf]; omega
        · have hltI : ¬ (j : Int) < l.length := by omega
          go_wp2
          go_ret
          exact ⟨rfl, ⟨_, HB.out⟩, HC.out⟩
end Go.Proofs.Ytoobdcjkhphlcaa
