import Derived.Test.YteobjcghfdpfbaaDoorAn
namespace Go.Proofs.YteobjcghfdpfbaaDoor
open Go.RowKit
set_option linter.unusedVariables false
set_option linter.unusedSimpArgs false
/-- what stands behind instructions that are lent -/
def behI (i : Nat) : Ins := ⟨149, -7 - i, 0, 0, i⟩
def behL (a k : Nat) : List Ins := (List.range' a k).map behI
theorem behL_len (a k : Nat) : (behL a k).length = k := by simp [behL]
theorem behind_any (i : Nat) (hi : i ≤ 1000000000000000) (w : World) : Calls Tryd.prog 29 #[.int .i64 i] w fun e w' => e = .returned (.agg #[.int .i64 149, .int .i64 (-7 - i), .int .i64 0, .int .i64 0, .int .i64 i]) ∧ Out w w' := by
  go_enter Tryd.func29, Tryd.ntmps29
  go_wp2
  refine bodyPost_ret (results_cell_row rfl _ _ w.heap.size 55 _ (0, 0) _ rfl (heap_alloc_new _ _) Tryd.underlying55 rfl size55) rfl ?_
  exact ⟨rfl, Out.alloc (Out.refl _) _⟩
/-- instructions that are lent: the list, and what stands behind it -/
structure Lent (w0 w : World) (g n : Nat) (l : List Ins) : Prop where
  row : RowI w g (l ++ behL n (n + 70)) []
  len_ : l.length = n
  new : w0.heap.size ≤ g
theorem Lent.out {w0 w w' : World} {g n : Nat} {l : List Ins} (h : Lent w0 w g n l) (o : Out w w') : Lent w0 w' g n l := ⟨h.row.out o, h.len_, h.new⟩
theorem Lent.insA {w0 w : World} {g n : Nat} {l : List Ins} (h : Lent w0 w g n l) : InsA w (some ⟨g, 0, none⟩) l := h.row.split.insA
set_option maxRecDepth 20000 in
theorem lend_any (w : World) (a : Option Addr) (n cap : Nat) (l : List Ins) (hn : l.length = n) (hi : InsA w a l) (hm : n ≤ 3518437208780) : Calls Tryd.prog 9 #[.slice a n cap] w fun e w' => ∃ g, e = .returned (.slice (some ⟨g, 0, none⟩) n (2 * n + 70)) ∧ Lent w w' g n l ∧ Out w w' := by
  have hmk : ∀ wx : World, (Instr.makeSlice 22 (.int .i64 (2 * (n : Int) + 70)) (.int .i64 (2 * (n : Int) + 70))).run Tryd.prog wx = .ok (.slice (some ⟨wx.heap.size, 0, none⟩) (2 * n + 70) (2 * n + 70)) (wx.alloc (.cells (insV (List.replicate (2 * n + 70) zeroI)).toArray 55)) := fun wx => by
    have := run_make_ins (2 * n + 70) (by omega) wx
    simpa using this
  have Hn := hidOf hn
  have Hi := hidOf hi
  clear hn hi
  go_enter Tryd.func9, Tryd.ntmps9
  go_wp2
  clear hmk
  have hN : (2 * n + 70 : Nat) = 2 * n + 70 := rfl
  go_loopw [4] (fun i wr => ∃ j : Nat, j ≤ 2 * n + 70 ∧ i = .int .i64 j ∧ Hid (RowI wr w.heap.size (behL 0 j ++ List.replicate (2 * n + 70 - j) zeroI) []) ∧ Hid (Out w wr)) (fun i _ => 2 * n + 70 - (intOf i).toNat)
  case atStart =>
    refine ⟨0, by omega, rfl, ?_, hidOf (Out.alloc (Out.refl _) _)⟩
    have := heap_alloc_new w (.cells (insV (List.replicate (2 * n + 70) zeroI)).toArray 55)
    simpa [Hid, RowI, behL] using this
  case round =>
    obtain ⟨j, hj, rfl, Hr, Ho⟩ := hrel
    by_cases hjn : j < 2 * n + 70
    · have hlt : (j : Int) < 2 * (n : Int) + 70 := by omega
      have hx : (behL 0 j ++ List.replicate (2 * n + 70 - j) zeroI)[j]? = some zeroI := by
        rw [List.getElem?_append_right (by rw [behL_len]; omega), behL_len, Nat.sub_self, List.getElem?_replicate, if_pos (by omega)]
      have hnew : (behL 0 j ++ List.replicate (2 * n + 70 - j) zeroI).set j (behI j) = behL 0 (j + 1) ++ List.replicate (2 * n + 70 - (j + 1)) zeroI := by
        rw [List.set_append_right _ _ (by rw [behL_len]; omega), behL_len, Nat.sub_self]
        have e1 : 2 * n + 70 - j = (2 * n + 70 - (j + 1)) + 1 := by omega
        rw [e1, List.replicate_succ, List.set_cons_zero]
        simp only [behL, List.range'_concat, Nat.zero_add, Nat.one_mul, List.map_append, List.map_cons, List.map_nil, List.append_assoc]
        rfl
      obtain ⟨c0, c1, c2, c3, c4⟩ := Hr.out.cells hx
      have f0 := Hr.out.frozen (j * 5)
      have f1 := Hr.out.frozen (j * 5 + 1)
      have f2 := Hr.out.frozen (j * 5 + 2)
      have f3 := Hr.out.frozen (j * 5 + 3)
      have f4 := Hr.out.frozen (j * 5 + 4)
      have Hx := hidOf hx
      have Hnew := hidOf hnew
      clear hx hnew
      simp only [zeroI] at c0 c1 c2 c3 c4
      go_wp2_with (go_at_call 29; refine (behind_any j (by omega) _).mono ?_; rintro e w1 ⟨rfl, h1⟩; have Hr1 := hidOf (Hr.out.out h1); have Ho1 := hidOf (Out.trans Ho.out h1); obtain ⟨d0, d1, d2, d3, d4⟩ := Hr1.out.cells Hx.out; have g0 := Hr1.out.frozen (j * 5); have g1 := Hr1.out.frozen (j * 5 + 1); have g2 := Hr1.out.frozen (j * 5 + 2); have g3 := Hr1.out.frozen (j * 5 + 3); have g4 := Hr1.out.frozen (j * 5 + 4); simp only [zeroI] at d0 d1 d2 d3 d4)
      go_roundw
      case rel =>
        refine ⟨j + 1, by omega, by simp, ?_, ?_⟩
        · have := Hr1.out.set (i := j) (by simp [behL_len]; omega) 149 (-7 - j) 0 0 j
          rw [show (⟨149, -7 - (j : Int), 0, 0, (j : Int)⟩ : Ins) = behI j from rfl, Hnew.out] at this
          exact this
        · exact hidOf (((((Ho1.out.setCell (a := ⟨w.heap.size, j * 5, none⟩) (Nat.le_refl _) _).setCell (a := ⟨w.heap.size, j * 5 + 1, none⟩) (Nat.le_refl _) _).setCell (a := ⟨w.heap.size, j * 5 + 2, none⟩) (Nat.le_refl _) _).setCell (a := ⟨w.heap.size, j * 5 + 3, none⟩) (Nat.le_refl _) _).setCell (a := ⟨w.heap.size, j * 5 + 4, none⟩) (Nat.le_refl _) _)
      case measure => simp [intOf]; omega
    · have hlt : ¬ (j : Int) < 2 * (n : Int) + 70 := by omega
      have Hje : Hid (j = 2 * n + 70) := by show _ = _; omega
      have hle : (n : Int) ≤ 2 * (n : Int) + 70 := by omega
      have hcz : ¬ 2 * n + 70 = 0 := by omega
      obtain ⟨w1, hcp, hR1, hC1⟩ := run_copy_ins wr 3 w.heap.size (2 * n + 70) (2 * n + 70) a n cap _ l [] Hr.out Hn.out (Hi.out.out Ho.out) (by omega) (by simp [behL_len]; omega)
      have HR1 := hidOf hR1
      have HC1 := hidOf hC1
      clear hR1 hC1
      go_wp2
      go_ret
      refine ⟨w.heap.size, rfl, ⟨?_, Hn.out, Nat.le_refl _⟩, Chg.out HC1.out Ho.out (fun k hk => by omega)⟩
      have hR1 := HR1.out
      rw [Hje.out] at hR1
      have e : (behL 0 (2 * n + 70) ++ List.replicate (2 * n + 70 - (2 * n + 70)) zeroI).drop n = behL n (n + 70) := by
        simp only [Nat.sub_self, List.replicate_zero, List.append_nil, behL, ← List.map_drop, List.drop_range']
        congr 2 <;> omega
      rw [e] at hR1
      exact hR1
end Go.Proofs.YteobjcghfdpfbaaDoor
