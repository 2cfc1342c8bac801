import Derived.Test.YtlfcjbeldnkkoaaGb10
namespace Go.Proofs.Ytlfcjbeldnkkoaa
open Go.RowKit
set_option linter.unusedVariables false
set_option linter.unusedSimpArgs false
/-- how many entries the header tells -/
def cntP (b : List UInt8) : Nat := nmB ((b.drop 60).take 2)
theorem cntP_lt (b : List UInt8) : cntP b < 65536 := by
  have h := nmB_lt ((b.drop 60).take 2)
  have : 256 ^ ((b.drop 60).take 2).length ≤ 256 ^ 2 := Nat.pow_le_pow_right (by omega) (by rw [List.length_take]; omega)
  unfold cntP
  omega
/-- bytes that came in -/
structure Bin (w : World) (g off c : Nat) (b : List UInt8) : Prop where
  lt : g < w.heap.size
  at_ : BAt w g off b
  cap : b.length ≤ c
  big : b.length ≤ 1000000000000
theorem Bin.out {w w' : World} {g off c : Nat} {b : List UInt8} (h : Bin w g off c b) (o : Out w w') : Bin w' g off c b := ⟨Nat.lt_of_lt_of_le h.lt o.size, h.at_.out h.lt o, h.cap, h.big⟩
theorem Bin.num {w : World} {g off c : Nat} {b : List UInt8} (h : Bin w g off c b) (i n c' : Nat) (hn : n ≤ 8) (hi : i + n ≤ b.length) : Calls Try.prog 70 #[.slice (some ⟨g, off + i, none⟩) n c'] w fun e w' => e = .returned (.int .u64 (nmB ((b.drop i).take n) : Nat)) ∧ w' = w := by
  have hl : ((b.drop i).take n).length = n := by rw [List.length_take, List.length_drop]; omega
  have := number_any w.heap.size (some ⟨g, off + i, none⟩) c' ((b.drop i).take n) w ((h.at_.cut i n).rest h.lt) (by omega)
  rwa [hl] at this
theorem count_any (w : World) (g off c : Nat) (b : List UInt8) (h : Bin w g off c b) (hl : 64 ≤ b.length) : Calls Try.prog 49 #[.slice (some ⟨g, off, none⟩) b.length c] w fun e w' => e = .returned (.int .i64 (cntP b : Nat)) ∧ w' = w := by
  have HN := hidOf (h.num 60 2 (c - 60) (by omega) (by omega))
  have hlt := cntP_lt b
  have hc1 : (62 : Int) ≤ c := by have := h.cap; omega
  have hcp : ¬ c = 60 := by have := h.cap; omega
  have hlI : (64 : Int) ≤ b.length := by omega
  unfold cntP at *
  generalize nmB ((b.drop 60).take 2) = n at *
  have hnI : (n : Int) < 65536 := by omega
  clear h
  go_enter Try.func49, Try.ntmps49
  go_wp2_with (go_at_call 70; refine (HN.out).mono ?_; rintro e w1 ⟨rfl, hw⟩; have hw := hw.symm; subst hw)
  go_ret
  exact ⟨rfl, rfl⟩
theorem headF_wid' (t c s : Nat × Nat) : widF (headF t c s) = 64 := by
  have e : widF (headF t c s) = widF (bwF hdA) + 8 + widF (bwF hdB) + 4 := by simp [headF, widF]; omega
  rw [e, bwF_wid, bwF_wid]; decide
theorem headF_len' (t c s : Nat × Nat) : (headF t c s).length = 55 := by simp [headF, bwF_len]; decide
theorem headF_w' (t c s : Nat × Nat) : ∀ f ∈ headF t c s, 1 ≤ f.w ∧ f.w ≤ 8 := by
  intro f hf
  simp only [headF, List.mem_append, List.mem_cons, List.not_mem_nil, or_false] at hf
  rcases hf with ((hf | hf) | hf) | hf | hf
  · have := bwF_w _ f hf; omega
  · rw [hf]; simp
  · have := bwF_w _ f hf; omega
  · rw [hf]; simp
  · rw [hf]; simp
def tpP (b : List UInt8) : Int := (b.length : Int) - 64 * cntP b
theorem table_any (w : World) (g off c : Nat) (b : List UInt8) (h : Bin w g off c b) (hl : 64 ≤ b.length) : Calls Try.prog 19 #[.slice (some ⟨g, off, none⟩) b.length c] w fun e w' => e = .returned (.int .i64 (tpP b)) ∧ w' = w := by
  have HN := hidOf (count_any w g off c b h hl)
  have hlt := cntP_lt b
  have hb := h.big
  unfold tpP
  generalize cntP b = n at *
  have hnI : (n : Int) < 65536 := by omega
  have hbI : (b.length : Int) ≤ 1000000000000 := by omega
  clear h
  go_enter Try.func19, Try.ntmps19
  go_wp2_with (go_at_call 49; refine (HN.out).mono ?_; rintro e w1 ⟨rfl, hw⟩; have hw := hw.symm; subst hw)
  go_ret
  exact ⟨rfl, rfl⟩
def tsP (b : List UInt8) : Nat × Nat := if 64 ≤ tpP b ∧ tpP b % 8 = 0 then (jw (tpP b), jw (tpP b)) else (1, 0)
def hfP (b : List UInt8) : List Fd := headF (tsP b) (2, 18) (jw ((cntP b : Int) - 1), jw ((cntP b : Int) - 1))
def hdFlt (b : List UInt8) : Option Nat := fltF b 0 (hfP b)
theorem up8_eq (n : Nat) : up8 n = n ↔ n % 8 = 0 := by unfold up8; omega
set_option maxRecDepth 100000 in
set_option maxHeartbeats 4000000 in
theorem headFault_any (w : World) (g off c : Nat) (b : List UInt8) (h : Bin w g off c b) (hl : 64 ≤ b.length) : Calls Try.prog 18 #[.slice (some ⟨g, off, none⟩) b.length c] w fun e w' => e = .returned (.tuple #[.int .i64 ((hdFlt b).getD 0 : Nat), .bool (hdFlt b).isSome]) ∧ Out w w' := by
  have HB := hidOf h
  have CT := hidOf (fun wx (o : Out w wx) => table_any wx g off c b (h.out o) hl)
  have CC := hidOf (fun wx (o : Out w wx) => count_any wx g off c b (h.out o) hl)
  have CF : Hid (∀ wx fa fc, Out w wx → OwF 0 (.slice fa 55 fc) (hfP b) wx → Calls Try.prog 48 #[.slice (some ⟨g, off, none⟩) b.length c, .slice fa 55 fc] wx fun e w' => e = .returned (.tuple #[.int .i64 ((hdFlt b).getD 0 : Nat), .bool (hdFlt b).isSome]) ∧ Out wx w') := by
    intro wx fa fc o hF
    have h5 : (hfP b).length = 55 := headF_len' _ _ _
    have := fault_any wx g off c b fa fc (hfP b) (h.out o).lt (h.out o).at_ h.cap h.big (by rw [h5]; exact hF) (headF_w' _ _ _) (by rw [hfP, headF_wid']; exact hl) (by omega)
    rwa [h5] at this
  have hfe : Hid (∀ t, t = tsP b → hfP b = headF t (2, 18) (jw ((cntP b : Int) - 1), jw ((cntP b : Int) - 1))) := fun t ht => by rw [ht]; rfl
  have hlt := cntP_lt b
  have hb := h.big
  obtain ⟨tp, htp⟩ : ∃ tp, tp = tpP b := ⟨_, rfl⟩
  have htb : tp ≤ 1000000000000 ∧ -10000000 ≤ tp := by rw [htp, tpP]; omega
  have Htp := hidOf htp
  rw [← htp] at CT
  generalize cntP b = n at *
  have hnI : (n : Int) < 65536 := by omega
  have hwr : IntKind.i64.wrap ((n : Int) - 1) = (n : Int) - 1 := by rw [IntKind.wrap_i64]; omega
  generalize hdFlt b = F at *
  clear h htp hb
  go_enter Try.func18, Try.ntmps18
  go_upto_region 2 with (go_at_call 46; refine (none_any _).mono ?_; rintro e w1 ⟨rfl, rfl⟩)
  obtain ⟨q, hq⟩ : ∃ q, q = w.heap.size + 1 := ⟨_, rfl⟩
  have HQ : Hid (((w.alloc (.cells #[.int .u64 1, .int .u64 0] 76)).alloc (.cells #[.int .u64 1, .int .u64 0] 76)).heap[q]? = some (.cells #[.int .u64 1, .int .u64 0] 76 (0, 0))) := hidOf (by rw [hq]; exact heap_new2 w _ _)
  have HO2 := hidOf (((Out.refl w).alloc (.cells #[.int .u64 1, .int .u64 0] 76)).alloc (.cells #[.int .u64 1, .int .u64 0] 76))
  rw [← hq]
  have hqw : w.heap.size ≤ q := by omega
  clear hq
  generalize (w.alloc (.cells #[.int .u64 1, .int .u64 0] 76)).alloc (.cells #[.int .u64 1, .int .u64 0] 76) = W2 at *
  have J := hidOf (fun k wx => just_of (W := w) k wx)
  have CH : Hid (∀ t1 t2 c1 c2 s1 s2 wx, Out w wx → Calls Try.prog 30 #[.agg #[.int .u64 ((t1 : Nat) : Int), .int .u64 ((t2 : Nat) : Int)], .agg #[.int .u64 ((c1 : Nat) : Int), .int .u64 ((c2 : Nat) : Int)], .agg #[.int .u64 ((s1 : Nat) : Int), .int .u64 ((s2 : Nat) : Int)]] wx fun e w' => ∃ a c, e = .returned (.slice a 55 c) ∧ OwF 0 (.slice a 55 c) (headF (t1, t2) (c1, c2) (s1, s2)) w' ∧ Out w w') := fun t1 t2 c1 c2 s1 s2 wx ho => (head_any t1 t2 c1 c2 s1 s2 wx).mono fun e w' ⟨a, c, he, h1, h2⟩ => ⟨a, c, he, own_base h1 (Nat.zero_le _), ho.trans h2⟩
  by_cases hgood : 64 ≤ tp ∧ tp % 8 = 0
  · obtain ⟨m, rfl⟩ : ∃ m : Nat, tp = m := ⟨tp.toNat, by omega⟩
    have hue : up8 m = m := (up8_eq m).2 (by omega)
    have CU := hidOf (up8_any m (by omega) W2)
    rw [hue] at CU
    have h64 : (64 : Int) ≤ m := hgood.1
    have hmm : ((m : Int) == m) = true := by simp
    have HJ := hidOf (just_any (m : Int) W2)
    obtain ⟨W3, hW3⟩ : ∃ W3, W3 = W2.alloc (.cells #[.int .u64 ((jw m : Nat) : Int), .int .u64 ((jw m : Nat) : Int)] 76) := ⟨_, rfl⟩
    rw [← hW3] at HJ
    have hQ3 : W3.heap[q]? = some (.cells #[.int .u64 1, .int .u64 0] 76 (0, 0)) := by
      rw [hW3]; exact (Below.heap_alloc W2 _ _ (Array.getElem?_eq_some_iff.1 HQ.out).1).trans HQ.out
    have HO3 : Hid (Out w W3) := hidOf (by rw [hW3]; exact HO2.out.alloc _)
    have s0 : W3.cell? ⟨q, 0, none⟩ = some (.int .u64 1) := box_cell hQ3 0
    have s1 : W3.cell? ⟨q, 1, none⟩ = some (.int .u64 0) := box_cell hQ3 1
    have f0 : W3.frozen? ⟨q, 0, none⟩ = false := by simp [World.frozen?, hQ3]
    have f1 : W3.frozen? ⟨q, 1, none⟩ = false := by simp [World.frozen?, hQ3]
    have HQ4 : Hid (((W3.setCell ⟨q, 0, none⟩ (.int .u64 ((jw m : Nat) : Int))).setCell ⟨q, 1, none⟩ (.int .u64 ((jw m : Nat) : Int))).heap[q]? = some (.cells #[.int .u64 ((jw m : Nat) : Int), .int .u64 ((jw m : Nat) : Int)] 76 (0, 0))) := hidOf (by simp [World.setCell, Array.getElem?_modify, hQ3])
    have HO4 : Hid (Out w ((W3.setCell ⟨q, 0, none⟩ (.int .u64 ((jw m : Nat) : Int))).setCell ⟨q, 1, none⟩ (.int .u64 ((jw m : Nat) : Int)))) := hidOf ((HO3.out.setCell (a := ⟨q, 0, none⟩) hqw _).setCell (a := ⟨q, 1, none⟩) hqw _)
    clear hQ3 hW3 hue
    go_upto_region 5 with (first | (go_at_call 19; refine (CT.out _ HO2.out).mono ?_; rintro e w1 ⟨rfl, hw⟩; have hw := hw.symm; subst hw) | (go_at_call 47; refine (CU.out).mono ?_; rintro e w1 ⟨rfl, hw⟩; have hw := hw.symm; subst hw) | (go_at_call 31; refine (HJ.out).mono ?_; rintro e w1 ⟨rfl, hw⟩; have hw := hw.symm; subst hw))
    clear s0 s1 f0 f1
    generalize (W3.setCell ⟨q, 0, none⟩ (.int .u64 ((jw m : Nat) : Int))).setCell ⟨q, 1, none⟩ (.int .u64 ((jw m : Nat) : Int)) = W4 at *
    have q0 : W4.cell? ⟨q, 0, none⟩ = some (.int .u64 ((jw m : Nat) : Int)) := box_cell HQ4.out 0
    have q1 : W4.cell? ⟨q, 1, none⟩ = some (.int .u64 ((jw m : Nat) : Int)) := box_cell HQ4.out 1
    obtain ⟨p, hp⟩ : ∃ p, p = W4.heap.size := ⟨_, rfl⟩
    have HC5 : Hid ((W4.alloc (.cells #[.int .u64 2, .int .u64 18] 76)).heap[p]? = some (.cells #[.int .u64 2, .int .u64 18] 76 (0, 0))) := hidOf (by rw [hp]; exact heap_alloc_new W4 _)
    have HQ5 : Hid ((W4.alloc (.cells #[.int .u64 2, .int .u64 18] 76)).heap[q]? = some (.cells #[.int .u64 ((jw m : Nat) : Int), .int .u64 ((jw m : Nat) : Int)] 76 (0, 0))) := hidOf ((Below.heap_alloc W4 _ _ (Array.getElem?_eq_some_iff.1 HQ4.out).1).trans HQ4.out)
    have HO5 := hidOf (HO4.out.alloc (.cells #[.int .u64 2, .int .u64 18] 76))
    go_upto_region 6 with fail
    rw [← hp]
    clear hp q0 q1
    generalize W4.alloc (.cells #[.int .u64 2, .int .u64 18] 76) = W5 at *
    have r0 : W5.cell? ⟨q, 0, none⟩ = some (.int .u64 ((jw m : Nat) : Int)) := box_cell HQ5.out 0
    have r1 : W5.cell? ⟨q, 1, none⟩ = some (.int .u64 ((jw m : Nat) : Int)) := box_cell HQ5.out 1
    have r2 : W5.cell? ⟨p, 0, none⟩ = some (.int .u64 2) := box_cell HC5.out 0
    have r3 : W5.cell? ⟨p, 1, none⟩ = some (.int .u64 18) := box_cell HC5.out 1
    have HE := hidOf (hfe.out (jw m, jw m) (by rw [tsP, ← Htp.out, if_pos hgood]))
    have J := hidOf (fun k wx => just_of (W := W5) k wx)
    have O0 := hidOf (Out.refl W5)
    have CH5 : Hid (∀ t1 t2 c1 c2 s1 s2 wx, Out W5 wx → Calls Try.prog 30 #[.agg #[.int .u64 ((t1 : Nat) : Int), .int .u64 ((t2 : Nat) : Int)], .agg #[.int .u64 ((c1 : Nat) : Int), .int .u64 ((c2 : Nat) : Int)], .agg #[.int .u64 ((s1 : Nat) : Int), .int .u64 ((s2 : Nat) : Int)]] wx fun e w' => ∃ a c, e = .returned (.slice a 55 c) ∧ OwF 0 (.slice a 55 c) (headF (t1, t2) (c1, c2) (s1, s2)) w' ∧ Out W5 w') := fun t1 t2 c1 c2 s1 s2 wx ho => (head_any t1 t2 c1 c2 s1 s2 wx).mono fun e w' ⟨a, c, he, h1, h2⟩ => ⟨a, c, he, own_base h1 (Nat.zero_le _), ho.trans h2⟩
    have HKS : Hid (∀ wx, Out W5 wx → wx.cell? ⟨q, 0, none⟩ = some (.int .u64 ((jw m : Nat) : Int)) ∧ wx.cell? ⟨q, 1, none⟩ = some (.int .u64 ((jw m : Nat) : Int)) ∧ wx.cell? ⟨p, 0, none⟩ = some (.int .u64 2) ∧ wx.cell? ⟨p, 1, none⟩ = some (.int .u64 18)) := fun wx ho => ⟨cell_later ho r0, cell_later ho r1, cell_later ho r2, cell_later ho r3⟩
    have O1 := hidOf (Out.drew (Out.refl W5))
    go_region_held3 (fun wx => wx.cell? ⟨q, 0, none⟩ = some (.int .u64 ((jw m : Nat) : Int)) ∧ wx.cell? ⟨q, 1, none⟩ = some (.int .u64 ((jw m : Nat) : Int)) ∧ wx.cell? ⟨p, 0, none⟩ = some (.int .u64 2) ∧ wx.cell? ⟨p, 1, none⟩ = some (.int .u64 18)) (first | with_reducible exact HKS.out _ (Hid.out (by assumption)) | with_reducible exact ⟨r0, r1, r2, r3⟩ | fail) (first | (go_at_call 49; refine (CC.out _ (Out.trans HO5.out (Hid.out (by assumption)))).mono ?_; rintro e w6 ⟨rfl, hw⟩; have hw := hw.symm; subst hw) | (go_at_call 31; refine (J.out _ _ (Hid.out (by assumption))).mono ?_; rintro e wj ⟨rfl, hOj⟩; have HOj := hidOf hOj; clear hOj) | (go_at_call 30; refine (CH5.out _ _ _ _ _ _ _ (Hid.out (by assumption))).mono ?_; rintro e wh ⟨ah, ch, rfl, hH, hOh⟩; have HH := hidOf hH; have HOh := hidOf hOh; clear hH hOh) | (go_at_call 48; refine (CF.out _ _ _ (HO5.out.trans HOh.out) (by rw [HE.out]; exact HH.out)).mono ?_; rintro e wz ⟨rfl, hOz⟩; have HOz := hidOf (Out.trans HOh.out hOz); clear hOz) | fail)
    all_goals
      go_wp2
      go_ret2
      exact ⟨rfl, by first | exact HO5.out.trans HOz.out | exact (HO5.out.trans HOz.out).drew⟩
  · have HTS := hidOf (show (1, 0) = tsP b by rw [tsP, ← Htp.out, if_neg hgood])
    by_cases h64 : 64 ≤ tp
    · obtain ⟨m, rfl⟩ : ∃ m : Nat, tp = m := ⟨tp.toNat, by omega⟩
      have hue : ¬ up8 m = m := fun h => hgood ⟨h64, by have := (up8_eq m).1 h; omega⟩
      have hle := up8_ge m
      clear hgood
      have CU := hidOf (up8_any m (by omega) W2)
      generalize up8 m = um at *
      have hmm : ((m : Int) == um) = false := by simp; omega
      go_upto_region 5 with (first | (go_at_call 19; refine (CT.out _ HO2.out).mono ?_; rintro e w1 ⟨rfl, hw⟩; have hw := hw.symm; subst hw) | (go_at_call 47; refine (CU.out).mono ?_; rintro e w1 ⟨rfl, hw⟩; have hw := hw.symm; subst hw))
      have q0 : W2.cell? ⟨q, 0, none⟩ = some (.int .u64 1) := box_cell HQ.out 0
      have q1 : W2.cell? ⟨q, 1, none⟩ = some (.int .u64 0) := box_cell HQ.out 1
      obtain ⟨p, hp⟩ : ∃ p, p = W2.heap.size := ⟨_, rfl⟩
      have HC5 : Hid ((W2.alloc (.cells #[.int .u64 2, .int .u64 18] 76)).heap[p]? = some (.cells #[.int .u64 2, .int .u64 18] 76 (0, 0))) := hidOf (by rw [hp]; exact heap_alloc_new W2 _)
      have HQ5 : Hid ((W2.alloc (.cells #[.int .u64 2, .int .u64 18] 76)).heap[q]? = some (.cells #[.int .u64 1, .int .u64 0] 76 (0, 0))) := hidOf ((Below.heap_alloc W2 _ _ (Array.getElem?_eq_some_iff.1 HQ.out).1).trans HQ.out)
      have HO5 := hidOf (HO2.out.alloc (.cells #[.int .u64 2, .int .u64 18] 76))
      go_upto_region 6 with fail
      rw [← hp]
      clear hp q0 q1
      generalize W2.alloc (.cells #[.int .u64 2, .int .u64 18] 76) = W5 at *
      have r0 : W5.cell? ⟨q, 0, none⟩ = some (.int .u64 1) := box_cell HQ5.out 0
      have r1 : W5.cell? ⟨q, 1, none⟩ = some (.int .u64 0) := box_cell HQ5.out 1
      have r2 : W5.cell? ⟨p, 0, none⟩ = some (.int .u64 2) := box_cell HC5.out 0
      have r3 : W5.cell? ⟨p, 1, none⟩ = some (.int .u64 18) := box_cell HC5.out 1
      have HE := hidOf (hfe.out (1, 0) HTS.out)
      have J := hidOf (fun k wx => just_of (W := W5) k wx)
      have O0 := hidOf (Out.refl W5)
      have CH5 : Hid (∀ t1 t2 c1 c2 s1 s2 wx, Out W5 wx → Calls Try.prog 30 #[.agg #[.int .u64 ((t1 : Nat) : Int), .int .u64 ((t2 : Nat) : Int)], .agg #[.int .u64 ((c1 : Nat) : Int), .int .u64 ((c2 : Nat) : Int)], .agg #[.int .u64 ((s1 : Nat) : Int), .int .u64 ((s2 : Nat) : Int)]] wx fun e w' => ∃ a c, e = .returned (.slice a 55 c) ∧ OwF 0 (.slice a 55 c) (headF (t1, t2) (c1, c2) (s1, s2)) w' ∧ Out W5 w') := fun t1 t2 c1 c2 s1 s2 wx ho => (head_any t1 t2 c1 c2 s1 s2 wx).mono fun e w' ⟨a, c, he, h1, h2⟩ => ⟨a, c, he, own_base h1 (Nat.zero_le _), ho.trans h2⟩
      have HKS : Hid (∀ wx, Out W5 wx → wx.cell? ⟨q, 0, none⟩ = some (.int .u64 1) ∧ wx.cell? ⟨q, 1, none⟩ = some (.int .u64 0) ∧ wx.cell? ⟨p, 0, none⟩ = some (.int .u64 2) ∧ wx.cell? ⟨p, 1, none⟩ = some (.int .u64 18)) := fun wx ho => ⟨cell_later ho r0, cell_later ho r1, cell_later ho r2, cell_later ho r3⟩
      have O1 := hidOf (Out.drew (Out.refl W5))
      go_region_held3 (fun wx => wx.cell? ⟨q, 0, none⟩ = some (.int .u64 1) ∧ wx.cell? ⟨q, 1, none⟩ = some (.int .u64 0) ∧ wx.cell? ⟨p, 0, none⟩ = some (.int .u64 2) ∧ wx.cell? ⟨p, 1, none⟩ = some (.int .u64 18)) (first | with_reducible exact HKS.out _ (Hid.out (by assumption)) | with_reducible exact ⟨r0, r1, r2, r3⟩ | fail) (first | (go_at_call 49; refine (CC.out _ (Out.trans HO5.out (Hid.out (by assumption)))).mono ?_; rintro e w6 ⟨rfl, hw⟩; have hw := hw.symm; subst hw) | (go_at_call 31; refine (J.out _ _ (Hid.out (by assumption))).mono ?_; rintro e wj ⟨rfl, hOj⟩; have HOj := hidOf hOj; clear hOj) | (go_at_call 30; refine (CH5.out _ _ _ _ _ _ _ (Hid.out (by assumption))).mono ?_; rintro e wh ⟨ah, ch, rfl, hH, hOh⟩; have HH := hidOf hH; have HOh := hidOf hOh; clear hH hOh) | (go_at_call 48; refine (CF.out _ _ _ (HO5.out.trans HOh.out) (by rw [HE.out]; exact HH.out)).mono ?_; rintro e wz ⟨rfl, hOz⟩; have HOz := hidOf (Out.trans HOh.out hOz); clear hOz) | fail)
      all_goals
        go_wp2
        go_ret2
        exact ⟨rfl, by first | exact HO5.out.trans HOz.out | exact (HO5.out.trans HOz.out).drew⟩
    · have Hwr := hidOf hwr
      clear hgood htb hwr hlt hnI
      go_upto_region 5 with (first | (go_at_call 19; refine (CT.out _ HO2.out).mono ?_; rintro e w1 ⟨rfl, hw⟩; have hw := hw.symm; subst hw))
      have hwr := Hwr.out
      have q0 : W2.cell? ⟨q, 0, none⟩ = some (.int .u64 1) := box_cell HQ.out 0
      have q1 : W2.cell? ⟨q, 1, none⟩ = some (.int .u64 0) := box_cell HQ.out 1
      obtain ⟨p, hp⟩ : ∃ p, p = W2.heap.size := ⟨_, rfl⟩
      have HC5 : Hid ((W2.alloc (.cells #[.int .u64 2, .int .u64 18] 76)).heap[p]? = some (.cells #[.int .u64 2, .int .u64 18] 76 (0, 0))) := hidOf (by rw [hp]; exact heap_alloc_new W2 _)
      have HQ5 : Hid ((W2.alloc (.cells #[.int .u64 2, .int .u64 18] 76)).heap[q]? = some (.cells #[.int .u64 1, .int .u64 0] 76 (0, 0))) := hidOf ((Below.heap_alloc W2 _ _ (Array.getElem?_eq_some_iff.1 HQ.out).1).trans HQ.out)
      have HO5 := hidOf (HO2.out.alloc (.cells #[.int .u64 2, .int .u64 18] 76))
      go_upto_region 6 with fail
      rw [← hp]
      clear hp q0 q1
      generalize W2.alloc (.cells #[.int .u64 2, .int .u64 18] 76) = W5 at *
      have r0 : W5.cell? ⟨q, 0, none⟩ = some (.int .u64 1) := box_cell HQ5.out 0
      have r1 : W5.cell? ⟨q, 1, none⟩ = some (.int .u64 0) := box_cell HQ5.out 1
      have r2 : W5.cell? ⟨p, 0, none⟩ = some (.int .u64 2) := box_cell HC5.out 0
      have r3 : W5.cell? ⟨p, 1, none⟩ = some (.int .u64 18) := box_cell HC5.out 1
      have HE := hidOf (hfe.out (1, 0) HTS.out)
      have J := hidOf (fun k wx => just_of (W := W5) k wx)
      have O0 := hidOf (Out.refl W5)
      have CH5 : Hid (∀ t1 t2 c1 c2 s1 s2 wx, Out W5 wx → Calls Try.prog 30 #[.agg #[.int .u64 ((t1 : Nat) : Int), .int .u64 ((t2 : Nat) : Int)], .agg #[.int .u64 ((c1 : Nat) : Int), .int .u64 ((c2 : Nat) : Int)], .agg #[.int .u64 ((s1 : Nat) : Int), .int .u64 ((s2 : Nat) : Int)]] wx fun e w' => ∃ a c, e = .returned (.slice a 55 c) ∧ OwF 0 (.slice a 55 c) (headF (t1, t2) (c1, c2) (s1, s2)) w' ∧ Out W5 w') := fun t1 t2 c1 c2 s1 s2 wx ho => (head_any t1 t2 c1 c2 s1 s2 wx).mono fun e w' ⟨a, c, he, h1, h2⟩ => ⟨a, c, he, own_base h1 (Nat.zero_le _), ho.trans h2⟩
      have HKS : Hid (∀ wx, Out W5 wx → wx.cell? ⟨q, 0, none⟩ = some (.int .u64 1) ∧ wx.cell? ⟨q, 1, none⟩ = some (.int .u64 0) ∧ wx.cell? ⟨p, 0, none⟩ = some (.int .u64 2) ∧ wx.cell? ⟨p, 1, none⟩ = some (.int .u64 18)) := fun wx ho => ⟨cell_later ho r0, cell_later ho r1, cell_later ho r2, cell_later ho r3⟩
      have O1 := hidOf (Out.drew (Out.refl W5))
      go_region_held3 (fun wx => wx.cell? ⟨q, 0, none⟩ = some (.int .u64 1) ∧ wx.cell? ⟨q, 1, none⟩ = some (.int .u64 0) ∧ wx.cell? ⟨p, 0, none⟩ = some (.int .u64 2) ∧ wx.cell? ⟨p, 1, none⟩ = some (.int .u64 18)) (first | with_reducible exact HKS.out _ (Hid.out (by assumption)) | with_reducible exact ⟨r0, r1, r2, r3⟩ | fail) (first | (go_at_call 49; refine (CC.out _ (Out.trans HO5.out (Hid.out (by assumption)))).mono ?_; rintro e w6 ⟨rfl, hw⟩; have hw := hw.symm; subst hw) | (go_at_call 31; refine (J.out _ _ (Hid.out (by assumption))).mono ?_; rintro e wj ⟨rfl, hOj⟩; have HOj := hidOf hOj; clear hOj) | (go_at_call 30; refine (CH5.out _ _ _ _ _ _ _ (Hid.out (by assumption))).mono ?_; rintro e wh ⟨ah, ch, rfl, hH, hOh⟩; have HH := hidOf hH; have HOh := hidOf hOh; clear hH hOh) | (go_at_call 48; refine (CF.out _ _ _ (HO5.out.trans HOh.out) (by rw [HE.out]; exact HH.out)).mono ?_; rintro e wz ⟨rfl, hOz⟩; have HOz := hidOf (Out.trans HOh.out hOz); clear hOz) | fail)
      all_goals
        go_wp2
        go_ret2
        exact ⟨rfl, by first | exact HO5.out.trans HOz.out | exact (HO5.out.trans HOz.out).drew⟩
end Go.Proofs.Ytlfcjbeldnkkoaa
