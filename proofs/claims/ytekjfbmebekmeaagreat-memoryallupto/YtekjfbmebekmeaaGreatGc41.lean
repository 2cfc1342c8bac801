import Derived.Test.YtekjfbmebekmeaaGreatGc40
import Derived.Laws.MakeOwn
namespace Go.Proofs.YtekjfbmebekmeaaGreat
open Go.RowKit
set_option linter.unusedVariables false
set_option linter.unusedSimpArgs false
/-- behind Lend -/
def LendC (w : World) (p po g m : Nat) (cs : Array Value) (l L : List UInt8) (e : Ending) (w' : World) : Prop :=
  e = .returned (.slice (some ⟨g, 0, none⟩) l.length (2 * l.length + 70)) ∧ LeC w' p po g m (cs.setIfInBounds (po + 1) (.int .i64 (l.length : Int))) l.length (l ++ (lmsB l.length (l.length + 70) ++ L.drop (2 * l.length + 70))) ∧ Chg (SL p g) w w'
theorem ov_end (l L : List UInt8) (k : Nat) (hk : k = 2 * l.length + 70) : ov (l ++ lmsB l.length (l.length + 70)) L = l ++ (lmsB l.length (l.length + 70) ++ L.drop (2 * l.length + 70)) := by
  unfold ov
  rw [List.append_assoc, List.length_append, lmsB_len, show l.length + (l.length + 70) = 2 * l.length + 70 by omega]
theorem take_snocL {l : List UInt8} {j : Nat} {y : UInt8} (h : l[j]? = some y) : l.take j ++ [y] = l.take (j + 1) := by
  rw [List.take_add_one, h]; rfl
theorem info1 : (Tryz.prog.info? 5).map (fun i => (i.zero, i.size, i.bytes)) = some (some (.int .u8 0), 1, 1) := by kernel_rfl
theorem made_bytes (N : Nat) : madeCells #[.int .u8 0] N = (bCells (List.replicate N 0)).toArray := by
  apply Array.ext_getElem?
  intro j
  simp only [madeCells, Array.getElem?_map, List.getElem?_toArray, bCells, List.getElem?_map, List.getElem?_replicate]
  by_cases hj : j < N
  · rw [if_pos hj, Array.getElem?_range, if_pos hj]
    simp [Nat.mod_one]
  · rw [if_neg hj, Array.getElem?_range, if_neg hj]; rfl
theorem run_make_bytes (n : Nat) (hn : n ≤ 281474976710656) (w : World) : (Instr.makeSlice 29 (.int .i64 (n : Int)) (.int .i64 (n : Int))).run Tryz.prog w = .ok (.slice (some ⟨w.heap.size, 0, none⟩) n n) (w.alloc (.cells (bCells (List.replicate n 0)).toArray 5)) := by
  obtain ⟨i0, hi, hz0, hz1, hz2⟩ := info_parts info1
  have h := run_make (P := Tryz.prog) w 29 5 i0 _ Tryz.underlying29 hi hz0 .i64 .i64 (n : Int) (n : Int) (by omega) (Int.le_refl _) (by rw [hz2]; omega) (by omega)
  rw [hz1] at h
  simp only [Int.toNat_natCast, Value.cells, Nat.mul_one] at h
  rw [h, made_bytes]
set_option maxRecDepth 20000 in
set_option maxHeartbeats 3000000 in
theorem lendC_again (B : Nat) (W : World) (p po g m : Nat) (cs : Array Value) (N : Int) (L : List UInt8) (h : LeC W p po g m cs N L) (a : Option Addr) (cap : Nat) (l : List UInt8) (hr : RestAt B W a l) (hbp : ¬ l = [] → ∀ ad, a = some ad → ¬ ad.block = p) (hbg : ¬ l = [] → ∀ ad, a = some ad → ¬ ad.block = g) (hm : 2 * l.length + 70 ≤ m) (hll : l.length ≤ 100000000000000) :
    Calls Tryz.prog 54 #[.pointer (some ⟨p, po, none⟩), .slice a l.length cap] W fun e w' => LendC W p po g m cs l L e w' := by
  have H := hidOf h
  have HR := hidOf hr
  have hBp := hidOf hbp
  have hBg := hidOf hbg
  have c0 := h.c0
  have hmI : ¬ (m : Int) < 2 * (l.length : Int) + 70 := by omega
  have hmN : l.length ≤ m := by omega
  clear h hr hbp hbg
  go_enter Tryz.func54, Tryz.ntmps54
  go_wp2
  clear c0
  have HC0 := hidOf (Chg.refl (SL p g) W)
  have Hll := hidOf hll
  go_loopw [5] (fun kv wr => ∃ (j : Nat) (A : List UInt8), kv = .int .i64 j ∧ j ≤ l.length ∧ Hid (A = l.take j) ∧ Hid (LeC wr p po g m cs N (ov A L)) ∧ Hid (Chg (SL p g) W wr)) (fun kv _ => l.length - (intOf kv).toNat)
  case atStart => exact ⟨0, [], rfl, by omega, hidOf rfl, by rw [ov_nil]; exact H, HC0⟩
  case round =>
    obtain ⟨j, A, rfl, hj, HA, HB, HC⟩ := hrel
    have hAl : Hid (A.length = j) := by rw [HA.out]; exact hidOf (by simp; omega)
    have hLl : Hid (L.length = m) := H.out.len_
    by_cases hlt : j < l.length
    · have hltI : (j : Int) < l.length := by omega
      obtain ⟨y, hy⟩ : ∃ y, l[j]? = some y := ⟨_, List.getElem?_eq_getElem hlt⟩
      obtain ⟨b, o, hb, rfl, hcx⟩ : ∃ b o, b < B ∧ a = some ⟨b, o, none⟩ ∧ ∀ k y, l[k]? = some y → W.cell? ⟨b, o + k, none⟩ = some (.int .u8 (y.toNat : Int)) := by
        rcases HR.out with h | h
        · rw [h] at hlt; simp at hlt
        · exact h
      have hl0 : ¬ l = [] := fun e => by rw [e] at hlt; simp at hlt
      have nb1 : ¬ b = p := hBp.out hl0 ⟨b, o, none⟩ rfl
      have nb2 : ¬ b = g := hBg.out hl0 ⟨b, o, none⟩ rfl
      have qy := HC.out.cell (hcx j y hy) (fun h => by rcases h with h | h; exact nb1 h; exact nb2 h)
      obtain ⟨z, hz⟩ : ∃ z, (ov A L)[j]? = some z := ⟨_, List.getElem?_eq_getElem (by have := hAl.out; have := hLl.out; rw [ov_len (by omega)]; omega)⟩
      have d0 := HB.out.c0
      have dz := HB.out.cell hz
      have fz := HB.out.fg j
      have HB2 : Hid (LeC (wr.setCell ⟨g, j, none⟩ (.int .u8 (y.toNat : Int))) p po g m cs N (ov (A ++ [y]) L)) := by
        have := HB.out.set j y
        rw [ov_set hAl.out (by have := hLl.out; omega)] at this
        exact this
      have HA2 : Hid (A ++ [y] = l.take (j + 1)) := by rw [HA.out]; exact hidOf (take_snocL hy)
      have HC2 : Hid (Chg (SL p g) W (wr.setCell ⟨g, j, none⟩ (.int .u8 (y.toNat : Int)))) := Chg.setCell HC.out (p := ⟨g, j, none⟩) (.inr rfl) _
      have hjm : (j : Int) < m := by omega
      have hgb : ¬ g = b := fun e => nb2 e.symm
      have hgp : ¬ g = p := fun e => HB.out.ne e.symm
      clear hcx hy hz
      go_upto_region 6 with fail
      go_region_held3 (fun w' => w'.cell? ⟨p, po, none⟩ = some (.slice (some ⟨g, 0, none⟩) m m) ∧ w'.cell? ⟨b, o + j, none⟩ = some (.int .u8 (y.toNat : Int))) (first | exact ⟨d0, qy⟩ | go_keep) (fail)
      go_wp2
      go_roundw
      case rel =>
        exact ⟨j + 1, A ++ [y], by simp, by omega, HA2, HB2.out.drew, HC2.out.drew⟩
      case measure => simp [intOf]; omega
    · have hltI : ¬ (j : Int) < l.length := by omega
      obtain rfl : j = l.length := by omega
      have HA0 : Hid (A = l ++ lmsB l.length (l.length - l.length)) := by rw [HA.out, List.take_length, Nat.sub_self]; exact hidOf (by simp [lmsB])
      clear HA hAl
      go_wp2
      obtain ⟨w1, hw1⟩ : ∃ w1, w1 = wr := ⟨_, rfl⟩
      rw [← hw1] at HB HC
      have Hw1 := hidOf hw1
      clear hw1
      go_loopw [6] (fun kv wr => ∃ (j : Nat) (A : List UInt8), kv = .int .i64 j ∧ l.length ≤ j ∧ j ≤ 2 * l.length + 70 ∧ Hid (A = l ++ lmsB l.length (j - l.length)) ∧ Hid (LeC wr p po g m cs N (ov A L)) ∧ Hid (Chg (SL p g) W wr)) (fun kv _ => 2 * l.length + 70 - (intOf kv).toNat)
      case atStart => exact ⟨l.length, A, rfl, by omega, by omega, HA0, by rw [← Hw1.out]; exact HB, by rw [← Hw1.out]; exact HC⟩
      case round =>
        clear HB HC HA0 Hw1
        obtain ⟨j, A, rfl, hj0, hj, HA, HB, HC⟩ := hrel
        have hAl : Hid (A.length = j) := by rw [HA.out, List.length_append, lmsB_len]; exact hidOf (by omega)
        by_cases hlt : j < 2 * l.length + 70
        · have hltI : (j : Int) < 2 * (l.length : Int) + 70 := by omega
          obtain ⟨z, hz⟩ : ∃ z, (ov A L)[j]? = some z := ⟨_, List.getElem?_eq_getElem (by have := hAl.out; have := hLl.out; rw [ov_len (by omega)]; omega)⟩
          have d0 := HB.out.c0
          have dz := HB.out.cell hz
          have fz := HB.out.fg j
          have HB2 : Hid (LeC (wr.setCell ⟨g, j, none⟩ (.int .u8 ((lmB j).toNat : Int))) p po g m cs N (ov (A ++ [lmB j]) L)) := by
            have := HB.out.set j (lmB j)
            rw [ov_set hAl.out (by have := hLl.out; omega)] at this
            exact this
          have HA2 : Hid (A ++ [lmB j] = l ++ lmsB l.length (j + 1 - l.length)) := by
            rw [HA.out, show j + 1 - l.length = (j - l.length) + 1 by omega, lmsB_succ, show l.length + (j - l.length) = j by omega]
            exact hidOf (by simp)
          have HC2 : Hid (Chg (SL p g) W (wr.setCell ⟨g, j, none⟩ (.int .u8 ((lmB j).toNat : Int)))) := Chg.setCell HC.out (p := ⟨g, j, none⟩) (.inr rfl) _
          have hjm : (j : Int) < m := by omega
          have hgp : ¬ g = p := fun e => HB.out.ne e.symm
          have CMk : Hid (∀ wx, Calls Tryz.prog 55 #[.pointer (some ⟨p, po, none⟩), .int .i64 j] wx fun e w' => e = .returned (.int .u8 ((lmB j).toNat : Int)) ∧ wx = w') := fun wx => lmark_any _ j (by omega) wx
          generalize lmB j = y at *
          clear hz
          go_upto_region 10 with fail
          go_region_held3 (fun w' => w'.cell? ⟨p, po, none⟩ = some (.slice (some ⟨g, 0, none⟩) m m)) (first | exact d0 | go_keep) (first | (go_at_call 55; refine (CMk.out _).mono ?_; rintro e w2 ⟨rfl, rfl⟩))
          go_wp2
          go_roundw
          case rel => exact ⟨j + 1, A ++ [y], by simp, by omega, by omega, HA2, HB2.out.drew, HC2.out.drew⟩
          case measure => simp [intOf]; omega
        · have hltI : ¬ (j : Int) < 2 * (l.length : Int) + 70 := by omega
          have hje : Hid (A = l ++ lmsB l.length (l.length + 70)) := by rw [HA.out, show j - l.length = l.length + 70 by omega]; exact hidOf rfl
          have d0 := HB.out.c0
          have d1 := HB.out.c1
          have f1 := HB.out.fp (po + 1)
          have HB2 : Hid (LeC (wr.setCell ⟨p, po + 1, none⟩ (.int .i64 (l.length : Int))) p po g m (cs.setIfInBounds (po + 1) (.int .i64 (l.length : Int))) l.length (l ++ (lmsB l.length (l.length + 70) ++ L.drop (2 * l.length + 70)))) := by
            have := HB.out.setN (l.length : Int)
            rw [hje.out, ov_end l L _ rfl] at this
            exact this
          have HC2 : Hid (Chg (SL p g) W (wr.setCell ⟨p, po + 1, none⟩ (.int .i64 (l.length : Int)))) := Chg.setCell HC.out (p := ⟨p, po + 1, none⟩) (.inl rfl) _
          have e1 : (l.length : Int) ≤ 2 * (l.length : Int) + 70 := by omega
          have e2 : 2 * (l.length : Int) + 70 ≤ m := by omega
          go_wp2
          go_ret
          exact ⟨rfl, HB2.out, HC2.out⟩
end Go.Proofs.YtekjfbmebekmeaaGreat
namespace Go.Proofs.YtekjfbmebekmeaaGreat
open Go.RowKit
set_option linter.unusedVariables false
set_option linter.unusedSimpArgs false
theorem lms_get {n k j : Nat} (h : j < k) : (lmsB n k)[j]? = some (lmB (n + j)) := by
  unfold lmsB
  rw [List.getElem?_map, List.getElem?_range' h]
  simp
set_option maxRecDepth 20000 in
set_option maxHeartbeats 3000000 in
theorem backC_any (w : World) (p po g m : Nat) (cs : Array Value) (l R : List UInt8) (h : LeC w p po g m cs l.length (l ++ (lmsB l.length (l.length + 70) ++ R))) (N : Nat) (a : Option Addr) (cap : Nat) (hr : RestAt N w a l) (hll : l.length ≤ 100000000000000) :
    Calls Tryz.prog 24 #[.pointer (some ⟨p, po, none⟩), .slice a l.length cap] w fun e w' => e = .returned (.bool true) ∧ (∃ L', LeC w' p po g m cs l.length L') ∧ Chg (SL p g) w w' := by
  have H := hidOf h
  have hm : 2 * l.length + 70 ≤ m := by have := h.len_; simp [lmsB_len] at this; omega
  have c0 := h.c0
  have c1 := h.c1
  have hv1 : ∀ n, (convert 29 9 (.slice (some ⟨g, 0, none⟩) l.length m)).run Tryz.prog (w.drewN n) = .ok (.string ⟨l.toArray⟩) (w.drewN n) := fun n => conv_rest (w := w.drewN n) (h.drewN n).rest m
  have hv2 : ∀ n, (convert 29 9 (.slice a l.length cap)).run Tryz.prog (w.drewN n) = .ok (.string ⟨l.toArray⟩) (w.drewN n) := fun n => conv_rest (w := w.drewN n) (N := N) hr cap
  have hmI : (l.length : Int) ≤ m := by omega
  have hEq : decide ((l.length : Int) = (l.length : Int)) = true := by simp
  clear h hr
  go_enter Tryz.func24, Tryz.ntmps24
  go_upto_region 1 with fail
  go_quiet (fail)
  clear hv1 hv2
  have c1' : (w.drewN nq).cell? ⟨p, po + 1, none⟩ = some (.int .i64 (l.length : Int)) := c1
  go_wp2
  go_loopw [5, 6] (fun okv kv wr => ∃ j : Nat, okv = .bool true ∧ kv = .int .i64 j ∧ l.length ≤ j ∧ j ≤ 2 * l.length + 70 ∧ Hid (Out w wr)) (fun _ kv _ => 2 * l.length + 70 - (intOf kv).toNat)
  case atStart => exact ⟨l.length, rfl, rfl, by omega, by omega, hidOf ((Out.refl w).drewN nq)⟩
  case round =>
    obtain ⟨j, rfl, rfl, hj0, hj, HO⟩ := hrel
    have HB := hidOf (H.out.out HO.out)
    have d0 := HB.out.c0
    have d1 := HB.out.c1
    by_cases hlt : j < 2 * l.length + 70
    · have hltI : (j : Int) < 2 * (l.length : Int) + 70 := by omega
      have hjm : (j : Int) < m := by omega
      have dz : wr.cell? ⟨g, j, none⟩ = some (.int .u8 ((lmB j).toNat : Int)) := HB.out.cell (by
        rw [List.getElem?_append_right (by omega), List.getElem?_append_left (by rw [lmsB_len]; omega), lms_get (by omega), show l.length + (j - l.length) = j by omega])
      have CMk : Hid (∀ wx, Calls Tryz.prog 55 #[.pointer (some ⟨p, po, none⟩), .int .i64 j] wx fun e w' => e = .returned (.int .u8 ((lmB j).toNat : Int)) ∧ w' = wx) := fun wx => (lmark_any _ j (by omega) wx).mono (fun e w' h => ⟨h.1, h.2.symm⟩)
      generalize lmB j = y at *
      go_upto_region 5 with fail
      go_quiet ((go_at_call 55; exact Calls.quiet_of_same (CMk.out _)))
      go_wp2
      go_roundw
      case rel => exact ⟨j + 1, rfl, by simp, by omega, by omega, hidOf (HO.out.drewN nq)⟩
      case measure => simp [intOf]; omega
    · have hltI : ¬ (j : Int) < 2 * (l.length : Int) + 70 := by omega
      go_wp2
      obtain ⟨w1, hw1⟩ : ∃ w1, w1 = wr := ⟨_, rfl⟩
      rw [← hw1] at HB HO
      have Hw1 := hidOf hw1
      clear hw1 d0 d1
      go_loopw [7] (fun kv wr => ∃ (j : Nat) (L : List UInt8), kv = .int .i64 j ∧ j ≤ l.length ∧ Hid (LeC wr p po g m cs l.length L) ∧ Hid (Chg (SL p g) w wr)) (fun kv _ => l.length - (intOf kv).toNat)
      case atStart => exact ⟨0, _, rfl, by omega, by rw [← Hw1.out]; exact HB, by rw [← Hw1.out]; exact Chg.of_out HO.out⟩
      case round =>
        clear HB HO Hw1
        obtain ⟨j, L, rfl, hj, HB, HC⟩ := hrel
        have d0 := HB.out.c0
        have d1 := HB.out.c1
        by_cases hlt : j < l.length
        · have hltI : (j : Int) < l.length := by omega
          obtain ⟨z, hz⟩ : ∃ z, L[j]? = some z := ⟨_, List.getElem?_eq_getElem (by have := HB.out.len_; omega)⟩
          have dz := HB.out.cell hz
          have fz := HB.out.fg j
          have HB2 : Hid (LeC (wr.setCell ⟨g, j, none⟩ (.int .u8 120)) p po g m cs l.length (L.set j 120)) := HB.out.set j 120
          have HC2 : Hid (Chg (SL p g) w (wr.setCell ⟨g, j, none⟩ (.int .u8 120))) := Chg.setCell HC.out (p := ⟨g, j, none⟩) (.inr rfl) _
          have hjm : (j : Int) < m := by omega
          go_wp2
          go_roundw
          case rel => exact ⟨j + 1, _, by simp, by omega, HB2, HC2⟩
          case measure => simp [intOf]; omega
        · have hltI : ¬ (j : Int) < l.length := by omega
          go_wp2
          go_ret
          exact ⟨rfl, ⟨_, HB.out⟩, HC.out⟩
end Go.Proofs.YtekjfbmebekmeaaGreat
namespace Go.Proofs.YtekjfbmebekmeaaGreat
open Go.RowKit
set_option linter.unusedVariables false
set_option linter.unusedSimpArgs false
set_option maxRecDepth 20000 in
set_option maxHeartbeats 3000000 in
theorem lendC_make (B : Nat) (W : World) (p po g m : Nat) (cs0 cs : Array Value) (L : List UInt8) (ha : Option Addr) (hn hc : Nat) (N : Int) (h : W.heap[p]? = some (.cells cs0 61 (0, 0))) (e0 : cs0[po]? = some (.slice ha hn hc)) (e1 : cs0[po + 1]? = some (.int .i64 N)) (hcs : cs = cs0.setIfInBounds po (.slice (some ⟨g, 0, none⟩) m m)) (a : Option Addr) (cap : Nat) (l : List UInt8) (hr : RestAt B W a l) (hBW : B ≤ W.heap.size) (hbp : ¬ l = [] → ∀ ad, a = some ad → ¬ ad.block = p) (hg : g = W.heap.size) (hm0 : m = 4 * l.length + 512) (hL : L = List.replicate m 0) (hll : l.length ≤ 60000000000000) (hhn : hn < 2 * l.length + 70) :
    Calls Tryz.prog 54 #[.pointer (some ⟨p, po, none⟩), .slice a l.length cap] W fun e w' => LendC W p po g m cs l L e w' := by
  have hplt : p < W.heap.size := (Array.getElem?_eq_some_iff.1 h).1
  have HR := hidOf hr
  have hBp := hidOf hbp
  have hBg : Hid (¬ l = [] → ∀ ad, a = some ad → ¬ ad.block = g) := fun hl0 ad had => by
    rcases hr with h | ⟨b, o, hb, ha, _⟩
    · exact absurd h hl0
    · rw [ha] at had; cases had; show ¬ b = g; omega
  have c0 : W.cell? ⟨p, po, none⟩ = some (.slice ha hn hc) := by rw [cell_atL h]; exact e0
  have f0 : W.frozen? ⟨p, po, none⟩ = false := frozen_atL h po
  have hmk : (Instr.makeSlice 29 (.int .i64 (4 * (l.length : Int) + 512)) (.int .i64 (4 * (l.length : Int) + 512))).run Tryz.prog W = .ok (.slice (some ⟨g, 0, none⟩) m m) (W.alloc (.cells (bCells L).toArray 5)) := by
    have := run_make_bytes m (by omega) W
    rw [← hL, ← hg, hm0] at this
    simpa [hm0] using this
  have hsm : (hn : Int) < 2 * (l.length : Int) + 70 := by omega
  have hsz : (W.setCell ⟨p, po, none⟩ (.slice (some ⟨g, 0, none⟩) m m)).heap.size = W.heap.size := by simp [World.setCell]
  have H : Hid (LeC ((W.setCell ⟨p, po, none⟩ (.slice (some ⟨g, 0, none⟩) m m)).alloc (.cells (bCells L).toArray 5)) p po g m cs N L) := by
    refine ⟨?_, ?_, ?_, ?_, by rw [hL]; simp⟩
    · rw [Below.heap_alloc _ _ _ (by rw [hsz]; exact hplt), set_atL h, hcs]
    · rw [hcs, Array.getElem?_setIfInBounds_self_of_lt (Array.getElem?_eq_some_iff.1 e0).1]
    · rw [hcs, Array.getElem?_setIfInBounds_ne (by omega)]; exact e1
    · have := heap_alloc_new (W.setCell ⟨p, po, none⟩ (.slice (some ⟨g, 0, none⟩) m m)) (.cells (bCells L).toArray 5)
      rw [hsz, ← hg] at this
      exact this
  have HC0 : Hid (Chg (SL p g) W ((W.setCell ⟨p, po, none⟩ (.slice (some ⟨g, 0, none⟩) m m)).alloc (.cells (bCells L).toArray 5))) := (Chg.setCell (Chg.refl _ W) (p := ⟨p, po, none⟩) (.inl rfl) _).alloc _
  have hm : 2 * l.length + 70 ≤ m := by omega
  have hmN : l.length ≤ m := by omega
  have Hx := hidOf (And.intro hg hm0)
  clear h hr hbp hm0 hg hL hcs e0 e1
  go_enter Tryz.func54, Tryz.ntmps54
  go_upto_region 3 with fail
  generalize (W.setCell ⟨p, po, none⟩ (.slice (some ⟨g, 0, none⟩) m m)).alloc (.cells (bCells L).toArray 5) = W1 at *
  clear c0 f0 hmk hsm hsz
  go_wp2
  have Hll := hidOf hll
  go_loopw [5] (fun kv wr => ∃ (j : Nat) (A : List UInt8), kv = .int .i64 j ∧ j ≤ l.length ∧ Hid (A = l.take j) ∧ Hid (LeC wr p po g m cs N (ov A L)) ∧ Hid (Chg (SL p g) W wr)) (fun kv _ => l.length - (intOf kv).toNat)
  case atStart => exact ⟨0, [], rfl, by omega, hidOf rfl, by rw [ov_nil]; exact H, HC0⟩
  case round =>
    obtain ⟨j, A, rfl, hj, HA, HB, HC⟩ := hrel
    have hAl : Hid (A.length = j) := by rw [HA.out]; exact hidOf (by simp; omega)
    have hLl : Hid (L.length = m) := H.out.len_
    by_cases hlt : j < l.length
    · have hltI : (j : Int) < l.length := by omega
      obtain ⟨y, hy⟩ : ∃ y, l[j]? = some y := ⟨_, List.getElem?_eq_getElem hlt⟩
      obtain ⟨b, o, hb, rfl, hcx⟩ : ∃ b o, b < B ∧ a = some ⟨b, o, none⟩ ∧ ∀ k y, l[k]? = some y → W.cell? ⟨b, o + k, none⟩ = some (.int .u8 (y.toNat : Int)) := by
        rcases HR.out with h | h
        · rw [h] at hlt; simp at hlt
        · exact h
      have hl0 : ¬ l = [] := fun e => by rw [e] at hlt; simp at hlt
      have nb1 : ¬ b = p := hBp.out hl0 ⟨b, o, none⟩ rfl
      have nb2 : ¬ b = g := hBg.out hl0 ⟨b, o, none⟩ rfl
      have qy := HC.out.cell (hcx j y hy) (fun h => by rcases h with h | h; exact nb1 h; exact nb2 h)
      obtain ⟨z, hz⟩ : ∃ z, (ov A L)[j]? = some z := ⟨_, List.getElem?_eq_getElem (by have := hAl.out; have := hLl.out; rw [ov_len (by omega)]; omega)⟩
      have d0 := HB.out.c0
      have dz := HB.out.cell hz
      have fz := HB.out.fg j
      have HB2 : Hid (LeC (wr.setCell ⟨g, j, none⟩ (.int .u8 (y.toNat : Int))) p po g m cs N (ov (A ++ [y]) L)) := by
        have := HB.out.set j y
        rw [ov_set hAl.out (by have := hLl.out; omega)] at this
        exact this
      have HA2 : Hid (A ++ [y] = l.take (j + 1)) := by rw [HA.out]; exact hidOf (take_snocL hy)
      have HC2 : Hid (Chg (SL p g) W (wr.setCell ⟨g, j, none⟩ (.int .u8 (y.toNat : Int)))) := Chg.setCell HC.out (p := ⟨g, j, none⟩) (.inr rfl) _
      have hjm : (j : Int) < m := by omega
      have hgb : ¬ g = b := fun e => nb2 e.symm
      have hgp : ¬ g = p := fun e => HB.out.ne e.symm
      clear hcx hy hz
      go_upto_region 6 with fail
      go_region_held3 (fun w' => w'.cell? ⟨p, po, none⟩ = some (.slice (some ⟨g, 0, none⟩) m m) ∧ w'.cell? ⟨b, o + j, none⟩ = some (.int .u8 (y.toNat : Int))) (first | exact ⟨d0, qy⟩ | go_keep) (fail)
      go_wp2
      go_roundw
      case rel =>
        exact ⟨j + 1, A ++ [y], by simp, by omega, HA2, HB2.out.drew, HC2.out.drew⟩
      case measure => simp [intOf]; omega
    · have hltI : ¬ (j : Int) < l.length := by omega
      obtain rfl : j = l.length := by omega
      have HA0 : Hid (A = l ++ lmsB l.length (l.length - l.length)) := by rw [HA.out, List.take_length, Nat.sub_self]; exact hidOf (by simp [lmsB])
      clear HA hAl
      go_wp2
      obtain ⟨w1, hw1⟩ : ∃ w1, w1 = wr := ⟨_, rfl⟩
      rw [← hw1] at HB HC
      have Hw1 := hidOf hw1
      clear hw1
      go_loopw [6] (fun kv wr => ∃ (j : Nat) (A : List UInt8), kv = .int .i64 j ∧ l.length ≤ j ∧ j ≤ 2 * l.length + 70 ∧ Hid (A = l ++ lmsB l.length (j - l.length)) ∧ Hid (LeC wr p po g m cs N (ov A L)) ∧ Hid (Chg (SL p g) W wr)) (fun kv _ => 2 * l.length + 70 - (intOf kv).toNat)
      case atStart => exact ⟨l.length, A, rfl, by omega, by omega, HA0, by rw [← Hw1.out]; exact HB, by rw [← Hw1.out]; exact HC⟩
      case round =>
        clear HB HC HA0 Hw1
        obtain ⟨j, A, rfl, hj0, hj, HA, HB, HC⟩ := hrel
        have hAl : Hid (A.length = j) := by rw [HA.out, List.length_append, lmsB_len]; exact hidOf (by omega)
        by_cases hlt : j < 2 * l.length + 70
        · have hltI : (j : Int) < 2 * (l.length : Int) + 70 := by omega
          obtain ⟨z, hz⟩ : ∃ z, (ov A L)[j]? = some z := ⟨_, List.getElem?_eq_getElem (by have := hAl.out; have := hLl.out; rw [ov_len (by omega)]; omega)⟩
          have d0 := HB.out.c0
          have dz := HB.out.cell hz
          have fz := HB.out.fg j
          have HB2 : Hid (LeC (wr.setCell ⟨g, j, none⟩ (.int .u8 ((lmB j).toNat : Int))) p po g m cs N (ov (A ++ [lmB j]) L)) := by
            have := HB.out.set j (lmB j)
            rw [ov_set hAl.out (by have := hLl.out; omega)] at this
            exact this
          have HA2 : Hid (A ++ [lmB j] = l ++ lmsB l.length (j + 1 - l.length)) := by
            rw [HA.out, show j + 1 - l.length = (j - l.length) + 1 by omega, lmsB_succ, show l.length + (j - l.length) = j by omega]
            exact hidOf (by simp)
          have HC2 : Hid (Chg (SL p g) W (wr.setCell ⟨g, j, none⟩ (.int .u8 ((lmB j).toNat : Int)))) := Chg.setCell HC.out (p := ⟨g, j, none⟩) (.inr rfl) _
          have hjm : (j : Int) < m := by omega
          have hgp : ¬ g = p := fun e => HB.out.ne e.symm
          have CMk : Hid (∀ wx, Calls Tryz.prog 55 #[.pointer (some ⟨p, po, none⟩), .int .i64 j] wx fun e w' => e = .returned (.int .u8 ((lmB j).toNat : Int)) ∧ wx = w') := fun wx => lmark_any _ j (by omega) wx
          generalize lmB j = y at *
          clear hz
          go_upto_region 10 with fail
          go_region_held3 (fun w' => w'.cell? ⟨p, po, none⟩ = some (.slice (some ⟨g, 0, none⟩) m m)) (first | exact d0 | go_keep) (first | (go_at_call 55; refine (CMk.out _).mono ?_; rintro e w2 ⟨rfl, rfl⟩))
          go_wp2
          go_roundw
          case rel => exact ⟨j + 1, A ++ [y], by simp, by omega, by omega, HA2, HB2.out.drew, HC2.out.drew⟩
          case measure => simp [intOf]; omega
        · have hltI : ¬ (j : Int) < 2 * (l.length : Int) + 70 := by omega
          have hje : Hid (A = l ++ lmsB l.length (l.length + 70)) := by rw [HA.out, show j - l.length = l.length + 70 by omega]; exact hidOf rfl
          have d0 := HB.out.c0
          have d1 := HB.out.c1
          have f1 := HB.out.fp (po + 1)
          have HB2 : Hid (LeC (wr.setCell ⟨p, po + 1, none⟩ (.int .i64 (l.length : Int))) p po g m (cs.setIfInBounds (po + 1) (.int .i64 (l.length : Int))) l.length (l ++ (lmsB l.length (l.length + 70) ++ L.drop (2 * l.length + 70)))) := by
            have := HB.out.setN (l.length : Int)
            rw [hje.out, ov_end l L _ rfl] at this
            exact this
          have HC2 : Hid (Chg (SL p g) W (wr.setCell ⟨p, po + 1, none⟩ (.int .i64 (l.length : Int)))) := Chg.setCell HC.out (p := ⟨p, po + 1, none⟩) (.inl rfl) _
          have e1 : (l.length : Int) ≤ 2 * (l.length : Int) + 70 := by omega
          have e2 : 2 * (l.length : Int) + 70 ≤ m := by omega
          go_wp2
          go_ret
          exact ⟨rfl, HB2.out, HC2.out⟩
end Go.Proofs.YtekjfbmebekmeaaGreat
