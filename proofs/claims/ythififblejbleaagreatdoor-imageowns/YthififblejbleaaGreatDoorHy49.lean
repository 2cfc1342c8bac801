import Derived.Test.YthififblejbleaaGreatDoorHy48
namespace Go.Proofs.YthififblejbleaaGreatDoor
open Go.RowKit
set_option linter.unusedVariables false
set_option linter.unusedSimpArgs false
def RdE (l : List UInt8) (w : World) (e : Ending) (w' : World) : Prop :=
  Out w w' ∧ ∃ (ta : Option Addr) (tc : Nat) (fa : Option Addr) (fc : Nat) (da : Option Addr) (dc : Nat), e = .returned (.tuple #[.agg #[.slice ta (rdI l).1.T.length tc, .slice fa (rdI l).1.F.length fc, .slice da (rdI l).1.D.length dc, .int .i64 (rdI l).1.en], .int .i64 ((rdI l).2.1 : Nat), .int .i64 (rdI l).2.2]) ∧
    OwT w' w.heap.size (.slice ta (rdI l).1.T.length tc) (rdI l).1.T ∧ OwF w' w.heap.size (.slice fa (rdI l).1.F.length fc) (rdI l).1.F ∧ OwD w' w.heap.size (.slice da (rdI l).1.D.length dc) (rdI l).1.D
def StK (l : List UInt8) (p g go n c : Nat) : Nat → World → Prop
  | 0, w => RdA w p g go n c l r0S
  | 1, w => St1 l p g go n c w
  | 2, w => St2 l p g go n c w
  | 3, w => St3 l p g go n c w
  | _ + 4, w => St4 l p g go n c w
def PsB (l : List UInt8) (p : Nat) (S : World → Prop) (w : World) (e : Ending) (w' : World) : Prop := ∃ (q : Int) (b : Bool), e = .returned (.tuple #[.int .i64 q, .bool b]) ∧ (b = true → ∃ k : Nat, q = k ∧ pasR l = .error k) ∧ (b = false → S w') ∧ Chg (fun k => k = p) w w'
theorem PsE.b {l : List UInt8} {p : Nat} {S : World → Prop} {w w' : World} {e : Ending} (h : PsE l p S w e w') : PsB l p S w e w' := by
  obtain ⟨⟨q, hq, he⟩ | ⟨q, he, hS⟩, hc⟩ := h
  · exact ⟨q, true, he, fun _ => ⟨q, rfl, hq⟩, (fun h => by cases h), hc⟩
  · exact ⟨q, false, he, fun h => by (cases h), fun _ => hS, hc⟩
theorem rd_good {l : List UInt8} {m : Img} {a : Nat} (h : pasR l = .ok m) (hc : ckP m = (a, 0)) : rdI l = (m, 0, 0) := by unfold rdI; rw [h]; simp [hc]
theorem rd_ill {l : List UInt8} {m : Img} {a : Nat} {b : Int} (h : pasR l = .ok m) (hc : ckP m = (a, b)) (hb : b ≠ 0) : rdI l = (nilM, a, b) := by unfold rdI; rw [h]; simp [hc, hb]
theorem pas_hd {l : List UInt8} {m : Img} (h : pasR l = .ok m) : hdF l = none := by
  unfold pasR at h
  cases hh : hdF l with
  | none => rfl
  | some q => rw [hh] at h; cases h
theorem pas_len {l : List UInt8} {m : Img} (h : pasR l = .ok m) (hl : l.length ≤ 1000000000000) : m.T.length ≤ 3518437208883 := by
  have h1 := (forth_I h).1
  have h2 : m.T.length ≤ slotsP m.T := by unfold slotsP; omega
  have h3 : (wrB m).length = l.length := by rw [h1]
  have h4 : 8 * slotsP m.T ≤ (wrB m).length := by
    unfold wrB; simp only [List.length_append, txtB_len]; omega
  omega
theorem rd_bad {l : List UInt8} {k : Nat} (h : pasR l = .error k) : rdI l = (nilM, k, 170) := by unfold rdI; rw [h]
set_option maxRecDepth 8000 in
set_option maxHeartbeats 2000000 in
theorem read17_any (w : World) (g go n c : Nat) (l : List UInt8) (hl : l.length = n) (hnc : n ≤ c) (hb : BtA w g go l) (hg : g < w.heap.size) (hT : Tb64 w) (hw1 : 1 < w.heap.size) (hn : n ≤ 281474976710656) : Calls Tryz.prog 8 #[.slice (some ⟨g, go, none⟩) n c] w (RdE l w) := by
  obtain ⟨w3, hw3⟩ : ∃ w3, Hid (w3 = ((w.alloc (.cells #[.slice none 0 0, .slice none 0 0, .slice none 0 0, .int .i64 0] 26)).alloc (.cells #[.slice (some ⟨g, go, none⟩) n c, .int .i64 0, .bool true, .int .i64 0, .int .i64 0, .int .i64 0, .int .i64 0, .int .i64 0, .pointer none, .int .i64 0, .slice none 0 0, .slice none 0 0, .slice none 0 0, .int .i64 0] 97))) := ⟨_, rfl⟩
  obtain ⟨p, hp⟩ : ∃ p, Hid (p = w.heap.size + 1) := ⟨_, rfl⟩
  have hpw : w.heap.size < p := by rw [hp.out]; omega
  have O3 : Hid (Out w w3) := hidOf (by rw [hw3.out]; exact Out.alloc (Out.alloc (Out.refl _) _) _)
  have hs3 : w3.heap.size = p + 1 := by rw [hw3.out, size_alloc, size_alloc, hp.out]
  have R3 : Hid (RdA w3 p g go n c l r0S) := hidOf (by
    refine ⟨hl, hnc, fun k x hx => cell_later O3.out (hb k x hx), ?_, by omega, by omega⟩
    have := heap_alloc_new (w.alloc (.cells #[.slice none 0 0, .slice none 0 0, .slice none 0 0, .int .i64 0] 26)) (.cells #[.slice (some ⟨g, go, none⟩) n c, .int .i64 0, .bool true, .int .i64 0, .int .i64 0, .int .i64 0, .int .i64 0, .int .i64 0, .pointer none, .int .i64 0, .slice none 0 0, .slice none 0 0, .slice none 0 0, .int .i64 0] 97)
    rw [size_alloc, ← hw3.out, ← hp.out] at this
    exact this)
  have B3 : Hid (w3.heap[w.heap.size]? = some (.cells #[.slice none 0 0, .slice none 0 0, .slice none 0 0, .int .i64 0] 26 (0, 0))) := hidOf (by
    rw [hw3.out, Below.heap_alloc _ _ _ (by rw [size_alloc]; omega)]; exact heap_alloc_new w _)
  have T3 := hidOf (hT.out O3.out)
  go_enter Tryz.func8, Tryz.ntmps8
  go_upto_region 2 with fail
  rw [← hw3.out, ← hp.out]
  go_wp2_with (go_at_call 31; refine (passes_any _).mono ?_; rintro e w4 ⟨rfl, h4⟩; have H4 := hidOf h4; clear h4)
  have O4 : Hid (Out w3 w4) := hidOf (by rw [H4.out]; exact Out.alloc (Out.refl _) _)
  have LF : Hid (∀ (j : Nat) (v : Value), (#[.func (.func 64) #[] #[], .func (.func 65) #[] #[], .func (.func 66) #[] #[], .func (.func 67) #[] #[]] : Array Value)[j]? = some v → w4.cell? ⟨w3.heap.size, j, none⟩ = some v) := hidOf (fun j v hv => by
    have := heap_alloc_new w3 (.cells #[.func (.func 64) #[] #[], .func (.func 65) #[] #[], .func (.func 66) #[] #[], .func (.func 67) #[] #[]] 100)
    rw [← H4.out] at this
    rw [cell_atL this]; exact hv)
  have B4 := hidOf ((O4.out.block _ (by omega)).trans B3.out)
  have OX : Hid (∀ wx, Chg (fun b => b = p) w4 wx → Out w wx) := hidOf (fun wx hc => out_chg (O3.out.trans O4.out) hc (fun k hk => by omega))
  go_loopw [18] (fun v wr => ∃ k : Nat, k ≤ 4 ∧ v = .int .i64 (k : Nat) ∧ Hid (Chg (fun b => b = p) w4 wr) ∧ Hid (StK l p g go n c k wr)) (fun v _ => 4 - (intOf v).toNat)
  case atStart => exact ⟨0, by omega, rfl, hidOf (Chg.refl _ _), hidOf (R3.out.out O4.out)⟩
  case round =>
    obtain ⟨k, hk, rfl, HC, HS⟩ := hrel
    have hpl : ¬ w3.heap.size = p := by omega
    have T5 := hidOf ((T3.out.out O4.out).chg HC.out (by omega))
    have hp1 : ¬ 1 = p := by omega
    obtain rfl | rfl | rfl | rfl | rfl : k = 0 ∨ k = 1 ∨ k = 2 ∨ k = 3 ∨ k = 4 := by omega
    · have f0 : wr.cell? ⟨p + 1, 0, none⟩ = some (.func (.func 64) #[] #[]) := by rw [← hs3]; exact HC.out.cell (LF.out 0 _ rfl) hpl
      have CP : Hid (Calls Tryz.prog 64 #[.pointer (some ⟨p, 0, none⟩)] wr (PsB l p (StK l p g go n c 1) wr)) := hidOf ((pass1 wr p g go n c l HS.out hn).mono (fun _ _ h => h.b))
      go_upto_region 6 with (go_at_call 64; refine CP.out.mono ?_; rintro e w5 ⟨q, b, rfl, hq, hS, k5⟩)
      have HC5 := hidOf (HC.out.trans k5 (fun x h _ => h))
      cases b
      · have HS5 := hidOf (hS rfl)
        clear hq hS
        go_wp2
        go_roundw
        case rel => exact ⟨1, by omega, by simp, HC5, HS5⟩
        case measure => simp [intOf]
      · obtain ⟨k, rfl, hpk⟩ := hq rfl
        have HP := hidOf hpk
        clear hq hS hpk
        have b5 := hidOf ((HC5.out.block _ (by have := O4.out.size; omega : w.heap.size < w4.heap.size) (by omega)).trans B4.out)
        have z0 : w5.cell? ⟨w.heap.size, 0, none⟩ = some (.slice none 0 0) := by rw [cell_atL b5.out]; rfl
        have z1 : w5.cell? ⟨w.heap.size, 1, none⟩ = some (.slice none 0 0) := by rw [cell_atL b5.out]; rfl
        have z2 : w5.cell? ⟨w.heap.size, 2, none⟩ = some (.slice none 0 0) := by rw [cell_atL b5.out]; rfl
        have z3 : w5.cell? ⟨w.heap.size, 3, none⟩ = some (.int .i64 0) := by rw [cell_atL b5.out]; rfl
        have g0 := frozen_atL b5.out 0
        have g1 := frozen_atL b5.out 1
        have g2 := frozen_atL b5.out 2
        have g3 := frozen_atL b5.out 3
        go_wp2
        refine bodyPost_ret (results_cell3 rfl _ _ w.heap.size 26 _ (0, 0) _ rfl (blk_set (blk_set (blk_set (blk_set b5.out _ _) _ _) _ _) _ _) Tryz.underlying26 rfl (by kernel_rfl)) rfl ?_
        have hr := rd_bad HP.out
        refine ⟨(((OX.out w5 HC5.out).setCell (Nat.le_refl _) _).setCell (Nat.le_refl _) _ |>.setCell (Nat.le_refl _) _).setCell (Nat.le_refl _) _, none, 0, none, 0, none, 0, ?_, ?_, ?_, ?_⟩
        · rw [hr]; rfl
        · rw [hr]; exact World.ownsRow_nil _ _ _ _
        · rw [hr]; exact World.ownsRow_nil _ _ _ _
        · rw [hr]; exact World.ownsRow_nil _ _ _ _
    · have f0 : wr.cell? ⟨p + 1, 1, none⟩ = some (.func (.func 65) #[] #[]) := by rw [← hs3]; exact HC.out.cell (LF.out 1 _ rfl) hpl
      have CP : Hid (Calls Tryz.prog 65 #[.pointer (some ⟨p, 0, none⟩)] wr (PsB l p (StK l p g go n c 2) wr)) := hidOf ((pass2 wr p g go n c l HS.out T5.out hp1 (by rw [← hl]; exact hd_lim (show St1 l p g go n c wr from HS.out).1)).mono (fun _ _ h => h.b))
      go_upto_region 6 with (go_at_call 65; refine CP.out.mono ?_; rintro e w5 ⟨q, b, rfl, hq, hS, k5⟩)
      have HC5 := hidOf (HC.out.trans k5 (fun x h _ => h))
      cases b
      · have HS5 := hidOf (hS rfl)
        clear hq hS
        go_wp2
        go_roundw
        case rel => exact ⟨2, by omega, by simp, HC5, HS5⟩
        case measure => simp [intOf]
      · obtain ⟨k, rfl, hpk⟩ := hq rfl
        have HP := hidOf hpk
        clear hq hS hpk
        have b5 := hidOf ((HC5.out.block _ (by have := O4.out.size; omega : w.heap.size < w4.heap.size) (by omega)).trans B4.out)
        have z0 : w5.cell? ⟨w.heap.size, 0, none⟩ = some (.slice none 0 0) := by rw [cell_atL b5.out]; rfl
        have z1 : w5.cell? ⟨w.heap.size, 1, none⟩ = some (.slice none 0 0) := by rw [cell_atL b5.out]; rfl
        have z2 : w5.cell? ⟨w.heap.size, 2, none⟩ = some (.slice none 0 0) := by rw [cell_atL b5.out]; rfl
        have z3 : w5.cell? ⟨w.heap.size, 3, none⟩ = some (.int .i64 0) := by rw [cell_atL b5.out]; rfl
        have g0 := frozen_atL b5.out 0
        have g1 := frozen_atL b5.out 1
        have g2 := frozen_atL b5.out 2
        have g3 := frozen_atL b5.out 3
        go_wp2
        refine bodyPost_ret (results_cell3 rfl _ _ w.heap.size 26 _ (0, 0) _ rfl (blk_set (blk_set (blk_set (blk_set b5.out _ _) _ _) _ _) _ _) Tryz.underlying26 rfl (by kernel_rfl)) rfl ?_
        have hr := rd_bad HP.out
        refine ⟨(((OX.out w5 HC5.out).setCell (Nat.le_refl _) _).setCell (Nat.le_refl _) _ |>.setCell (Nat.le_refl _) _).setCell (Nat.le_refl _) _, none, 0, none, 0, none, 0, ?_, ?_, ?_, ?_⟩
        · rw [hr]; rfl
        · rw [hr]; exact World.ownsRow_nil _ _ _ _
        · rw [hr]; exact World.ownsRow_nil _ _ _ _
        · rw [hr]; exact World.ownsRow_nil _ _ _ _
    · have f0 : wr.cell? ⟨p + 1, 2, none⟩ = some (.func (.func 66) #[] #[]) := by rw [← hs3]; exact HC.out.cell (LF.out 2 _ rfl) hpl
      have CP : Hid (Calls Tryz.prog 66 #[.pointer (some ⟨p, 0, none⟩)] wr (PsB l p (StK l p g go n c 3) wr)) := hidOf ((pass3 wr p g go n c l HS.out (by rw [← hl]; exact hd_lim (show St2 l p g go n c wr from HS.out).1)).mono (fun _ _ h => h.b))
      go_upto_region 6 with (go_at_call 66; refine CP.out.mono ?_; rintro e w5 ⟨q, b, rfl, hq, hS, k5⟩)
      have HC5 := hidOf (HC.out.trans k5 (fun x h _ => h))
      cases b
      · have HS5 := hidOf (hS rfl)
        clear hq hS
        go_wp2
        go_roundw
        case rel => exact ⟨3, by omega, by simp, HC5, HS5⟩
        case measure => simp [intOf]
      · obtain ⟨k, rfl, hpk⟩ := hq rfl
        have HP := hidOf hpk
        clear hq hS hpk
        have b5 := hidOf ((HC5.out.block _ (by have := O4.out.size; omega : w.heap.size < w4.heap.size) (by omega)).trans B4.out)
        have z0 : w5.cell? ⟨w.heap.size, 0, none⟩ = some (.slice none 0 0) := by rw [cell_atL b5.out]; rfl
        have z1 : w5.cell? ⟨w.heap.size, 1, none⟩ = some (.slice none 0 0) := by rw [cell_atL b5.out]; rfl
        have z2 : w5.cell? ⟨w.heap.size, 2, none⟩ = some (.slice none 0 0) := by rw [cell_atL b5.out]; rfl
        have z3 : w5.cell? ⟨w.heap.size, 3, none⟩ = some (.int .i64 0) := by rw [cell_atL b5.out]; rfl
        have g0 := frozen_atL b5.out 0
        have g1 := frozen_atL b5.out 1
        have g2 := frozen_atL b5.out 2
        have g3 := frozen_atL b5.out 3
        go_wp2
        refine bodyPost_ret (results_cell3 rfl _ _ w.heap.size 26 _ (0, 0) _ rfl (blk_set (blk_set (blk_set (blk_set b5.out _ _) _ _) _ _) _ _) Tryz.underlying26 rfl (by kernel_rfl)) rfl ?_
        have hr := rd_bad HP.out
        refine ⟨(((OX.out w5 HC5.out).setCell (Nat.le_refl _) _).setCell (Nat.le_refl _) _ |>.setCell (Nat.le_refl _) _).setCell (Nat.le_refl _) _, none, 0, none, 0, none, 0, ?_, ?_, ?_, ?_⟩
        · rw [hr]; rfl
        · rw [hr]; exact World.ownsRow_nil _ _ _ _
        · rw [hr]; exact World.ownsRow_nil _ _ _ _
        · rw [hr]; exact World.ownsRow_nil _ _ _ _
    · have f0 : wr.cell? ⟨p + 1, 3, none⟩ = some (.func (.func 67) #[] #[]) := by rw [← hs3]; exact HC.out.cell (LF.out 3 _ rfl) hpl
      have CP : Hid (Calls Tryz.prog 67 #[.pointer (some ⟨p, 0, none⟩)] wr (PsB l p (StK l p g go n c 4) wr)) := hidOf ((pass4 wr p g go n c l HS.out (by rw [← hl]; exact hd_lim (show St3 l p g go n c wr from HS.out).1)).mono (fun _ _ h => h.b))
      go_upto_region 6 with (go_at_call 67; refine CP.out.mono ?_; rintro e w5 ⟨q, b, rfl, hq, hS, k5⟩)
      have HC5 := hidOf (HC.out.trans k5 (fun x h _ => h))
      cases b
      · have HS5 := hidOf (hS rfl)
        clear hq hS
        go_wp2
        go_roundw
        case rel => exact ⟨4, by omega, by simp, HC5, HS5⟩
        case measure => simp [intOf]
      · obtain ⟨k, rfl, hpk⟩ := hq rfl
        have HP := hidOf hpk
        clear hq hS hpk
        have b5 := hidOf ((HC5.out.block _ (by have := O4.out.size; omega : w.heap.size < w4.heap.size) (by omega)).trans B4.out)
        have z0 : w5.cell? ⟨w.heap.size, 0, none⟩ = some (.slice none 0 0) := by rw [cell_atL b5.out]; rfl
        have z1 : w5.cell? ⟨w.heap.size, 1, none⟩ = some (.slice none 0 0) := by rw [cell_atL b5.out]; rfl
        have z2 : w5.cell? ⟨w.heap.size, 2, none⟩ = some (.slice none 0 0) := by rw [cell_atL b5.out]; rfl
        have z3 : w5.cell? ⟨w.heap.size, 3, none⟩ = some (.int .i64 0) := by rw [cell_atL b5.out]; rfl
        have g0 := frozen_atL b5.out 0
        have g1 := frozen_atL b5.out 1
        have g2 := frozen_atL b5.out 2
        have g3 := frozen_atL b5.out 3
        go_wp2
        refine bodyPost_ret (results_cell3 rfl _ _ w.heap.size 26 _ (0, 0) _ rfl (blk_set (blk_set (blk_set (blk_set b5.out _ _) _ _) _ _) _ _) Tryz.underlying26 rfl (by kernel_rfl)) rfl ?_
        have hr := rd_bad HP.out
        refine ⟨(((OX.out w5 HC5.out).setCell (Nat.le_refl _) _).setCell (Nat.le_refl _) _ |>.setCell (Nat.le_refl _) _).setCell (Nat.le_refl _) _, none, 0, none, 0, none, 0, ?_, ?_, ?_, ?_⟩
        · rw [hr]; rfl
        · rw [hr]; exact World.ownsRow_nil _ _ _ _
        · rw [hr]; exact World.ownsRow_nil _ _ _ _
        · rw [hr]; exact World.ownsRow_nil _ _ _ _
    · obtain ⟨m, ga, cp, fa, fc, da, dc, r, hpa, hra, hen, oT, oF, oD⟩ := (show St4 l p g go n c wr from HS.out)
      have HP := hidOf hpa
      have c10 : wr.cell? ⟨p, 10, none⟩ = some (.slice (some ⟨ga, 0, none⟩) m.T.length cp) := hra.cell 10 _ rfl
      have c11 : wr.cell? ⟨p, 11, none⟩ = some (.slice fa m.F.length fc) := hra.cell 11 _ rfl
      have c12 : wr.cell? ⟨p, 12, none⟩ = some (.slice da m.D.length dc) := hra.cell 12 _ rfl
      have c13 : wr.cell? ⟨p, 13, none⟩ = some (.int .i64 m.en) := by rw [hen]; exact hra.cell 13 _ rfl
      have HT := hidOf oT
      have HF := hidOf oF
      have HD := hidOf oD
      obtain ⟨a, b, hab⟩ : ∃ a b, Hid (ckP m = (a, b)) := ⟨_, _, hidOf rfl⟩
      have CK : Hid (Calls Tryz.prog 23 #[.agg #[.slice (some ⟨ga, 0, none⟩) m.T.length cp, .slice fa m.F.length fc, .slice da m.D.length dc, .int .i64 m.en]] wr fun e w' => e = .returned (.tuple #[.int .i64 (a : Nat), .int .i64 b]) ∧ Out wr w') := hidOf (by
        have := check_any m wr (some ⟨ga, 0, none⟩) fa da cp fc dc ⟨oT.insA, oF.fnA, oD.tdA, pas_len hpa (hd_lim (pas_hd hpa)), pas_small hpa (hd_lim (pas_hd hpa))⟩
        rw [hab.out] at this; exact this)
      clear hpa hra hen oT oF oD
      go_upto_region 10 with (go_at_call 23; refine CK.out.mono ?_; rintro e w5 ⟨rfl, o5⟩)
      have HO5 := hidOf o5
      have b5 := hidOf ((o5.block _ (by have := HC.out.size; have := O4.out.size; omega)).trans ((HC.out.block _ (by have := O4.out.size; omega : w.heap.size < w4.heap.size) (by omega)).trans B4.out))
      have d10 := cell_later o5 c10
      have d11 := cell_later o5 c11
      have d12 := cell_later o5 c12
      have d13 := cell_later o5 c13
      clear c10 c11 c12 c13 o5
      have z0 : w5.cell? ⟨w.heap.size, 0, none⟩ = some (.slice none 0 0) := by rw [cell_atL b5.out]; rfl
      have z1 : w5.cell? ⟨w.heap.size, 1, none⟩ = some (.slice none 0 0) := by rw [cell_atL b5.out]; rfl
      have z2 : w5.cell? ⟨w.heap.size, 2, none⟩ = some (.slice none 0 0) := by rw [cell_atL b5.out]; rfl
      have z3 : w5.cell? ⟨w.heap.size, 3, none⟩ = some (.int .i64 0) := by rw [cell_atL b5.out]; rfl
      have g0 := frozen_atL b5.out 0
      have g1 := frozen_atL b5.out 1
      have g2 := frozen_atL b5.out 2
      have g3 := frozen_atL b5.out 3
      have OO := hidOf ((OX.out wr HC.out).trans HO5.out)
      by_cases hb : b = 0
      · subst hb
        go_wp2
        refine bodyPost_ret (results_cell3 rfl _ _ w.heap.size 26 _ (0, 0) _ rfl (blk_set (blk_set (blk_set (blk_set b5.out _ _) _ _) _ _) _ _) Tryz.underlying26 rfl (by kernel_rfl)) rfl ?_
        have hr := rd_good HP.out hab.out
        have hch : ∀ v0 v1 v2 v3, Chg (fun k => k = w.heap.size) wr ((((w5.setCell ⟨w.heap.size, 0, none⟩ v0).setCell ⟨w.heap.size, 1, none⟩ v1).setCell ⟨w.heap.size, 2, none⟩ v2).setCell ⟨w.heap.size, 3, none⟩ v3) := fun v0 v1 v2 v3 => Chg.put4 (S := fun k => k = w.heap.size) (Chg.of_out HO5.out) rfl 0 1 2 3 v0 v1 v2 v3
        refine ⟨((OO.out.setCell (Nat.le_refl _) _).setCell (Nat.le_refl _) _ |>.setCell (Nat.le_refl _) _).setCell (Nat.le_refl _) _, some ⟨ga, 0, none⟩, cp, fa, fc, da, dc, ?_, ?_, ?_, ?_⟩
        · rw [hr]; rfl
        · rw [hr]; exact own_base (owns_chg HT.out (fun k hk e => by have := (HT.out.lt k hk).1; omega) (hch _ _ _ _)) (by omega)
        · rw [hr]; exact own_base (owns_chg HF.out (fun k hk e => by have := (HF.out.lt k hk).1; omega) (hch _ _ _ _)) (by omega)
        · rw [hr]; exact own_base (owns_chg HD.out (fun k hk e => by have := (HD.out.lt k hk).1; omega) (hch _ _ _ _)) (by omega)
      · have hbt : (b != 0) = true := by simp [hb]
        have hbf : (b == 0) = false := by simp [hb]
        go_wp2
        refine bodyPost_ret (results_cell3 rfl _ _ w.heap.size 26 _ (0, 0) _ rfl (blk_set (blk_set (blk_set (blk_set b5.out _ _) _ _) _ _) _ _) Tryz.underlying26 rfl (by kernel_rfl)) rfl ?_
        have hr := rd_ill HP.out hab.out hb
        refine ⟨((OO.out.setCell (Nat.le_refl _) _).setCell (Nat.le_refl _) _ |>.setCell (Nat.le_refl _) _).setCell (Nat.le_refl _) _, none, 0, none, 0, none, 0, ?_, ?_, ?_, ?_⟩
        · rw [hr]; rfl
        · rw [hr]; exact World.ownsRow_nil _ _ _ _
        · rw [hr]; exact World.ownsRow_nil _ _ _ _
        · rw [hr]; exact World.ownsRow_nil _ _ _ _
theorem takeHead_nil (w : World) (p : Nat) (a : Option Addr) (c : Nat) (c0 : w.cell? ⟨p, 0, none⟩ = some (.slice a 0 c)) : Calls Tryz.prog 64 #[.pointer (some ⟨p, 0, none⟩)] w fun e w' => e = .returned (.tuple #[.int .i64 0, .bool true]) ∧ w' = w := by
  go_enter Tryz.func64, Tryz.ntmps64
  go_wp2
  go_ret2
  exact ⟨rfl, rfl⟩
set_option maxRecDepth 8000 in
set_option maxHeartbeats 2000000 in
theorem read17_nil (w : World) (a : Option Addr) (c : Nat) : Calls Tryz.prog 8 #[.slice a 0 c] w (RdE [] w) := by
  obtain ⟨w3, hw3⟩ : ∃ w3, Hid (w3 = ((w.alloc (.cells #[.slice none 0 0, .slice none 0 0, .slice none 0 0, .int .i64 0] 26)).alloc (.cells #[.slice a 0 c, .int .i64 0, .bool true, .int .i64 0, .int .i64 0, .int .i64 0, .int .i64 0, .int .i64 0, .pointer none, .int .i64 0, .slice none 0 0, .slice none 0 0, .slice none 0 0, .int .i64 0] 97))) := ⟨_, rfl⟩
  obtain ⟨p, hp⟩ : ∃ p, Hid (p = w.heap.size + 1) := ⟨_, rfl⟩
  have hpw : w.heap.size < p := by rw [hp.out]; omega
  have O3 : Hid (Out w w3) := hidOf (by rw [hw3.out]; exact Out.alloc (Out.alloc (Out.refl _) _) _)
  have hs3 : w3.heap.size = p + 1 := by rw [hw3.out, size_alloc, size_alloc, hp.out]
  have R3 : Hid (w3.cell? ⟨p, 0, none⟩ = some (.slice a 0 c)) := hidOf (by
    have := heap_alloc_new (w.alloc (.cells #[.slice none 0 0, .slice none 0 0, .slice none 0 0, .int .i64 0] 26)) (.cells #[.slice a 0 c, .int .i64 0, .bool true, .int .i64 0, .int .i64 0, .int .i64 0, .int .i64 0, .int .i64 0, .pointer none, .int .i64 0, .slice none 0 0, .slice none 0 0, .slice none 0 0, .int .i64 0] 97)
    rw [size_alloc, ← hw3.out, ← hp.out] at this
    rw [cell_atL this]; rfl)
  have B3 : Hid (w3.heap[w.heap.size]? = some (.cells #[.slice none 0 0, .slice none 0 0, .slice none 0 0, .int .i64 0] 26 (0, 0))) := hidOf (by
    rw [hw3.out, Below.heap_alloc _ _ _ (by rw [size_alloc]; omega)]; exact heap_alloc_new w _)
  go_enter Tryz.func8, Tryz.ntmps8
  go_upto_region 2 with fail
  rw [← hw3.out, ← hp.out]
  go_wp2_with (go_at_call 31; refine (passes_any _).mono ?_; rintro e w4 ⟨rfl, h4⟩; have H4 := hidOf h4; clear h4)
  have O4 : Hid (Out w3 w4) := hidOf (by rw [H4.out]; exact Out.alloc (Out.refl _) _)
  have LF : Hid (w4.cell? ⟨w3.heap.size, 0, none⟩ = some (.func (.func 64) #[] #[])) := hidOf (by
    have := heap_alloc_new w3 (.cells #[.func (.func 64) #[] #[], .func (.func 65) #[] #[], .func (.func 66) #[] #[], .func (.func 67) #[] #[]] 100)
    rw [← H4.out] at this
    rw [cell_atL this]; rfl)
  have B4 := hidOf ((O4.out.block _ (by omega)).trans B3.out)
  have R4 := hidOf (cell_later O4.out R3.out)
  have OX := hidOf (O3.out.trans O4.out)
  go_loopw [18] (fun v wr => v = .int .i64 0 ∧ wr = w4) (fun v _ => 0)
  case atStart => exact ⟨rfl, rfl⟩
  case round =>
    obtain ⟨rfl, rfl⟩ := hrel
    have f0 : wr.cell? ⟨p + 1, 0, none⟩ = some (.func (.func 64) #[] #[]) := by rw [← hs3]; exact LF.out
    have CP := hidOf (takeHead_nil wr p a c R4.out)
    have z0 : wr.cell? ⟨w.heap.size, 0, none⟩ = some (.slice none 0 0) := by rw [cell_atL B4.out]; rfl
    have z1 : wr.cell? ⟨w.heap.size, 1, none⟩ = some (.slice none 0 0) := by rw [cell_atL B4.out]; rfl
    have z2 : wr.cell? ⟨w.heap.size, 2, none⟩ = some (.slice none 0 0) := by rw [cell_atL B4.out]; rfl
    have z3 : wr.cell? ⟨w.heap.size, 3, none⟩ = some (.int .i64 0) := by rw [cell_atL B4.out]; rfl
    have g0 := frozen_atL B4.out 0
    have g1 := frozen_atL B4.out 1
    have g2 := frozen_atL B4.out 2
    have g3 := frozen_atL B4.out 3
    go_wp2_with (go_at_call 64; refine CP.out.mono ?_; rintro e w5 ⟨rfl, h5⟩; subst h5)
    refine bodyPost_ret (results_cell3 rfl _ _ w.heap.size 26 _ (0, 0) _ rfl (blk_set (blk_set (blk_set (blk_set B4.out _ _) _ _) _ _) _ _) Tryz.underlying26 rfl (by kernel_rfl)) rfl ?_
    have hr : rdI [] = (nilM, 0, 170) := rd_hd (by rfl)
    refine ⟨((OX.out.setCell (Nat.le_refl _) _).setCell (Nat.le_refl _) _ |>.setCell (Nat.le_refl _) _).setCell (Nat.le_refl _) _, none, 0, none, 0, none, 0, ?_, ?_, ?_, ?_⟩
    · rw [hr]; rfl
    · rw [hr]; exact World.ownsRow_nil _ _ _ _
    · rw [hr]; exact World.ownsRow_nil _ _ _ _
    · rw [hr]; exact World.ownsRow_nil _ _ _ _
theorem read17_rest (w : World) (a : Option Addr) (c : Nat) (l : List UInt8) (h : RestAt w.heap.size w a l) (hc : l.length ≤ c) (hT : Tb64 w) (hw1 : 1 < w.heap.size) (hn : l.length ≤ 281474976710656) : Calls Tryz.prog 8 #[.slice a l.length c] w (RdE l w) := by
  rcases h with rfl | ⟨b, off, hb, rfl, h⟩
  · exact read17_nil w a c
  · exact read17_any w b off l.length c l rfl hc h hb hT hw1 hn
end Go.Proofs.YthififblejbleaaGreatDoor
