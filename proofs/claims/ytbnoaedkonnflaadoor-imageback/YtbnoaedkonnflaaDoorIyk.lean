import Derived.Test.YtbnoaedkonnflaaDoorIyj
namespace Go.Proofs.YtbnoaedkonnflaaDoor
open Go.RowKit
set_option linter.unusedVariables false
set_option linter.unusedSimpArgs false
/-- the head within the reader: its fields, its size -/
theorem headFields3 (h : Nat) (w : World) : Calls Tryd.prog 30 #[.pointer (some ⟨h, 3, none⟩)] w fun e w' => ∃ q, e = .returned (.slice (some ⟨q, 0, none⟩) 5 5) ∧ w.heap.size ≤ q ∧ q < w'.heap.size ∧ (∀ i, i < 5 → w'.cell? ⟨q, i, none⟩ = some (.pointer (some ⟨h, 3 + i, none⟩))) ∧ Out w w' := by
  go_enter Tryd.func30, Tryd.ntmps30
  go_upto_region 1 with fail
  go_region_held3 (fun _ => True) (trivial) (fail)
  go_wp2
  go_ret
  refine ⟨_, rfl, Nat.le_refl _, ?_, ?_, ?_⟩
  · simp
  · intro i hi
    obtain rfl | rfl | rfl | rfl | rfl : i = 0 ∨ i = 1 ∨ i = 2 ∨ i = 3 ∨ i = 4 := by omega
    all_goals exact cell_fresh _ _ _ _ _ rfl
  · first | exact Out.alloc (Out.drew (Out.refl _)) _ | exact Out.drew (Out.alloc (Out.drew (Out.refl _)) _)
theorem headSize3 (h : Nat) (w : World) (s f d n : Nat) (c0 : w.cell? ⟨h, 3, none⟩ = some (.int .i64 s)) (c1 : w.cell? ⟨h, 4, none⟩ = some (.int .i64 f)) (c2 : w.cell? ⟨h, 5, none⟩ = some (.int .i64 d)) (c3 : w.cell? ⟨h, 6, none⟩ = some (.int .i64 n)) (hs : s < 4294967296) (hf : f < 4294967296) (hd : d < 4294967296) (hn : n < 4294967296) : Calls Tryd.prog 28 #[.pointer (some ⟨h, 3, none⟩)] w fun e w' => e = .returned (.int .i64 (sizP s f d n : Nat)) ∧ ∃ m, w' = w.drewN m := by
  have e1 : ((sizP s f d n : Nat) : Int) = 28 + 8 * (s : Int) + 16 * (f : Int) + 20 * (d : Int) + (n : Int) := by unfold sizP; omega
  rw [e1]
  have g1 : (s : Int) < 4294967296 := by omega
  have g2 : (f : Int) < 4294967296 := by omega
  have g3 : (d : Int) < 4294967296 := by omega
  have g4 : (n : Int) < 4294967296 := by omega
  go_enter Tryd.func28, Tryd.ntmps28
  go_upto_region 1 with fail
  go_quiet (fail)
  go_wp2
  go_ret
  exact ⟨rfl, _, rfl⟩
/-- the head's five numbers are taken up -/
theorem head_set {w : World} {p g go n c : Nat} {l : List UInt8} {r : Rs} (h : RdA w p g go n c l r) (ho : r.o = 8) : RdA (setN l p 8 [(p, 3), (p, 4), (p, 5), (p, 6), (p, 7)] w) p g go n c l { r with o := 28, s := g4 l 8, f := g4 l 12, d := g4 l 16, n := g4 l 20, e := g4 l 24 } := by
  obtain ⟨o, s, f, d, nn, eh, nm, nx, tv, fv, dv, en⟩ := r
  simp only at ho
  subst ho
  simp only [setN, stepN]
  have a1 := (h.set (r' := ⟨8, g4 l 8, f, d, nn, eh, nm, nx, tv, fv, dv, en⟩) 3 (.int .i64 (g4 l 8 : Nat)) rfl).set (r' := ⟨12, g4 l 8, f, d, nn, eh, nm, nx, tv, fv, dv, en⟩) 1 (.int .i64 ((8 : Nat) + 4)) rfl
  have a2 := (a1.set (r' := ⟨12, g4 l 8, g4 l 12, d, nn, eh, nm, nx, tv, fv, dv, en⟩) 4 (.int .i64 (g4 l 12 : Nat)) rfl).set (r' := ⟨16, g4 l 8, g4 l 12, d, nn, eh, nm, nx, tv, fv, dv, en⟩) 1 (.int .i64 ((12 : Nat) + 4)) rfl
  have a3 := (a2.set (r' := ⟨16, g4 l 8, g4 l 12, g4 l 16, nn, eh, nm, nx, tv, fv, dv, en⟩) 5 (.int .i64 (g4 l 16 : Nat)) rfl).set (r' := ⟨20, g4 l 8, g4 l 12, g4 l 16, nn, eh, nm, nx, tv, fv, dv, en⟩) 1 (.int .i64 ((16 : Nat) + 4)) rfl
  have a4 := (a3.set (r' := ⟨20, g4 l 8, g4 l 12, g4 l 16, g4 l 20, eh, nm, nx, tv, fv, dv, en⟩) 6 (.int .i64 (g4 l 20 : Nat)) rfl).set (r' := ⟨24, g4 l 8, g4 l 12, g4 l 16, g4 l 20, eh, nm, nx, tv, fv, dv, en⟩) 1 (.int .i64 ((20 : Nat) + 4)) rfl
  exact (a4.set (r' := ⟨24, g4 l 8, g4 l 12, g4 l 16, g4 l 20, g4 l 24, nm, nx, tv, fv, dv, en⟩) 7 (.int .i64 (g4 l 24 : Nat)) rfl).set (r' := ⟨28, g4 l 8, g4 l 12, g4 l 16, g4 l 20, g4 l 24, nm, nx, tv, fv, dv, en⟩) 1 (.int .i64 ((24 : Nat) + 4)) rfl
theorem numH (w w8 : World) (p g go n c q : Nat) (l : List UInt8) (r : Rs) (h : RdA w p g go n c l r) (ho : r.o = 8) (o8 : Out w w8) (hq : w.heap.size ≤ q) (hcq : ∀ i, i < 5 → w8.cell? ⟨q, i, none⟩ = some (.pointer (some ⟨p, 3 + i, none⟩))) (hr : 28 ≤ n) (hn : n ≤ 281474976710656) : Calls Tryd.prog 29 #[.pointer (some ⟨p, 0, none⟩), .slice (some ⟨q, 0, none⟩) 5 5] w8 fun e w' => (∃ v, e = .returned v) ∧ RdA w' p g go n c l { r with o := 28, s := g4 l 8, f := g4 l 12, d := g4 l 16, n := g4 l 20, e := g4 l 24 } ∧ Chg (fun k => k = p) w w' := by
  have h8 := h.out o8
  have hpl := h.pl
  have hgl := h.gl
  refine (numbersR_any w8 p g go n c 8 q l [(p, 3), (p, 4), (p, 5), (p, 6), (p, 7)] h.l_ h8.bt h.nc (h8.cell 0 _ rfl) (by have := h8.cell 1 (.int .i64 (r.o : Nat)) rfl; rw [ho] at this; exact this) (h8.cell 2 _ rfl) (h8.frozen 1) (fun i y hy => by
    rcases i with _ | _ | _ | _ | _ | i
    · simp at hy; subst hy; exact hcq 0 (by omega)
    · simp at hy; subst hy; exact hcq 1 (by omega)
    · simp at hy; subst hy; exact hcq 2 (by omega)
    · simp at hy; subst hy; exact hcq 3 (by omega)
    · simp at hy; subst hy; exact hcq 4 (by omega)
    · simp at hy) (fun y hy => by
    simp at hy
    have e3 := h8.cell 3 _ rfl
    have e4 := h8.cell 4 _ rfl
    have e5 := h8.cell 5 _ rfl
    have e6 := h8.cell 6 _ rfl
    have e7 := h8.cell 7 _ rfl
    rcases hy with rfl | rfl | rfl | rfl | rfl
    · exact ⟨by rw [e3]; rfl, h8.frozen _, h.pg, by simp; omega, by simp⟩
    · exact ⟨by rw [e4]; rfl, h8.frozen _, h.pg, by simp; omega, by simp⟩
    · exact ⟨by rw [e5]; rfl, h8.frozen _, h.pg, by simp; omega, by simp⟩
    · exact ⟨by rw [e6]; rfl, h8.frozen _, h.pg, by simp; omega, by simp⟩
    · exact ⟨by rw [e7]; rfl, h8.frozen _, h.pg, by simp; omega, by simp⟩) h.pg (by omega) (by simpa using hr) hn).mono ?_
  rintro e w' ⟨hv, he⟩
  refine ⟨hv, (head_set h8 ho).eqh he, ?_⟩
  have hc := setN_chg l p [(p, 3), (p, 4), (p, 5), (p, 6), (p, 7)] 8 w8
  exact he.chg ((Chg.of_out (S := fun k => k = p) o8).trans hc (fun x hx _ => by
    rcases hx with e | ⟨y, hy, e⟩
    · exact e
    · simp at hy; rcases hy with rfl | rfl | rfl | rfl | rfl <;> exact e.symm))
/-- what takeHead leaves -/
def hdE (l : List UInt8) (p g go n c : Nat) (w : World) (r : Rs) (e : Ending) (w' : World) : Prop :=
  (match hdF l with
   | some q => e = .returned (.tuple #[.int .i64 (q : Nat), .bool true])
   | none => e = .returned (.tuple #[.int .i64 8, .bool false]) ∧ RdA w' p g go n c l { r with o := 28, s := g4 l 8, f := g4 l 12, d := g4 l 16, n := g4 l 20, e := g4 l 24, en := g4 l 24 }) ∧ Chg (fun k => k = p) w w'
set_option maxRecDepth 8000 in
set_option maxHeartbeats 2000000 in
theorem takeHead_any (w : World) (p g go n c : Nat) (l : List UInt8) (r : Rs) (h : RdA w p g go n c l r) (hn : n ≤ 281474976710656) : Calls Tryd.prog 34 #[.pointer (some ⟨p, 0, none⟩)] w (hdE l p g go n c w r) := by
  have H := hidOf h
  have hpl := h.pl
  have hgl := h.gl
  have hnc := h.nc
  have hl := hidOf h.l_
  obtain ⟨o, s, f, d, nn, eh, nm, nx, tv, fv, dv, en⟩ := r
  have c0 : w.cell? ⟨p, 0, none⟩ = some (.slice (some ⟨g, go, none⟩) n c) := h.cell 0 _ rfl
  clear h
  go_enter Tryd.func34, Tryd.ntmps34
  by_cases hsh : n < 28
  · have hsh' : (n : Int) < 28 := by omega
    go_wp2
    go_ret2
    have e0 : hdF l = some n := by unfold hdF; rw [hl.out, if_pos hsh]
    unfold hdE
    rw [e0]
    exact ⟨rfl, Chg.refl _ _⟩
  · have hsh' : ¬ (n : Int) < 28 := by omega
    go_wp2
    go_loopw [18] (fun v wr => ∃ k : Nat, k ≤ 8 ∧ v = .int .i64 (k : Nat) ∧ Hid (∀ j, j < k → (l.getD j 0 != opB.getD j 0) = false) ∧ Hid (Eqh w wr)) (fun v _ => 8 - (intOf v).toNat)
    case atStart => exact ⟨0, by omega, rfl, hidOf (fun j hj => by omega), hidOf (Eqh.refl _)⟩
    case round =>
      obtain ⟨k, hk, rfl, HK, HE⟩ := hrel
      have d0 : wr.cell? ⟨p, 0, none⟩ = some (.slice (some ⟨g, go, none⟩) n c) := (HE.out.cell _).trans c0
      by_cases hk8 : k < 8
      · have hlt : (k : Int) < 8 := by omega
        obtain ⟨x, hx⟩ : ∃ x, l[k]? = some x := ⟨_, List.getElem?_eq_getElem (by rw [hl.out]; omega)⟩
        have hxd : Hid (l.getD k 0 = x) := hidOf (by simp [hx])
        have b0 : wr.cell? ⟨g, go + k, none⟩ = some (.int .u8 (x.toNat : Int)) := (HE.out.cell _).trans (H.out.bt k x hx)
        have hkn : k < n := by omega
        go_upto_region 6 with fail
        go_quiet (fail)
        generalize hy : ({ data := #[83, 80, 73, 78, 1, 0, 0, 0] } : ByteArray)[k]'(by show k < 8; exact hk8) = y
        have hyo : Hid (opB.getD k 0 = y) := hidOf (by
          rw [← hy]
          obtain rfl | rfl | rfl | rfl | rfl | rfl | rfl | rfl : k = 0 ∨ k = 1 ∨ k = 2 ∨ k = 3 ∨ k = 4 ∨ k = 5 ∨ k = 6 ∨ k = 7 := by omega
          all_goals rfl)
        have E2 : Hid (Eqh w (wr.drewN nq)) := hidOf (HE.out.of_drewN nq)
        generalize wr.drewN nq = w2 at *
        clear hy hx b0 d0
        by_cases hxy : x = y
        · have hb : ((x.toNat : Int) != (y.toNat : Int)) = false := by rw [hxy]; simp
          rw [hb]
          have HK2 : Hid (∀ j, j < k + 1 → (l.getD j 0 != opB.getD j 0) = false) := hidOf (fun j hj => by
            rcases Nat.lt_or_ge j k with h | h
            · exact HK.out j h
            · obtain rfl : j = k := by omega
              rw [hxd.out, hyo.out, hxy]; simp)
          clear hb
          go_wp2
          go_roundw
          case rel => exact ⟨k + 1, by omega, by simp, HK2, E2⟩
          case measure => simp [intOf]; omega
        · have hb : ((x.toNat : Int) != (y.toNat : Int)) = true := by
            have : ¬ x.toNat = y.toNat := fun e => hxy (UInt8.toNat_inj.1 e)
            simp; omega
          rw [hb]
          have e0 : Hid (hdF l = some k) := hidOf (by
            unfold hdF
            rw [hl.out, if_neg hsh, fstB_some hk8 HK.out (by rw [hxd.out, hyo.out]; simp [hxy])])
          clear hb
          go_wp2
          go_ret2
          unfold hdE
          rw [e0.out]
          exact ⟨rfl, Chg.of_out E2.out.out⟩
      · have hlt : ¬ (k : Int) < 8 := by omega
        obtain rfl : k = 8 := by omega
        have R0 := hidOf (H.out.eqh HE.out)
        have C0 : Hid (Chg (fun k => k = p) w wr) := hidOf (Chg.of_out HE.out.out)
        have e1 : wr.cell? ⟨p, 1, none⟩ = some (.int .i64 (o : Nat)) := R0.out.cell 1 _ rfl
        have f1 := R0.out.frozen 1
        go_upto_region 10 with fail
        have R1 := hidOf (R0.out.set (r' := ⟨8, s, f, d, nn, eh, nm, nx, tv, fv, dv, en⟩) 1 (.int .i64 8) rfl)
        have C1 := hidOf (Chg.setP C0.out 1 (.int .i64 8))
        clear d0 e1 f1
        generalize wr.setCell ⟨p, 1, none⟩ (.int .i64 8) = w1 at *
        have NU : Hid (∀ w8 q, Out w1 w8 → w1.heap.size ≤ q → (∀ i, i < 5 → w8.cell? ⟨q, i, none⟩ = some (.pointer (some ⟨p, 3 + i, none⟩))) → Calls Tryd.prog 29 #[.pointer (some ⟨p, 0, none⟩), .slice (some ⟨q, 0, none⟩) 5 5] w8 fun e w' => (∃ v, e = .returned v) ∧ RdA w' p g go n c l ⟨28, g4 l 8, g4 l 12, g4 l 16, g4 l 20, g4 l 24, nm, nx, tv, fv, dv, en⟩ ∧ Chg (fun k => k = p) w1 w') := hidOf (fun w8 q o8 hq hcq => numH w1 w8 p g go n c q l _ R1.out rfl o8 hq hcq (by omega) hn)
        go_region_held3 (fun _ => True) (trivial) (first | (go_at_call 29; refine (NU.out _ _ o8 hq5 hcq).mono ?_; rintro e w9 ⟨⟨rv, rfl⟩, r9, k9⟩) | (go_at_call 30; refine (headFields3 _ _).mono ?_; rintro e w8 ⟨q, rfl, hq5, hq6, hcq, o8'⟩; have o8 : Out w1 w8 := (Out.drew (Out.refl _)).trans o8'))
        have R9 := hidOf r9
        have C9 := hidOf (C1.out.trans k9 (fun x h _ => h))
        clear r9 k9 NU o8 o8' hq5 hq6 hcq
        obtain ⟨ve, hve⟩ : ∃ ve, Hid (ve = g4 l 24) := ⟨_, rfl⟩
        have e7 : w9.cell? ⟨p, 7, none⟩ = some (.int .i64 (ve : Nat)) := by rw [hve.out]; exact R9.out.cell 7 _ rfl
        have e13 : w9.cell? ⟨p, 13, none⟩ = some (.int .i64 (en : Nat)) := R9.out.cell 13 _ rfl
        have f13 := R9.out.frozen 13
        go_upto_region 12 with fail
        have R10 : Hid (RdA (w9.setCell ⟨p, 13, none⟩ (.int .i64 (ve : Nat))) p g go n c l ⟨28, g4 l 8, g4 l 12, g4 l 16, g4 l 20, g4 l 24, nm, nx, tv, fv, dv, g4 l 24⟩) := hidOf (by rw [hve.out]; exact R9.out.set 13 _ rfl)
        have C10 := hidOf (Chg.setP C9.out 13 (.int .i64 (ve : Nat)))
        clear e7 e13 f13
        generalize w9.setCell ⟨p, 13, none⟩ (.int .i64 (ve : Nat)) = w10 at *
        obtain ⟨z, hz⟩ : ∃ z, Hid (z = sizP (g4 l 8) (g4 l 12) (g4 l 16) (g4 l 20)) := ⟨_, rfl⟩
        have CZ : Hid (∀ wx, Eqh w10 wx → Calls Tryd.prog 28 #[.pointer (some ⟨p, 3, none⟩)] wx fun e w' => e = .returned (.int .i64 (z : Nat)) ∧ Eqh w10 w') := hidOf (fun wx hx => by
          have hr := R10.out.eqh hx
          rw [hz.out]
          refine (headSize3 p wx (g4 l 8) (g4 l 12) (g4 l 16) (g4 l 20) (hr.cell 3 _ rfl) (hr.cell 4 _ rfl) (hr.cell 5 _ rfl) (hr.cell 6 _ rfl) (g4_lt17 l _) (g4_lt17 l _) (g4_lt17 l _) (g4_lt17 l _)).mono ?_
          rintro e w' ⟨rfl, m, rfl⟩
          exact ⟨rfl, hx.of_drewN m⟩)
        have e0 : w10.cell? ⟨p, 0, none⟩ = some (.slice (some ⟨g, go, none⟩) n c) := R10.out.cell 0 _ rfl
        have hF : Hid (hdF l = if z ≠ n then some 8 else none) := hidOf (by
          unfold hdF
          rw [hl.out, if_neg hsh, fstB_none HK.out, hz.out])
        go_region_held3 (fun wx => wx.cell? ⟨p, 0, none⟩ = some (.slice (some ⟨g, go, none⟩) n c)) (first | go_keep | assumption | exact (q3.cell ⟨p, 0, none⟩).trans e0) (first | (go_at_call 28; refine (CZ.out _ (by first | exact Eqh.refl _ | exact Eqh.drew _)).mono ?_; rintro e w3 ⟨rfl, q3⟩))
        go_wp2
        go_ret2
        refine ⟨?_, C10.out.trans (T := fun _ => False) (Chg.of_out q3.out) (fun _ h _ => h.elim)⟩
        rw [hF.out]
        by_cases hzn : z = n
        · rw [if_neg (by simp [hzn])]
          refine ⟨?_, R10.out.eqh q3⟩
          have hb : ((z : Int) != (n : Int)) = false := by simp [hzn]
          show Ending.returned (.tuple #[.int .i64 8, .bool ((z : Int) != (n : Int))]) = _
          rw [hb]
        · rw [if_pos hzn]
          have hb : ((z : Int) != (n : Int)) = true := by simp; omega
          show Ending.returned (.tuple #[.int .i64 8, .bool ((z : Int) != (n : Int))]) = _
          rw [hb]
          rfl
end Go.Proofs.YtbnoaedkonnflaaDoor
