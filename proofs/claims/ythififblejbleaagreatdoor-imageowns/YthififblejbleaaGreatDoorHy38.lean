import Derived.Test.YthififblejbleaaGreatDoorHy37
namespace Go.Proofs.YthififblejbleaaGreatDoor
set_option linter.unusedVariables false
def TkL (P : Program) (md : Region.Mode) (ops : Array Oper) (Q : Exit → Act → World → Prop) (S : World → Prop) (is : List Nat) (fuel : Nat) (listed : Array Bool) (a : Act) (w : World) : Prop := wpAnyH P md ops Q S fuel listed a w
theorem tkLB {P : Program} {md : Region.Mode} {ops : Array Oper} {Q : Exit → Act → World → Prop} {S : World → Prop} {fuel : Nat} {listed : Array Bool} {a : Act} {w : World} (is : List Nat) (h : TkL P md ops Q S is fuel listed a w) : wpAnyH P md ops Q S fuel listed a w := h
theorem tkLE {P : Program} {md : Region.Mode} {ops : Array Oper} {Q : Exit → Act → World → Prop} {S : World → Prop} {fuel : Nat} {listed : Array Bool} {a : Act} {w : World} (h : wpAnyH P md ops Q S fuel listed a w) : TkL P md ops Q S [] fuel listed a w := h
theorem tkLC {P : Program} {md : Region.Mode} {ops : Array Oper} {Q : Exit → Act → World → Prop} {S : World → Prop} {i : Nat} {is : List Nat} {oi : Oper} {d : Tmp} {v : Value} {fuel : Nat} {listed : Array Bool} {a : Act} {w : World} (hi : ops[i]? = some oi) (hd : oi.dst = some d) (hs : Region.noSelect ops = true) (hf : Region.free md ops listed i = true) (hr : (Region.ready md ops listed).contains i = true) (hQ : ∀ c a w, Q (.panic c) (a.put (some d) v) w → Q (.panic c) a w) (hw : Region.wanted oi (yielded ops a.tmps) = true) (hS : S w) (hy : ∀ w, S w → (execOp a.eval oi).run P w = .ok (.value v) w) (h : TkL P md ops Q S is fuel (listed.setIfInBounds i true) (a.put (some d) v) w) : TkL P md ops Q S (i :: is) (fuel + 1) listed a w :=
  wpAnyH_take hi hs hf hr (by rw [hd]; exact hQ) (Or.inl ⟨hw, hy⟩) hS (by rw [hd]; exact h)
end Go.Proofs.YthififblejbleaaGreatDoor
namespace Go.Proofs.YthififblejbleaaGreatDoor
open Go.RowKit
set_option linter.unusedVariables false
set_option linter.unusedSimpArgs false
set_option maxRecDepth 8000 in
set_option maxHeartbeats 2000000 in
theorem takeTables_any (w : World) (p g go n c : Nat) (l : List UInt8) (r : Rs) (h : RdA w p g go n c l r) (tb : Nat) (htb : r.nm = .pointer (some ⟨tb, 0, none⟩)) (N : List (List UInt8)) (F : Nat → Prop) (hT : Tab tb w N F) (hF : ∀ k, F k → ¬ k = p) (hsz : szF 1 N ≤ 1000000000000) (hnx : r.nx ≤ szF 1 N) (hr : r.o + 20 * r.d ≤ n) (hn : n ≤ 1000000000000) : Calls Tryz.prog 95 #[.pointer (some ⟨p, 0, none⟩)] w (tdE l p g go n c w r N) := by
  have hpl := h.pl
  have hgl := h.gl
  have H := hidOf h
  have HT := hidOf hT
  obtain ⟨o, s, f, d, nn, eh, nm, nx, tv, fv, dv, en⟩ := r
  simp only at hr htb hnx
  subst htb
  have c5 : w.cell? ⟨p, 5, none⟩ = some (.int .i64 (d : Nat)) := h.cell 5 _ rfl
  obtain ⟨cur, hcs, mk⟩ := run_make_td d (by omega) w
  obtain ⟨w1, hw1⟩ : ∃ w1, Hid (w1 = (w.setCell ⟨p, 12, none⟩ (.slice (some ⟨w.heap.size, 0, none⟩) 0 d)).alloc (.cells cur 72)) := ⟨_, rfl⟩
  have f12 : w.frozen? ⟨p, 12, none⟩ = false := h.frozen 12
  have g12 : w.cell? ⟨p, 12, none⟩ = some dv := h.cell 12 _ rfl
  have R1 : Hid (RdA w1 p g go n c l ⟨o, s, f, d, nn, eh, .pointer (some ⟨tb, 0, none⟩), nx, tv, fv, .slice (some ⟨w.heap.size, 0, none⟩) 0 d, en⟩) := hidOf (by rw [hw1.out]; exact (h.set (r' := ⟨o, s, f, d, nn, eh, .pointer (some ⟨tb, 0, none⟩), nx, tv, fv, .slice (some ⟨w.heap.size, 0, none⟩) 0 d, en⟩) 12 (.slice (some ⟨w.heap.size, 0, none⟩) 0 d) rfl).out (Out.alloc (Out.refl _) _))
  have C1 : Hid (Chg (fun k => k = p) w w1) := hidOf (by rw [hw1.out]; exact (Chg.setP (Chg.refl _ _) _ _).trans (T := fun _ => False) (Chg.of_out (Out.alloc (Out.refl _) _)) (fun _ h _ => h.elim))
  have W1 : Hid (OwD w1 w.heap.size (.slice (some ⟨w.heap.size, 0, none⟩) 0 d) []) := hidOf (by
    rw [hw1.out]
    have hsz : (w.setCell ⟨p, 12, none⟩ (.slice (some ⟨w.heap.size, 0, none⟩) 0 d)).heap.size = w.heap.size := by simp [World.setCell]
    have := World.ownsRow_made (base := w.heap.size) (e := 72) (size := 5) (w.setCell ⟨p, 12, none⟩ (.slice (some ⟨w.heap.size, 0, none⟩) 0 d)) cur d (by rw [hsz]; exact Nat.le_refl _) (by unfold maxLen; omega) hcs
    rw [hsz] at this
    exact this)
  clear h hT
  go_enter Tryz.func95, Tryz.ntmps95
  go_upto_region 2 with fail
  rw [← hw1.out]
  clear mk g12 f12 c5 hw1
  have c5 : w1.cell? ⟨p, 5, none⟩ = some (.int .i64 (d : Nat)) := R1.out.cell 5 _ rfl
  go_wp2
  clear c5
  go_loopw [23] (fun v wr => ∃ (i ny : Nat) (D : List Td) (a : Option Addr) (cp : Nat), v = .int .i64 (i : Nat) ∧ i ≤ d ∧ Hid (D.length = i) ∧ ny ≤ szF 1 N ∧ Hid (tdR l N d o nx = (tdR l N (d - i) (o + 20 * i) ny).map (fun r => (D ++ r.1, r.2))) ∧ Hid (RdA wr p g go n c l ⟨o + 20 * i, s, f, d, nn, eh, .pointer (some ⟨tb, 0, none⟩), ny, tv, fv, .slice a i cp, en⟩) ∧ Hid (OwD wr w.heap.size (.slice a i cp) D) ∧ Hid (Chg (fun k => k = p) w wr)) (fun v _ => d - (intOf v).toNat)
  case atStart => exact ⟨0, nx, [], some ⟨w.heap.size, 0, none⟩, d, rfl, by omega, hidOf rfl, hnx, hidOf (by simp only [Nat.sub_zero, Nat.mul_zero, Nat.add_zero, List.nil_append]; cases tdR l N d o nx <;> rfl), hidOf R1.out, hidOf W1.out, hidOf C1.out⟩
  case round =>
    obtain ⟨i, ny, D, a, cp, rfl, hi, HL, hny, HX, HR, HO, HC⟩ := hrel
    by_cases hid : i < d
    · have hlt : (i : Int) < d := by omega
      obtain ⟨oo, hoo⟩ : ∃ oo, Hid (oo = o + 20 * i) := ⟨_, rfl⟩
      rw [← hoo.out] at HR HX
      have hob : oo + 20 ≤ n := by rw [hoo.out]; omega
      have c1 : wr.cell? ⟨p, 1, none⟩ = some (.int .i64 (oo : Nat)) := HR.out.cell 1 _ rfl
      obtain ⟨w5, hw5⟩ : ∃ w5, Hid (w5 = wr.alloc (.cells #[.int .i64 0, .int .i64 0, .int .i64 0, .int .i64 0, .int .i64 0] 148)) := ⟨_, rfl⟩
      have O5 : Hid (Out wr w5) := hidOf (by rw [hw5.out]; exact Out.alloc (Out.refl _) _)
      have hs5 : w5.heap.size = wr.heap.size + 1 := by rw [hw5.out, size_alloc]
      have B5 : Hid (w5.heap[wr.heap.size]? = some (.cells #[.int .i64 0, .int .i64 0, .int .i64 0, .int .i64 0, .int .i64 0] 148 (0, 0))) := hidOf (by rw [hw5.out]; exact heap_alloc_new wr _)
      have NU : Hid (∀ w8 q, Out w5 w8 → w5.heap.size ≤ q → (∀ i, i < 5 → w8.cell? ⟨q, i, none⟩ = some (.pointer (some ⟨wr.heap.size, i, none⟩))) → Calls Tryz.prog 54 #[.pointer (some ⟨p, 0, none⟩), .slice (some ⟨q, 0, none⟩) 5 5] w8 fun e w' => (∃ v, e = .returned v) ∧ Mv p (oo + 20) wr w' ∧ ∀ i, i < 5 → w'.cell? ⟨wr.heap.size, i, none⟩ = some (.int .i64 (g4 l (oo + 4 * i) : Nat))) := hidOf (fun w8 q o8 hq hcq =>
        numFR wr w8 p g go n c oo wr.heap.size 5 q l _ _ HR.out.tk (O5.out.trans o8) (Nat.le_refl _) ((o8.block _ (by omega)).trans B5.out) rfl (by omega) (by omega) hcq (by omega) hob hn)
      obtain ⟨v0, hv0⟩ : ∃ v0, Hid (v0 = g4 l oo) := ⟨_, rfl⟩
      obtain ⟨v1, hv1⟩ : ∃ v1, Hid (v1 = g4 l (oo + 4)) := ⟨_, rfl⟩
      obtain ⟨v2, hv2⟩ : ∃ v2, Hid (v2 = g4 l (oo + 8)) := ⟨_, rfl⟩
      obtain ⟨v3, hv3⟩ : ∃ v3, Hid (v3 = g4 l (oo + 12)) := ⟨_, rfl⟩
      obtain ⟨v4, hv4⟩ : ∃ v4, Hid (v4 = g4 l (oo + 16)) := ⟨_, rfl⟩
      have hstep : Hid (tdR l N (d - i) oo ny = match nmT N ny v0 with | none => .error oo | some (x, nx') => (tdR l N (d - (i + 1)) (o + 20 * (i + 1)) nx').map (fun r => (⟨x, v1, v2, v3, v4⟩ :: r.1, r.2))) := hidOf (by
        rw [show d - i = (d - (i + 1)) + 1 by omega, tdR, hv0.out, hv1.out, hv2.out, hv3.out, hv4.out, show o + 20 * (i + 1) = oo + 20 by rw [hoo.out]; omega]
        cases nmT N ny (g4 l oo) <;> rfl)
      have HT2 : Hid (∀ wx, Chg (fun k => k = p) w wx → Tab tb wx N F) := hidOf (fun wx hc => HT.out.chg hc hF)
      have CN : Hid (∀ w9, Mv p (oo + 20) wr w9 → Calls Tryz.prog 110 #[.pointer (some ⟨p, 0, none⟩), .int .i64 (v0 : Nat)] w9 (tnE l p g go n c w9 ⟨oo + 20, s, f, d, nn, eh, .pointer (some ⟨tb, 0, none⟩), ny, tv, fv, .slice a i cp, en⟩ N v0)) := hidOf (fun w9 m9 =>
        takeName_any w9 p g go n c l _ (HR.out.mv m9) tb rfl N F (HT2.out w9 (HC.out.trans m9.chg (fun x h _ => h))) hsz hny v0)
      go_upto_region 6 with fail
      rw [← hw5.out]
      go_region_held3 (fun _ => True) (trivial) (first | (go_at_call 54; refine (NU.out _ _ o8 hq5 hcq).mono ?_; rintro e w9 ⟨⟨rv, rfl⟩, m9, b9⟩) | (go_at_call 90; refine (tableFields_any _ _).mono ?_; rintro e w8 ⟨q, rfl, hq5, hq6, hcq, o8'⟩; have o8 : Out w5 w8 := (Out.drew (Out.refl _)).trans o8'))
      have M9 := hidOf m9
      have b0 : w9.cell? ⟨wr.heap.size, 0, none⟩ = some (.int .i64 (v0 : Nat)) := by rw [hv0.out]; exact b9 0 (by omega)
      have b1 : w9.cell? ⟨wr.heap.size, 1, none⟩ = some (.int .i64 (v1 : Nat)) := by rw [hv1.out]; exact b9 1 (by omega)
      have b2 : w9.cell? ⟨wr.heap.size, 2, none⟩ = some (.int .i64 (v2 : Nat)) := by rw [hv2.out]; exact b9 2 (by omega)
      have b3 : w9.cell? ⟨wr.heap.size, 3, none⟩ = some (.int .i64 (v3 : Nat)) := by rw [hv3.out]; exact b9 3 (by omega)
      have b4 : w9.cell? ⟨wr.heap.size, 4, none⟩ = some (.int .i64 (v4 : Nat)) := by rw [hv4.out]; exact b9 4 (by omega)
      clear m9 b9 NU o8 o8' hq5 hq6 hcq c1
      have C9 := hidOf (CN.out w9 M9.out)
      have hsr : w.heap.size ≤ wr.heap.size := HC.out.size
      cases hnm : nmT N ny v0 with
      | none =>
        have C9' : Hid (Calls Tryz.prog 110 #[.pointer (some ⟨p, 0, none⟩), .int .i64 (v0 : Nat)] w9 fun e w' => e = .returned (.tuple #[.string ⟨#[]⟩, .bool false]) ∧ Chg (fun k => k = p) w9 w') := hidOf (C9.out.mono (fun e w' h => by unfold tnE at h; dsimp only at h; rw [hnm] at h; exact h))
        go_wp2_with (go_at_call 110; refine C9'.out.mono ?_; rintro e w10 ⟨rfl, k10⟩)
        go_ret2
        refine ⟨?_, (HC.out.trans M9.out.chg (fun x h _ => h)).trans k10 (fun x h _ => h)⟩
        have hx := HX.out
        rw [hstep.out, hnm] at hx
        show (match tdR l N d o nx with | .ok (D, ny) => _ | .error q => _)
        rw [hx]
        rfl
      | some y =>
        obtain ⟨x, nx'⟩ := y
        have C9' : Hid (Calls Tryz.prog 110 #[.pointer (some ⟨p, 0, none⟩), .int .i64 (v0 : Nat)] w9 fun e w' => e = .returned (.tuple #[.string ⟨x.toArray⟩, .bool true]) ∧ (RdA w' p g go n c l ⟨oo + 20, s, f, d, nn, eh, .pointer (some ⟨tb, 0, none⟩), nx', tv, fv, .slice a i cp, en⟩ ∧ nx' ≤ szF 1 N) ∧ Chg (fun k => k = p) w9 w') := hidOf (C9.out.mono (fun e w' h => by unfold tnE at h; dsimp only at h; rw [hnm] at h; exact ⟨h.1.1, h.1.2, h.2⟩))
        go_upto_region 10 with (go_at_call 110; refine C9'.out.mono ?_; rintro e w10 ⟨rfl, ⟨r10, hnx'⟩, k10⟩)
        have R3 := hidOf r10
        have K9 := M9.out.chg
        have C3 := hidOf ((HC.out.trans K9 (fun x h _ => h)).trans k10 (fun x h _ => h))
        have Ow3 := hidOf (owns_chg (owns_chg HO.out (fun k hk e => by have := (HO.out.lt k hk).1; omega) K9) (fun k hk e => by have := (HO.out.lt k hk).1; omega) k10)
        rw [HL.out] at Ow3
        have hpr : ¬ wr.heap.size = p := by omega
        have q1 := k10.cell b1 hpr
        have q2 := k10.cell b2 hpr
        have q3 := k10.cell b3 hpr
        have q4 := k10.cell b4 hpr
        have hs3 : w.heap.size ≤ w10.heap.size := C3.out.size
        have h9s : wr.heap.size < w9.heap.size := by
          rcases Nat.lt_or_ge wr.heap.size w9.heap.size with h | h
          · exact h
          · simp [World.cell?, Array.getElem?_eq_none h] at b1
        have h10s : wr.heap.size < w10.heap.size := Nat.lt_of_lt_of_le h9s k10.size
        have HOlt : Hid (∀ k, (Value.slice a i cp).ownBlock = some k → k < wr.heap.size) := hidOf (fun k hk => (HO.out.lt k hk).2)
        have HJ : Hid (tdR l N d o nx = (tdR l N (d - (i + 1)) (o + 20 * (i + 1)) nx').map (fun r => ((D ++ [⟨x, v1, v2, v3, v4⟩]) ++ r.1, r.2))) := hidOf (by
          rw [HX.out, hstep.out, hnm]
          show Except.map _ (Except.map _ _) = _
          cases tdR l N (d - (i + 1)) (o + 20 * (i + 1)) nx' <;> simp [Except.map])
        clear r10 k10 K9 b0 b1 b2 b3 b4 C9 C9' CN M9 hstep HX HR HC HO B5 O5 hw5
        have c12 : w10.cell? ⟨p, 12, none⟩ = some (.slice a i cp) := R3.out.cell 12 _ rfl
        have a12 : ∀ O, (w10.alloc O).cell? ⟨p, 12, none⟩ = some (.slice a i cp) := fun O => (R3.out.out (Out.alloc (Out.refl _) O)).cell 12 _ rfl
        have OA : Hid (∀ O, (w10.alloc O).drew.ownsRow w.heap.size 72 5 (.slice a i cp) i (tdV D)) := hidOf (fun O => World.ownsRow.alloc Ow3.out O)
        have FAR : Hid (∀ O w', (w10.alloc O).drew.grownBy w' (Value.slice a i cp).ownBlock → RdA w' p g go n c l ⟨oo + 20, s, f, d, nn, eh, .pointer (some ⟨tb, 0, none⟩), nx', tv, fv, .slice a i cp, en⟩ ∧ Chg (fun k => k = p) w w' ∧ (w'.cell? ⟨wr.heap.size, 1, none⟩ = some (.int .i64 (v1 : Nat)) ∧ w'.cell? ⟨wr.heap.size, 2, none⟩ = some (.int .i64 (v2 : Nat)) ∧ w'.cell? ⟨wr.heap.size, 3, none⟩ = some (.int .i64 (v3 : Nat)) ∧ w'.cell? ⟨wr.heap.size, 4, none⟩ = some (.int .i64 (v4 : Nat)))) := hidOf (fun O w' hg => by
          have hne : ∀ k, (Value.slice a i cp).ownBlock = some k → w.heap.size ≤ k := fun k hk => (Ow3.out.lt k hk).1
          have hc := Chg.of_grown (S := fun k => (Value.slice a i cp).ownBlock = some k) hg (fun k hk => hk)
          refine ⟨(R3.out.out (Out.drew (Out.alloc (Out.refl _) O))).chg hc (fun h => by have := hne p h; omega) (fun h => by have := hne g h; omega), ?_, ?_⟩
          rotate_left
          · have hb : ¬ (Value.slice a i cp).ownBlock = some wr.heap.size := fun h => by have := HOlt.out _ h; omega
            exact ⟨hc.cell (cell_later (Out.drew (Out.alloc (Out.refl _) O)) q1) hb, hc.cell (cell_later (Out.drew (Out.alloc (Out.refl _) O)) q2) hb, hc.cell (cell_later (Out.drew (Out.alloc (Out.refl _) O)) q3) hb, hc.cell (cell_later (Out.drew (Out.alloc (Out.refl _) O)) q4) hb⟩
          exact (C3.out.trans (T := fun _ => False) (Chg.of_out (Out.drew (Out.alloc (Out.refl _) O))) (fun _ h _ => h.elim)).trans hc (fun x h hlt => by have := hne x h; omega))
        obtain ⟨t0, hi0, hz0, hz1, hz2⟩ := info_parts infoTD
        have hTs : i ≤ 1000000000000 := by omega
        have SA : Hid (∀ O, ((w10.alloc O).cell? ⟨wr.heap.size, 1, none⟩ = some (.int .i64 (v1 : Nat)) ∧ (w10.alloc O).cell? ⟨wr.heap.size, 2, none⟩ = some (.int .i64 (v2 : Nat)) ∧ (w10.alloc O).cell? ⟨wr.heap.size, 3, none⟩ = some (.int .i64 (v3 : Nat)) ∧ (w10.alloc O).cell? ⟨wr.heap.size, 4, none⟩ = some (.int .i64 (v4 : Nat)))) := hidOf (fun O => ⟨cell_later (Out.alloc (Out.refl _) O) q1, cell_later (Out.alloc (Out.refl _) O) q2, cell_later (Out.alloc (Out.refl _) O) q3, cell_later (Out.alloc (Out.refl _) O) q4⟩)
        refine wp_region_held_drew (S := (fun wx => (wx.cell? ⟨wr.heap.size, 1, none⟩ = some (.int .i64 (v1 : Nat)) ∧ wx.cell? ⟨wr.heap.size, 2, none⟩ = some (.int .i64 (v2 : Nat)) ∧ wx.cell? ⟨wr.heap.size, 3, none⟩ = some (.int .i64 (v3 : Nat)) ∧ wx.cell? ⟨wr.heap.size, 4, none⟩ = some (.int .i64 (v4 : Nat))))) (by kernel_rfl) ?_ (fun hHeld => ?_)
        · exact ⟨q1, q2, q3, q4⟩
        refine tkLB [0,1,2,3,4,6,7,8,9,10,11,12,13,14,15] ?_
        iterate 15 (refine tkLC (v := ?_) rfl rfl (by kernel_rfl) (by kernel_rfl) (by kernel_rfl) (fun _ _ _ h => h) (by rfl) (by assumption) ?_ ?_; rotate_left; (· (intro w hSw; (try dsimp only at hSw); go_simp; (try with_reducible rfl))); simp only [Act.put, List.setIfInBounds_toArray, List.set_cons_zero, List.set_cons_succ])
        refine tkLE ?_
        refine wpAnyH_ready (rs := [5, 16]) (by kernel_rfl) (by simp) ?_
        refine AllReadyH.cons rfl (fun K1 hK1 => ?_) (AllReadyH.cons rfl (fun K1 hK1 => ?_) AllReadyH.nil)
        · rw [if_pos (by rfl)]
          go_simp
          refine hK1.out _ _ ⟨q1, q2, q3, q4⟩ (fun hHeld1 => ?_)
          refine wpAnyH_ready (rs := [16]) (by kernel_rfl) (by simp) ?_
          refine AllReadyH.cons rfl (fun K2 hK2 => ?_) AllReadyH.nil
          rw [if_pos (by rfl)]
          go_simp
          refine hK2.out _ _ (SA.out _) (fun hHeld2 => ?_)
          refine wpAnyH_ready (rs := [17]) (by kernel_rfl) (by simp) ?_
          refine AllReadyH.cons rfl (fun K3 hK3 => ?_) AllReadyH.nil
          refine step_append_lies _ rfl (.tmp 50) (.tmp 61) 24 rfl w.heap.size 72 t0 _ 5 48 Tryz.underlying24 hi0 hz0 hz1 hz2 rfl (by decide) (.slice a i cp) i (tdV D) rfl (OA.out _) ⟨w10.heap.size, 0, none⟩ 1 1 (Td.cs ⟨x, v1, v2, v3, v4⟩) rfl rfl (news_drew17 _ _ _ _ rfl) (td_one _) (by decide) (by unfold maxLen; omega) (by omega) (Nat.le_trans hs3 (Out.size (Out.drew (Out.alloc (Out.refl _) _)))) _ rfl ?_
          intro g2 cap w4 hown' hgrow hg hlt
          obtain ⟨hR4, hC4, hS4⟩ := FAR.out _ _ hgrow
          have q10 : w4.cell? ⟨p, 12, none⟩ = some (.slice a i cp) := hR4.cell 12 _ rfl
          have qf : w4.frozen? ⟨p, 12, none⟩ = false := hR4.frozen 12
          have R4 := hidOf hR4
          have C4 := hidOf hC4
          have Ow4 := hidOf hown'
          clear hown' hgrow hg hlt hR4 hC4
          refine hK3.out _ _ hS4 (fun hHeld3 => ?_)
          refine tkLB [18,19,20] ?_
          iterate 3 (refine tkLC (v := ?_) rfl rfl (by kernel_rfl) (by kernel_rfl) (by kernel_rfl) (fun _ _ _ h => h) (by rfl) (by assumption) ?_ ?_; rotate_left; (· (intro w hSw; (try dsimp only at hSw); go_simp; (try with_reducible rfl))); simp only [Act.put, List.setIfInBounds_toArray, List.set_cons_zero, List.set_cons_succ])
          refine tkLE ?_
          refine wpAnyH_ready (rs := [21]) (by kernel_rfl) (by simp) ?_
          refine AllReadyH.cons rfl (fun K4 hK4 => ?_) AllReadyH.nil
          rw [if_pos (by rfl)]
          go_simp
          refine hK4.out _ _ ⟨(Chg.setP (Chg.refl _ w4) 12 _).cell hS4.1 hpr, (Chg.setP (Chg.refl _ w4) 12 _).cell hS4.2.1 hpr, (Chg.setP (Chg.refl _ w4) 12 _).cell hS4.2.2.1 hpr, (Chg.setP (Chg.refl _ w4) 12 _).cell hS4.2.2.2 hpr⟩ (fun hHeld4 => ?_)
          refine wpAnyH_done (by kernel_rfl) ?_ _
          go_wp2
          go_roundw
          case rel =>
            refine ⟨i + 1, nx', D ++ [⟨x, v1, v2, v3, v4⟩], some ⟨g2, 0, none⟩, cap, by simp, by omega, hidOf (by rw [List.length_append, HL.out]; rfl), hnx', HJ, hidOf ?_, hidOf ?_, hidOf (Chg.setP C4.out _ _)⟩
            · rw [show o + 20 * (i + 1) = oo + 20 by rw [hoo.out]; omega]; exact R4.out.set 12 _ rfl
            · unfold OwD
              rw [List.length_append, HL.out, tdV_snoc]
              exact owns_chg (S := fun k => k = p) Ow4.out (fun k hk e => by have := (Ow4.out.lt k hk).1; omega) (Chg.setP (Chg.refl _ _) _ _)
          case measure => simp [intOf]; omega
        · rw [if_pos (by rfl)]
          go_simp
          refine hK1.out _ _ (SA.out _) (fun hHeld1 => ?_)
          refine wpAnyH_ready (rs := [5]) (by kernel_rfl) (by simp) ?_
          refine AllReadyH.cons rfl (fun K2 hK2 => ?_) AllReadyH.nil
          rw [if_pos (by rfl)]
          go_simp
          refine hK2.out _ _ (SA.out _) (fun hHeld2 => ?_)
          refine wpAnyH_ready (rs := [17]) (by kernel_rfl) (by simp) ?_
          refine AllReadyH.cons rfl (fun K3 hK3 => ?_) AllReadyH.nil
          refine step_append_lies _ rfl (.tmp 50) (.tmp 61) 24 rfl w.heap.size 72 t0 _ 5 48 Tryz.underlying24 hi0 hz0 hz1 hz2 rfl (by decide) (.slice a i cp) i (tdV D) rfl (OA.out _) ⟨w10.heap.size, 0, none⟩ 1 1 (Td.cs ⟨x, v1, v2, v3, v4⟩) rfl rfl (news_drew17 _ _ _ _ rfl) (td_one _) (by decide) (by unfold maxLen; omega) (by omega) (Nat.le_trans hs3 (Out.size (Out.drew (Out.alloc (Out.refl _) _)))) _ rfl ?_
          intro g2 cap w4 hown' hgrow hg hlt
          obtain ⟨hR4, hC4, hS4⟩ := FAR.out _ _ hgrow
          have q10 : w4.cell? ⟨p, 12, none⟩ = some (.slice a i cp) := hR4.cell 12 _ rfl
          have qf : w4.frozen? ⟨p, 12, none⟩ = false := hR4.frozen 12
          have R4 := hidOf hR4
          have C4 := hidOf hC4
          have Ow4 := hidOf hown'
          clear hown' hgrow hg hlt hR4 hC4
          refine hK3.out _ _ hS4 (fun hHeld3 => ?_)
          refine tkLB [18,19,20] ?_
          iterate 3 (refine tkLC (v := ?_) rfl rfl (by kernel_rfl) (by kernel_rfl) (by kernel_rfl) (fun _ _ _ h => h) (by rfl) (by assumption) ?_ ?_; rotate_left; (· (intro w hSw; (try dsimp only at hSw); go_simp; (try with_reducible rfl))); simp only [Act.put, List.setIfInBounds_toArray, List.set_cons_zero, List.set_cons_succ])
          refine tkLE ?_
          refine wpAnyH_ready (rs := [21]) (by kernel_rfl) (by simp) ?_
          refine AllReadyH.cons rfl (fun K4 hK4 => ?_) AllReadyH.nil
          rw [if_pos (by rfl)]
          go_simp
          refine hK4.out _ _ ⟨(Chg.setP (Chg.refl _ w4) 12 _).cell hS4.1 hpr, (Chg.setP (Chg.refl _ w4) 12 _).cell hS4.2.1 hpr, (Chg.setP (Chg.refl _ w4) 12 _).cell hS4.2.2.1 hpr, (Chg.setP (Chg.refl _ w4) 12 _).cell hS4.2.2.2 hpr⟩ (fun hHeld4 => ?_)
          refine wpAnyH_done (by kernel_rfl) ?_ _
          go_wp2
          go_roundw
          case rel =>
            refine ⟨i + 1, nx', D ++ [⟨x, v1, v2, v3, v4⟩], some ⟨g2, 0, none⟩, cap, by simp, by omega, hidOf (by rw [List.length_append, HL.out]; rfl), hnx', HJ, hidOf ?_, hidOf ?_, hidOf (Chg.setP C4.out _ _)⟩
            · rw [show o + 20 * (i + 1) = oo + 20 by rw [hoo.out]; omega]; exact R4.out.set 12 _ rfl
            · unfold OwD
              rw [List.length_append, HL.out, tdV_snoc]
              exact owns_chg (S := fun k => k = p) Ow4.out (fun k hk e => by have := (Ow4.out.lt k hk).1; omega) (Chg.setP (Chg.refl _ _) _ _)
          case measure => simp [intOf]; omega
    · have hlt : ¬ (i : Int) < d := by omega
      obtain rfl : i = d := by omega
      go_wp2
      go_ret2
      refine ⟨?_, HC.out⟩
      have hx := HX.out
      rw [Nat.sub_self, tdR] at hx
      show (match tdR l N i o nx with | .ok (D, ny) => _ | .error q => _)
      rw [hx]
      have hL := HL.out
      refine ⟨rfl, a, cp, ?_, ?_, hny⟩
      · simp only [List.append_nil, hL]; exact HR.out
      · simp only [List.append_nil, hL]; exact HO.out
end Go.Proofs.YthififblejbleaaGreatDoor
