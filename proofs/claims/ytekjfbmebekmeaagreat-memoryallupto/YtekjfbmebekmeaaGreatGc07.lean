import Derived.Test.YtekjfbmebekmeaaGreatGc06
namespace Go.Proofs.YtekjfbmebekmeaaGreat
open Go.RowKit
set_option linter.unusedVariables false
set_option linter.unusedSimpArgs false
def byV (b : UInt8) : Value := .int .u8 (b.toNat : Int)
theorem byV_one (d : List UInt8) : ∀ u ∈ d.map byV, u.oneCell' = true := by
  intro u hu
  obtain ⟨x, _, rfl⟩ := List.mem_map.1 hu
  rfl
/-- a region's bytes, as they lie -/
def DaI (B : Nat) (w : World) (x : Rg) : Prop := w.ownsRow B 5 1 (daV x) x.d.length (x.d.map byV)
theorem DaI.chg {S : Nat → Prop} {B : Nat} {w w' : World} {x : Rg} (h : DaI B w x) (c : Chg S w w') (hs : ∀ b, x.a = some b → ¬ S b) : DaI B w' x := own_chg h c (fun b hb => hs b (by
  unfold daV at hb
  cases ha : x.a with
  | none => rw [ha] at hb; cases hb
  | some g => rw [ha] at hb; simpa [Value.ownBlock] using hb))
theorem DaI.out {B : Nat} {w w' : World} {x : Rg} (h : DaI B w x) (o : Out w w') : DaI B w' x := own_out h o
/-- bytes that stand behind an address, or none -/
def RestA (w : World) (a : Option Addr) (d : List UInt8) : Prop := d = [] ∨ ∃ ad, a = some ad ∧ ∀ j u, (d.map byV)[j]? = some u → w.cell? (ad.add j) = some u
theorem RestA.out {w w' : World} {a : Option Addr} {d : List UInt8} (h : RestA w a d) (o : Out w w') : RestA w' a d := h.imp id (fun ⟨ad, h1, h2⟩ => ⟨ad, h1, fun j u hj => cell_later o (h2 j u hj)⟩)
theorem info8 : (Tryz.prog.info? 5).map (fun i => (i.zero, i.size, i.bytes)) = some (some (.int .u8 0), 1, 1) := by kernel_rfl
/-- bytes put behind nothing -/
theorem append_nil8 (w : World) (a : Option Addr) (c f : Nat) (d : List UInt8) (h : RestA w a d) (hd : d.length ≤ 140737488355328) :
    ∃ (x : Rg) (W1 : World), (∀ ty, (Builtin.append_ #[29, 29] ty #[.slice none 0 0, .slice a d.length c]).run Tryz.prog w = .ok (.slice (x.a.map fun b => ⟨b, 0, none⟩) d.length x.c) W1) ∧ x.f = f ∧ x.d = d ∧ DaI w.heap.size W1 x ∧ Out w W1 := by
  obtain ⟨i0, hi0, hz0, hz1, hz2⟩ := info_parts info8
  rcases h with rfl | ⟨ad, rfl, hsrc⟩
  · refine ⟨⟨f, none, 0, []⟩, w, fun ty => ?_, rfl, rfl, World.ownsRow_nil _ _ _ _, Out.refl w⟩
    cases a <;> simp [Builtin.append_, run_underlying Tryz.underlying29, sizeOf, typeInfo, hi0, Builtin.lenOf, Builtin.firstCells, loadCells, loadCellsFrom, storeCells]
  · have key := fun ty => run_append_own_at (P := Tryz.prog) w w.heap.size 29 ty 5 i0 _ 1 1 Tryz.underlying29 hi0 hz0 hz1 hz2 rfl (by decide) (.slice none 0 0) 0 [] (World.ownsRow_nil _ _ _ _) ad d.length c (d.map byV) (by simp) hsrc (byV_one d) (by unfold maxLen; omega) (by omega) (Nat.le_refl _)
    obtain ⟨v, W1, hr, hown, hgr, _, _⟩ := key 29
    rw [Nat.zero_add, List.nil_append] at hown
    obtain ⟨a2, c2, rfl, ha2, _⟩ := own_slice hown
    have ho : Out w W1 := ⟨hgr.os, hgr.tape, hgr.output, hgr.size, fun k hk => hgr.block k hk (by simp [Value.ownBlock])⟩
    have hr2 : ∀ ty, (Builtin.append_ #[29, 29] ty #[.slice none 0 0, .slice (some ad) d.length c]).run Tryz.prog w = .ok (.slice a2 d.length c2) W1 := fun ty => hr
    rcases ha2 with rfl | ⟨g, rfl⟩
    · exact ⟨⟨f, none, c2, d⟩, W1, hr2, rfl, rfl, hown, ho⟩
    · exact ⟨⟨f, some g, c2, d⟩, W1, hr2, rfl, rfl, hown, ho⟩
set_option maxHeartbeats 4000000 in
set_option maxRecDepth 100000 in
theorem copyOf_any (w : World) (a : Option Addr) (f c : Nat) (d : List UInt8) (h : RestA w a d) (hd : d.length ≤ 140737488355328) :
    Calls Tryz.prog 51 #[.agg #[.int .u64 f, .slice a d.length c]] w fun e w' => ∃ x : Rg, x.f = f ∧ x.d = d ∧ e = .returned (.agg #[.int .u64 (x.f : Nat), .slice (x.a.map fun b => ⟨b, 0, none⟩) x.d.length x.c]) ∧ DaI w.heap.size w' x ∧ Out w w' := by
  obtain ⟨n, hn⟩ : ∃ n, Hid (n = d.length) := ⟨_, rfl⟩
  have HR := hidOf h
  have HD := hidOf hd
  rw [← hn.out]
  obtain ⟨wA, HA, cA0, cA1, oA, sA⟩ := box_two w (.int .u64 f) (.slice a n c) 36
  have hblk0 : wA.heap.size = w.heap.size + 1 := sA
  obtain ⟨wB, HB, bB, oB⟩ : ∃ wB, Hid (wB = wA.alloc (.cells #[.int .u64 0, .slice none 0 0] 36)) ∧ wB.heap[w.heap.size + 1]? = some (.cells #[.int .u64 0, .slice none 0 0] 36 (0, 0)) ∧ Out wA wB := ⟨_, rfl, by rw [← sA]; exact heap_alloc_new wA _, (Out.refl wA).alloc _⟩
  have cB0 := cell_later oB cA0
  have cB1 := cell_later oB cA1
  have OB := hidOf (oA.trans oB)
  have BB := hidOf bB
  obtain ⟨x, W1, hap, hxf, hxd, hda, ho1⟩ := append_nil8 wB.drew a c f d (HR.out.out (OB.out.drew)) HD.out
  rw [← hn.out] at hap
  have HDA := hidOf hda
  have HO1 := hidOf ho1
  have HXF := hidOf hxf
  have HXD := hidOf hxd
  have HAP := hidOf hap
  have hb1 := hidOf (blk_out (show wB.drew.heap[w.heap.size + 1]? = _ from BB.out) ho1)
  have q0 : W1.cell? ⟨w.heap.size + 1, 0, none⟩ = some (.int .u64 0) := by rw [cell_B hb1.out] <;> rfl
  have q1 : W1.cell? ⟨w.heap.size + 1, 1, none⟩ = some (.slice none 0 0) := by rw [cell_B hb1.out] <;> rfl
  have z0 : W1.frozen? ⟨w.heap.size + 1, 0, none⟩ = false := froz_B hb1.out 0
  have z1 : W1.frozen? ⟨w.heap.size + 1, 1, none⟩ = false := froz_B hb1.out 1
  obtain ⟨xa, hxa⟩ : ∃ xa : Option Addr, Hid (xa = x.a.map fun b => ⟨b, 0, none⟩) := ⟨_, rfl⟩
  obtain ⟨xc, hxc⟩ : ∃ xc, Hid (xc = x.c) := ⟨_, rfl⟩
  rw [← hxa.out, ← hxc.out] at HAP
  obtain ⟨wS, HS, bS, cS⟩ : ∃ wS, Hid (wS = (W1.setCell ⟨w.heap.size + 1, 0, none⟩ (.int .u64 f)).setCell ⟨w.heap.size + 1, 1, none⟩ (.slice xa n xc)) ∧ wS.heap[w.heap.size + 1]? = some (.cells #[.int .u64 f, .slice xa n xc] 36 (0, 0)) ∧ Chg (fun b => b = w.heap.size + 1) W1 wS := ⟨_, rfl, set_B (set_B hb1.out 0 _) 1 _, ((Chg.refl (fun b => b = w.heap.size + 1) W1).setCell rfl _).setCell rfl _⟩
  have BS := hidOf bS
  have CS := hidOf cS
  have s0 : W1.cell? ⟨w.heap.size, 0, none⟩ = some (.int .u64 f) := cell_later ho1 cB0
  have s1 : W1.cell? ⟨w.heap.size, 1, none⟩ = some (.slice a n c) := cell_later ho1 cB1
  have t0 : wS.cell? ⟨w.heap.size, 0, none⟩ = some (.int .u64 f) := cS.cell s0 (by simp)
  have t1 : wS.cell? ⟨w.heap.size, 1, none⟩ = some (.slice a n c) := cS.cell s1 (by simp)
  have sA0 := sA
  clear h hd oA sA hblk0 oB bB hap hda ho1 hxf hxd bS cS
  go_enter Tryz.func51, Tryz.ntmps51
  go_upto_region 1 with fail
  rw [← HA.out, ← HB.out]
  refine wp_region_held_drew (S := fun w' => w'.cell? ⟨w.heap.size, 0, none⟩ = some (.int .u64 f) ∧ w'.cell? ⟨w.heap.size, 1, none⟩ = some (.slice a n c)) (by kernel_rfl) ?_ (fun hHeld => ?_)
  · exact ⟨cB0, cB1⟩
  refine wpAnyH_take (i := 0) (v := ?_) rfl (by kernel_rfl) (by kernel_rfl) (by kernel_rfl) (fun _ _ _ h => h) (Or.inl ⟨by rfl, ?_⟩) (by assumption) ?_
  rotate_left
  · (intro w hSw; (try dsimp only at hSw); go_simp; (try with_reducible rfl))
  show wpAnyH _ _ _ _ _ _ _ (Act.put _ (some 3) _) _
  simp only [Act.put, List.setIfInBounds_toArray, List.set_cons_zero, List.set_cons_succ]
  refine wpAnyH_take (i := 1) (v := ?_) rfl (by kernel_rfl) (by kernel_rfl) (by kernel_rfl) (fun _ _ _ h => h) (Or.inl ⟨by rfl, ?_⟩) (by assumption) ?_
  rotate_left
  · (intro w hSw; (try dsimp only at hSw); go_simp; (try with_reducible rfl))
  show wpAnyH _ _ _ _ _ _ _ (Act.put _ (some 4) _) _
  simp only [Act.put, List.setIfInBounds_toArray, List.set_cons_zero, List.set_cons_succ]
  refine wpAnyH_take (i := 2) (v := ?_) rfl (by kernel_rfl) (by kernel_rfl) (by kernel_rfl) (fun _ _ _ h => h) (Or.inl ⟨by rfl, ?_⟩) (by assumption) ?_
  rotate_left
  · (intro w hSw; (try dsimp only at hSw); go_simp; (try with_reducible rfl))
  show wpAnyH _ _ _ _ _ _ _ (Act.put _ (some 5) _) _
  simp only [Act.put, List.setIfInBounds_toArray, List.set_cons_zero, List.set_cons_succ]
  refine wpAnyH_take (i := 3) (v := ?_) rfl (by kernel_rfl) (by kernel_rfl) (by kernel_rfl) (fun _ _ _ h => h) (Or.inl ⟨by rfl, ?_⟩) (by assumption) ?_
  rotate_left
  · (intro w hSw; (try dsimp only at hSw); go_simp; (try with_reducible rfl))
  show wpAnyH _ _ _ _ _ _ _ (Act.put _ (some 6) _) _
  simp only [Act.put, List.setIfInBounds_toArray, List.set_cons_zero, List.set_cons_succ]
  refine wpAnyH_ready (rs := [4]) (by kernel_rfl) (by simp) ?_
  refine (AllReadyH.cons rfl (fun K4 hK4 => ?_) AllReadyH.nil)
  · rw [if_pos (by rfl)]
    refine Lib.wp_append_run _ (.const (.slice none 0 0)) (.tmp 6) 29 29 rfl _ _ (by simp [Act.eval]) (by simp [Act.eval, Act.put]) _ _ (HAP.out _) ?_
    refine hK4.out _ _ ⟨s0, s1⟩ (fun hHeld4 => ?_)
    simp only [Act.put, List.setIfInBounds_toArray, List.set_cons_zero, List.set_cons_succ]
    refine wpAnyH_take (i := 5) (v := ?_) rfl (by kernel_rfl) (by kernel_rfl) (by kernel_rfl) (fun _ _ _ h => h) (Or.inl ⟨by rfl, ?_⟩) (by assumption) ?_
    rotate_left
    · (intro w hSw; (try dsimp only at hSw); go_simp; (try with_reducible rfl))
    show wpAnyH _ _ _ _ _ _ _ (Act.put _ (some 8) _) _
    simp only [Act.put, List.setIfInBounds_toArray, List.set_cons_zero, List.set_cons_succ]
    refine wpAnyH_ready (rs := [6]) (by kernel_rfl) (by simp) ?_
    refine (AllReadyH.cons rfl (fun K6 hK6 => ?_) AllReadyH.nil)
    · rw [if_pos (by rfl)]
      go_simp
      rw [← HS.out]
      refine hK6.out _ _ ⟨t0, t1⟩ (fun hHeld6 => ?_)
      refine wpAnyH_done (by kernel_rfl) ?_ _
      go_wp2
      have hOA : Out w wB := OB.out
      refine bodyPost_ret (results_cell_row rfl _ _ (w.heap.size + 1) 36 _ (0, 0) _ rfl BS.out Tryz.underlying36 rfl (by kernel_rfl)) rfl ?_
      have hle : w.heap.size ≤ wB.drew.heap.size := hOA.size
      have hda : DaI w.heap.size W1 x := ⟨HDA.out.1, HDA.out.2.imp id (fun ⟨g, cap, cur, e, hb, r⟩ => ⟨g, cap, cur, e, Nat.le_trans hle hb, r⟩)⟩
      refine ⟨x, HXF.out, HXD.out, by rw [HXF.out, HXD.out, ← hxa.out, ← hxc.out, ← hn.out], hda.chg CS.out (fun b hb e => ?_), ?_⟩
      · have h1 := HDA.out.lt b (by simp [daV, hb, Value.ownBlock])
        have h2 : w.heap.size + 1 < wB.drew.heap.size := (Array.getElem?_eq_some_iff.1 BB.out).1
        omega
      · exact Chg.out CS.out (hOA.trans ((Out.refl wB).drew.trans HO1.out)) (fun k hk => by subst hk; omega)
end Go.Proofs.YtekjfbmebekmeaaGreat
namespace Go.Proofs.YtekjfbmebekmeaaGreat
open Go.RowKit
set_option linter.unusedVariables false
set_option linter.unusedSimpArgs false
/-- do two regions clash, as the document's own space asks it? -/
def cl1 (f1 n1 f2 n2 : Nat) : Bool := f1 == f2 || (decide (0 < n1) && decide (0 < n2) && (if f2 < f1 then decide (f1 - f2 < n2) else decide (f2 - f1 < n1)))
theorem cl1_iff (f1 n1 f2 n2 : Nat) : cl1 f1 n1 f2 n2 = true ↔ f1 = f2 ∨ (0 < n1 ∧ 0 < n2 ∧ (f2 < f1 ∧ f1 - f2 < n2 ∨ ¬ f2 < f1 ∧ f2 - f1 < n1)) := by
  unfold cl1
  simp only [Bool.or_eq_true, beq_iff_eq, Bool.and_eq_true, decide_eq_true_eq]
  by_cases h : f2 < f1 <;> simp [h, and_assoc]
end Go.Proofs.YtekjfbmebekmeaaGreat
namespace Go.Proofs.YtekjfbmebekmeaaGreat
open Go.RowKit
set_option linter.unusedVariables false
set_option linter.unusedSimpArgs false
/-- the document's own: may a region be? -/
theorem refMay_any (w : World) (f n c : Nat) (a : Option Addr) (hn2 : n ≤ 140737488355328) (hf : f < 18446744073709551616) : Calls Tryz.prog 45 #[.agg #[.int .u64 f, .slice a n c]] w fun e w' => e = .returned (.bool (mayR f n)) ∧ Out w w' := by
  obtain ⟨wA, HA, cA0, cA1, oA, _⟩ := box_two w (.int .u64 f) (.slice a n c) 36
  have OA := hidOf oA
  clear oA
  by_cases h0 : n = 0
  · subst h0
    go_enter Tryz.func45, Tryz.ntmps45
    go_upto_region 1 with fail
    rw [← HA.out]
    go_wp2
    go_ret
    exact ⟨rfl, OA.out⟩
  · obtain ⟨k, rfl⟩ : ∃ k, n = k + 1 := ⟨n - 1, by omega⟩
    have hb : ((k + 1 : Nat) == 0) = false := rfl
    have h1 : IntKind.u64.wrap (k : Int) = k := by rw [IntKind.wrap_u64]; omega
    go_enter Tryz.func45, Tryz.ntmps45
    go_upto_region 1 with fail
    rw [← HA.out]
    by_cases hm : f + k < 18446744073709551616
    · have h2 : IntKind.u64.wrap ((f : Int) + k) = (f : Int) + k := by rw [IntKind.wrap_u64]; omega
      go_wp2
      go_ret
      refine ⟨?_, OA.out⟩
      unfold mayR
      rw [hb]
      refine congrArg (fun b => Ending.returned (.bool b)) ?_
      rw [Bool.eq_iff_iff]
      simp
      omega
    · have h2 : IntKind.u64.wrap ((f : Int) + k) = (f : Int) + k - 18446744073709551616 := by rw [IntKind.wrap_u64]; omega
      go_wp2
      go_ret
      refine ⟨?_, OA.out⟩
      unfold mayR
      rw [hb]
      refine congrArg (fun b => Ending.returned (.bool b)) ?_
      rw [Bool.eq_iff_iff]
      simp
      omega
set_option maxHeartbeats 4000000 in
set_option maxRecDepth 100000 in
theorem copied_any (w : World) (a : Option Addr) (f c : Nat) (d : List UInt8) (h : RestA w a d) (hd : d.length ≤ 140737488355328) :
    Calls Tryz.prog 48 #[.agg #[.int .u64 f, .slice a d.length c]] w fun e w' => ∃ x : Rg, x.f = f ∧ x.d = d ∧ e = .returned (.agg #[.int .u64 (x.f : Nat), .slice (x.a.map fun b => ⟨b, 0, none⟩) x.d.length x.c]) ∧ DaI w.heap.size w' x ∧ Out w w' := by
  obtain ⟨n, hn⟩ : ∃ n, Hid (n = d.length) := ⟨_, rfl⟩
  have HR := hidOf h
  have HD := hidOf hd
  rw [← hn.out]
  obtain ⟨wA, HA, cA0, cA1, oA, sA⟩ := box_two w (.int .u64 f) (.slice a n c) 36
  have hblk0 : wA.heap.size = w.heap.size + 1 := sA
  obtain ⟨wB, HB, bB, oB⟩ : ∃ wB, Hid (wB = wA.alloc (.cells #[.int .u64 0, .slice none 0 0] 36)) ∧ wB.heap[w.heap.size + 1]? = some (.cells #[.int .u64 0, .slice none 0 0] 36 (0, 0)) ∧ Out wA wB := ⟨_, rfl, by rw [← sA]; exact heap_alloc_new wA _, (Out.refl wA).alloc _⟩
  have cB0 := cell_later oB cA0
  have cB1 := cell_later oB cA1
  have OB := hidOf (oA.trans oB)
  have BB := hidOf bB
  obtain ⟨x, W1, hap, hxf, hxd, hda, ho1⟩ := append_nil8 wB.drew a c f d (HR.out.out (OB.out.drew)) HD.out
  rw [← hn.out] at hap
  have HDA := hidOf hda
  have HO1 := hidOf ho1
  have HXF := hidOf hxf
  have HXD := hidOf hxd
  have HAP := hidOf hap
  have hb1 := hidOf (blk_out (show wB.drew.heap[w.heap.size + 1]? = _ from BB.out) ho1)
  have q0 : W1.cell? ⟨w.heap.size + 1, 0, none⟩ = some (.int .u64 0) := by rw [cell_B hb1.out] <;> rfl
  have q1 : W1.cell? ⟨w.heap.size + 1, 1, none⟩ = some (.slice none 0 0) := by rw [cell_B hb1.out] <;> rfl
  have z0 : W1.frozen? ⟨w.heap.size + 1, 0, none⟩ = false := froz_B hb1.out 0
  have z1 : W1.frozen? ⟨w.heap.size + 1, 1, none⟩ = false := froz_B hb1.out 1
  obtain ⟨xa, hxa⟩ : ∃ xa : Option Addr, Hid (xa = x.a.map fun b => ⟨b, 0, none⟩) := ⟨_, rfl⟩
  obtain ⟨xc, hxc⟩ : ∃ xc, Hid (xc = x.c) := ⟨_, rfl⟩
  rw [← hxa.out, ← hxc.out] at HAP
  obtain ⟨wS, HS, bS, cS⟩ : ∃ wS, Hid (wS = (W1.setCell ⟨w.heap.size + 1, 0, none⟩ (.int .u64 f)).setCell ⟨w.heap.size + 1, 1, none⟩ (.slice xa n xc)) ∧ wS.heap[w.heap.size + 1]? = some (.cells #[.int .u64 f, .slice xa n xc] 36 (0, 0)) ∧ Chg (fun b => b = w.heap.size + 1) W1 wS := ⟨_, rfl, set_B (set_B hb1.out 0 _) 1 _, ((Chg.refl (fun b => b = w.heap.size + 1) W1).setCell rfl _).setCell rfl _⟩
  have BS := hidOf bS
  have CS := hidOf cS
  have s0 : W1.cell? ⟨w.heap.size, 0, none⟩ = some (.int .u64 f) := cell_later ho1 cB0
  have s1 : W1.cell? ⟨w.heap.size, 1, none⟩ = some (.slice a n c) := cell_later ho1 cB1
  have t0 : wS.cell? ⟨w.heap.size, 0, none⟩ = some (.int .u64 f) := cS.cell s0 (by simp)
  have t1 : wS.cell? ⟨w.heap.size, 1, none⟩ = some (.slice a n c) := cS.cell s1 (by simp)
  have sA0 := sA
  clear h hd oA sA hblk0 oB bB hap hda ho1 hxf hxd bS cS
  go_enter Tryz.func48, Tryz.ntmps48
  go_upto_region 1 with fail
  rw [← HA.out, ← HB.out]
  refine wp_region_held_drew (S := fun w' => w'.cell? ⟨w.heap.size, 0, none⟩ = some (.int .u64 f) ∧ w'.cell? ⟨w.heap.size, 1, none⟩ = some (.slice a n c)) (by kernel_rfl) ?_ (fun hHeld => ?_)
  · exact ⟨cB0, cB1⟩
  refine wpAnyH_take (i := 0) (v := ?_) rfl (by kernel_rfl) (by kernel_rfl) (by kernel_rfl) (fun _ _ _ h => h) (Or.inl ⟨by rfl, ?_⟩) (by assumption) ?_
  rotate_left
  · (intro w hSw; (try dsimp only at hSw); go_simp; (try with_reducible rfl))
  show wpAnyH _ _ _ _ _ _ _ (Act.put _ (some 3) _) _
  simp only [Act.put, List.setIfInBounds_toArray, List.set_cons_zero, List.set_cons_succ]
  refine wpAnyH_take (i := 1) (v := ?_) rfl (by kernel_rfl) (by kernel_rfl) (by kernel_rfl) (fun _ _ _ h => h) (Or.inl ⟨by rfl, ?_⟩) (by assumption) ?_
  rotate_left
  · (intro w hSw; (try dsimp only at hSw); go_simp; (try with_reducible rfl))
  show wpAnyH _ _ _ _ _ _ _ (Act.put _ (some 4) _) _
  simp only [Act.put, List.setIfInBounds_toArray, List.set_cons_zero, List.set_cons_succ]
  refine wpAnyH_take (i := 2) (v := ?_) rfl (by kernel_rfl) (by kernel_rfl) (by kernel_rfl) (fun _ _ _ h => h) (Or.inl ⟨by rfl, ?_⟩) (by assumption) ?_
  rotate_left
  · (intro w hSw; (try dsimp only at hSw); go_simp; (try with_reducible rfl))
  show wpAnyH _ _ _ _ _ _ _ (Act.put _ (some 5) _) _
  simp only [Act.put, List.setIfInBounds_toArray, List.set_cons_zero, List.set_cons_succ]
  refine wpAnyH_take (i := 3) (v := ?_) rfl (by kernel_rfl) (by kernel_rfl) (by kernel_rfl) (fun _ _ _ h => h) (Or.inl ⟨by rfl, ?_⟩) (by assumption) ?_
  rotate_left
  · (intro w hSw; (try dsimp only at hSw); go_simp; (try with_reducible rfl))
  show wpAnyH _ _ _ _ _ _ _ (Act.put _ (some 6) _) _
  simp only [Act.put, List.setIfInBounds_toArray, List.set_cons_zero, List.set_cons_succ]
  refine wpAnyH_ready (rs := [4]) (by kernel_rfl) (by simp) ?_
  refine (AllReadyH.cons rfl (fun K4 hK4 => ?_) AllReadyH.nil)
  · rw [if_pos (by rfl)]
    refine Lib.wp_append_run _ (.const (.slice none 0 0)) (.tmp 6) 29 29 rfl _ _ (by simp [Act.eval]) (by simp [Act.eval, Act.put]) _ _ (HAP.out _) ?_
    refine hK4.out _ _ ⟨s0, s1⟩ (fun hHeld4 => ?_)
    simp only [Act.put, List.setIfInBounds_toArray, List.set_cons_zero, List.set_cons_succ]
    refine wpAnyH_take (i := 5) (v := ?_) rfl (by kernel_rfl) (by kernel_rfl) (by kernel_rfl) (fun _ _ _ h => h) (Or.inl ⟨by rfl, ?_⟩) (by assumption) ?_
    rotate_left
    · (intro w hSw; (try dsimp only at hSw); go_simp; (try with_reducible rfl))
    show wpAnyH _ _ _ _ _ _ _ (Act.put _ (some 8) _) _
    simp only [Act.put, List.setIfInBounds_toArray, List.set_cons_zero, List.set_cons_succ]
    refine wpAnyH_ready (rs := [6]) (by kernel_rfl) (by simp) ?_
    refine (AllReadyH.cons rfl (fun K6 hK6 => ?_) AllReadyH.nil)
    · rw [if_pos (by rfl)]
      go_simp
      rw [← HS.out]
      refine hK6.out _ _ ⟨t0, t1⟩ (fun hHeld6 => ?_)
      refine wpAnyH_done (by kernel_rfl) ?_ _
      go_wp2
      have hOA : Out w wB := OB.out
      refine bodyPost_ret (results_cell_row rfl _ _ (w.heap.size + 1) 36 _ (0, 0) _ rfl BS.out Tryz.underlying36 rfl (by kernel_rfl)) rfl ?_
      have hle : w.heap.size ≤ wB.drew.heap.size := hOA.size
      have hda : DaI w.heap.size W1 x := ⟨HDA.out.1, HDA.out.2.imp id (fun ⟨g, cap, cur, e, hb, r⟩ => ⟨g, cap, cur, e, Nat.le_trans hle hb, r⟩)⟩
      refine ⟨x, HXF.out, HXD.out, by rw [HXF.out, HXD.out, ← hxa.out, ← hxc.out, ← hn.out], hda.chg CS.out (fun b hb e => ?_), ?_⟩
      · have h1 := HDA.out.lt b (by simp [daV, hb, Value.ownBlock])
        have h2 : w.heap.size + 1 < wB.drew.heap.size := (Array.getElem?_eq_some_iff.1 BB.out).1
        omega
      · exact Chg.out CS.out (hOA.trans ((Out.refl wB).drew.trans HO1.out)) (fun k hk => by subst hk; omega)
set_option maxHeartbeats 2000000 in
/-- the document's own: do two regions clash? -/
theorem refClash_any (w : World) (f1 n1 c1 f2 n2 c2 : Nat) (a1 a2 : Option Addr) (hf1 : f1 < 18446744073709551616) (hf2 : f2 < 18446744073709551616) (hn1 : n1 ≤ 140737488355328) (hn2 : n2 ≤ 140737488355328) : Calls Tryz.prog 46 #[.agg #[.int .u64 f1, .slice a1 n1 c1], .agg #[.int .u64 f2, .slice a2 n2 c2]] w fun e w' => e = .returned (.bool (cl1 f1 n1 f2 n2)) ∧ Out w w' := by
  obtain ⟨wA, HA, cA0, cA1, oA, sA⟩ := box_two w (.int .u64 f1) (.slice a1 n1 c1) 36
  obtain ⟨wB, HB, cB0, cB1, oB, sB⟩ := box_two wA (.int .u64 f2) (.slice a2 n2 c2) 36
  have d0 := cell_later oB cA0
  have d1 := cell_later oB cA1
  have bA : wB.heap[w.heap.size]? = some (.cells #[.int .u64 f1, .slice a1 n1 c1] 36 (0, 0)) := blk_out (by rw [HA.out]; exact heap_alloc_new w _) oB
  have bB : wB.heap[w.heap.size + 1]? = some (.cells #[.int .u64 f2, .slice a2 n2 c2] 36 (0, 0)) := by rw [HB.out, ← sA]; exact heap_alloc_new wA _
  rw [sA] at cB0 cB1
  have OB := hidOf (oA.trans oB)
  have BA := hidOf bA
  have BB := hidOf bB
  clear cA0 cA1 oA oB sB bA bB
  go_enter Tryz.func46, Tryz.ntmps46
  go_upto_region 1 with fail
  rw [← HA.out, ← HB.out]
  by_cases he : f1 = f2
  · subst he
    go_wp2
    go_ret
    exact ⟨by simp [cl1], OB.out⟩
  · have heI : ¬ ((f1 : Int) = f2) := by omega
    have heb : ((f1 : Int) == f2) = false := by rw [beq_eq_false_iff_ne]; exact heI
    by_cases hg : f2 < f1
    · have hgI : (f2 : Int) < f1 := by omega
      have hw : IntKind.u64.wrap ((f1 : Int) - f2) = (f1 : Int) - f2 := by rw [IntKind.wrap_u64]; omega
      have hw1 : IntKind.u64.wrap (n2 : Int) = n2 := by rw [IntKind.wrap_u64]; omega
      have z0 : wB.frozen? ⟨w.heap.size, 0, none⟩ = false := froz_B BA.out 0
      have z1 : wB.frozen? ⟨w.heap.size, 1, none⟩ = false := froz_B BA.out 1
      have z2 : wB.frozen? ⟨w.heap.size + 1, 0, none⟩ = false := froz_B BB.out 0
      have z3 : wB.frozen? ⟨w.heap.size + 1, 1, none⟩ = false := froz_B BB.out 1
      obtain ⟨wS, HS, q0, q1, q2, q3, oS⟩ : ∃ wS, Hid (wS = (((wB.setCell ⟨w.heap.size, 0, none⟩ (.int .u64 f2)).setCell ⟨w.heap.size, 1, none⟩ (.slice a2 n2 c2)).setCell ⟨w.heap.size + 1, 0, none⟩ (.int .u64 f1)).setCell ⟨w.heap.size + 1, 1, none⟩ (.slice a1 n1 c1)) ∧ wS.cell? ⟨w.heap.size, 0, none⟩ = some (.int .u64 f2) ∧ wS.cell? ⟨w.heap.size, 1, none⟩ = some (.slice a2 n2 c2) ∧ wS.cell? ⟨w.heap.size + 1, 0, none⟩ = some (.int .u64 f1) ∧ wS.cell? ⟨w.heap.size + 1, 1, none⟩ = some (.slice a1 n1 c1) ∧ Out w wS := by
        have e1 := set_B (set_B BA.out 0 (.int .u64 f2)) 1 (.slice a2 n2 c2)
        have k1 : Chg (fun b => b = w.heap.size) wB ((wB.setCell ⟨w.heap.size, 0, none⟩ (.int .u64 f2)).setCell ⟨w.heap.size, 1, none⟩ (.slice a2 n2 c2)) := ((Chg.refl (fun b => b = w.heap.size) wB).setCell rfl _).setCell rfl _
        have e2 := blk_chg BB.out k1 (by simp)
        have e3 := set_B (set_B e2 0 (.int .u64 f1)) 1 (.slice a1 n1 c1)
        have k2 := ((Chg.refl (fun b => b = w.heap.size + 1) ((wB.setCell ⟨w.heap.size, 0, none⟩ (.int .u64 f2)).setCell ⟨w.heap.size, 1, none⟩ (.slice a2 n2 c2))).setCell (p := ⟨w.heap.size + 1, 0, none⟩) rfl (.int .u64 f1)).setCell (p := ⟨w.heap.size + 1, 1, none⟩) rfl (.slice a1 n1 c1)
        have e4 := blk_chg e1 k2 (by simp)
        refine ⟨_, rfl, ?_, ?_, ?_, ?_, Chg.out k2 (Chg.out k1 OB.out (fun k hk => by omega)) (fun k hk => by omega)⟩
        · rw [cell_B e4]; rfl
        · rw [cell_B e4]; rfl
        · rw [cell_B e3]; rfl
        · rw [cell_B e3]; rfl
      go_upto_region 5 with fail
      rw [← HS.out]
      clear z0 z1 z2 z3 d0 d1 cB0 cB1 hg he
      by_cases h2 : 0 < n2
      · have h2I : (0 : Int) < n2 := by omega
        by_cases h1 : 0 < n1
        · have h1I : (0 : Int) < n1 := by omega
          clear h1 h2
          go_wp2
          go_ret
          refine ⟨?_, oS⟩
          show Ending.returned (.bool (decide ((f1 : Int) - f2 < n2))) = _
          refine congrArg (fun b => Ending.returned (.bool b)) ?_
          rw [Bool.eq_iff_iff, cl1_iff, decide_eq_true_eq]
          omega
        · have h1I : ¬ (0 : Int) < n1 := by omega
          clear h1 h2
          go_wp2
          go_ret
          refine ⟨?_, oS⟩
          show Ending.returned (.bool false) = _
          refine congrArg (fun b => Ending.returned (.bool b)) ?_
          rw [Bool.eq_iff_iff, cl1_iff]
          simp only [Bool.false_eq_true, false_iff]
          omega
      · have h2I : ¬ (0 : Int) < n2 := by omega
        clear h2
        go_wp2
        go_ret
        refine ⟨?_, oS⟩
        show Ending.returned (.bool false) = _
        refine congrArg (fun b => Ending.returned (.bool b)) ?_
        rw [Bool.eq_iff_iff, cl1_iff]
        simp only [Bool.false_eq_true, false_iff]
        omega
    · have hgI : ¬ (f2 : Int) < f1 := by omega
      have hw : IntKind.u64.wrap ((f2 : Int) - f1) = (f2 : Int) - f1 := by rw [IntKind.wrap_u64]; omega
      have hw1 : IntKind.u64.wrap (n1 : Int) = n1 := by rw [IntKind.wrap_u64]; omega
      clear he hg
      by_cases h1 : 0 < n1
      · have h1I : (0 : Int) < n1 := by omega
        by_cases h2 : 0 < n2
        · have h2I : (0 : Int) < n2 := by omega
          clear h1 h2
          go_wp2
          go_ret
          refine ⟨?_, OB.out⟩
          show Ending.returned (.bool (decide ((f2 : Int) - f1 < n1))) = _
          refine congrArg (fun b => Ending.returned (.bool b)) ?_
          rw [Bool.eq_iff_iff, cl1_iff, decide_eq_true_eq]
          omega
        · have h2I : ¬ (0 : Int) < n2 := by omega
          clear h1 h2
          go_wp2
          go_ret
          refine ⟨?_, OB.out⟩
          show Ending.returned (.bool false) = _
          refine congrArg (fun b => Ending.returned (.bool b)) ?_
          rw [Bool.eq_iff_iff, cl1_iff]
          simp only [Bool.false_eq_true, false_iff]
          omega
      · have h1I : ¬ (0 : Int) < n1 := by omega
        clear h1
        go_wp2
        go_ret
        refine ⟨?_, OB.out⟩
        show Ending.returned (.bool false) = _
        refine congrArg (fun b => Ending.returned (.bool b)) ?_
        rw [Bool.eq_iff_iff, cl1_iff]
        simp only [Bool.false_eq_true, false_iff]
        omega
end Go.Proofs.YtekjfbmebekmeaaGreat
