import Derived.Test.YtekjfbmebekmeaaGreatMbk
namespace Go.Proofs.YtekjfbmebekmeaaGreat
open Go.RowKit
set_option linter.unusedVariables false
set_option linter.unusedSimpArgs false
def byV (b : UInt8) : Value := .int .u8 (b.toNat : Int)
theorem byV_one (d : List UInt8) : ∀ u ∈ d.map byV, u.oneCell' = true := by
  intro u hu
  obtain ⟨x, _, rfl⟩ := List.mem_map.1 hu
  rfl
/-- a region's bytes, as they lie -/
def DaI (B : Nat) (w : World) (x : Rg) : Prop := w.ownsRow B 5 1 (daV x) x.d.length (x.d.map byV)
theorem DaI.chg {S : Nat → Prop} {B : Nat} {w w' : World} {x : Rg} (h : DaI B w x) (c : Chg S w w') (hs : ∀ b, x.a = some b → ¬ S b) : DaI B w' x := own_chg h c (fun b hb => hs b (by
  unfold daV at hb
  cases ha : x.a with
  | none => rw [ha] at hb; cases hb
  | some g => rw [ha] at hb; simpa [Value.ownBlock] using hb))
theorem DaI.out {B : Nat} {w w' : World} {x : Rg} (h : DaI B w x) (o : Out w w') : DaI B w' x := own_out h o
/-- bytes that stand behind an address, or none -/
def RestA (w : World) (a : Option Addr) (d : List UInt8) : Prop := d = [] ∨ ∃ ad, a = some ad ∧ ∀ j u, (d.map byV)[j]? = some u → w.cell? (ad.add j) = some u
theorem RestA.out {w w' : World} {a : Option Addr} {d : List UInt8} (h : RestA w a d) (o : Out w w') : RestA w' a d := h.imp id (fun ⟨ad, h1, h2⟩ => ⟨ad, h1, fun j u hj => cell_later o (h2 j u hj)⟩)
theorem info8 : (Tryz.prog.info? 5).map (fun i => (i.zero, i.size, i.bytes)) = some (some (.int .u8 0), 1, 1) := by kernel_rfl
/-- bytes put behind nothing -/
theorem append_nil8 (w : World) (a : Option Addr) (c f : Nat) (d : List UInt8) (h : RestA w a d) (hd : d.length ≤ 140737488355328) :
    ∃ (x : Rg) (W1 : World), (∀ ty, (Builtin.append_ #[29, 29] ty #[.slice none 0 0, .slice a d.length c]).run Tryz.prog w = .ok (.slice (x.a.map fun b => ⟨b, 0, none⟩) d.length x.c) W1) ∧ x.f = f ∧ x.d = d ∧ DaI w.heap.size W1 x ∧ Out w W1 := by
  obtain ⟨i0, hi0, hz0, hz1, hz2⟩ := info_parts info8
  rcases h with rfl | ⟨ad, rfl, hsrc⟩
  · refine ⟨⟨f, none, 0, []⟩, w, fun ty => ?_, rfl, rfl, World.ownsRow_nil _ _ _ _, Out.refl w⟩
    cases a <;> simp [Builtin.append_, run_underlying Tryz.underlying29, sizeOf, typeInfo, hi0, Builtin.lenOf, Builtin.firstCells, loadCells, loadCellsFrom, storeCells]
  · have key := fun ty => run_append_own_at (P := Tryz.prog) w w.heap.size 29 ty 5 i0 _ 1 1 Tryz.underlying29 hi0 hz0 hz1 hz2 rfl (by decide) (.slice none 0 0) 0 [] (World.ownsRow_nil _ _ _ _) ad d.length c (d.map byV) (by simp) hsrc (byV_one d) (by unfold maxLen; omega) (by omega) (Nat.le_refl _)
    obtain ⟨v, W1, hr, hown, hgr, _, _⟩ := key 29
    rw [Nat.zero_add, List.nil_append] at hown
    obtain ⟨a2, c2, rfl, ha2, _⟩ := own_slice hown
    have ho : Out w W1 := ⟨hgr.os, hgr.tape, hgr.output, hgr.size, fun k hk => hgr.block k hk (by simp [Value.ownBlock])⟩
    have hr2 : ∀ ty, (Builtin.append_ #[29, 29] ty #[.slice none 0 0, .slice (some ad) d.length c]).run Tryz.prog w = .ok (.slice a2 d.length c2) W1 := fun ty => hr
    rcases ha2 with rfl | ⟨g, rfl⟩
    · exact ⟨⟨f, none, c2, d⟩, W1, hr2, rfl, rfl, hown, ho⟩
    · exact ⟨⟨f, some g, c2, d⟩, W1, hr2, rfl, rfl, hown, ho⟩
set_option maxHeartbeats 4000000 in
set_option maxRecDepth 100000 in
theorem copyOf_any (w : World) (a : Option Addr) (f c : Nat) (d : List UInt8) (h : RestA w a d) (hd : d.length ≤ 140737488355328) :
    Calls Tryz.prog 51 #[.agg #[.int .u64 f, .slice a d.length c]] w fun e w' => ∃ x : Rg, x.f = f ∧ x.d = d ∧ e = .returned (.agg #[.int .u64 (x.f : Nat), .slice (x.a.map fun b => ⟨b, 0, none⟩) x.d.length x.c]) ∧ DaI w.heap.size w' x ∧ Out w w' := by
  obtain ⟨n, hn⟩ : ∃ n, Hid (n = d.length) := ⟨_, rfl⟩
  have HR := hidOf h
  have HD := hidOf hd
  rw [← hn.out]
  obtain ⟨wA, HA, cA0, cA1, oA, sA⟩ := box_two w (.int .u64 f) (.slice a n c) 36
  have hblk0 : wA.heap.size = w.heap.size + 1 := sA
  obtain ⟨wB, HB, bB, oB⟩ : ∃ wB, Hid (wB = wA.alloc (.cells #[.int .u64 0, .slice none 0 0] 36)) ∧ wB.heap[w.heap.size + 1]? = some (.cells #[.int .u64 0, .slice none 0 0] 36 (0, 0)) ∧ Out wA wB := ⟨_, rfl, by rw [← sA]; exact heap_alloc_new wA _, (Out.refl wA).alloc _⟩
  have cB0 := cell_later oB cA0
  have cB1 := cell_later oB cA1
  have OB := hidOf (oA.trans oB)
  have BB := hidOf bB
  obtain ⟨x, W1, hap, hxf, hxd, hda, ho1⟩ := append_nil8 wB.drew a c f d (HR.out.out (OB.out.drew)) HD.out
  rw [← hn.out] at hap
  have HDA := hidOf hda
  have HO1 := hidOf ho1
  have HXF := hidOf hxf
  have HXD := hidOf hxd
  have HAP := hidOf hap
  have hb1 := hidOf (blk_out (show wB.drew.heap[w.heap.size + 1]? = _ from BB.out) ho1)
  have q0 : W1.cell? ⟨w.heap.size + 1, 0, none⟩ = some (.int .u64 0) := by rw [cell_B hb1.out] <;> rfl
  have q1 : W1.cell? ⟨w.heap.size + 1, 1, none⟩ = some (.slice none 0 0) := by rw [cell_B hb1.out] <;> rfl
  have z0 : W1.frozen? ⟨w.heap.size + 1, 0, none⟩ = false := froz_B hb1.out 0
  have z1 : W1.frozen? ⟨w.heap.size + 1, 1, none⟩ = false := froz_B hb1.out 1
  obtain ⟨xa, hxa⟩ : ∃ xa : Option Addr, Hid (xa = x.a.map fun b => ⟨b, 0, none⟩) := ⟨_, rfl⟩
  obtain ⟨xc, hxc⟩ : ∃ xc, Hid (xc = x.c) := ⟨_, rfl⟩
  rw [← hxa.out, ← hxc.out] at HAP
  obtain ⟨wS, HS, bS, cS⟩ : ∃ wS, Hid (wS = (W1.setCell ⟨w.heap.size + 1, 0, none⟩ (.int .u64 f)).setCell ⟨w.heap.size + 1, 1, none⟩ (.slice xa n xc)) ∧ wS.heap[w.heap.size + 1]? = some (.cells #[.int .u64 f, .slice xa n xc] 36 (0, 0)) ∧ Chg (fun b => b = w.heap.size + 1) W1 wS := ⟨_, rfl, set_B (set_B hb1.out 0 _) 1 _, ((Chg.refl (fun b => b = w.heap.size + 1) W1).setCell rfl _).setCell rfl _⟩
  have BS := hidOf bS
  have CS := hidOf cS
  have s0 : W1.cell? ⟨w.heap.size, 0, none⟩ = some (.int .u64 f) := cell_later ho1 cB0
  have s1 : W1.cell? ⟨w.heap.size, 1, none⟩ = some (.slice a n c) := cell_later ho1 cB1
  have t0 : wS.cell? ⟨w.heap.size, 0, none⟩ = some (.int .u64 f) := cS.cell s0 (by simp)
  have t1 : wS.cell? ⟨w.heap.size, 1, none⟩ = some (.slice a n c) := cS.cell s1 (by simp)
  have sA0 := sA
  clear h hd oA sA hblk0 oB bB hap hda ho1 hxf hxd bS cS
  go_enter Tryz.func51, Tryz.ntmps51
  go_upto_region 1 with fail
  rw [← HA.out, ← HB.out]
  refine wp_region_held_drew (S := fun w' => w'.cell? ⟨w.heap.size, 0, none⟩ = some (.int .u64 f) ∧ w'.cell? ⟨w.heap.size, 1, none⟩ = some (.slice a n c)) (by kernel_rfl) ?_ (fun hHeld => ?_)
  · exact ⟨cB0, cB1⟩
  refine wpAnyH_take (i := 0) (v := ?_) rfl (by kernel_rfl) (by kernel_rfl) (by kernel_rfl) (fun _ _ _ h => h) (Or.inl ⟨by rfl, ?_⟩) (by assumption) ?_
  rotate_left
  · (intro w hSw; (try dsimp only at hSw); go_simp; (try with_reducible rfl))
  show wpAnyH _ _ _ _ _ _ _ (Act.put _ (some 3) _) _
  simp only [Act.put, List.setIfInBounds_toArray, List.set_cons_zero, List.set_cons_succ]
  refine wpAnyH_take (i := 1) (v := ?_) rfl (by kernel_rfl) (by kernel_rfl) (by kernel_rfl) (fun _ _ _ h => h) (Or.inl ⟨by rfl, ?_⟩) (by assumption) ?_
  rotate_left
  · (intro w hSw; (try dsimp only at hSw); go_simp; (try with_reducible rfl))
  show wpAnyH _ _ _ _ _ _ _ (Act.put _ (some 4) _) _
  simp only [Act.put, List.setIfInBounds_toArray, List.set_cons_zero, List.set_cons_succ]
  refine wpAnyH_take (i := 2) (v := ?_) rfl (by kernel_rfl) (by kernel_rfl) (by kernel_rfl) (fun _ _ _ h => h) (Or.inl ⟨by rfl, ?_⟩) (by assumption) ?_
  rotate_left
  · (intro w hSw; (try dsimp only at hSw); go_simp; (try with_reducible rfl))
  show wpAnyH _ _ _ _ _ _ _ (Act.put _ (some 5) _) _
  simp only [Act.put, List.setIfInBounds_toArray, List.set_cons_zero, List.set_cons_succ]
  refine wpAnyH_take (i := 3) (v := ?_) rfl (by kernel_rfl) (by kernel_rfl) (by kernel_rfl) (fun _ _ _ h => h) (Or.inl ⟨by rfl, ?_⟩) (by assumption) ?_
  rotate_left
  · (intro w hSw; (try dsimp only at hSw); go_simp; (try with_reducible rfl))
  show wpAnyH _ _ _ _ _ _ _ (Act.put _ (some 6) _) _
  simp only [Act.put, List.setIfInBounds_toArray, List.set_cons_zero, List.set_cons_succ]
  refine wpAnyH_ready (rs := [4]) (by kernel_rfl) (by simp) ?_
  refine (AllReadyH.cons rfl (fun K4 hK4 => ?_) AllReadyH.nil)
  · rw [if_pos (by rfl)]
    refine Lib.wp_append_run _ (.const (.slice none 0 0)) (.tmp 6) 29 29 rfl _ _ (by simp [Act.eval]) (by simp [Act.eval, Act.put]) _ _ (HAP.out _) ?_
    refine hK4.out _ _ ⟨s0, s1⟩ (fun hHeld4 => ?_)
    simp only [Act.put, List.setIfInBounds_toArray, List.set_cons_zero, List.set_cons_succ]
    refine wpAnyH_take (i := 5) (v := ?_) rfl (by kernel_rfl) (by kernel_rfl) (by kernel_rfl) (fun _ _ _ h => h) (Or.inl ⟨by rfl, ?_⟩) (by assumption) ?_
    rotate_left
    · (intro w hSw; (try dsimp only at hSw); go_simp; (try with_reducible rfl))
    show wpAnyH _ _ _ _ _ _ _ (Act.put _ (some 8) _) _
    simp only [Act.put, List.setIfInBounds_toArray, List.set_cons_zero, List.set_cons_succ]
    refine wpAnyH_ready (rs := [6]) (by kernel_rfl) (by simp) ?_
    refine (AllReadyH.cons rfl (fun K6 hK6 => ?_) AllReadyH.nil)
    · rw [if_pos (by rfl)]
      go_simp
      rw [← HS.out]
      refine hK6.out _ _ ⟨t0, t1⟩ (fun hHeld6 => ?_)
      refine wpAnyH_done (by kernel_rfl) ?_ _
      go_wp2
      have hOA : Out w wB := OB.out
      refine bodyPost_ret (results_cell_row rfl _ _ (w.heap.size + 1) 36 _ (0, 0) _ rfl BS.out Tryz.underlying36 rfl (by kernel_rfl)) rfl ?_
      have hle : w.heap.size ≤ wB.drew.heap.size := hOA.size
      have hda : DaI w.heap.size W1 x := ⟨HDA.out.1, HDA.out.2.imp id (fun ⟨g, cap, cur, e, hb, r⟩ => ⟨g, cap, cur, e, Nat.le_trans hle hb, r⟩)⟩
      refine ⟨x, HXF.out, HXD.out, by rw [HXF.out, HXD.out, ← hxa.out, ← hxc.out, ← hn.out], hda.chg CS.out (fun b hb e => ?_), ?_⟩
      · have h1 := HDA.out.lt b (by simp [daV, hb, Value.ownBlock])
        have h2 : w.heap.size + 1 < wB.drew.heap.size := (Array.getElem?_eq_some_iff.1 BB.out).1
        omega
      · exact Chg.out CS.out (hOA.trans ((Out.refl wB).drew.trans HO1.out)) (fun k hk => by subst hk; omega)
end Go.Proofs.YtekjfbmebekmeaaGreat
