import Derived.Test.YtekjfbmebekmeaaGreatGa05
namespace Go.Proofs.YtekjfbmebekmeaaGreat
open Go.RowKit
set_option linter.unusedVariables false
set_option linter.unusedSimpArgs false
def byV (b : UInt8) : Value := .int .u8 (b.toNat : Int)
theorem byV_one (d : List UInt8) : ∀ u ∈ d.map byV, u.oneCell' = true := by
  intro u hu
  obtain ⟨x, _, rfl⟩ := List.mem_map.1 hu
  rfl
def DaI (B : Nat) (w : World) (x : Rg) : Prop := w.ownsRow B 5 1 (daV x) x.d.length (x.d.map byV)
theorem DaI.chg {S : Nat → Prop} {B : Nat} {w w' : World} {x : Rg} (h : DaI B w x) (c : Chg S w w') (hs : ∀ b, x.a = some b → ¬ S b) : DaI B w' x := own_chg h c (fun b hb => hs b (by
  unfold daV at hb
  cases ha : x.a with
  | none => rw [ha] at hb; cases hb
  | some g => rw [ha] at hb; simpa [Value.ownBlock] using hb))
theorem DaI.out {B : Nat} {w w' : World} {x : Rg} (h : DaI B w x) (o : Out w w') : DaI B w' x := own_out h o
def RestA (w : World) (a : Option Addr) (d : List UInt8) : Prop := d = [] ∨ ∃ ad, a = some ad ∧ ∀ j u, (d.map byV)[j]? = some u → w.cell? (ad.add j) = some u
theorem RestA.out {w w' : World} {a : Option Addr} {d : List UInt8} (h : RestA w a d) (o : Out w w') : RestA w' a d := h.imp id (fun ⟨ad, h1, h2⟩ => ⟨ad, h1, fun j u hj => cell_later o (h2 j u hj)⟩)
theorem info8 : (Tryz.prog.info? 5).map (fun i => (i.zero, i.size, i.bytes)) = some (some (.int .u8 0), 1, 1) := by kernel_rfl
theorem append_nil8 (w : World) (a : Option Addr) (c f : Nat) (d : List UInt8) (h : RestA w a d) (hd : d.length ≤ 140737488355328) :
    ∃ (x : Rg) (W1 : World), (∀ ty, (Builtin.append_ #[29, 29] ty #[.slice none 0 0, .slice a d.length c]).run Tryz.prog w = .ok (.slice (x.a.map fun b => ⟨b, 0, none⟩) d.length x.c) W1) ∧ x.f = f ∧ x.d = d ∧ DaI w.heap.size W1 x ∧ Out w W1 := by
  obtain ⟨i0, hi0, hz0, hz1, hz2⟩ := info_parts info8
  rcases h with rfl | ⟨ad, rfl, hsrc⟩
  · refine ⟨⟨f, none, 0, []⟩, w, fun ty => ?_, rfl, rfl, World.ownsRow_nil _ _ _ _, Out.refl w⟩
    cases a <;> simp [Builtin.append_, run_underlying Tryz.underlying29, sizeOf, typeInfo, hi0, Builtin.lenOf, Builtin.firstCells, loadCells, loadCellsFrom, storeCells]
  · have key := fun ty => run_append_own_at (P := Tryz.prog) w w.heap.size 29 ty 5 i0 _ 1 1 Tryz.underlying29 hi0 hz0 hz1 hz2 rfl (by decide) (.slice none 0 0) 0 [] (World.ownsRow_nil _ _ _ _) ad d.length c (d.map byV) (by simp) hsrc (byV_one d) (by unfold maxLen; omega) (by omega) (Nat.le_refl _)
    obtain ⟨v, W1, hr, hown, hgr, _, _⟩ := key 29
    rw [Nat.zero_add, List.nil_append] at hown
    obtain ⟨a2, c2, rfl, ha2, _⟩ := own_slice hown
    have ho : Out w W1 := ⟨hgr.os, hgr.tape, hgr.output, hgr.size, fun k hk => hgr.block k hk (by simp [Value.ownBlock])⟩
    have hr2 : ∀ ty, (Builtin.append_ #[29, 29] ty #[.slice none 0 0, .slice (some ad) d.length c]).run Tryz.prog w = .ok (.slice a2 d.length c2) W1 := fun ty => hr
    rcases ha2 with rfl | ⟨g, rfl⟩
    · exact ⟨⟨f, none, c2, d⟩, W1, hr2, rfl, rfl, hown, ho⟩
    · exact ⟨⟨f, some g, c2, d⟩, W1, hr2, rfl, rfl, hown, ho⟩
set_option maxHeartbeats 4000000 in
set_option maxRecDepth 100000 in
theorem copyOf_any (w : World) (a : Option Addr) (f c : Nat) (d : List UInt8) (h : RestA w a d) (hd : d.length ≤ 140737488355328) :
    Calls Tryz.prog 51 #[.agg #[.int .u64 f, .slice a d.length c]] w fun e w' => ∃ x : Rg, x.f = f ∧ x.d = d ∧ e = .returned (.agg #[.int .u64 (x.f : Nat), .slice (x.a.map fun b => ⟨b, 0, none⟩) x.d.length x.c]) ∧ DaI w.heap.size w' x ∧ Out w w' := by
  obtain ⟨n, hn⟩ : ∃ n, Hid (n = d.length) := ⟨_, rfl⟩
  have HR := hidOf h
  have HD := hidOf hd
  rw [← hn.out]
  obtain ⟨wA, HA, cA0, cA1, oA, sA⟩ := box_two w (.int .u64 f) (.slice a n c) 36
  have hblk0 : wA.heap.size = w.heap.size + 1 := sA
  obtain ⟨wB, HB, bB, oB⟩ : ∃ wB, Hid (wB = wA.alloc (.cells #[.int .u64 0, .slice none 0 0] 36)) ∧ wB.heap[w.heap.size + 1]? = some (.cells #[.int .u64 0, .slice none 0 0] 36 (0, 0)) ∧ Out wA wB := ⟨_, rfl, by rw [← sA]; exact heap_alloc_new wA _, (Out.refl wA).alloc _⟩
  have cB0 := cell_later oB cA0
  have cB1 := cell_later oB cA1
  have OB := hidOf (oA.trans oB)
  have BB := hidOf bB
  obtain ⟨x, W1, hap, hxf, hxd, hda, ho1⟩ := append_nil8 wB.drew a c f d (HR.out.out (OB.out.drew)) HD.out
  rw [← hn.out] at hap
  have HDA := hidOf hda
  have HO1 := hidOf ho1
  have HXF := hidOf hxf
  have HXD := hidOf hxd
  have HAP := hidOf hap
  have hb1 := hidOf (blk_out (show wB.drew.heap[w.heap.size + 1]? = _ from BB.out) ho1)
  have q0 : W1.cell? ⟨w.heap.size + 1, 0, none⟩ = some (.int .u64 0) := by rw [cell_B hb1.out] <;> rfl
  have q1 : W1.cell? ⟨w.heap.size + 1, 1, none⟩ = some (.slice none 0 0) := by rw [cell_B hb1.out] <;> rfl
  have z0 : W1.frozen? ⟨w.heap.size + 1, 0, none⟩ = false := froz_B hb1.out 0
  have z1 : W1.frozen? ⟨w.heap.size + 1, 1, none⟩ = false := froz_B hb1.out 1
  obtain ⟨xa, hxa⟩ : ∃ xa : Option Addr, Hid (xa = x.a.map fun b => ⟨b, 0, none⟩) := ⟨_, rfl⟩
  obtain ⟨xc, hxc⟩ : ∃ xc, Hid (xc = x.c) := ⟨_, rfl⟩
  rw [← hxa.out, ← hxc.out] at HAP
  obtain ⟨wS, HS, bS, cS⟩ : ∃ wS, Hid (wS = (W1.setCell ⟨w.heap.size + 1, 0, none⟩ (.int .u64 f)).setCell ⟨w.heap.size + 1, 1, none⟩ (.slice xa n xc)) ∧ wS.heap[w.heap.size + 1]? = some (.cells #[.int .u64 f, .slice xa n xc] 36 (0, 0)) ∧ Chg (fun b => b = w.heap.size + 1) W1 wS := ⟨_, rfl, set_B (set_B hb1.out 0 _) 1 _, ((Chg.refl (fun b => b = w.heap.size + 1) W1).setCell rfl _).setCell rfl _⟩
  have BS := hidOf bS
  have CS := hidOf cS
  have s0 : W1.cell? ⟨w.heap.size, 0, none⟩ = some (.int .u64 f) := cell_later ho1 cB0
  have s1 : W1.cell? ⟨w.heap.size, 1, none⟩ = some (.slice a n c) := cell_later ho1 cB1
  have t0 : wS.cell? ⟨w.heap.size, 0, none⟩ = some (.int .u64 f) := cS.cell s0 (by simp)
  have t1 : wS.cell? ⟨w.heap.size, 1, none⟩ = some (.slice a n c) := cS.cell s1 (by simp)
  have sA0 := sA
  clear h hd oA sA hblk0 oB bB hap hda ho1 hxf hxd bS cS
  go_enter Tryz.func51, Tryz.ntmps51
  go_upto_region 1 with fail
  rw [← HA.out, ← HB.out]
  refine wp_region_held_drew (S := fun w' => w'.cell? ⟨w.heap.size, 0, none⟩ = some (.int .u64 f) ∧ w'.cell? ⟨w.heap.size, 1, none⟩ = some (.slice a n c)) (by kernel_rfl) ?_ (fun hHeld => ?_)
  · exact ⟨cB0, cB1⟩
  refine wpAnyH_take (i := 0) (v := ?_) rfl (by kernel_rfl) (by kernel_rfl) (by kernel_rfl) (fun _ _ _ h => h) (Or.inl ⟨by rfl, ?_⟩) (by assumption) ?_
  rotate_left
  · (intro w hSw; (try dsimp only at hSw); go_simp; (try with_reducible rfl))
  show wpAnyH _ _ _ _ _ _ _ (Act.put _ (some 3) _) _
  simp only [Act.put, List.setIfInBounds_toArray, List.set_cons_zero, List.set_cons_succ]
  refine wpAnyH_take (i := 1) (v := ?_) rfl (by kernel_rfl) (by kernel_rfl) (by kernel_rfl) (fun _ _ _ h => h) (Or.inl ⟨by rfl, ?_⟩) (by assumption) ?_
  rotate_left
  · (intro w hSw; (try dsimp only at hSw); go_simp; (try with_reducible rfl))
  show wpAnyH _ _ _ _ _ _ _ (Act.put _ (some 4) _) _
  simp only [Act.put, List.setIfInBounds_toArray, List.set_cons_zero, List.set_cons_succ]
  refine wpAnyH_take (i := 2) (v := ?_) rfl (by kernel_rfl) (by kernel_rfl) (by kernel_rfl) (fun _ _ _ h => h) (Or.inl ⟨by rfl, ?_⟩) (by assumption) ?_
  rotate_left
  · (intro w hSw; (try dsimp only at hSw); go_simp; (try with_reducible rfl))
  show wpAnyH _ _ _ _ _ _ _ (Act.put _ (some 5) _) _
  simp only [Act.put, List.setIfInBounds_toArray, List.set_cons_zero, List.set_cons_succ]
  refine wpAnyH_take (i := 3) (v := ?_) rfl (by kernel_rfl) (by kernel_rfl) (by kernel_rfl) (fun _ _ _ h => h) (Or.inl ⟨by rfl, ?_⟩) (by assumption) ?_
  rotate_left
  · (intro w hSw; (try dsimp only at hSw); go_simp; (try with_reducible rfl))
  show wpAnyH _ _ _ _ _ _ _ (Act.put _ (some 6) _) _
  simp only [Act.put, List.setIfInBounds_toArray, List.set_cons_zero, List.set_cons_succ]
  refine wpAnyH_ready (rs := [4]) (by kernel_rfl) (by simp) ?_
  refine (AllReadyH.cons rfl (fun K4 hK4 => ?_) AllReadyH.nil)
  · rw [if_pos (by rfl)]
    refine Lib.wp_append_run _ (.const (.slice none 0 0)) (.tmp 6) 29 29 rfl _ _ (by simp [Act.eval]) (by simp [Act.eval, Act.put]) _ _ (HAP.out _) ?_
    refine hK4.out _ _ ⟨s0, s1⟩ (fun hHeld4 => ?_)
    simp only [Act.put, List.setIfInBounds_toArray, List.set_cons_zero, List.set_cons_succ]
    refine wpAnyH_take (i := 5) (v := ?_) rfl (by kernel_rfl) (by kernel_rfl) (by kernel_rfl) (fun _ _ _ h => h) (Or.inl ⟨by rfl, ?_⟩) (by assumption) ?_
    rotate_left
    · (intro w hSw; (try dsimp only at hSw); go_simp; (try with_reducible rfl))
    show wpAnyH _ _ _ _ _ _ _ (Act.put _ (some 8) _) _
    simp only [Act.put, List.setIfInBounds_toArray, List.set_cons_zero, List.set_cons_succ]
    refine wpAnyH_ready (rs := [6]) (by kernel_rfl) (by simp) ?_
    refine (AllReadyH.cons rfl (fun K6 hK6 => ?_) AllReadyH.nil)
    · rw [if_pos (by rfl)]
      go_simp
      rw [← HS.out]
      refine hK6.out _ _ ⟨t0, t1⟩ (fun hHeld6 => ?_)
      refine wpAnyH_done (by kernel_rfl) ?_ _
      go_wp2
      have hOA : Out w wB := OB.out
      refine bodyPost_ret (results_cell_row rfl _ _ (w.heap.size + 1) 36 _ (0, 0) _ rfl BS.out Tryz.underlying36 rfl (by kernel_rfl)) rfl ?_
      have hle : w.heap.size ≤ wB.drew.heap.size := hOA.size
      have hda : DaI w.heap.size W1 x := ⟨HDA.out.1, HDA.out.2.imp id (fun ⟨g, cap, cur, e, hb, r⟩ => ⟨g, cap, cur, e, Nat.le_trans hle hb, r⟩)⟩
      refine ⟨x, HXF.out, HXD.out, by rw [HXF.out, HXD.out, ← hxa.out, ← hxc.out, ← hn.out], hda.chg CS.out (fun b hb e => ?_), ?_⟩
      · have h1 := HDA.out.lt b (by simp [daV, hb, Value.ownBlock])
        have h2 : w.heap.size + 1 < wB.drew.heap.size := (Array.getElem?_eq_some_iff.1 BB.out).1
        omega
      · exact Chg.out CS.out (hOA.trans ((Out.refl wB).drew.trans HO1.out)) (fun k hk => by subst hk; omega)
theorem owns_void (w : World) (B size : Nat) (e : TypeId) (hB : B ≤ w.heap.size) : (w.alloc (.cells #[] e)).ownsRow B e size (.slice (some ⟨w.heap.size, 0, none⟩) 0 0) 0 [] :=
  ⟨by simp, .inr ⟨w.heap.size, 0, #[], rfl, hB, heap_alloc_new w _, Nat.le_refl _, by decide, by simp, by simp⟩⟩
set_option maxHeartbeats 4000000 in
set_option maxRecDepth 100000 in
theorem clone_any (w : World) (g o m c : Nat) (xs : List Value) (hm : 0 < m) (hl : xs.length = m * 2) (hx : ∀ j u, xs[j]? = some u → w.cell? ⟨g, o + j, none⟩ = some u) (h1 : ∀ u ∈ xs, u.oneCell' = true) (hbig : m * 32 ≤ 140737488355328) :
    Calls Tryz.prog 107 #[.slice (some ⟨g, o, none⟩) m c] w fun e w' => ∃ g' c', e = .returned (.slice (some ⟨g', 0, none⟩) m c') ∧ w'.ownsRow w.heap.size 36 2 (.slice (some ⟨g', 0, none⟩) m c') m xs ∧ Out w w' := by
  obtain ⟨i0, hi0, hz0, hz1, hz2⟩ := info_parts infoR
  have q22 : ∀ (w : World), (binOp .eql 22 (.slice (some ⟨g, o, none⟩) m c) (.slice none 0 0)).run Tryz.prog w = .ok (.bool false) w := fun w => Lib.run_eql_slice_nil w _ _ (some ⟨g, o, none⟩) m c 0 0 Tryz.underlying22
  have HX : Hid (∀ j u, xs[j]? = some u → (w.alloc (.cells #[] 36)).cell? ((⟨g, o, none⟩ : Addr).add j) = some u) := hidOf (fun j u hj => by rw [add_B]; exact cell_later ((Out.refl w).alloc _) (hx j u hj))
  have H1 := hidOf h1
  have HL := hidOf hl
  clear hx h1 hl
  go_enter Tryz.func107, Tryz.ntmps107
  go_wp2_with (at_builtin; refine wpList_append_lies _ rfl (.tmp 5) (.tmp 6) 22 rfl w.heap.size 36 i0 _ 2 32 Tryz.underlying22 hi0 hz0 hz1 hz2 rfl (by decide) (.slice (some ⟨w.heap.size, 0, none⟩) 0 0) 0 [] rfl (owns_void w _ 2 _ (Nat.le_refl _)) ⟨g, o, none⟩ m c xs rfl HL.out HX.out H1.out hm (by unfold maxLen; omega) (by omega) (by rw [size_alloc]; omega) _ rfl ?_; intro g3 cap3 w3 hown3 hgrow3 hg3 hlt3; have HO3 := hidOf hown3; have HG3 := hidOf hgrow3; clear hown3 hgrow3 hg3 hlt3)
  go_ret
  have ho := HO3.out
  rw [Nat.zero_add, List.nil_append] at ho
  refine ⟨g3, cap3, rfl, ho, ?_⟩
  exact Chg.out (S := fun b => b = w.heap.size) (Chg.of_grown HG3.out (fun k hk => by simp [Value.ownBlock] at hk; exact hk.symm)) ((Out.refl w).alloc _) (fun k hk => by omega)
theorem append_none (w : World) (a : Addr) (b : Option Addr) (i c c2 : Nat) (ty : TypeId) (hic : i ≤ c) : (Builtin.append_ #[22, 22] ty #[.slice (some a) i c, .slice b 0 c2]).run Tryz.prog w = .ok (.slice (some a) i c) w := by
  obtain ⟨i0, hi0, hz0, hz1, hz2⟩ := info_parts infoR
  cases b <;> simp [Builtin.append_, run_underlying Tryz.underlying22, sizeOf, typeInfo, hi0, Builtin.lenOf, Builtin.firstCells, loadCells, loadCellsFrom, storeCells, hic]
theorem clear_ex (w : World) (g i m c : Nat) (cur : List Value) (hg : w.heap[g]? = some (.cells cur.toArray 36 (0, 0))) (hm : 0 < m) (hfit : i * 2 + m * 2 ≤ cur.length) :
    ∃ w', (∀ ty, (Builtin.clear_ #[22] ty #[.slice (some ⟨g, i * 2, none⟩) m c]).run Tryz.prog w = .ok (.tuple #[]) w') ∧ Hid (∃ Z, w'.heap[g]? = some (.cells (cur.take (i * 2) ++ Z).toArray 36 (0, 0)) ∧ (cur.take (i * 2) ++ Z).length = cur.length) ∧ Hid (Chg (fun b => b = g) w w') := by
  obtain ⟨k, rfl⟩ : ∃ k, m = k + 1 := ⟨m - 1, by omega⟩
  obtain ⟨i0, hi0, hz0, hz1, hz2⟩ := info_parts infoR
  obtain ⟨zs, hzs⟩ : ∃ zs, zs = (Builtin.zeroCells (Value.agg #[.int .u64 0, .slice none 0 0]).cells (k + 1)).toList := ⟨_, rfl⟩
  have hzl : zs.length = (k + 1) * 2 := by rw [hzs, Array.length_toList, size_zeroCells]; rfl
  have hone : ∀ u ∈ zs, u.oneCell' = true := by
    intro u hu
    rw [hzs] at hu
    simp [Builtin.zeroCells, Value.cells] at hu
    obtain ⟨q, _, hu⟩ := hu
    rcases Nat.mod_two_eq_zero_or_one q with h | h
    · rw [h] at hu; subst hu; rfl
    · rw [h] at hu; subst hu; rfl
  have hst := run_storeCells_at Tryz.prog g (i * 2) 36 zs 0 cur.toArray w hg (by rw [hzl]; simpa using hfit) hone
  have hset := setRow_heap w g cur.toArray (List.take (i * 2 + 0) cur.toArray.toList ++ zs ++ List.drop (i * 2 + 0 + zs.length) cur.toArray.toList).toArray _ _ hg
  refine ⟨_, fun ty => ?_, hidOf ⟨zs ++ cur.drop (i * 2 + zs.length), hset.trans ?_, ?_⟩, hidOf chg_setRow⟩
  · have hst := hst
    rw [hzs] at hst
    simp [Builtin.clear_, run_underlying Tryz.underlying22, zeroValue, typeInfo, hi0, hz0, hst]
    simp [hzs]
  · simp only [Nat.add_zero, List.append_assoc, ← hzs]
  · simp only [List.length_append, List.length_take, List.length_drop, hzl]
    omega
set_option maxHeartbeats 4000000 in
set_option maxRecDepth 100000 in
theorem delete_any (w : World) (B g n c i : Nat) (xs : List Value) (hown : w.ownsRow B 36 2 (.slice (some ⟨g, 0, none⟩) n c) n xs) (hi : i < n) (h1x : ∀ u ∈ xs, u.oneCell' = true) :
    Calls Tryz.prog 83 #[.slice (some ⟨g, 0, none⟩) n c, .int .i64 i, .int .i64 n] w fun e w' => e = .returned (.slice (some ⟨g, 0, none⟩) i c) ∧ w'.ownsRow B 36 2 (.slice (some ⟨g, 0, none⟩) i c) i (xs.take (i * 2)) ∧ Chg (fun b => b = g) w w' := by
  obtain ⟨cur, hg, hB, hnc, hcm, hcl, hct, hxl⟩ := owns_blk hown
  obtain ⟨w1, hclr, hb1, hc1⟩ := clear_ex w.drew g i (n - i) (c - i) cur hg (by omega) (by omega)
  have hcm2 : c ≤ 9223372036854775807 := hcm
  have hne : ¬ ((i : Int) = (n : Int)) := by omega
  have hci : ¬ (c = i) := by omega
  have hni : ¬ (n = i) := by omega
  have hin : (i : Int) ≤ (n : Int) := by omega
  have hic : (i : Int) ≤ (c : Int) := by omega
  have hnc2 : (n : Int) ≤ (c : Int) := by omega
  have hAN := fun (b : Option Addr) (c2 : Nat) (ty : TypeId) => append_none w.drew ⟨g, 0, none⟩ b i c c2 ty (by omega)
  have HCL := hidOf hcl
  have HCT := hidOf hct
  clear hown hg hcl hct hxl h1x
  go_enter Tryz.func83, Tryz.ntmps83
  go_upto_region 5 with fail
  by_cases hcn : c = n
  · subst hcn
    refine wp_region_held_drew (S := fun _ => True) (by kernel_rfl) ?_ (fun hHeld => ?_)
    · exact trivial
    refine wpAnyH_take (i := 0) (v := ?_) rfl (by kernel_rfl) (by kernel_rfl) (by kernel_rfl) (fun _ _ _ h => h) (Or.inl ⟨by rfl, ?_⟩) (by assumption) ?_
    rotate_left
    · (intro w hSw; (try dsimp only at hSw); go_simp; (try with_reducible rfl))
    show wpAnyH _ _ _ _ _ _ _ (Act.put _ (some 20) _) _
    simp only [Act.put, List.setIfInBounds_toArray, List.set_cons_zero, List.set_cons_succ]
    refine wpAnyH_take (i := 1) (v := ?_) rfl (by kernel_rfl) (by kernel_rfl) (by kernel_rfl) (fun _ _ _ h => h) (Or.inl ⟨by rfl, ?_⟩) (by assumption) ?_
    rotate_left
    · (intro w hSw; (try dsimp only at hSw); go_simp; (try with_reducible rfl))
    show wpAnyH _ _ _ _ _ _ _ (Act.put _ (some 21) _) _
    simp only [Act.put, List.setIfInBounds_toArray, List.set_cons_zero, List.set_cons_succ]
    refine wpAnyH_take (i := 2) (v := ?_) rfl (by kernel_rfl) (by kernel_rfl) (by kernel_rfl) (fun _ _ _ h => h) (Or.inl ⟨by rfl, ?_⟩) (by assumption) ?_
    rotate_left
    · (intro w hSw; (try dsimp only at hSw); go_simp; (try with_reducible rfl))
    show wpAnyH _ _ _ _ _ _ _ (Act.put _ (some 22) _) _
    simp only [Act.put, List.setIfInBounds_toArray, List.set_cons_zero, List.set_cons_succ]
    refine wpAnyH_take (i := 3) (v := ?_) rfl (by kernel_rfl) (by kernel_rfl) (by kernel_rfl) (fun _ _ _ h => h) (Or.inl ⟨by rfl, ?_⟩) (by assumption) ?_
    rotate_left
    · (intro w hSw; (try dsimp only at hSw); go_simp; (try with_reducible rfl))
    show wpAnyH _ _ _ _ _ _ _ (Act.put _ (some 23) _) _
    simp only [Act.put, List.setIfInBounds_toArray, List.set_cons_zero, List.set_cons_succ]
    refine wpAnyH_take (i := 4) (v := ?_) rfl (by kernel_rfl) (by kernel_rfl) (by kernel_rfl) (fun _ _ _ h => h) (Or.inl ⟨by rfl, ?_⟩) (by assumption) ?_
    rotate_left
    · (intro w hSw; (try dsimp only at hSw); go_simp; (try with_reducible rfl))
    show wpAnyH _ _ _ _ _ _ _ (Act.put _ (some 24) _) _
    simp only [Act.put, List.setIfInBounds_toArray, List.set_cons_zero, List.set_cons_succ]
    refine wpAnyH_take (i := 5) (v := ?_) rfl (by kernel_rfl) (by kernel_rfl) (by kernel_rfl) (fun _ _ _ h => h) (Or.inl ⟨by rfl, ?_⟩) (by assumption) ?_
    rotate_left
    · (intro w hSw; (try dsimp only at hSw); go_simp; (try with_reducible rfl))
    show wpAnyH _ _ _ _ _ _ _ (Act.put _ (some 25) _) _
    simp only [Act.put, List.setIfInBounds_toArray, List.set_cons_zero, List.set_cons_succ]
    refine wpAnyH_ready (rs := [6]) (by kernel_rfl) (by simp) ?_
    refine (AllReadyH.cons rfl (fun K6 hK6 => ?_) AllReadyH.nil)
    · rw [if_pos (by rfl)]
      refine Lib.wp_append_run _ (.tmp 22) (.tmp 25) 22 22 rfl _ _ (by simp [Act.eval, Act.put]) (by simp [Act.eval, Act.put]) _ _ (hAN (some ⟨g, 0, none⟩) 0 _) ?_
      refine hK6.out _ _ trivial (fun hHeld6 => ?_)
      simp only [Act.put, List.setIfInBounds_toArray, List.set_cons_zero, List.set_cons_succ]
      refine wpAnyH_take (i := 7) (v := ?_) rfl (by kernel_rfl) (by kernel_rfl) (by kernel_rfl) (fun _ _ _ h => h) (Or.inl ⟨by rfl, ?_⟩) (by assumption) ?_
      rotate_left
      · (intro w hSw; (try dsimp only at hSw); go_simp; (try with_reducible rfl))
      show wpAnyH _ _ _ _ _ _ _ (Act.put _ (some 0) _) _
      simp only [Act.put, List.setIfInBounds_toArray, List.set_cons_zero, List.set_cons_succ]
      refine wpAnyH_done (by kernel_rfl) ?_ _
      go_wp2
      go_ret
      obtain ⟨Z, hz1, hz2⟩ := hb1.out
      refine ⟨rfl, blk_owns hz1 hB (by omega) hcm (by rw [hz2, HCL.out]) ?_, (Chg.refl (fun b => b = g) w).drew.trans hc1.out (fun x hx _ => hx)⟩
      rw [List.take_append_of_le_length (by rw [List.length_take, HCL.out]; omega), List.take_take, Nat.min_self, ← HCT.out, List.take_take, Nat.min_eq_left (by omega)]
  · refine wp_region_held_drew (S := fun _ => True) (by kernel_rfl) ?_ (fun hHeld => ?_)
    · exact trivial
    refine wpAnyH_take (i := 0) (v := ?_) rfl (by kernel_rfl) (by kernel_rfl) (by kernel_rfl) (fun _ _ _ h => h) (Or.inl ⟨by rfl, ?_⟩) (by assumption) ?_
    rotate_left
    · (intro w hSw; (try dsimp only at hSw); go_simp; (try with_reducible rfl))
    show wpAnyH _ _ _ _ _ _ _ (Act.put _ (some 20) _) _
    simp only [Act.put, List.setIfInBounds_toArray, List.set_cons_zero, List.set_cons_succ]
    refine wpAnyH_take (i := 1) (v := ?_) rfl (by kernel_rfl) (by kernel_rfl) (by kernel_rfl) (fun _ _ _ h => h) (Or.inl ⟨by rfl, ?_⟩) (by assumption) ?_
    rotate_left
    · (intro w hSw; (try dsimp only at hSw); go_simp; (try with_reducible rfl))
    show wpAnyH _ _ _ _ _ _ _ (Act.put _ (some 21) _) _
    simp only [Act.put, List.setIfInBounds_toArray, List.set_cons_zero, List.set_cons_succ]
    refine wpAnyH_take (i := 2) (v := ?_) rfl (by kernel_rfl) (by kernel_rfl) (by kernel_rfl) (fun _ _ _ h => h) (Or.inl ⟨by rfl, ?_⟩) (by assumption) ?_
    rotate_left
    · (intro w hSw; (try dsimp only at hSw); go_simp; (try with_reducible rfl))
    show wpAnyH _ _ _ _ _ _ _ (Act.put _ (some 22) _) _
    simp only [Act.put, List.setIfInBounds_toArray, List.set_cons_zero, List.set_cons_succ]
    refine wpAnyH_take (i := 3) (v := ?_) rfl (by kernel_rfl) (by kernel_rfl) (by kernel_rfl) (fun _ _ _ h => h) (Or.inl ⟨by rfl, ?_⟩) (by assumption) ?_
    rotate_left
    · (intro w hSw; (try dsimp only at hSw); go_simp; (try with_reducible rfl))
    show wpAnyH _ _ _ _ _ _ _ (Act.put _ (some 23) _) _
    simp only [Act.put, List.setIfInBounds_toArray, List.set_cons_zero, List.set_cons_succ]
    refine wpAnyH_take (i := 4) (v := ?_) rfl (by kernel_rfl) (by kernel_rfl) (by kernel_rfl) (fun _ _ _ h => h) (Or.inl ⟨by rfl, ?_⟩) (by assumption) ?_
    rotate_left
    · (intro w hSw; (try dsimp only at hSw); go_simp; (try with_reducible rfl))
    show wpAnyH _ _ _ _ _ _ _ (Act.put _ (some 24) _) _
    simp only [Act.put, List.setIfInBounds_toArray, List.set_cons_zero, List.set_cons_succ]
    refine wpAnyH_take (i := 5) (v := ?_) rfl (by kernel_rfl) (by kernel_rfl) (by kernel_rfl) (fun _ _ _ h => h) (Or.inl ⟨by rfl, ?_⟩) (by assumption) ?_
    rotate_left
    · (intro w hSw; (try dsimp only at hSw); go_simp; (try with_reducible rfl))
    show wpAnyH _ _ _ _ _ _ _ (Act.put _ (some 25) _) _
    simp only [Act.put, List.setIfInBounds_toArray, List.set_cons_zero, List.set_cons_succ]
    refine wpAnyH_ready (rs := [6]) (by kernel_rfl) (by simp) ?_
    refine (AllReadyH.cons rfl (fun K6 hK6 => ?_) AllReadyH.nil)
    · rw [if_pos (by rfl)]
      refine Lib.wp_append_run _ (.tmp 22) (.tmp 25) 22 22 rfl _ _ (by simp [Act.eval, Act.put]) (by simp [Act.eval, Act.put]) _ _ (hAN (some ⟨g, n * 2, none⟩) (c - n) _) ?_
      refine hK6.out _ _ trivial (fun hHeld6 => ?_)
      simp only [Act.put, List.setIfInBounds_toArray, List.set_cons_zero, List.set_cons_succ]
      refine wpAnyH_take (i := 7) (v := ?_) rfl (by kernel_rfl) (by kernel_rfl) (by kernel_rfl) (fun _ _ _ h => h) (Or.inl ⟨by rfl, ?_⟩) (by assumption) ?_
      rotate_left
      · (intro w hSw; (try dsimp only at hSw); go_simp; (try with_reducible rfl))
      show wpAnyH _ _ _ _ _ _ _ (Act.put _ (some 0) _) _
      simp only [Act.put, List.setIfInBounds_toArray, List.set_cons_zero, List.set_cons_succ]
      refine wpAnyH_done (by kernel_rfl) ?_ _
      go_wp2
      go_ret
      obtain ⟨Z, hz1, hz2⟩ := hb1.out
      refine ⟨rfl, blk_owns hz1 hB (by omega) hcm (by rw [hz2, HCL.out]) ?_, (Chg.refl (fun b => b = g) w).drew.trans hc1.out (fun x hx _ => hx)⟩
      rw [List.take_append_of_le_length (by rw [List.length_take, HCL.out]; omega), List.take_take, Nat.min_self, ← HCT.out, List.take_take, Nat.min_eq_left (by omega)]
theorem set_split {α : Type} {X : List α} {i : Nat} {x : α} (h : X[i]? = some x) (y : α) : X.set i y = X.take i ++ y :: X.drop (i + 1) := by
  have hi : i < X.length := (List.getElem?_eq_some_iff.1 h).1
  rw [List.set_eq_take_append_cons_drop, if_pos hi]
theorem flat_set {X : List Rw} {i : Nat} {x : Rw} (h : X[i]? = some x) (y : Rw) : flat (X.set i y) = flat (X.take i) ++ (y.L ++ flat (X.drop (i + 1))) := by
  rw [set_split h, flat_app, flat_cons]
theorem mem_set {α : Type} {X : List α} {i : Nat} {y z : α} (h : z ∈ X.set i y) : z = y ∨ ∃ j, j ≠ i ∧ X[j]? = some z := by
  obtain ⟨j, hj, e⟩ := List.getElem_of_mem h
  have h2 : (X.set i y)[j]? = some z := by rw [← e]; exact List.getElem?_eq_getElem hj
  rw [List.getElem?_set] at h2
  by_cases hij : i = j
  · left
    rw [if_pos hij] at h2
    split at h2
    · exact (Option.some.inj h2).symm
    · cases h2
  · rw [if_neg hij] at h2
    exact .inr ⟨j, fun e => hij e.symm, h2⟩
theorem nd_ne {X : List Rw} (h : X.Pairwise (fun x y => x.g ≠ y.g)) {i j : Nat} {x y : Rw} (hx : X[i]? = some x) (hy : X[j]? = some y) (hij : j ≠ i) : y.g ≠ x.g := by
  have hi := (List.getElem?_eq_some_iff.1 hx).1
  have hj := (List.getElem?_eq_some_iff.1 hy).1
  rw [List.getElem?_eq_getElem hi] at hx
  rw [List.getElem?_eq_getElem hj] at hy
  cases hx; cases hy
  rcases Nat.lt_or_gt_of_ne hij with h1 | h1
  · exact List.pairwise_iff_getElem.1 h j i hj hi h1
  · exact fun e => List.pairwise_iff_getElem.1 h i j hi hj h1 e.symm
theorem own_set {w : World} {B g c n i : Nat} {E : TypeId} {xs : List Value} (h : w.ownsRow B E 1 (.slice (some ⟨g, 0, none⟩) n c) n xs) (hi : i < n) (u : Value) : (w.setCell ⟨g, i, none⟩ u).ownsRow B E 1 (.slice (some ⟨g, 0, none⟩) n c) n (xs.set i u) := by
  obtain ⟨cur, hg, hB, hnc, hcm, hcl, hct, hxl⟩ := owns_blk h
  have h2 := set_B hg i u
  rw [List.setIfInBounds_toArray] at h2
  refine blk_owns h2 hB hnc hcm (by rw [List.length_set, hcl]) ?_
  rw [← hct, List.take_set]
theorem Sh.setRow {B : Nat} {w w1 : World} {gR cR : Nat} {X : List Rw} {row : Nat} {x : Rw} (h : Sh B w (.slice (some ⟨gR, 0, none⟩) X.length cR) X) (hx : X[row]? = some x) (y : Rw) (c1 : Chg (fun b => b = x.g) w w1) (own : w1.ownsRow B 36 2 (rwV y) y.L.length (rowG y.L)) (hg : y.g = x.g ∨ w.heap.size ≤ y.g) (hne : y.L ≠ []) (hle : y.L.length ≤ 129) :
    Sh B (w1.setCell ⟨gR, row, none⟩ (rwV y)) (.slice (some ⟨gR, 0, none⟩) X.length cR) (X.set row y) ∧ Chg (fun b => b = gR ∨ b = x.g) w (w1.setCell ⟨gR, row, none⟩ (rwV y)) := by
  have hr := (List.getElem?_eq_some_iff.1 hx).1
  have hxm := List.mem_of_getElem? hx
  have hgx : ∀ z ∈ X, gR ≠ z.g := fun z hz e => h.vn z hz (by rw [e]; rfl)
  have hlt : gR < w.heap.size := (h.own.lt gR rfl).2
  have hgy : gR ≠ y.g := by
    rcases hg with e | e
    · rw [e]; exact hgx x hxm
    · omega
  have hzl : ∀ z ∈ X, z.g < w.heap.size := fun z hz => ((h.rows z hz).lt z.g rfl).2
  have c2 : Chg (fun b => b = gR) w1 (w1.setCell ⟨gR, row, none⟩ (rwV y)) := Chg.setCell (S := fun b => b = gR) (Chg.refl _ w1) (p := ⟨gR, row, none⟩) rfl _
  have hyz : ∀ j z, j ≠ row → X[j]? = some z → z.g ≠ y.g := fun j z hj hz => by
    rcases hg with e | e
    · rw [e]; exact nd_ne h.nd hx hz hj
    · have := hzl z (List.mem_of_getElem? hz); omega
  refine ⟨⟨?_, fun z hz => ?_, fun z hz => ?_, fun z hz => ?_, ?_, fun z hz => ?_⟩, (c1.mono (T := fun b => b = gR ∨ b = x.g) (fun b hb _ => .inr hb)).trans c2 (fun b hb _ => .inl hb)⟩
  · have h1 := own_set (own_chg h.own c1 (fun b hb => by simp [Value.ownBlock] at hb; subst hb; exact hgx x hxm)) hr (rwV y)
    rw [List.length_set, List.map_set]
    exact h1
  · rcases mem_set hz with rfl | ⟨j, hj, hz⟩
    · exact own_chg own c2 (fun b hb => by simp [rwV, Value.ownBlock] at hb; subst hb; exact fun e => hgy e.symm)
    · have hzm := List.mem_of_getElem? hz
      exact own_chg (own_chg (h.rows z hzm) c1 (fun b hb => by simp [rwV, Value.ownBlock] at hb; subst hb; exact nd_ne h.nd hx hz hj)) c2 (fun b hb => by simp [rwV, Value.ownBlock] at hb; subst hb; exact fun e => hgx z hzm e.symm)
  · rcases mem_set hz with rfl | ⟨j, hj, hz⟩
    · exact hne
    · exact h.ne z (List.mem_of_getElem? hz)
  · rcases mem_set hz with rfl | ⟨j, hj, hz⟩
    · exact hle
    · exact h.le z (List.mem_of_getElem? hz)
  · rw [set_split hx]
    have hp := h.nd
    rw [at_split hx] at hp
    obtain ⟨p1, p2, p3⟩ := List.pairwise_append.1 hp
    obtain ⟨p4, p5⟩ := List.pairwise_cons.1 p2
    have key : ∀ z, z ∈ X.take row ∨ z ∈ X.drop (row + 1) → z.g ≠ y.g := fun z hz => by
      rcases hz with hz | hz
      · obtain ⟨j, hj, e⟩ := List.getElem_of_mem hz
        rw [List.length_take] at hj
        refine hyz j z (by omega) ?_
        rw [← e, List.getElem_take]
        exact List.getElem?_eq_getElem (by omega)
      · obtain ⟨j, hj, e⟩ := List.getElem_of_mem hz
        rw [List.length_drop] at hj
        refine hyz (row + 1 + j) z (by omega) ?_
        rw [← e, List.getElem_drop]
        exact List.getElem?_eq_getElem (by omega)
    refine List.pairwise_append.2 ⟨p1, List.pairwise_cons.2 ⟨fun z hz e => key z (.inr hz) e.symm, p5⟩, fun a ha b hb => ?_⟩
    rcases List.mem_cons.1 hb with rfl | hb
    · exact key a (.inl ha)
    · exact p3 a ha b (List.mem_cons_of_mem _ hb)
  · intro e
    rcases mem_set hz with rfl | ⟨j, hj, hz⟩
    · simp [Value.ownBlock] at e; exact hgy e
    · exact h.vn z (List.mem_of_getElem? hz) e
theorem Sh.insRow {B : Nat} {w w1 : World} {v v' : Value} {X : List Rw} {row : Nat} (h : Sh B w v X) (y : Rw) (oy : w.ownsRow B 36 2 (rwV y) y.L.length (rowG y.L)) (hyX : ∀ x ∈ X, x.g ≠ y.g) (hyv : v.ownBlock ≠ some y.g) (hne : y.L ≠ []) (hle : y.L.length ≤ 129)
    (c1 : Chg (fun b => v.ownBlock = some b) w w1) (own : w1.ownsRow B 22 1 v' (X.length + 1) ((X.map rwV).take row ++ ([rwV y] ++ (X.map rwV).drop row))) (hv : v'.ownBlock = v.ownBlock ∨ ∀ k, v'.ownBlock = some k → w.heap.size ≤ k) (hr : row ≤ X.length) : Sh B w1 v' (X.take row ++ y :: X.drop row) := by
  have hmem : ∀ z, z ∈ X.take row ++ y :: X.drop row → z = y ∨ z ∈ X := fun z hz => by
    rcases List.mem_append.1 hz with hz | hz
    · exact .inr (List.mem_of_mem_take hz)
    · rcases List.mem_cons.1 hz with hz | hz
      · exact .inl hz
      · exact .inr (List.mem_of_mem_drop hz)
  refine ⟨?_, fun z hz => ?_, fun z hz => ?_, fun z hz => ?_, ?_, fun z hz => ?_⟩
  · have e1 : (X.take row ++ y :: X.drop row).length = X.length + 1 := by simp; omega
    rw [e1]
    simpa using own
  · rcases hmem z hz with rfl | hz
    · exact own_chg oy c1 (fun b hb e => by simp [rwV, Value.ownBlock] at hb; subst hb; exact hyv e)
    · exact own_chg (h.rows z hz) c1 (fun b hb e => by simp [rwV, Value.ownBlock] at hb; subst hb; exact h.vn z hz e)
  · rcases hmem z hz with rfl | hz
    · exact hne
    · exact h.ne z hz
  · rcases hmem z hz with rfl | hz
    · exact hle
    · exact h.le z hz
  · have hp := h.nd
    conv at hp => rw [← List.take_append_drop row X]
    obtain ⟨p1, p2, p3⟩ := List.pairwise_append.1 hp
    refine List.pairwise_append.2 ⟨p1, List.pairwise_cons.2 ⟨fun z hz e => hyX z (List.mem_of_mem_drop hz) e.symm, p2⟩, fun a ha b hb => ?_⟩
    rcases List.mem_cons.1 hb with rfl | hb
    · exact hyX a (List.mem_of_mem_take ha)
    · exact p3 a ha b hb
  · intro e
    rcases hv with hv | hv
    · rw [hv] at e
      rcases hmem z hz with rfl | hz
      · exact hyv e
      · exact h.vn z hz e
    · have h1 := hv _ e
      rcases hmem z hz with rfl | hz
      · have := (oy.lt z.g rfl).2; omega
      · have := ((h.rows z hz).lt z.g rfl).2; omega
theorem plIs_ins {X : List Rw} {r0 k0 : Int} (rr : Rg) (h : PlIs X rr.f r0 k0) (hne : X ≠ []) (hn : ∀ x ∈ X, x.L ≠ []) (hs : Srt (flat X)) : ∃ (row i : Nat) (x : Rw), max r0 0 = row ∧ k0 + 1 = i ∧ X[row]? = some x ∧ i ≤ x.L.length ∧ ∀ y : Rw, y.L = x.L.take i ++ rr :: x.L.drop i → InsP (flat X) rr (flat (X.set row y)) := by
  cases h with
  | no h =>
    obtain ⟨x, X', rfl⟩ : ∃ x X', X = x :: X' := by
      cases X with
      | nil => exact absurd rfl hne
      | cons x X' => exact ⟨x, X', rfl⟩
    refine ⟨0, 0, x, by omega, by simp, rfl, Nat.zero_le _, fun y hy => ⟨[], flat (x :: X'), rfl, ?_, by simp, h⟩⟩
    simp only [List.set_cons_zero, flat_cons, hy, List.take_zero, List.nil_append, List.drop_zero, List.cons_append]
  | yes A C x P Q y hX hL hy hQ hC =>
    refine ⟨A.length, P.length + 1, x, by omega, by simp, by simp [hX], by simp [hL], fun z hz => ⟨flat A ++ (P ++ [y]), Q ++ flat C, ?_, ?_, fun u hu => ?_, fun u hu => ?_⟩⟩
    · rw [hX, flat_app, flat_cons, hL]; simp
    · have hx : X[A.length]? = some x := by simp [hX]
      rw [flat_set hx, hz, hX, hL]
      have e1 : (P ++ y :: Q).take (P.length + 1) = P ++ [y] := by
        rw [show P ++ y :: Q = (P ++ [y]) ++ Q by simp]
        exact List.take_left' (by simp)
      have e2 : (P ++ y :: Q).drop (P.length + 1) = Q := by
        rw [show P ++ y :: Q = (P ++ [y]) ++ Q by simp]
        exact List.drop_left' (by simp)
      have e3 : (A ++ x :: C).take A.length = A := List.take_left' rfl
      have e4 : (A ++ x :: C).drop (A.length + 1) = C := by
        rw [show A ++ x :: C = (A ++ [x]) ++ C by simp]
        exact List.drop_left' (by simp)
      rw [e1, e2, e3, e4]; simp
    · have hs2 := hs
      rw [hX] at hs2
      obtain ⟨_, s2, _, s4, _⟩ := srt_flat hs2
      rcases List.mem_append.1 hu with hu | hu
      · have := s4 u hu y (by rw [hL]; simp)
        omega
      · rcases List.mem_append.1 hu with hu | hu
        · rw [hL] at s2
          have := (List.pairwise_append.1 s2).2.2 u hu y (by simp)
          omega
        · simp at hu; subst hu; exact hy
    · rcases List.mem_append.1 hu with hu | hu
      · exact hQ u hu
      · exact hC u hu
end Go.Proofs.YtekjfbmebekmeaaGreat
