import Derived.Test.YtekjfbmebekmeaaGreatGa02
import Derived.Lib.AppendZerosOnto
import Derived.Lib.AppendZeros
import Derived.Lib.Overlaps
import Derived.Laws.Externs
import Derived.Deep.DeepCutAuto
namespace Go.Proofs.YtekjfbmebekmeaaGreat
open Go.RowKit
set_option linter.unusedVariables false
set_option linter.unusedSimpArgs false
theorem cell_B {w : World} {g : Nat} {cs : Array Value} {t : TypeId} (h : w.heap[g]? = some (.cells cs t (0, 0))) (j : Nat) : w.cell? ⟨g, j, none⟩ = cs[j]? := by simp [World.cell?, h]
theorem froz_B {w : World} {g : Nat} {cs : Array Value} {t : TypeId} (h : w.heap[g]? = some (.cells cs t (0, 0))) (j : Nat) : w.frozen? ⟨g, j, none⟩ = false := by simp [World.frozen?, h]
theorem set_B {w : World} {g : Nat} {cs : Array Value} {t : TypeId} (h : w.heap[g]? = some (.cells cs t (0, 0))) (j : Nat) (u : Value) : (w.setCell ⟨g, j, none⟩ u).heap[g]? = some (.cells (cs.setIfInBounds j u) t (0, 0)) := by
  simp [World.setCell, Array.getElem?_modify, h]
theorem shape_B {w : World} {g : Nat} {cs : Array Value} {t : TypeId} (h : w.heap[g]? = some (.cells cs t (0, 0))) : w.shape? g = some (t, cs.size) := by simp [World.shape?, h]
theorem add_B (g o j : Nat) : (⟨g, o, none⟩ : Addr).add j = ⟨g, o + j, none⟩ := by unfold Addr.add; split <;> simp_all
def InsE (E : TypeId) (k B g n i : Nat) (xs vs : List Value) (w : World) (e : Ending) (w' : World) : Prop :=
  ∃ g' c', e = .returned (.slice (some ⟨g', 0, none⟩) (n + 1) c') ∧ w'.ownsRow B E k (.slice (some ⟨g', 0, none⟩) (n + 1) c') (n + 1) (xs.take (i * k) ++ (vs ++ xs.drop (i * k))) ∧ Chg (fun b => b = g) w w' ∧ (g' = g ∨ w.heap.size ≤ g')
theorem owns_blk {w : World} {B k g n c : Nat} {E : TypeId} {xs : List Value} (h : w.ownsRow B E k (.slice (some ⟨g, 0, none⟩) n c) n xs) : ∃ cur : List Value, w.heap[g]? = some (.cells cur.toArray E (0, 0)) ∧ B ≤ g ∧ n ≤ c ∧ c ≤ maxLen ∧ cur.length = c * k ∧ cur.take (n * k) = xs ∧ xs.length = n * k := by
  obtain ⟨h1, h2 | ⟨g', c', cur, hv, hB, hg, hc, hm, hs, ht⟩⟩ := h
  · cases h2.1
  · simp only [Value.slice.injEq, Option.some.injEq, Addr.mk.injEq] at hv
    obtain ⟨⟨rfl, _⟩, _, rfl⟩ := hv
    exact ⟨cur.toList, hg, hB, hc, hm, by simpa using hs, ht, h1⟩
theorem blk_owns {w : World} {B k g n c : Nat} {E : TypeId} {xs cur : List Value} (h : w.heap[g]? = some (.cells cur.toArray E (0, 0))) (hB : B ≤ g) (hn : n ≤ c) (hm : c ≤ maxLen) (hc : cur.length = c * k) (ht : cur.take (n * k) = xs) : w.ownsRow B E k (.slice (some ⟨g, 0, none⟩) n c) n xs := by
  refine ⟨?_, .inr ⟨g, c, cur.toArray, rfl, hB, h, hn, hm, by simpa using hc, ht⟩⟩
  rw [← ht, List.length_take, hc, Nat.min_eq_left (Nat.mul_le_mul_right _ hn)]
theorem grow_ex {P : Program} (w : World) (t tn e : TypeId) (z : Value) (k by_ : Nat) (i0 : TypeInfo) (ht : P.underlying t = some (.slice e)) (htn : P.underlying tn = some (.int .i64)) (hi : P.info? e = some i0) (hz : i0.zero = some z) (hk : i0.size = k) (hb : i0.bytes = by_) (hzk : z.cells.size = k) (hk0 : 0 < k)
    (g i c m : Nat) (olds : List Value) (hl : olds.length = i * k) (hold : ∀ j u, olds[j]? = some u → w.cell? ⟨g, j, none⟩ = some u) (hm : 0 < m) (hg : c < i + m) (hbig : (i + m) * by_ ≤ 140737488355328) (hby : 0 < by_) :
    ∃ G q W1, ∃ Z : List Value, (∀ ty, (Builtin.append_ #[t, tn] ty #[.slice (some ⟨g, 0, none⟩) i c, .int .i64 (m : Nat)]).run P w = .ok (.slice (some ⟨q, 0, none⟩) (i + m) G) W1) ∧ Hid (q = w.heap.size) ∧ Hid (W1.heap[q]? = some (.cells (olds ++ Z).toArray e (0, 0))) ∧ Hid (Out w W1) ∧ i + m ≤ G ∧ G ≤ maxLen ∧ Hid ((olds ++ Z).length = G * k) := by
  have hm48 : (i + m) ≤ 140737488355328 := Nat.le_trans (Nat.le_mul_of_pos_right _ hby) hbig
  have h := fun ty => Lib.run_append_grow_zeros (P := P) w t tn ty e i0 z .i64 .i64 ht htn hi hz (some ⟨g, 0, none⟩) i c olds (by
    rw [hk]
    exact run_firstCells_some w.drew k i ⟨g, 0, none⟩ i c olds hl (fun j v hj => by rw [add_B, Nat.zero_add]; exact hold j v hj)) m hm (by omega) hg (by omega) (by rw [hb]; have := Nat.mul_le_mul_right by_ (show m ≤ i + m by omega); omega) (by rw [hb]; exact growslice_fits hg hbig)
  have hG1 := grownCap_ge w (i + m) c e
  have hG2 := grownCap_le_maxLen w (i + m) c e (by unfold maxLen; omega)
  generalize grownCap w (i + m) c e = G at h hG1 hG2
  refine ⟨G, w.heap.size, _, (Builtin.zeroCells z.cells m).toList ++ (Builtin.zeroCells z.cells (G - (i + m))).toList, h, rfl, ?_, ?_, hG1, hG2, ?_⟩
  · show ((w.drew.alloc _).heap)[w.drew.heap.size]? = _
    rw [heap_alloc_new]
    congr 2
    apply Array.ext'
    simp
  · exact (Out.refl w).drew.alloc _
  · show (olds ++ _).length = _
    simp only [List.length_append, Array.length_toList, size_zeroCells, hl, hzk, List.size_toArray]
    rw [← Nat.add_mul, ← Nat.add_mul]
    congr 1; omega
theorem infoR : (Tryz.prog.info? 36).map (fun i => (i.zero, i.size, i.bytes)) = some (some (.agg #[.int .u64 0, .slice none 0 0]), 2, 32) := by kernel_rfl
theorem sizeR : (Tryz.prog.info? 36).map (·.size) = some 2 := by kernel_rfl
set_option maxHeartbeats 4000000 in
set_option maxRecDepth 100000 in
theorem insertR_any (w : World) (B g n c i vb : Nat) (xs vs : List Value) (hown : w.ownsRow B 36 2 (.slice (some ⟨g, 0, none⟩) n c) n xs) (hn0 : 0 < n) (hi : i ≤ n) (hv : w.heap[vb]? = some (.cells vs.toArray 36 (0, 0))) (hvl : vs.length = 2) (hne : vb ≠ g) (h1x : ∀ u ∈ xs, u.oneCell' = true) (h1v : ∀ u ∈ vs, u.oneCell' = true) (hbig : (n + 1) * 32 ≤ 140737488355328) :
    Calls Tryz.prog 81 #[.slice (some ⟨g, 0, none⟩) n c, .int .i64 i, .slice (some ⟨vb, 0, none⟩) 1 1] w fun e w' => InsE 36 2 B g n i xs vs w e w' := by
  obtain ⟨cur, hg, hB, hnc, hcm, hcl, hct, hxl⟩ := owns_blk hown
  obtain ⟨i0, hi0, hz0, hz1, hz2⟩ := info_parts infoR
  have hgl : g < w.heap.size := (Array.getElem?_eq_some_iff.1 hg).1
  have hvlt : vb < w.heap.size := (Array.getElem?_eq_some_iff.1 hv).1
  have hcell : ∀ j u, xs[j]? = some u → w.cell? ⟨g, j, none⟩ = some u := fun j u hj => by
    rw [cell_B hg, List.getElem?_toArray]
    rw [← hct, List.getElem?_take] at hj
    split at hj
    · exact hj
    · cases hj
  have hcm2 : c ≤ 9223372036854775807 := hcm
  by_cases hin : i = n
  · subst hin
    have hfin : xs.take (i * 2) ++ (vs ++ xs.drop (i * 2)) = xs ++ vs := by
      rw [List.take_of_length_le (by omega), List.drop_eq_nil_of_le (by omega), List.append_nil]
    have HO := hidOf hown
    have HV : Hid (∀ j u, vs[j]? = some u → w.cell? ((⟨vb, 0, none⟩ : Addr).add j) = some u) := hidOf (fun j u hj => by rw [add_B, Nat.zero_add, cell_B hv, List.getElem?_toArray]; exact hj)
    have H1v := hidOf h1v
    have HF := hidOf hfin
    clear hown hg hcell hct hcl hfin h1v h1x hv hxl hi
    go_enter Tryz.func81, Tryz.ntmps81
    go_wp2_with (at_builtin; refine wpList_append_lies _ rfl (.tmp 23) (.tmp 24) 22 rfl B 36 i0 _ 2 32 Tryz.underlying22 hi0 hz0 hz1 hz2 rfl (by decide) (.slice (some ⟨g, 0, none⟩) i c) i xs rfl HO.out ⟨vb, 0, none⟩ 1 1 vs rfl (by rw [hvl]) HV.out H1v.out (by decide) (by unfold maxLen; omega) (by omega) (by omega) _ rfl ?_; intro g3 cap3 w3 hown3 hgrow3 hg3 hlt3; have HO3 := hidOf hown3; have HG3 := hidOf hgrow3; have HH3 := hidOf hg3; clear hown3 hgrow3 hg3 hlt3)
    all_goals
      go_ret
      refine ⟨g3, cap3, rfl, by rw [HF.out]; exact HO3.out, Chg.of_grown HG3.out (fun k hk => by simp [Value.ownBlock] at hk; exact hk.symm), ?_⟩
      rcases HH3.out with h | h
      · left; simp [Value.ownBlock] at h; exact h.symm
      · right; omega
  · have hlt : i < n := by omega
    have hik : i * 2 + 2 ≤ n * 2 := by omega
    have hne2 : ¬ ((i : Int) = (n : Int)) := by omega
    have hci : ¬ (c = i) := by omega
    have hin2 : (i : Int) ≤ (n : Int) := by omega
    have hw1 : IntKind.i64.wrap ((i : Int) + 1) = (i : Int) + 1 := by rw [IntKind.wrap_i64]; omega
    have hw2 : IntKind.i64.wrap ((n : Int) + 1) = (n : Int) + 1 := by rw [IntKind.wrap_i64]; omega
    have htn : ((i : Int) + 1).toNat = i + 1 := by omega
    by_cases hroom : n + 1 ≤ c
    · have hov : ∀ lb cb, (callFunc 105 #[.slice (some ⟨vb, 0, none⟩) 1 1, .slice (some ⟨g, (i + 1) * 2, none⟩) lb cb]).run Tryz.prog w = .ok (.value (.bool false)) w := fun lb cb => by
        rw [run_callFunc_extern Tryz.func105 (by kernel_rfl) (by kernel_rfl) (by kernel_rfl) (e := Extern.SlicesOverlaps.overlaps #[22, 22] #[4]) (by kernel_rfl),
          Lib.run_overlaps_apart w 22 4 36 Tryz.underlying22 2 (fun w => by simp [sizeOf, typeInfo, hi0, hz1]) ⟨vb, 0, none⟩ ⟨g, (i + 1) * 2, none⟩ 1 1 lb cb hne 36 36 _ _ (shape_B hv) (shape_B hg) (by rw [List.size_toArray]; omega) (froz_B hv 0) (froz_B hv _)]
        rfl
      have hci1 : ¬ (c = i + 1) := by omega
      have hn1 : (n : Int) + 1 ≤ (c : Int) := by omega
      have hdl : (xs.drop (i * 2)).length = (n - i) * 2 := by rw [List.length_drop, hxl]; omega
      have hin3 : (i : Int) + 1 ≤ (n : Int) + 1 := by omega
      have hnr : ¬ ((c : Int) < (n : Int) + 1) := by omega
      have HG := hidOf hg
      have HV := hidOf hv
      have HC := hidOf hcell
      have HX := hidOf h1x
      have HW := hidOf h1v
      have HL := hidOf hcl
      have HT := hidOf hct
      have HD := hidOf hdl
      have HXL := hidOf hxl
      have HOV := hidOf hov
      clear hown hg hcell hct hcl h1v h1x hv hxl hdl hbig
      go_enter Tryz.func81, Tryz.ntmps81
      have hmA : Nat.min (n + 1 - i) (n - i) = n - i := by show min (n + 1 - i) (n - i) = n - i; omega
      have hmB : Nat.min 1 (n + 1 - i) = 1 := by show min 1 (n + 1 - i) = 1; omega
      have h0i : (0 : Int) ≤ (i : Int) + 1 := by omega
      have hin4 : (i : Int) ≤ (n : Int) + 1 := by omega
      have HLs : Hid ((splice cur ((i + 1) * 2) (xs.drop (i * 2))).length = cur.length) := hidOf (length_splice _ _ _ (by rw [HD.out, HL.out]; omega))
      have HMA := hidOf hmA
      have HMB := hidOf hmB
      clear hmA hmB
      go_upto_region 15 with (simp only [hov])
      go_region_law (refine step_copyK rfl (.tmp 73) (.tmp 76) 22 22 rfl 36 2 Tryz.underlying22 sizeR g ((i + 1) * 2) (n - i) (c - (i + 1)) ⟨g, i * 2, none⟩ (n + 1 - i) (c - i) (by simp [Act.eval, Act.put]) (by simp [Act.eval, Act.put]) cur 36 (by exact HG.out) (xs.drop (i * 2)) (by rw [HMA.out]; exact HD.out) (fun j u hj => by rw [add_B]; exact HC.out _ _ (by rwa [List.getElem?_drop] at hj)) (by rw [HD.out, HL.out]; omega) (fun u hu => HX.out u (List.mem_of_mem_drop hu)) ?_; intro w4 hg4 hc4)
      obtain ⟨w5, hr5, hg5, hc5⟩ := copyK_ex (P := Tryz.prog) w4 22 22 3 36 2 g (i * 2) (n + 1 - i) (c - i) ⟨vb, 0, none⟩ 1 1 (splice cur ((i + 1) * 2) (xs.drop (i * 2))) 36 vs 1 Tryz.underlying22 sizeR hg4.out HMB.out (by rw [hvl]) (fun j u hj => by rw [add_B, Nat.zero_add, cell_B ((hc4.out.block vb hvlt hne).trans HV.out), List.getElem?_toArray]; exact hj) (by rw [hvl, HLs.out, HL.out]; omega) HW.out
      go_wp2
      go_ret
      refine ⟨g, c, rfl, blk_owns hg5.out hB hroom hcm ?_ ?_, ?_, .inl rfl⟩
      · rw [length_splice _ _ _ (by rw [hvl, HLs.out, HL.out]; omega), HLs.out, HL.out]
      · have h := splice_ins (L := cur) (vs := vs) (a := i * 2) (n := n * 2) (k := 2) hvl (by omega) (by rw [HL.out]; omega)
        rw [HT.out] at h
        rw [show (n + 1) * 2 = n * 2 + 2 by omega]
        try simp only [Nat.mul_one] at h
        try simp only [Nat.mul_one]
        try simp only [show (i + 1) * 2 = i * 2 + 2 by omega]
        exact h
      · exact ((Chg.refl (fun b => b = g) w).drew.trans hc4.out (fun x hx _ => hx)).trans hc5.out (fun x hx _ => hx)
    · have hdl : (xs.drop (i * 2)).length = (n - i) * 2 := by rw [List.length_drop, hxl]; omega
      have htl : (xs.take (i * 2)).length = i * 2 := by rw [List.length_take, hxl]; omega
      obtain ⟨G, q, W1, Z, hrz, hq, hb1, ho1, hG1, hG2, hZl⟩ := grow_ex (P := Tryz.prog) w 22 3 36 _ 2 32 i0 Tryz.underlying22 Tryz.underlying3 hi0 hz0 hz1 hz2 rfl (by decide) g i c (n + 1 - i) (xs.take (i * 2)) htl (fun j u hj => by
        rw [List.getElem?_take] at hj
        split at hj
        · exact hcell j u hj
        · cases hj) (by omega) (by omega) (by rw [show i + (n + 1 - i) = n + 1 by omega]; exact hbig) (by decide)
      rw [show ((n + 1 - i : Nat) : Int) = (n : Int) + 1 - i by omega, show i + (n + 1 - i) = n + 1 by omega] at hrz
      have hG3 : n + 1 ≤ G := by omega
      have hGm : G ≤ 9223372036854775807 := hG2
      have hmA : Nat.min 1 (n + 1 - i) = 1 := by show min 1 (n + 1 - i) = 1; omega
      have hmB : Nat.min (n - i) (n - i) = n - i := by show min (n - i) (n - i) = n - i; omega
      obtain ⟨w5, hr5, hg5, hc5⟩ := copyK_ex (P := Tryz.prog) W1 22 22 3 36 2 q (i * 2) (n + 1 - i) (G - i) ⟨vb, 0, none⟩ 1 1 (xs.take (i * 2) ++ Z) 36 vs 1 Tryz.underlying22 sizeR hb1.out hmA (by rw [hvl]) (fun j u hj => by rw [add_B, Nat.zero_add, ho1.out.cells vb j hvlt, cell_B hv, List.getElem?_toArray]; exact hj) (by rw [hvl, hZl.out]; omega) h1v
      have hgq : ¬ g = q := by have := hq.out; omega
      have HLs : Hid ((splice (xs.take (i * 2) ++ Z) (i * 2) vs).length = G * 2) := hidOf (by rw [length_splice _ _ _ (by rw [hvl, hZl.out]; omega), hZl.out])
      have HCo : Hid (∀ j u, xs[j]? = some u → w5.cell? ⟨g, j, none⟩ = some u) := hidOf (fun j u hj => by rw [World.cell?_of_block (a := ⟨g, j, none⟩) (hc5.out.block g (Nat.lt_of_lt_of_le hgl ho1.out.size) hgq), ho1.out.cells g j hgl]; exact hcell j u hj)
      have HX := hidOf h1x
      have HD := hidOf hdl
      have HXL := hidOf hxl
      have HMB := hidOf hmB
      have hGi : ¬ (G = i) := by omega
      have hGi1 : ¬ (G = i + 1) := by omega
      have hnr : (c : Int) < (n : Int) + 1 := by omega
      have h0i : (0 : Int) ≤ (i : Int) + 1 := by omega
      have hin4 : (i : Int) ≤ (n : Int) + 1 := by omega
      have hin3 : (i : Int) + 1 ≤ (n : Int) + 1 := by omega
      have HOW : Hid (W1.heap.size ≤ w5.heap.size) := hidOf hc5.out.size
      clear hown hg hcell hct hcl h1v h1x hv hxl hdl hbig htl hmA hmB
      go_enter Tryz.func81, Tryz.ntmps81
      go_upto_region 11 with (at_builtin; refine Lib.wpList_append_run _ rfl _ _ _ _ rfl _ _ rfl rfl _ _ (hrz _) ?_)
      go_region_law (refine step_copyK rfl (.tmp 50) (.tmp 53) 22 22 rfl 36 2 Tryz.underlying22 sizeR q ((i + 1) * 2) (n - i) (G - (i + 1)) ⟨g, i * 2, none⟩ (n - i) (c - i) (by simp [Act.eval, Act.put]) (by simp [Act.eval, Act.put]) (splice (xs.take (i * 2) ++ Z) (i * 2) vs) 36 (by exact hg5.out) (xs.drop (i * 2)) (by rw [HMB.out]; exact HD.out) (fun j u hj => by rw [add_B]; exact HCo.out _ _ (by rwa [List.getElem?_drop] at hj)) (by rw [HD.out, HLs.out]; omega) (fun u hu => HX.out u (List.mem_of_mem_drop hu)) ?_; intro w6 hg6 hc6)
      go_wp2
      go_ret
      refine ⟨q, G, rfl, blk_owns hg6.out (by have := hq.out; omega) hG3 hG2 ?_ ?_, ?_, .inr (by have := hq.out; omega)⟩
      · rw [length_splice _ _ _ (by rw [HD.out, HLs.out]; omega), HLs.out]
      · have h := splice_new (xs := xs) (vs := vs) (Z := Z) (a := i * 2) (n := n * 2) (k := 2) HXL.out hvl (by omega) (by
          have h1 := hZl.out
          rw [List.length_append, List.length_take, HXL.out, Nat.min_eq_left (by omega)] at h1
          omega)
        rw [show (n + 1) * 2 = n * 2 + 2 by omega]
        try simp only [Nat.mul_one] at h
        try simp only [Nat.mul_one]
        try simp only [show (i + 1) * 2 = i * 2 + 2 by omega]
        exact h
      · have hq0 : w.heap.size ≤ q := by have := hq.out; omega
        exact (Chg.of_out (S := fun b => b = g) ho1.out).trans ((hc5.out.drew).trans hc6.out (fun x hx _ => hx)) (fun x hx hl => by subst hx; omega)
theorem infoW : (Tryz.prog.info? 22).map (fun i => (i.zero, i.size, i.bytes)) = some (some (.slice none 0 0), 1, 24) := by kernel_rfl
theorem sizeW : (Tryz.prog.info? 22).map (·.size) = some 1 := by kernel_rfl
set_option maxHeartbeats 4000000 in
set_option maxRecDepth 100000 in
theorem insertW_any (w : World) (B g n c i vb : Nat) (xs vs : List Value) (hown : w.ownsRow B 22 1 (.slice (some ⟨g, 0, none⟩) n c) n xs) (hn0 : 0 < n) (hi : i ≤ n) (hv : w.heap[vb]? = some (.cells vs.toArray 22 (0, 0))) (hvl : vs.length = 1) (hne : vb ≠ g) (h1x : ∀ u ∈ xs, u.oneCell' = true) (h1v : ∀ u ∈ vs, u.oneCell' = true) (hbig : (n + 1) * 24 ≤ 140737488355328) :
    Calls Tryz.prog 108 #[.slice (some ⟨g, 0, none⟩) n c, .int .i64 i, .slice (some ⟨vb, 0, none⟩) 1 1] w fun e w' => InsE 22 1 B g n i xs vs w e w' := by
  obtain ⟨cur, hg, hB, hnc, hcm, hcl, hct, hxl⟩ := owns_blk hown
  obtain ⟨i0, hi0, hz0, hz1, hz2⟩ := info_parts infoW
  have hgl : g < w.heap.size := (Array.getElem?_eq_some_iff.1 hg).1
  have hvlt : vb < w.heap.size := (Array.getElem?_eq_some_iff.1 hv).1
  have hcell : ∀ j u, xs[j]? = some u → w.cell? ⟨g, j, none⟩ = some u := fun j u hj => by
    rw [cell_B hg, List.getElem?_toArray]
    rw [← hct, List.getElem?_take] at hj
    split at hj
    · exact hj
    · cases hj
  have hcm2 : c ≤ 9223372036854775807 := hcm
  by_cases hin : i = n
  · subst hin
    have hfin : xs.take (i * 1) ++ (vs ++ xs.drop (i * 1)) = xs ++ vs := by
      rw [List.take_of_length_le (by omega), List.drop_eq_nil_of_le (by omega), List.append_nil]
    have HO := hidOf hown
    have HV : Hid (∀ j u, vs[j]? = some u → w.cell? ((⟨vb, 0, none⟩ : Addr).add j) = some u) := hidOf (fun j u hj => by rw [add_B, Nat.zero_add, cell_B hv, List.getElem?_toArray]; exact hj)
    have H1v := hidOf h1v
    have HF := hidOf hfin
    clear hown hg hcell hct hcl hfin h1v h1x hv hxl hi
    go_enter Tryz.func108, Tryz.ntmps108
    go_wp2_with (at_builtin; refine wpList_append_lies _ rfl (.tmp 23) (.tmp 24) 43 rfl B 22 i0 _ 1 24 Tryz.underlying43 hi0 hz0 hz1 hz2 rfl (by decide) (.slice (some ⟨g, 0, none⟩) i c) i xs rfl HO.out ⟨vb, 0, none⟩ 1 1 vs rfl (by rw [hvl]) HV.out H1v.out (by decide) (by unfold maxLen; omega) (by omega) (by omega) _ rfl ?_; intro g3 cap3 w3 hown3 hgrow3 hg3 hlt3; have HO3 := hidOf hown3; have HG3 := hidOf hgrow3; have HH3 := hidOf hg3; clear hown3 hgrow3 hg3 hlt3)
    all_goals
      go_ret
      refine ⟨g3, cap3, rfl, by rw [HF.out]; exact HO3.out, Chg.of_grown HG3.out (fun k hk => by simp [Value.ownBlock] at hk; exact hk.symm), ?_⟩
      rcases HH3.out with h | h
      · left; simp [Value.ownBlock] at h; exact h.symm
      · right; omega
  · have hlt : i < n := by omega
    have hik : i * 1 + 1 ≤ n * 1 := by omega
    have hne2 : ¬ ((i : Int) = (n : Int)) := by omega
    have hci : ¬ (c = i) := by omega
    have hin2 : (i : Int) ≤ (n : Int) := by omega
    have hw1 : IntKind.i64.wrap ((i : Int) + 1) = (i : Int) + 1 := by rw [IntKind.wrap_i64]; omega
    have hw2 : IntKind.i64.wrap ((n : Int) + 1) = (n : Int) + 1 := by rw [IntKind.wrap_i64]; omega
    have htn : ((i : Int) + 1).toNat = i + 1 := by omega
    by_cases hroom : n + 1 ≤ c
    · have hov : ∀ lb cb, (callFunc 120 #[.slice (some ⟨vb, 0, none⟩) 1 1, .slice (some ⟨g, (i + 1), none⟩) lb cb]).run Tryz.prog w = .ok (.value (.bool false)) w := fun lb cb => by
        rw [run_callFunc_extern Tryz.func120 (by kernel_rfl) (by kernel_rfl) (by kernel_rfl) (e := Extern.SlicesOverlaps.overlaps #[43, 43] #[4]) (by kernel_rfl),
          Lib.run_overlaps_apart w 43 4 22 Tryz.underlying43 1 (fun w => by simp [sizeOf, typeInfo, hi0, hz1]) ⟨vb, 0, none⟩ ⟨g, (i + 1), none⟩ 1 1 lb cb hne 22 22 _ _ (shape_B hv) (shape_B hg) (by rw [List.size_toArray]; omega) (froz_B hv 0) (froz_B hv _)]
        rfl
      have hci1 : ¬ (c = i + 1) := by omega
      have hn1 : (n : Int) + 1 ≤ (c : Int) := by omega
      have hdl : (xs.drop (i)).length = (n - i) * 1 := by rw [List.length_drop, hxl]; omega
      have hin3 : (i : Int) + 1 ≤ (n : Int) + 1 := by omega
      have hnr : ¬ ((c : Int) < (n : Int) + 1) := by omega
      have HG := hidOf hg
      have HV := hidOf hv
      have HC := hidOf hcell
      have HX := hidOf h1x
      have HW := hidOf h1v
      have HL := hidOf hcl
      have HT := hidOf hct
      have HD := hidOf hdl
      have HXL := hidOf hxl
      have HOV := hidOf hov
      clear hown hg hcell hct hcl h1v h1x hv hxl hdl hbig
      go_enter Tryz.func108, Tryz.ntmps108
      have hmA : Nat.min (n + 1 - i) (n - i) = n - i := by show min (n + 1 - i) (n - i) = n - i; omega
      have hmB : Nat.min 1 (n + 1 - i) = 1 := by show min 1 (n + 1 - i) = 1; omega
      have h0i : (0 : Int) ≤ (i : Int) + 1 := by omega
      have hin4 : (i : Int) ≤ (n : Int) + 1 := by omega
      have HLs : Hid ((splice cur ((i + 1)) (xs.drop (i))).length = cur.length) := hidOf (length_splice _ _ _ (by rw [HD.out, HL.out]; omega))
      have HMA := hidOf hmA
      have HMB := hidOf hmB
      clear hmA hmB
      go_upto_region 15 with (simp only [hov])
      go_region_law (refine step_copyK rfl (.tmp 73) (.tmp 76) 43 43 rfl 22 1 Tryz.underlying43 sizeW g ((i + 1)) (n - i) (c - (i + 1)) ⟨g, i, none⟩ (n + 1 - i) (c - i) (by simp [Act.eval, Act.put]) (by simp [Act.eval, Act.put]) cur 22 (by exact HG.out) (xs.drop (i)) (by rw [HMA.out]; exact HD.out) (fun j u hj => by rw [add_B]; exact HC.out _ _ (by rwa [List.getElem?_drop] at hj)) (by rw [HD.out, HL.out]; omega) (fun u hu => HX.out u (List.mem_of_mem_drop hu)) ?_; intro w4 hg4 hc4)
      obtain ⟨w5, hr5, hg5, hc5⟩ := copyK_ex (P := Tryz.prog) w4 43 43 3 22 1 g (i) (n + 1 - i) (c - i) ⟨vb, 0, none⟩ 1 1 (splice cur ((i + 1)) (xs.drop (i))) 22 vs 1 Tryz.underlying43 sizeW hg4.out HMB.out (by rw [hvl]) (fun j u hj => by rw [add_B, Nat.zero_add, cell_B ((hc4.out.block vb hvlt hne).trans HV.out), List.getElem?_toArray]; exact hj) (by rw [hvl, HLs.out, HL.out]; omega) HW.out
      go_wp2
      go_ret
      refine ⟨g, c, rfl, blk_owns hg5.out hB hroom hcm ?_ ?_, ?_, .inl rfl⟩
      · rw [length_splice _ _ _ (by rw [hvl, HLs.out, HL.out]; omega), HLs.out, HL.out]
      · have h := splice_ins (L := cur) (vs := vs) (a := i * 1) (n := n * 1) (k := 1) hvl (by omega) (by rw [HL.out]; omega)
        rw [HT.out] at h
        rw [show (n + 1) * 1 = n * 1 + 1 by omega]
        try simp only [Nat.mul_one] at h
        try simp only [Nat.mul_one]
        try simp only [show (i + 1) * 2 = i * 2 + 2 by omega]
        exact h
      · exact ((Chg.refl (fun b => b = g) w).drew.trans hc4.out (fun x hx _ => hx)).trans hc5.out (fun x hx _ => hx)
    · have hdl : (xs.drop (i)).length = (n - i) * 1 := by rw [List.length_drop, hxl]; omega
      have htl : (xs.take (i * 1)).length = i * 1 := by rw [List.length_take, hxl]; omega
      obtain ⟨G, q, W1, Z, hrz, hq, hb1, ho1, hG1, hG2, hZl⟩ := grow_ex (P := Tryz.prog) w 43 3 22 _ 1 24 i0 Tryz.underlying43 Tryz.underlying3 hi0 hz0 hz1 hz2 rfl (by decide) g i c (n + 1 - i) (xs.take (i * 1)) htl (fun j u hj => by
        rw [List.getElem?_take] at hj
        split at hj
        · exact hcell j u hj
        · cases hj) (by omega) (by omega) (by rw [show i + (n + 1 - i) = n + 1 by omega]; exact hbig) (by decide)
      rw [show ((n + 1 - i : Nat) : Int) = (n : Int) + 1 - i by omega, show i + (n + 1 - i) = n + 1 by omega] at hrz
      have hG3 : n + 1 ≤ G := by omega
      have hGm : G ≤ 9223372036854775807 := hG2
      have hmA : Nat.min 1 (n + 1 - i) = 1 := by show min 1 (n + 1 - i) = 1; omega
      have hmB : Nat.min (n - i) (n - i) = n - i := by show min (n - i) (n - i) = n - i; omega
      obtain ⟨w5, hr5, hg5, hc5⟩ := copyK_ex (P := Tryz.prog) W1 43 43 3 22 1 q (i) (n + 1 - i) (G - i) ⟨vb, 0, none⟩ 1 1 (xs.take (i * 1) ++ Z) 22 vs 1 Tryz.underlying43 sizeW hb1.out hmA (by rw [hvl]) (fun j u hj => by rw [add_B, Nat.zero_add, ho1.out.cells vb j hvlt, cell_B hv, List.getElem?_toArray]; exact hj) (by rw [hvl, hZl.out]; omega) h1v
      have hgq : ¬ g = q := by have := hq.out; omega
      have HLs : Hid ((splice (xs.take (i * 1) ++ Z) (i) vs).length = G * 1) := hidOf (by rw [length_splice _ _ _ (by rw [hvl, hZl.out]; omega), hZl.out])
      have HCo : Hid (∀ j u, xs[j]? = some u → w5.cell? ⟨g, j, none⟩ = some u) := hidOf (fun j u hj => by rw [World.cell?_of_block (a := ⟨g, j, none⟩) (hc5.out.block g (Nat.lt_of_lt_of_le hgl ho1.out.size) hgq), ho1.out.cells g j hgl]; exact hcell j u hj)
      have HX := hidOf h1x
      have HD := hidOf hdl
      have HXL := hidOf hxl
      have HMB := hidOf hmB
      have hGi : ¬ (G = i) := by omega
      have hGi1 : ¬ (G = i + 1) := by omega
      have hnr : (c : Int) < (n : Int) + 1 := by omega
      have h0i : (0 : Int) ≤ (i : Int) + 1 := by omega
      have hin4 : (i : Int) ≤ (n : Int) + 1 := by omega
      have hin3 : (i : Int) + 1 ≤ (n : Int) + 1 := by omega
      have HOW : Hid (W1.heap.size ≤ w5.heap.size) := hidOf hc5.out.size
      clear hown hg hcell hct hcl h1v h1x hv hxl hdl hbig htl hmA hmB
      go_enter Tryz.func108, Tryz.ntmps108
      go_upto_region 11 with (at_builtin; refine Lib.wpList_append_run _ rfl _ _ _ _ rfl _ _ rfl rfl _ _ (hrz _) ?_)
      go_region_law (refine step_copyK rfl (.tmp 50) (.tmp 53) 43 43 rfl 22 1 Tryz.underlying43 sizeW q ((i + 1)) (n - i) (G - (i + 1)) ⟨g, i, none⟩ (n - i) (c - i) (by simp [Act.eval, Act.put]) (by simp [Act.eval, Act.put]) (splice (xs.take (i * 1) ++ Z) (i) vs) 22 (by exact hg5.out) (xs.drop (i)) (by rw [HMB.out]; exact HD.out) (fun j u hj => by rw [add_B]; exact HCo.out _ _ (by rwa [List.getElem?_drop] at hj)) (by rw [HD.out, HLs.out]; omega) (fun u hu => HX.out u (List.mem_of_mem_drop hu)) ?_; intro w6 hg6 hc6)
      go_wp2
      go_ret
      refine ⟨q, G, rfl, blk_owns hg6.out (by have := hq.out; omega) hG3 hG2 ?_ ?_, ?_, .inr (by have := hq.out; omega)⟩
      · rw [length_splice _ _ _ (by rw [HD.out, HLs.out]; omega), HLs.out]
      · have h := splice_new (xs := xs) (vs := vs) (Z := Z) (a := i * 1) (n := n * 1) (k := 1) HXL.out hvl (by omega) (by
          have h1 := hZl.out
          rw [List.length_append, List.length_take, HXL.out, Nat.min_eq_left (by omega)] at h1
          omega)
        rw [show (n + 1) * 1 = n * 1 + 1 by omega]
        try simp only [Nat.mul_one] at h
        try simp only [Nat.mul_one]
        try simp only [show (i + 1) * 2 = i * 2 + 2 by omega]
        exact h
      · have hq0 : w.heap.size ≤ q := by have := hq.out; omega
        exact (Chg.of_out (S := fun b => b = g) ho1.out).trans ((hc5.out.drew).trans hc6.out (fun x hx _ => hx)) (fun x hx hl => by subst hx; omega)
end Go.Proofs.YtekjfbmebekmeaaGreat
