import Derived.Test.YtekjfbmebekmeaaGreatMbz
namespace Go.Proofs.YtekjfbmebekmeaaGreat
open Go.RowKit Go.Sort
set_option linter.unusedVariables false
set_option linter.unusedSimpArgs false
theorem swoT : SWO (Go.Proofs.ltOf cmT) where
  irrefl x := by rw [ltT]; simp
  trans x y z h1 h2 := by rw [ltT] at *; simp at *; omega
  ntrans x y z h1 h2 := by rw [ltT] at *; simp at *; omega
set_option maxHeartbeats 1000000 in
theorem closure_any (f1 f2 n1 n2 c1 c2 : Nat) (a1 a2 : Option Addr) (W : World) : Calls Tryz.prog 72 #[.agg #[.int .u64 f1, .slice a1 n1 c1], .agg #[.int .u64 f2, .slice a2 n2 c2]] W fun e w' => e = .returned (.int .i64 (cmF f1 f2)) ∧ ∃ q os', w' = grow (W.drewN q) os' := by
  have hcon := fun W' => cmpU_any f1 f2 W'
  generalize cmF f1 f2 = r at hcon ⊢
  go_enter Tryz.func72, Tryz.ntmps72
  go_wp2_with (go_at_call 73; refine (hcon _).mono ?_; rintro e w' ⟨rfl, hw⟩; subst hw)
  go_ret
  exact ⟨rfl, 0, _, by rw [alloc_eq_grow, alloc_eq_grow, grow_grow]; rfl⟩
theorem cmpLaysT (blk off size : Nat) (w : World) : Go.Proofs.CmpLays Tryz.prog 72 #[] csT 2 cmT blk off size w :=
  fun _ _ _ _ x y => closure_any x.1 y.1 x.2.2.2.length y.2.2.2.length x.2.2.1 y.2.2.1 (x.2.1.map fun b => ⟨b, 0, none⟩) (y.2.1.map fun b => ⟨b, 0, none⟩) _
theorem flatK_row (d : Array (Nat × Option Nat × Nat × List UInt8)) (j : Nat) (hj : j < d.size * 2) : (rowG (d.toList.map rgT))[j]? = some (Go.Sort.flatK csT 2 d)[j]! := by
  have h1 := Go.Sort.get_flatK csT 2 d j hj
  have hi : j / 2 < d.size := by omega
  have hx : (d.toList.map rgT)[j / 2]? = some (rgT d[j / 2]!) := by
    rw [List.getElem?_map, Array.getElem?_toList, Array.getElem?_eq_getElem hi, getElem!_pos d _ hi]
    rfl
  obtain ⟨g0, g1⟩ := rowG_get hx
  rw [h1]
  rcases Nat.mod_two_eq_zero_or_one j with h | h
  · rw [h]
    rw [show j / 2 * 2 = j by omega] at g0
    rw [g0]; rfl
  · rw [h]
    rw [show j / 2 * 2 + 1 = j by omega] at g1
    rw [g1]; rfl
theorem map_rgT (R : List Rg) : (R.map tRg).toArray.toList.map rgT = R := by
  simp only [List.map_map]
  conv => rhs; rw [← List.map_id R]
  apply List.map_congr_left
  intro x _
  rfl
theorem sortW_heap (w : World) (g n : Nat) (d : Array (Nat × Option Nat × Nat × List UInt8)) (os : Array Obj) (cur : List Value) (hg : w.heap[g]? = some (.cells cur.toArray 36 (0, 0))) (hd : d.size * 2 ≤ cur.length) :
    (∃ cur' : List Value, (Go.Proofs.sortWorldK csT 2 w g 0 n d os).heap[g]? = some (.cells cur'.toArray 36 (0, 0)) ∧ cur'.length = cur.length ∧ cur'.take (d.size * 2) = rowG (d.toList.map rgT)) ∧ Chg (fun b => b = g) w (Go.Proofs.sortWorldK csT 2 w g 0 n d os) := by
  have hgl := (Array.getElem?_eq_some_iff.1 hg).1
  have h1 : (Go.Sort.putRowK csT 2 (Go.Sort.ahead w n) g 0 d).heap[g]? = some (.cells (putCells id 0 (Go.Sort.flatK csT 2 d) cur.toArray) 36 (0, 0)) := by
    show ((w.heap).modify g _)[g]? = _
    simp [Array.getElem?_modify, hg, onCells]
  have hsz : (Go.Sort.putRowK csT 2 (Go.Sort.ahead w n) g 0 d).heap.size = w.heap.size := by
    show ((w.heap).modify g _).size = _
    simp
  constructor
  · refine ⟨(putCells id 0 (Go.Sort.flatK csT 2 d) cur.toArray).toList, ?_, by simp [putCells], ?_⟩
    · show ((Go.Sort.putRowK csT 2 (Go.Sort.ahead w n) g 0 d).heap ++ os)[g]? = _
      rw [Array.getElem?_append_left (by rw [hsz]; exact hgl), h1, Array.toArray_toList]
    · apply List.ext_getElem?
      intro j
      rw [List.getElem?_take, Array.getElem?_toList]
      by_cases hj : j < d.size * 2
      · rw [if_pos hj, flatK_row d j hj]
        simp only [putCells, Array.getElem?_mapIdx, List.getElem?_toArray]
        rw [List.getElem?_eq_getElem (by omega)]
        simp [hj]
      · rw [if_neg hj, List.getElem?_eq_none (by rw [rowG_len, List.length_map, Array.length_toList]; omega)]
  · refine ⟨rfl, rfl, rfl, ?_, fun k hk hs => ?_⟩
    · show w.heap.size ≤ ((Go.Sort.putRowK csT 2 (Go.Sort.ahead w n) g 0 d).heap ++ os).size
      rw [Array.size_append, hsz]; omega
    · show ((Go.Sort.putRowK csT 2 (Go.Sort.ahead w n) g 0 d).heap ++ os)[k]? = _
      rw [Array.getElem?_append_left (by rw [hsz]; exact hk)]
      show ((w.heap).modify g _)[k]? = _
      rw [Array.getElem?_modify, if_neg (fun e => hs e.symm)]
theorem sort_any (w : World) (B g N c : Nat) (R : List Rg) (hR : R.length = N) (hown : w.ownsRow B 36 2 (.slice (some ⟨g, 0, none⟩) N c) N (rowG R)) (hN : N < 4611686018427387904) :
    Calls Tryz.prog 71 #[.slice (some ⟨g, 0, none⟩) N c, .func (.func 72) #[] #[]] w fun e w' => e = .returned (.tuple #[]) ∧ ∃ R' : List Rg, R'.Perm R ∧ R'.Pairwise (fun x y => x.f ≤ y.f) ∧ w'.ownsRow B 36 2 (.slice (some ⟨g, 0, none⟩) N c) N (rowG R') ∧ Chg (fun b => b = g) w w' := by
  obtain ⟨cur, hg, hB, hnc, hcm, hcl, hct, hxl⟩ := owns_blk hown
  have hgl := (Array.getElem?_eq_some_iff.1 hg).1
  have hds : (R.map tRg).toArray.size = N := by simp [hR]
  have hH : Go.Sort.HoldsK csT 2 w g 0 (R.map tRg).toArray := fun j hj => by
    rw [Go.Sort.size_flatK, hds] at hj
    have h1 := flatK_row (R.map tRg).toArray j (by rw [hds]; exact hj)
    rw [map_rgT] at h1
    have h2 := own_cellK hown h1
    rw [Nat.zero_add]
    exact h2
  have C := Go.Proofs.AnyQ.slices_SortFunc Tryz.sortR 2 Tryz.isAgg36 Tryz.sizeOf36 csT (fun _ => rfl) (fun x v hv => by simp [csT, csG, daV] at hv; rcases hv with rfl | rfl <;> rfl) cmT swoT 72 #[] g 0 c (R.map tRg).toArray w (enters_of Tryz.func72 (by kernel_rfl) rfl) (cmpLaysT g 0 _ w) hH hgl (by rw [hds]; exact hN)
  change Calls Tryz.prog 71 _ _ _ at C
  rw [hds] at C
  refine C.mono ?_
  rintro e w' ⟨he, d', n, os, hp, hs, rfl⟩
  have hd' : d'.size = N := by rw [hp.1, hds]
  obtain ⟨⟨cur', h1, h2, h3⟩, hc⟩ := sortW_heap w g n d' os cur hg (by rw [hd', hcl]; exact Nat.mul_le_mul_right _ hnc)
  refine ⟨he, d'.toList.map rgT, ?_, ?_, blk_owns h1 hB hnc hcm (by rw [h2, hcl]) (by rw [← hd']; exact h3), hc⟩
  · have hpp := hp.2.2
    have e1 : d'.extract 0 N = d' := by rw [← hd']; simp
    have e2 : (R.map tRg).toArray.extract 0 N = (R.map tRg).toArray := by
      have := Array.extract_size (xs := (R.map tRg).toArray)
      rw [hds] at this; exact this
    rw [e1, e2] at hpp
    have := hpp.map rgT
    rw [map_rgT] at this
    exact this
  · rw [List.pairwise_map, List.pairwise_iff_getElem]
    intro i j hi hj hij
    rw [Array.length_toList] at hi hj
    have h4 := hs i j (Nat.zero_le _) hij (by omega)
    rw [ltT] at h4
    rw [getElem!_pos d' i hi, getElem!_pos d' j hj] at h4
    simp at h4
    exact h4
end Go.Proofs.YtekjfbmebekmeaaGreat
