import Derived.Shelf.SlSortCmp.WholeK
import Derived.Ground.SlsfProg
import Derived.Test.YtekjfbmebekmeaaGreatProg
import Derived.Test.YtekjfbmebekmeaaGreatGc14
import Derived.Test.YtekjfbmebekmeaaGreatGc16
namespace Go.Proofs
open Go.Shelf
def Tryz.sortR_ren : Go.Shelf.Ren := ⟨fun | 6 => 71 | 15 => 100 | 14 => 99 | 28 => 118 | 29 => 109 | 20 => 110 | 21 => 111 | 22 => 112 | 23 => 113 | 24 => 114 | 25 => 115 | 26 => 116 | 27 => 117 | 46 => 122 | 47 => 123 | 48 => 124 | 49 => 125 | 50 => 126 | 57 => 129 | n => n, fun | 22 => 22 | 24 => 36 | 25 => 113 | 3 => 3 | 39 => 140 | 0 => 0 | 53 => 105 | 55 => 28 | 4 => 4 | 46 => 148 | 45 => 147 | 50 => 152 | 5 => 5 | 9 => 9 | 66 => 157 | 70 => 161 | 76 => 164 | 77 => 121 | n => n, fun | n => n⟩
theorem Tryz.sortR : Go.Proofs.SlLaysF0.n6 Tryz.prog Tryz.sortR_ren := {
  mixed := by kernel_rfl
  f6 := ⟨Tryz.f71.name, by decide, Tryz.func71.trans (congrArg some (by kernel_rfl))⟩
  f14 := ⟨Tryz.f99.name, by decide, Tryz.func99.trans (congrArg some (by kernel_rfl))⟩
  f15 := Tryz.func100.trans (congrArg some (by kernel_rfl))
  f20 := ⟨Tryz.f110.name, by decide, Tryz.func110.trans (congrArg some (by kernel_rfl))⟩
  f21 := ⟨Tryz.f111.name, by decide, Tryz.func111.trans (congrArg some (by kernel_rfl))⟩
  f22 := ⟨Tryz.f112.name, by decide, Tryz.func112.trans (congrArg some (by kernel_rfl))⟩
  f23 := ⟨Tryz.f113.name, by decide, Tryz.func113.trans (congrArg some (by kernel_rfl))⟩
  f24 := ⟨Tryz.f114.name, by decide, Tryz.func114.trans (congrArg some (by kernel_rfl))⟩
  f25 := ⟨Tryz.f115.name, by decide, Tryz.func115.trans (congrArg some (by kernel_rfl))⟩
  f26 := ⟨Tryz.f116.name, by decide, Tryz.func116.trans (congrArg some (by kernel_rfl))⟩
  f27 := ⟨Tryz.f117.name, by decide, Tryz.func117.trans (congrArg some (by kernel_rfl))⟩
  f28 := Tryz.func118.trans (congrArg some (by kernel_rfl))
  f29 := Tryz.func109.trans (congrArg some (by kernel_rfl))
  f46 := ⟨Tryz.f122.name, by decide, Tryz.func122.trans (congrArg some (by kernel_rfl))⟩
  f47 := Tryz.func123.trans (congrArg some (by kernel_rfl))
  f48 := Tryz.func124.trans (congrArg some (by kernel_rfl))
  f49 := ⟨Tryz.f125.name, by decide, Tryz.func125.trans (congrArg some (by kernel_rfl))⟩
  f50 := ⟨Tryz.f126.name, by decide, Tryz.func126.trans (congrArg some (by kernel_rfl))⟩
  f57 := ⟨Tryz.f129.name, by decide, Tryz.func129.trans (congrArg some (by kernel_rfl))⟩
  t0 := Tryz.underlying0
  a0 := Tryz.isAgg0
  z0 := Tryz.sizeOf0
  v0 := Tryz.zeroValue0
  t3 := Tryz.underlying3
  a3 := Tryz.isAgg3
  z3 := Tryz.sizeOf3
  v3 := Tryz.zeroValue3
  t4 := Tryz.underlying4
  a4 := Tryz.isAgg4
  z4 := Tryz.sizeOf4
  v4 := Tryz.zeroValue4
  t5 := Tryz.underlying5
  a5 := Tryz.isAgg5
  z5 := Tryz.sizeOf5
  v5 := Tryz.zeroValue5
  t9 := Tryz.underlying9
  a9 := Tryz.isAgg9
  z9 := Tryz.sizeOf9
  v9 := Tryz.zeroValue9
  t22 := Tryz.underlying22
  a22 := Tryz.isAgg22
  z22 := Tryz.sizeOf22
  v22 := Tryz.zeroValue22
  t25 := Tryz.underlying113
  a25 := Tryz.isAgg113
  z25 := Tryz.sizeOf113
  v25 := Tryz.zeroValue113
  t39 := Tryz.underlying140
  a39 := Tryz.isAgg140
  z39 := Tryz.sizeOf140
  v39 := Tryz.zeroValue140
  t45 := Tryz.underlying147
  a45 := Tryz.isAgg147
  z45 := Tryz.sizeOf147
  v45 := Tryz.zeroValue147
  t46 := Tryz.underlying148
  a46 := Tryz.isAgg148
  z46 := Tryz.sizeOf148
  v46 := Tryz.zeroValue148
  t50 := Tryz.underlying152
  a50 := Tryz.isAgg152
  z50 := Tryz.sizeOf152
  v50 := Tryz.zeroValue152
  t53 := Tryz.underlying105
  a53 := Tryz.isAgg105
  z53 := Tryz.sizeOf105
  v53 := Tryz.zeroValue105
  t55 := Tryz.underlying28
  a55 := Tryz.isAgg28
  z55 := Tryz.sizeOf28
  v55 := Tryz.zeroValue28
  t66 := Tryz.underlying157
  a66 := Tryz.isAgg157
  z66 := Tryz.sizeOf157
  v66 := Tryz.zeroValue157
  t70 := Tryz.underlying161
  a70 := Tryz.isAgg161
  z70 := Tryz.sizeOf161
  v70 := Tryz.zeroValue161
  t76 := Tryz.underlying164
  a76 := Tryz.isAgg164
  z76 := Tryz.sizeOf164
  v76 := Tryz.zeroValue164
  t77 := Tryz.underlying121
  a77 := Tryz.isAgg121
  z77 := Tryz.sizeOf121
  v77 := Tryz.zeroValue121 }
end Go.Proofs
namespace Go.Proofs.YtekjfbmebekmeaaGreat
open Go.RowKit
set_option linter.unusedVariables false
set_option linter.unusedSimpArgs false
set_option maxHeartbeats 2000000 in
theorem all_any (w : World) (B s o : Nat) (v : Value) (X : List Rw) (h : Sh B w v X) (hc : w.cell? ⟨s, o, none⟩ = some v) (hX : X.length ≤ 5864062014805) (hN : (flat X).length ≤ 4398046511104) :
    Calls Tryz.prog 70 #[.pointer (some ⟨s, o, none⟩)] w fun e w' => ∃ a' c', e = .returned (.slice a' (flat X).length c') ∧ w'.ownsRow w.heap.size 36 2 (.slice a' (flat X).length c') (flat X).length (rowG (flat X)) ∧ Out w w' := by
  obtain ⟨a, c, rfl, ha, _⟩ := own_slice h.own
  have hcv : conV (X.map fun x => (⟨some ⟨x.g, 0, none⟩, x.c, x.L⟩ : VI)) = flat X := by simp [conV, flat, List.flatMap_map]
  have hin : InV w a (X.map fun x => (⟨some ⟨x.g, 0, none⟩, x.c, x.L⟩ : VI)) := by
    by_cases hX0 : X = []
    · left; simp [hX0]
    · right
      obtain ⟨x0, hx0⟩ : ∃ x0, X[0]? = some x0 := ⟨_, List.getElem?_eq_getElem (List.length_pos_iff.2 hX0)⟩
      obtain ⟨gR, cR, e, _⟩ := h.at_ hx0
      simp only [Value.slice.injEq] at e
      refine ⟨gR, 0, e.1, fun i x hx => ?_⟩
      rw [List.getElem?_map] at hx
      cases hxi : X[i]? with
      | none => rw [hxi] at hx; cases hx
      | some y =>
        rw [hxi] at hx
        simp only [Option.map_some, Option.some.injEq] at hx
        subst hx
        obtain ⟨gR2, cR2, e2, h2, _⟩ := h.at_ hxi
        simp only [Value.slice.injEq] at e2
        rw [e.1] at e2
        simp only [Option.some.injEq, Addr.mk.injEq] at e2
        rw [Nat.zero_add, e2.1.1]
        refine ⟨h2, .inr ⟨⟨y.g, 0, none⟩, rfl, fun j u hj => ?_⟩⟩
        rw [add_B, Nat.zero_add]
        exact (own_cellK (h.rows y (List.mem_of_getElem? hxi)) hj).1
  have C := concat_any w a c (X.map fun x => (⟨some ⟨x.g, 0, none⟩, x.c, x.L⟩ : VI)) hin (by rw [List.length_map]; exact hX) (by rw [hcv]; exact hN)
  rw [hcv, List.length_map] at C
  obtain ⟨n, hn⟩ : ∃ n, Hid (n = X.length) := ⟨_, rfl⟩
  rw [← hn.out] at C hc
  have HC := hidOf C
  generalize flat X = F at *
  obtain ⟨q, hq⟩ : ∃ q, Hid (q = F.length) := ⟨_, rfl⟩
  rw [← hq.out] at HC ⊢
  clear h hcv hin C hX hN ha
  go_enter Tryz.func70, Tryz.ntmps70
  go_wp2_with (go_at_call 69; refine HC.out.mono ?_; rintro e w1 ⟨a', c', rfl, hown, ho1⟩; have HO := hidOf hown; have O1 := hidOf ho1; clear hown ho1)
  go_ret
  exact ⟨a', c', rfl, HO.out, O1.out⟩
/-- by first addresses -/
def cmF (x y : Nat) : Int := if x < y then -1 else if y < x then 1 else 0
set_option maxHeartbeats 1000000 in
theorem isNaN_any (x : Nat) (w : World) : Calls Tryz.prog 101 #[.int .u64 x] w fun e w' => e = .returned (.bool false) ∧ w = w' := by
  go_enter Tryz.func101, Tryz.ntmps101
  go_wp2
  go_ret
  exact ⟨by simp, rfl⟩
set_option maxHeartbeats 1000000 in
theorem cmpU_any (x y : Nat) (w : World) : Calls Tryz.prog 73 #[.int .u64 x, .int .u64 y] w fun e w' => e = .returned (.int .i64 (cmF x y)) ∧ w = w' := by
  unfold cmF
  by_cases h1 : x < y
  · have hI : (x : Int) < y := by omega
    rw [if_pos h1]
    clear h1
    go_enter Tryz.func73, Tryz.ntmps73
    go_wp2_with (go_at_call 101; refine (isNaN_any _ _).mono ?_; rintro e w9 ⟨rfl, hw9⟩; subst hw9)
    go_ret
    exact ⟨rfl, rfl⟩
  · have hI : ¬ ((x : Int) < y) := by omega
    rw [if_neg h1]
    clear h1
    by_cases h2 : y < x
    · have hJ : (y : Int) < x := by omega
      rw [if_pos h2]
      clear h2
      go_enter Tryz.func73, Tryz.ntmps73
      go_wp2_with (go_at_call 101; refine (isNaN_any _ _).mono ?_; rintro e w9 ⟨rfl, hw9⟩; subst hw9)
      go_ret
      exact ⟨rfl, rfl⟩
    · have hJ : ¬ ((y : Int) < x) := by omega
      rw [if_neg h2]
      clear h2
      go_enter Tryz.func73, Tryz.ntmps73
      go_wp2_with (go_at_call 101; refine (isNaN_any _ _).mono ?_; rintro e w9 ⟨rfl, hw9⟩; subst hw9)
      go_ret
      exact ⟨rfl, rfl⟩
/-- a region as a tuple -/
def rgT (t : Nat × Option Nat × Nat × List UInt8) : Rg := ⟨t.1, t.2.1, t.2.2.1, t.2.2.2⟩
def tRg (x : Rg) : Nat × Option Nat × Nat × List UInt8 := (x.f, x.a, x.c, x.d)
def csT (t : Nat × Option Nat × Nat × List UInt8) : List Value := csG (rgT t)
def cmT (x y : Nat × Option Nat × Nat × List UInt8) : Int := cmF x.1 y.1
theorem ltT (x y : Nat × Option Nat × Nat × List UInt8) : Go.Proofs.ltOf cmT x y = decide (x.1 < y.1) := by
  unfold Go.Proofs.ltOf cmT cmF
  by_cases h1 : x.1 < y.1
  · simp [h1]
  · by_cases h2 : y.1 < x.1 <;> simp [h1, h2]
end Go.Proofs.YtekjfbmebekmeaaGreat
namespace Go.Proofs.YtekjfbmebekmeaaGreat
open Go.RowKit Go.Sort
set_option linter.unusedVariables false
set_option linter.unusedSimpArgs false
theorem swoT : SWO (Go.Proofs.ltOf cmT) where
  irrefl x := by rw [ltT]; simp
  trans x y z h1 h2 := by rw [ltT] at *; simp at *; omega
  ntrans x y z h1 h2 := by rw [ltT] at *; simp at *; omega
set_option maxHeartbeats 1000000 in
theorem closure_any (f1 f2 n1 n2 c1 c2 : Nat) (a1 a2 : Option Addr) (W : World) : Calls Tryz.prog 72 #[.agg #[.int .u64 f1, .slice a1 n1 c1], .agg #[.int .u64 f2, .slice a2 n2 c2]] W fun e w' => e = .returned (.int .i64 (cmF f1 f2)) ∧ ∃ q os', w' = grow (W.drewN q) os' := by
  have hcon := fun W' => cmpU_any f1 f2 W'
  generalize cmF f1 f2 = r at hcon ⊢
  go_enter Tryz.func72, Tryz.ntmps72
  go_wp2_with (go_at_call 73; refine (hcon _).mono ?_; rintro e w' ⟨rfl, hw⟩; subst hw)
  go_ret
  exact ⟨rfl, 0, _, by rw [alloc_eq_grow, alloc_eq_grow, grow_grow]; rfl⟩
theorem cmpLaysT (blk off size : Nat) (w : World) : Go.Proofs.CmpLays Tryz.prog 72 #[] csT 2 cmT blk off size w :=
  fun _ _ _ _ x y => closure_any x.1 y.1 x.2.2.2.length y.2.2.2.length x.2.2.1 y.2.2.1 (x.2.1.map fun b => ⟨b, 0, none⟩) (y.2.1.map fun b => ⟨b, 0, none⟩) _
theorem flatK_row (d : Array (Nat × Option Nat × Nat × List UInt8)) (j : Nat) (hj : j < d.size * 2) : (rowG (d.toList.map rgT))[j]? = some (Go.Sort.flatK csT 2 d)[j]! := by
  have h1 := Go.Sort.get_flatK csT 2 d j hj
  have hi : j / 2 < d.size := by omega
  have hx : (d.toList.map rgT)[j / 2]? = some (rgT d[j / 2]!) := by
    rw [List.getElem?_map, Array.getElem?_toList, Array.getElem?_eq_getElem hi, getElem!_pos d _ hi]
    rfl
  obtain ⟨g0, g1⟩ := rowG_get hx
  rw [h1]
  rcases Nat.mod_two_eq_zero_or_one j with h | h
  · rw [h]
    rw [show j / 2 * 2 = j by omega] at g0
    rw [g0]; rfl
  · rw [h]
    rw [show j / 2 * 2 + 1 = j by omega] at g1
    rw [g1]; rfl
theorem map_rgT (R : List Rg) : (R.map tRg).toArray.toList.map rgT = R := by
  simp only [List.map_map]
  conv => rhs; rw [← List.map_id R]
  apply List.map_congr_left
  intro x _
  rfl
theorem sortW_heap (w : World) (g n : Nat) (d : Array (Nat × Option Nat × Nat × List UInt8)) (os : Array Obj) (cur : List Value) (hg : w.heap[g]? = some (.cells cur.toArray 36 (0, 0))) (hd : d.size * 2 ≤ cur.length) :
    (∃ cur' : List Value, (Go.Proofs.sortWorldK csT 2 w g 0 n d os).heap[g]? = some (.cells cur'.toArray 36 (0, 0)) ∧ cur'.length = cur.length ∧ cur'.take (d.size * 2) = rowG (d.toList.map rgT)) ∧ Chg (fun b => b = g) w (Go.Proofs.sortWorldK csT 2 w g 0 n d os) := by
  have hgl := (Array.getElem?_eq_some_iff.1 hg).1
  have h1 : (Go.Sort.putRowK csT 2 (Go.Sort.ahead w n) g 0 d).heap[g]? = some (.cells (putCells id 0 (Go.Sort.flatK csT 2 d) cur.toArray) 36 (0, 0)) := by
    show ((w.heap).modify g _)[g]? = _
    simp [Array.getElem?_modify, hg, onCells]
  have hsz : (Go.Sort.putRowK csT 2 (Go.Sort.ahead w n) g 0 d).heap.size = w.heap.size := by
    show ((w.heap).modify g _).size = _
    simp
  constructor
  · refine ⟨(putCells id 0 (Go.Sort.flatK csT 2 d) cur.toArray).toList, ?_, by simp [putCells], ?_⟩
    · show ((Go.Sort.putRowK csT 2 (Go.Sort.ahead w n) g 0 d).heap ++ os)[g]? = _
      rw [Array.getElem?_append_left (by rw [hsz]; exact hgl), h1, Array.toArray_toList]
    · apply List.ext_getElem?
      intro j
      rw [List.getElem?_take, Array.getElem?_toList]
      by_cases hj : j < d.size * 2
      · rw [if_pos hj, flatK_row d j hj]
        simp only [putCells, Array.getElem?_mapIdx, List.getElem?_toArray]
        rw [List.getElem?_eq_getElem (by omega)]
        simp [hj]
      · rw [if_neg hj, List.getElem?_eq_none (by rw [rowG_len, List.length_map, Array.length_toList]; omega)]
  · refine ⟨rfl, rfl, rfl, ?_, fun k hk hs => ?_⟩
    · show w.heap.size ≤ ((Go.Sort.putRowK csT 2 (Go.Sort.ahead w n) g 0 d).heap ++ os).size
      rw [Array.size_append, hsz]; omega
    · show ((Go.Sort.putRowK csT 2 (Go.Sort.ahead w n) g 0 d).heap ++ os)[k]? = _
      rw [Array.getElem?_append_left (by rw [hsz]; exact hk)]
      show ((w.heap).modify g _)[k]? = _
      rw [Array.getElem?_modify, if_neg (fun e => hs e.symm)]
theorem sort_any (w : World) (B g N c : Nat) (R : List Rg) (hR : R.length = N) (hown : w.ownsRow B 36 2 (.slice (some ⟨g, 0, none⟩) N c) N (rowG R)) (hN : N < 4611686018427387904) :
    Calls Tryz.prog 71 #[.slice (some ⟨g, 0, none⟩) N c, .func (.func 72) #[] #[]] w fun e w' => e = .returned (.tuple #[]) ∧ ∃ R' : List Rg, R'.Perm R ∧ R'.Pairwise (fun x y => x.f ≤ y.f) ∧ w'.ownsRow B 36 2 (.slice (some ⟨g, 0, none⟩) N c) N (rowG R') ∧ Chg (fun b => b = g) w w' := by
  obtain ⟨cur, hg, hB, hnc, hcm, hcl, hct, hxl⟩ := owns_blk hown
  have hgl := (Array.getElem?_eq_some_iff.1 hg).1
  have hds : (R.map tRg).toArray.size = N := by simp [hR]
  have hH : Go.Sort.HoldsK csT 2 w g 0 (R.map tRg).toArray := fun j hj => by
    rw [Go.Sort.size_flatK, hds] at hj
    have h1 := flatK_row (R.map tRg).toArray j (by rw [hds]; exact hj)
    rw [map_rgT] at h1
    have h2 := own_cellK hown h1
    rw [Nat.zero_add]
    exact h2
  have C := Go.Proofs.AnyQ.slices_SortFunc Tryz.sortR 2 Tryz.isAgg36 Tryz.sizeOf36 csT (fun _ => rfl) (fun x v hv => by simp [csT, csG, daV] at hv; rcases hv with rfl | rfl <;> rfl) cmT swoT 72 #[] g 0 c (R.map tRg).toArray w (enters_of Tryz.func72 (by kernel_rfl) rfl) (cmpLaysT g 0 _ w) hH hgl (by rw [hds]; exact hN)
  change Calls Tryz.prog 71 _ _ _ at C
  rw [hds] at C
  refine C.mono ?_
  rintro e w' ⟨he, d', n, os, hp, hs, rfl⟩
  have hd' : d'.size = N := by rw [hp.1, hds]
  obtain ⟨⟨cur', h1, h2, h3⟩, hc⟩ := sortW_heap w g n d' os cur hg (by rw [hd', hcl]; exact Nat.mul_le_mul_right _ hnc)
  refine ⟨he, d'.toList.map rgT, ?_, ?_, blk_owns h1 hB hnc hcm (by rw [h2, hcl]) (by rw [← hd']; exact h3), hc⟩
  · have hpp := hp.2.2
    have e1 : d'.extract 0 N = d' := by rw [← hd']; simp
    have e2 : (R.map tRg).toArray.extract 0 N = (R.map tRg).toArray := by
      have := Array.extract_size (xs := (R.map tRg).toArray)
      rw [hds] at this; exact this
    rw [e1, e2] at hpp
    have := hpp.map rgT
    rw [map_rgT] at this
    exact this
  · rw [List.pairwise_map, List.pairwise_iff_getElem]
    intro i j hi hj hij
    rw [Array.length_toList] at hi hj
    have h4 := hs i j (Nat.zero_le _) hij (by omega)
    rw [ltT] at h4
    rw [getElem!_pos d' i hi, getElem!_pos d' j hj] at h4
    simp at h4
    exact h4
end Go.Proofs.YtekjfbmebekmeaaGreat
