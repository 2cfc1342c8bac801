import Derived.Test.YtekjfbmebekmeaaGreatGa10
import Derived.Test.YtekjfbmebekmeaaGreatGa17
import Derived.Shelf.SlSortCmp.WholeK
import Derived.Ground.SlsfProg
namespace Go.Proofs.YtekjfbmebekmeaaGreat
open Go.RowKit
set_option linter.unusedVariables false
set_option linter.unusedSimpArgs false
set_option maxHeartbeats 2000000 in
set_option maxRecDepth 100000 in
theorem growN_any (w : World) (n : Nat) (hn : n * 32 ≤ 140737488355328) :
    Calls Tryz.prog 98 #[.slice none 0 0, .int .i64 (n : Nat)] w fun e w' => ∃ a c, e = .returned (.slice a 0 c) ∧ w'.ownsRow w.heap.size 36 2 (.slice a 0 c) 0 [] ∧ Out w w' := by
  obtain ⟨i0, hi0, hz0, hz1, hz2⟩ := info_parts infoR
  have hnI : ¬ ((n : Int) < 0) := by omega
  by_cases h0 : n = 0
  · subst h0
    have hx : ((0 : Nat) : Int) = 0 := rfl
    go_enter Tryz.func98, Tryz.ntmps98
    go_wp2
    go_ret
    exact ⟨none, 0, rfl, World.ownsRow_nil _ _ _ _, Out.refl w⟩
  · have hpos : (0 : Int) < (n : Int) := by omega
    have h1 := fun ty => Lib.run_append_grow_zeros (P := Tryz.prog) w 22 3 ty 36 i0 _ .i64 .i64 Tryz.underlying22 Tryz.underlying3 hi0 hz0 none 0 0 [] (by rw [hz1]; exact run_firstCells_none _ 2 0 0 0) n (by omega) (by omega) (by omega) (by omega) (by rw [hz2]; omega) (by rw [hz2, Nat.zero_add]; exact growslice_fits (by omega) hn)
    have hG1 := grownCap_ge w (0 + n) 0 36
    have hG2 := grownCap_le_maxLen w (0 + n) 0 36 (by unfold maxLen; omega)
    generalize grownCap w (0 + n) 0 36 = G at h1 hG1 hG2
    simp only [Nat.zero_add] at h1 hG1 hG2
    obtain ⟨W1, hW1⟩ : ∃ W1, W1 = w.drew.alloc (.cells ((([] : List Value).toArray ++ Builtin.zeroCells (Value.agg #[.int .u64 0, .slice none 0 0]).cells n ++ Builtin.zeroCells (Value.agg #[.int .u64 0, .slice none 0 0]).cells (G - n)) : Array Value) 36) := ⟨_, rfl⟩
    have hr : ∀ ty, (Builtin.append_ #[22, 3] ty #[.slice none 0 0, .int .i64 (n : Nat)]).run Tryz.prog w = .ok (.slice (some ⟨w.heap.size, 0, none⟩) n G) W1 := fun ty => by rw [hW1]; exact h1 ty
    have hown : W1.ownsRow w.heap.size 36 2 (.slice (some ⟨w.heap.size, 0, none⟩) 0 G) 0 [] := by
      rw [hW1]
      exact World.ownsRow_made w.drew _ G (Nat.le_refl _) hG2 (by simp [size_zeroCells, Value.cells]; omega)
    have ho : Out w W1 := by rw [hW1]; exact (Out.refl w).drew.alloc _
    have HR := hidOf hr
    have HOW := hidOf hown
    have HO := hidOf ho
    have hGI : (0 : Int) ≤ (G : Int) := by omega
    clear hr hown ho h1 hW1 h0
    go_enter Tryz.func98, Tryz.ntmps98
    go_wp2_with (at_builtin; refine Lib.wpList_append_run _ rfl _ _ _ _ rfl _ _ rfl rfl _ _ (HR.out _) ?_)
    go_ret
    exact ⟨_, _, rfl, HOW.out, HO.out⟩
structure VI where
  a : Option Addr
  c : Nat
  L : List Rg
def SrcG (w : World) (a : Option Addr) (L : List Rg) : Prop := L = [] ∨ ∃ ad, a = some ad ∧ ∀ j u, (rowG L)[j]? = some u → w.cell? (ad.add j) = some u
theorem SrcG.out {w w' : World} {a : Option Addr} {L : List Rg} (h : SrcG w a L) (o : Out w w') : SrcG w' a L := h.imp id (fun ⟨ad, h1, h2⟩ => ⟨ad, h1, fun j u hj => cell_later o (h2 j u hj)⟩)
def InV (w : World) (a : Option Addr) (V : List VI) : Prop := V = [] ∨ ∃ g o, a = some ⟨g, o, none⟩ ∧ ∀ i x, V[i]? = some x → w.cell? ⟨g, o + i, none⟩ = some (.slice x.a x.L.length x.c) ∧ SrcG w x.a x.L
theorem app_any (w : World) (B : Nat) (oa : Option Addr) (k oc : Nat) (R : List Rg) (a : Option Addr) (c : Nat) (L : List Rg) (own : w.ownsRow B 36 2 (.slice oa k oc) k (rowG R)) (h : SrcG w a L) (hb : (k + L.length) * 32 ≤ 140737488355328) (hB : B ≤ w.heap.size) :
    ∃ a' c' W1, (∀ ty, (Builtin.append_ #[22, 22] ty #[.slice oa k oc, .slice a L.length c]).run Tryz.prog w = .ok (.slice a' (k + L.length) c') W1) ∧ W1.ownsRow B 36 2 (.slice a' (k + L.length) c') (k + L.length) (rowG (R ++ L)) ∧ Chg (fun b => (Value.slice oa k oc).ownBlock = some b) w W1 := by
  obtain ⟨i0, hi0, hz0, hz1, hz2⟩ := info_parts infoR
  rcases h with rfl | ⟨ad, rfl, hsrc⟩
  · refine ⟨oa, oc, w, fun ty => ?_, by rw [List.append_nil]; exact own, Chg.refl _ w⟩
    have hle : k ≤ oc := by
      rcases own.2 with ⟨e, h0⟩ | ⟨g, cap, cur, e, _, _, h1, _⟩
      · simp at e; omega
      · simp at e; omega
    cases a <;> cases oa <;> simp [Builtin.append_, run_underlying Tryz.underlying22, sizeOf, typeInfo, hi0, Builtin.lenOf, Builtin.firstCells, loadCells, loadCellsFrom, storeCells, hle]
  · obtain ⟨v, W1, hr, hown, hgr, _, _⟩ := run_append_own_at (P := Tryz.prog) w B 22 22 36 i0 _ 2 32 Tryz.underlying22 hi0 hz0 hz1 hz2 rfl (by decide) (.slice oa k oc) k (rowG R) own ad L.length c (rowG L) (rowG_len L) hsrc (rowG_one L) (by unfold maxLen; omega) hb hB
    obtain ⟨a2, c2, rfl, _, _⟩ := own_slice hown
    exact ⟨a2, c2, W1, fun ty => hr, by rw [rowG_app]; exact hown, Chg.of_grown hgr (fun q hq => hq)⟩
def conV (V : List VI) : List Rg := V.flatMap VI.L
theorem conV_take {V : List VI} {k : Nat} {x : VI} (h : V[k]? = some x) : conV (V.take (k + 1)) = conV (V.take k) ++ x.L := by
  rw [List.take_add_one, h]; simp [conV]
theorem conV_le (V : List VI) (k : Nat) : (conV (V.take k)).length ≤ (conV V).length := by
  have e : conV V = conV (V.take k) ++ conV (V.drop k) := by
    conv => lhs; rw [← List.take_append_drop k V]
    simp only [conV, List.flatMap_append]
  rw [e, List.length_append]; omega
set_option maxHeartbeats 2000000 in
set_option maxRecDepth 100000 in
theorem concat_any (w : World) (a : Option Addr) (c : Nat) (V : List VI) (h : InV w a V) (hV : V.length ≤ 5864062014805) (hN : (conV V).length ≤ 4398046511104) :
    Calls Tryz.prog 69 #[.slice a V.length c] w fun e w' => ∃ a' c', e = .returned (.slice a' (conV V).length c') ∧ w'.ownsRow w.heap.size 36 2 (.slice a' (conV V).length c') (conV V).length (rowG (conV V)) ∧ Out w w' := by
  obtain ⟨n, hn⟩ : ∃ n, Hid (n = V.length) := ⟨_, rfl⟩
  rw [← hn.out] at hV ⊢
  have HI := hidOf h
  have HN := hidOf hN
  clear h hN
  go_enter Tryz.func69, Tryz.ntmps69
  go_wp2
  go_loopw [3, 11] (fun sv kv wr => ∃ k q : Nat, sv = .int .i64 (q : Nat) ∧ kv = .int .i64 (k : Nat) ∧ k ≤ n ∧ Hid (q = (conV (V.take k)).length) ∧ Hid (Out w wr)) (fun _ kv _ => n - (intOf kv).toNat)
  case atStart => exact ⟨0, 0, rfl, rfl, Nat.zero_le _, hidOf (by simp [conV]), hidOf (Out.refl w)⟩
  case round =>
    obtain ⟨k, q, rfl, rfl, hk, HQ, OR⟩ := hrel
    by_cases hkn : k < n
    · have hlt : (k : Int) < n := by omega
      obtain ⟨x, hx⟩ : ∃ x, V[k]? = some x := ⟨_, List.getElem?_eq_getElem (by rw [← hn.out]; exact hkn)⟩
      obtain ⟨g, o, rfl, hcs⟩ : ∃ g o, a = some ⟨g, o, none⟩ ∧ _ := HI.out.resolve_left (fun e => by rw [e] at hx; simp at hx)
      obtain ⟨q0, _⟩ := hcs k x hx
      have p0 := cell_later OR.out q0
      have h1 := conV_take hx
      have h2 := conV_le V (k + 1)
      have h3 := HN.out
      have h4 := HQ.out
      rw [h1, List.length_append, ← h4] at h2
      obtain ⟨xl, hxl⟩ : ∃ xl, Hid (xl = x.L.length) := ⟨_, rfl⟩
      rw [← hxl.out] at p0 h2
      have hq2 : q + xl ≤ 4398046511104 := by omega
      have hwq : IntKind.i64.wrap ((q : Int) + xl) = (q : Int) + xl := by rw [IntKind.wrap_i64]; omega
      have hnn : ¬ ((q : Int) + xl < 0) := by omega
      have H1 := hidOf h1
      clear hcs q0 h1 h2 h3 h4
      go_wp2
      go_roundw
      case rel => exact ⟨k + 1, q + xl, by simp, by simp, by omega, hidOf (by rw [H1.out, List.length_append, ← HQ.out, hxl.out]), OR⟩
      case measure => simp [intOf]; omega
    · have hlt : ¬ (k : Int) < n := by omega
      obtain rfl : n = k := by omega
      have et : V.take n = V := by rw [hn.out]; exact List.take_length
      have hq := HQ.out
      rw [et] at hq
      have HQ2 := hidOf hq
      have GR := hidOf (growN_any wr q (by rw [hq]; have := HN.out; omega))
      clear hq et
      go_upto_region 11 with (go_at_call 98; refine GR.out.mono ?_; rintro e w1 ⟨ga, gc, rfl, hown, ho1⟩; have OW1 := hidOf (own_base hown OR.out.size); have O1 := hidOf (OR.out.trans ho1); clear hown ho1)
      clear OR
      go_wp2
      go_loopw [6, 27] (fun ov kv wr2 => ∃ (k2 q2 : Nat) (oa : Option Addr) (oc : Nat), ov = .slice oa q2 oc ∧ kv = .int .i64 (k2 : Nat) ∧ k2 ≤ n ∧ Hid (q2 = (conV (V.take k2)).length) ∧ Hid (wr2.ownsRow w.heap.size 36 2 (.slice oa q2 oc) q2 (rowG (conV (V.take k2)))) ∧ Hid (Out w wr2)) (fun _ kv _ => n - (intOf kv).toNat)
      case atStart => exact ⟨0, 0, ga, gc, rfl, rfl, Nat.zero_le _, hidOf (by simp [conV]), OW1, O1⟩
      case round =>
        obtain ⟨k2, q2, oa, oc, rfl, rfl, hk2, HQ3, OW2, O2⟩ := hrel
        by_cases hkn : k2 < n
        · have hlt2 : (k2 : Int) < n := by omega
          obtain ⟨x, hx⟩ : ∃ x, V[k2]? = some x := ⟨_, List.getElem?_eq_getElem (by rw [← hn.out]; exact hkn)⟩
          obtain ⟨g, o, rfl, hcs⟩ : ∃ g o, a = some ⟨g, o, none⟩ ∧ _ := HI.out.resolve_left (fun e => by rw [e] at hx; simp at hx)
          obtain ⟨q0, hsrc⟩ := hcs k2 x hx
          have p0 := cell_later O2.out q0
          have h1 := conV_take hx
          have h2 := conV_le V (k2 + 1)
          have h3 := HN.out
          have h4 := HQ3.out
          rw [h1, List.length_append, ← h4] at h2
          obtain ⟨a', c', W1, hr, hown, hc⟩ := app_any _ w.heap.size oa q2 oc (conV (V.take k2)) x.a x.c x.L OW2.out (hsrc.out O2.out) (by omega) O2.out.size
          obtain ⟨xl, hxl⟩ : ∃ xl, Hid (xl = x.L.length) := ⟨_, rfl⟩
          rw [← hxl.out] at p0 hr hown
          have HR := hidOf hr
          have HO := hidOf hown
          have HC := hidOf hc
          have H1 := hidOf h1
          clear hcs q0 h1 h2 h3 h4 hr hown hc hsrc hx
          go_upto_region 14 with (at_builtin; refine Lib.wpList_append_run _ rfl _ _ _ _ rfl _ _ rfl rfl _ _ (HR.out _) ?_)
          go_wp2
          go_roundw
          case rel =>
            have hown := HO.out
            rw [← H1.out] at hown
            exact ⟨k2 + 1, q2 + xl, a', c', rfl, by simp, by omega, hidOf (by rw [H1.out, List.length_append, ← HQ3.out, hxl.out]), hidOf hown, hidOf (Chg.out HC.out O2.out (fun b hb => (OW2.out.lt b hb).1))⟩
          case measure => simp [intOf]; omega
        · have hlt2 : ¬ (k2 : Int) < n := by omega
          obtain rfl : n = k2 := by omega
          have et : V.take n = V := by rw [hn.out]; exact List.take_length
          have hq := HQ3.out
          have hown := OW2.out
          rw [et] at hq hown
          have HQ4 := hidOf hq
          have HOW := hidOf hown
          clear hq hown et
          go_wp2
          go_ret
          rw [← HQ4.out]
          exact ⟨oa, oc, rfl, HOW.out, O2.out⟩
end Go.Proofs.YtekjfbmebekmeaaGreat
namespace Go.Proofs
open Go.Shelf
def Tryz.sortR_ren : Go.Shelf.Ren := ⟨fun | 6 => 71 | 15 => 100 | 14 => 99 | 28 => 118 | 29 => 109 | 20 => 110 | 21 => 111 | 22 => 112 | 23 => 113 | 24 => 114 | 25 => 115 | 26 => 116 | 27 => 117 | 46 => 122 | 47 => 123 | 48 => 124 | 49 => 125 | 50 => 126 | 57 => 129 | n => n, fun | 22 => 22 | 24 => 36 | 25 => 113 | 3 => 3 | 39 => 140 | 0 => 0 | 53 => 105 | 55 => 28 | 4 => 4 | 46 => 148 | 45 => 147 | 50 => 152 | 5 => 5 | 9 => 9 | 66 => 157 | 70 => 161 | 76 => 164 | 77 => 121 | n => n, fun | n => n⟩
theorem Tryz.sortR : Go.Proofs.SlLaysF0.n6 Tryz.prog Tryz.sortR_ren := {
  mixed := by kernel_rfl
  f6 := ⟨Tryz.f71.name, by decide, Tryz.func71.trans (congrArg some (by kernel_rfl))⟩
  f14 := ⟨Tryz.f99.name, by decide, Tryz.func99.trans (congrArg some (by kernel_rfl))⟩
  f15 := Tryz.func100.trans (congrArg some (by kernel_rfl))
  f20 := ⟨Tryz.f110.name, by decide, Tryz.func110.trans (congrArg some (by kernel_rfl))⟩
  f21 := ⟨Tryz.f111.name, by decide, Tryz.func111.trans (congrArg some (by kernel_rfl))⟩
  f22 := ⟨Tryz.f112.name, by decide, Tryz.func112.trans (congrArg some (by kernel_rfl))⟩
  f23 := ⟨Tryz.f113.name, by decide, Tryz.func113.trans (congrArg some (by kernel_rfl))⟩
  f24 := ⟨Tryz.f114.name, by decide, Tryz.func114.trans (congrArg some (by kernel_rfl))⟩
  f25 := ⟨Tryz.f115.name, by decide, Tryz.func115.trans (congrArg some (by kernel_rfl))⟩
  f26 := ⟨Tryz.f116.name, by decide, Tryz.func116.trans (congrArg some (by kernel_rfl))⟩
  f27 := ⟨Tryz.f117.name, by decide, Tryz.func117.trans (congrArg some (by kernel_rfl))⟩
  f28 := Tryz.func118.trans (congrArg some (by kernel_rfl))
  f29 := Tryz.func109.trans (congrArg some (by kernel_rfl))
  f46 := ⟨Tryz.f122.name, by decide, Tryz.func122.trans (congrArg some (by kernel_rfl))⟩
  f47 := Tryz.func123.trans (congrArg some (by kernel_rfl))
  f48 := Tryz.func124.trans (congrArg some (by kernel_rfl))
  f49 := ⟨Tryz.f125.name, by decide, Tryz.func125.trans (congrArg some (by kernel_rfl))⟩
  f50 := ⟨Tryz.f126.name, by decide, Tryz.func126.trans (congrArg some (by kernel_rfl))⟩
  f57 := ⟨Tryz.f129.name, by decide, Tryz.func129.trans (congrArg some (by kernel_rfl))⟩
  t0 := Tryz.underlying0
  a0 := Tryz.isAgg0
  z0 := Tryz.sizeOf0
  v0 := Tryz.zeroValue0
  t3 := Tryz.underlying3
  a3 := Tryz.isAgg3
  z3 := Tryz.sizeOf3
  v3 := Tryz.zeroValue3
  t4 := Tryz.underlying4
  a4 := Tryz.isAgg4
  z4 := Tryz.sizeOf4
  v4 := Tryz.zeroValue4
  t5 := Tryz.underlying5
  a5 := Tryz.isAgg5
  z5 := Tryz.sizeOf5
  v5 := Tryz.zeroValue5
  t9 := Tryz.underlying9
  a9 := Tryz.isAgg9
  z9 := Tryz.sizeOf9
  v9 := Tryz.zeroValue9
  t22 := Tryz.underlying22
  a22 := Tryz.isAgg22
  z22 := Tryz.sizeOf22
  v22 := Tryz.zeroValue22
  t25 := Tryz.underlying113
  a25 := Tryz.isAgg113
  z25 := Tryz.sizeOf113
  v25 := Tryz.zeroValue113
  t39 := Tryz.underlying140
  a39 := Tryz.isAgg140
  z39 := Tryz.sizeOf140
  v39 := Tryz.zeroValue140
  t45 := Tryz.underlying147
  a45 := Tryz.isAgg147
  z45 := Tryz.sizeOf147
  v45 := Tryz.zeroValue147
  t46 := Tryz.underlying148
  a46 := Tryz.isAgg148
  z46 := Tryz.sizeOf148
  v46 := Tryz.zeroValue148
  t50 := Tryz.underlying152
  a50 := Tryz.isAgg152
  z50 := Tryz.sizeOf152
  v50 := Tryz.zeroValue152
  t53 := Tryz.underlying105
  a53 := Tryz.isAgg105
  z53 := Tryz.sizeOf105
  v53 := Tryz.zeroValue105
  t55 := Tryz.underlying28
  a55 := Tryz.isAgg28
  z55 := Tryz.sizeOf28
  v55 := Tryz.zeroValue28
  t66 := Tryz.underlying157
  a66 := Tryz.isAgg157
  z66 := Tryz.sizeOf157
  v66 := Tryz.zeroValue157
  t70 := Tryz.underlying161
  a70 := Tryz.isAgg161
  z70 := Tryz.sizeOf161
  v70 := Tryz.zeroValue161
  t76 := Tryz.underlying164
  a76 := Tryz.isAgg164
  z76 := Tryz.sizeOf164
  v76 := Tryz.zeroValue164
  t77 := Tryz.underlying121
  a77 := Tryz.isAgg121
  z77 := Tryz.sizeOf121
  v77 := Tryz.zeroValue121 }
end Go.Proofs
namespace Go.Proofs.YtekjfbmebekmeaaGreat
open Go.RowKit
set_option linter.unusedVariables false
set_option linter.unusedSimpArgs false
set_option maxHeartbeats 2000000 in
theorem all_any (w : World) (B s o : Nat) (v : Value) (X : List Rw) (h : Sh B w v X) (hc : w.cell? ⟨s, o, none⟩ = some v) (hX : X.length ≤ 5864062014805) (hN : (flat X).length ≤ 4398046511104) :
    Calls Tryz.prog 70 #[.pointer (some ⟨s, o, none⟩)] w fun e w' => ∃ a' c', e = .returned (.slice a' (flat X).length c') ∧ w'.ownsRow w.heap.size 36 2 (.slice a' (flat X).length c') (flat X).length (rowG (flat X)) ∧ Out w w' := by
  obtain ⟨a, c, rfl, ha, _⟩ := own_slice h.own
  have hcv : conV (X.map fun x => (⟨some ⟨x.g, 0, none⟩, x.c, x.L⟩ : VI)) = flat X := by simp [conV, flat, List.flatMap_map]
  have hin : InV w a (X.map fun x => (⟨some ⟨x.g, 0, none⟩, x.c, x.L⟩ : VI)) := by
    by_cases hX0 : X = []
    · left; simp [hX0]
    · right
      obtain ⟨x0, hx0⟩ : ∃ x0, X[0]? = some x0 := ⟨_, List.getElem?_eq_getElem (List.length_pos_iff.2 hX0)⟩
      obtain ⟨gR, cR, e, _⟩ := h.at_ hx0
      simp only [Value.slice.injEq] at e
      refine ⟨gR, 0, e.1, fun i x hx => ?_⟩
      rw [List.getElem?_map] at hx
      cases hxi : X[i]? with
      | none => rw [hxi] at hx; cases hx
      | some y =>
        rw [hxi] at hx
        simp only [Option.map_some, Option.some.injEq] at hx
        subst hx
        obtain ⟨gR2, cR2, e2, h2, _⟩ := h.at_ hxi
        simp only [Value.slice.injEq] at e2
        rw [e.1] at e2
        simp only [Option.some.injEq, Addr.mk.injEq] at e2
        rw [Nat.zero_add, e2.1.1]
        refine ⟨h2, .inr ⟨⟨y.g, 0, none⟩, rfl, fun j u hj => ?_⟩⟩
        rw [add_B, Nat.zero_add]
        exact (own_cellK (h.rows y (List.mem_of_getElem? hxi)) hj).1
  have C := concat_any w a c (X.map fun x => (⟨some ⟨x.g, 0, none⟩, x.c, x.L⟩ : VI)) hin (by rw [List.length_map]; exact hX) (by rw [hcv]; exact hN)
  rw [hcv, List.length_map] at C
  obtain ⟨n, hn⟩ : ∃ n, Hid (n = X.length) := ⟨_, rfl⟩
  rw [← hn.out] at C hc
  have HC := hidOf C
  generalize flat X = F at *
  obtain ⟨q, hq⟩ : ∃ q, Hid (q = F.length) := ⟨_, rfl⟩
  rw [← hq.out] at HC ⊢
  clear h hcv hin C hX hN ha
  go_enter Tryz.func70, Tryz.ntmps70
  go_wp2_with (go_at_call 69; refine HC.out.mono ?_; rintro e w1 ⟨a', c', rfl, hown, ho1⟩; have HO := hidOf hown; have O1 := hidOf ho1; clear hown ho1)
  go_ret
  exact ⟨a', c', rfl, HO.out, O1.out⟩
def cmF (x y : Nat) : Int := if x < y then -1 else if y < x then 1 else 0
set_option maxHeartbeats 1000000 in
theorem isNaN_any (x : Nat) (w : World) : Calls Tryz.prog 101 #[.int .u64 x] w fun e w' => e = .returned (.bool false) ∧ w = w' := by
  go_enter Tryz.func101, Tryz.ntmps101
  go_wp2
  go_ret
  exact ⟨by simp, rfl⟩
set_option maxHeartbeats 1000000 in
theorem cmpU_any (x y : Nat) (w : World) : Calls Tryz.prog 73 #[.int .u64 x, .int .u64 y] w fun e w' => e = .returned (.int .i64 (cmF x y)) ∧ w = w' := by
  unfold cmF
  by_cases h1 : x < y
  · have hI : (x : Int) < y := by omega
    rw [if_pos h1]
    clear h1
    go_enter Tryz.func73, Tryz.ntmps73
    go_wp2_with (go_at_call 101; refine (isNaN_any _ _).mono ?_; rintro e w9 ⟨rfl, hw9⟩; subst hw9)
    go_ret
    exact ⟨rfl, rfl⟩
  · have hI : ¬ ((x : Int) < y) := by omega
    rw [if_neg h1]
    clear h1
    by_cases h2 : y < x
    · have hJ : (y : Int) < x := by omega
      rw [if_pos h2]
      clear h2
      go_enter Tryz.func73, Tryz.ntmps73
      go_wp2_with (go_at_call 101; refine (isNaN_any _ _).mono ?_; rintro e w9 ⟨rfl, hw9⟩; subst hw9)
      go_ret
      exact ⟨rfl, rfl⟩
    · have hJ : ¬ ((y : Int) < x) := by omega
      rw [if_neg h2]
      clear h2
      go_enter Tryz.func73, Tryz.ntmps73
      go_wp2_with (go_at_call 101; refine (isNaN_any _ _).mono ?_; rintro e w9 ⟨rfl, hw9⟩; subst hw9)
      go_ret
      exact ⟨rfl, rfl⟩
def rgT (t : Nat × Option Nat × Nat × List UInt8) : Rg := ⟨t.1, t.2.1, t.2.2.1, t.2.2.2⟩
def tRg (x : Rg) : Nat × Option Nat × Nat × List UInt8 := (x.f, x.a, x.c, x.d)
def csT (t : Nat × Option Nat × Nat × List UInt8) : List Value := csG (rgT t)
def cmT (x y : Nat × Option Nat × Nat × List UInt8) : Int := cmF x.1 y.1
theorem ltT (x y : Nat × Option Nat × Nat × List UInt8) : Go.Proofs.ltOf cmT x y = decide (x.1 < y.1) := by
  unfold Go.Proofs.ltOf cmT cmF
  by_cases h1 : x.1 < y.1
  · simp [h1]
  · by_cases h2 : y.1 < x.1 <;> simp [h1, h2]
end Go.Proofs.YtekjfbmebekmeaaGreat
namespace Go.Proofs.YtekjfbmebekmeaaGreat
open Go.RowKit Go.Sort
set_option linter.unusedVariables false
set_option linter.unusedSimpArgs false
theorem swoT : SWO (Go.Proofs.ltOf cmT) where
  irrefl x := by rw [ltT]; simp
  trans x y z h1 h2 := by rw [ltT] at *; simp at *; omega
  ntrans x y z h1 h2 := by rw [ltT] at *; simp at *; omega
set_option maxHeartbeats 1000000 in
theorem closure_any (f1 f2 n1 n2 c1 c2 : Nat) (a1 a2 : Option Addr) (W : World) : Calls Tryz.prog 72 #[.agg #[.int .u64 f1, .slice a1 n1 c1], .agg #[.int .u64 f2, .slice a2 n2 c2]] W fun e w' => e = .returned (.int .i64 (cmF f1 f2)) ∧ ∃ q os', w' = grow (W.drewN q) os' := by
  have hcon := fun W' => cmpU_any f1 f2 W'
  generalize cmF f1 f2 = r at hcon ⊢
  go_enter Tryz.func72, Tryz.ntmps72
  go_wp2_with (go_at_call 73; refine (hcon _).mono ?_; rintro e w' ⟨rfl, hw⟩; subst hw)
  go_ret
  exact ⟨rfl, 0, _, by rw [alloc_eq_grow, alloc_eq_grow, grow_grow]; rfl⟩
theorem cmpLaysT (blk off size : Nat) (w : World) : Go.Proofs.CmpLays Tryz.prog 72 #[] csT 2 cmT blk off size w :=
  fun _ _ _ _ x y => closure_any x.1 y.1 x.2.2.2.length y.2.2.2.length x.2.2.1 y.2.2.1 (x.2.1.map fun b => ⟨b, 0, none⟩) (y.2.1.map fun b => ⟨b, 0, none⟩) _
theorem flatK_row (d : Array (Nat × Option Nat × Nat × List UInt8)) (j : Nat) (hj : j < d.size * 2) : (rowG (d.toList.map rgT))[j]? = some (Go.Sort.flatK csT 2 d)[j]! := by
  have h1 := Go.Sort.get_flatK csT 2 d j hj
  have hi : j / 2 < d.size := by omega
  have hx : (d.toList.map rgT)[j / 2]? = some (rgT d[j / 2]!) := by
    rw [List.getElem?_map, Array.getElem?_toList, Array.getElem?_eq_getElem hi, getElem!_pos d _ hi]
    rfl
  obtain ⟨g0, g1⟩ := rowG_get hx
  rw [h1]
  rcases Nat.mod_two_eq_zero_or_one j with h | h
  · rw [h]
    rw [show j / 2 * 2 = j by omega] at g0
    rw [g0]; rfl
  · rw [h]
    rw [show j / 2 * 2 + 1 = j by omega] at g1
    rw [g1]; rfl
theorem map_rgT (R : List Rg) : (R.map tRg).toArray.toList.map rgT = R := by
  simp only [List.map_map]
  conv => rhs; rw [← List.map_id R]
  apply List.map_congr_left
  intro x _
  rfl
theorem sortW_heap (w : World) (g n : Nat) (d : Array (Nat × Option Nat × Nat × List UInt8)) (os : Array Obj) (cur : List Value) (hg : w.heap[g]? = some (.cells cur.toArray 36 (0, 0))) (hd : d.size * 2 ≤ cur.length) :
    (∃ cur' : List Value, (Go.Proofs.sortWorldK csT 2 w g 0 n d os).heap[g]? = some (.cells cur'.toArray 36 (0, 0)) ∧ cur'.length = cur.length ∧ cur'.take (d.size * 2) = rowG (d.toList.map rgT)) ∧ Chg (fun b => b = g) w (Go.Proofs.sortWorldK csT 2 w g 0 n d os) := by
  have hgl := (Array.getElem?_eq_some_iff.1 hg).1
  have h1 : (Go.Sort.putRowK csT 2 (Go.Sort.ahead w n) g 0 d).heap[g]? = some (.cells (putCells id 0 (Go.Sort.flatK csT 2 d) cur.toArray) 36 (0, 0)) := by
    show ((w.heap).modify g _)[g]? = _
    simp [Array.getElem?_modify, hg, onCells]
  have hsz : (Go.Sort.putRowK csT 2 (Go.Sort.ahead w n) g 0 d).heap.size = w.heap.size := by
    show ((w.heap).modify g _).size = _
    simp
  constructor
  · refine ⟨(putCells id 0 (Go.Sort.flatK csT 2 d) cur.toArray).toList, ?_, by simp [putCells], ?_⟩
    · show ((Go.Sort.putRowK csT 2 (Go.Sort.ahead w n) g 0 d).heap ++ os)[g]? = _
      rw [Array.getElem?_append_left (by rw [hsz]; exact hgl), h1, Array.toArray_toList]
    · apply List.ext_getElem?
      intro j
      rw [List.getElem?_take, Array.getElem?_toList]
      by_cases hj : j < d.size * 2
      · rw [if_pos hj, flatK_row d j hj]
        simp only [putCells, Array.getElem?_mapIdx, List.getElem?_toArray]
        rw [List.getElem?_eq_getElem (by omega)]
        simp [hj]
      · rw [if_neg hj, List.getElem?_eq_none (by rw [rowG_len, List.length_map, Array.length_toList]; omega)]
  · refine ⟨rfl, rfl, rfl, ?_, fun k hk hs => ?_⟩
    · show w.heap.size ≤ ((Go.Sort.putRowK csT 2 (Go.Sort.ahead w n) g 0 d).heap ++ os).size
      rw [Array.size_append, hsz]; omega
    · show ((Go.Sort.putRowK csT 2 (Go.Sort.ahead w n) g 0 d).heap ++ os)[k]? = _
      rw [Array.getElem?_append_left (by rw [hsz]; exact hk)]
      show ((w.heap).modify g _)[k]? = _
      rw [Array.getElem?_modify, if_neg (fun e => hs e.symm)]
theorem sort_any (w : World) (B g N c : Nat) (R : List Rg) (hR : R.length = N) (hown : w.ownsRow B 36 2 (.slice (some ⟨g, 0, none⟩) N c) N (rowG R)) (hN : N < 4611686018427387904) :
    Calls Tryz.prog 71 #[.slice (some ⟨g, 0, none⟩) N c, .func (.func 72) #[] #[]] w fun e w' => e = .returned (.tuple #[]) ∧ ∃ R' : List Rg, R'.Perm R ∧ R'.Pairwise (fun x y => x.f ≤ y.f) ∧ w'.ownsRow B 36 2 (.slice (some ⟨g, 0, none⟩) N c) N (rowG R') ∧ Chg (fun b => b = g) w w' := by
  obtain ⟨cur, hg, hB, hnc, hcm, hcl, hct, hxl⟩ := owns_blk hown
  have hgl := (Array.getElem?_eq_some_iff.1 hg).1
  have hds : (R.map tRg).toArray.size = N := by simp [hR]
  have hH : Go.Sort.HoldsK csT 2 w g 0 (R.map tRg).toArray := fun j hj => by
    rw [Go.Sort.size_flatK, hds] at hj
    have h1 := flatK_row (R.map tRg).toArray j (by rw [hds]; exact hj)
    rw [map_rgT] at h1
    have h2 := own_cellK hown h1
    rw [Nat.zero_add]
    exact h2
  have C := Go.Proofs.AnyQ.slices_SortFunc Tryz.sortR 2 Tryz.isAgg36 Tryz.sizeOf36 csT (fun _ => rfl) (fun x v hv => by simp [csT, csG, daV] at hv; rcases hv with rfl | rfl <;> rfl) cmT swoT 72 #[] g 0 c (R.map tRg).toArray w (enters_of Tryz.func72 (by kernel_rfl) rfl) (cmpLaysT g 0 _ w) hH hgl (by rw [hds]; exact hN)
  change Calls Tryz.prog 71 _ _ _ at C
  rw [hds] at C
  refine C.mono ?_
  rintro e w' ⟨he, d', n, os, hp, hs, rfl⟩
  have hd' : d'.size = N := by rw [hp.1, hds]
  obtain ⟨⟨cur', h1, h2, h3⟩, hc⟩ := sortW_heap w g n d' os cur hg (by rw [hd', hcl]; exact Nat.mul_le_mul_right _ hnc)
  refine ⟨he, d'.toList.map rgT, ?_, ?_, blk_owns h1 hB hnc hcm (by rw [h2, hcl]) (by rw [← hd']; exact h3), hc⟩
  · have hpp := hp.2.2
    have e1 : d'.extract 0 N = d' := by rw [← hd']; simp
    have e2 : (R.map tRg).toArray.extract 0 N = (R.map tRg).toArray := by
      have := Array.extract_size (xs := (R.map tRg).toArray)
      rw [hds] at this; exact this
    rw [e1, e2] at hpp
    have := hpp.map rgT
    rw [map_rgT] at this
    exact this
  · rw [List.pairwise_map, List.pairwise_iff_getElem]
    intro i j hi hj hij
    rw [Array.length_toList] at hi hj
    have h4 := hs i j (Nat.zero_le _) hij (by omega)
    rw [ltT] at h4
    rw [getElem!_pos d' i hi, getElem!_pos d' j hj] at h4
    simp at h4
    exact h4
end Go.Proofs.YtekjfbmebekmeaaGreat
