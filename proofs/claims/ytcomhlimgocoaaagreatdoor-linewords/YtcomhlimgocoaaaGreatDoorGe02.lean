import Derived.Test.YtcomhlimgocoaaaGreatDoorGe01
import Derived.Test.YtcomhlimgocoaaaGreatDoorGc25
import Derived.RangeFuncWrites
import Derived.Maps.OwnIn
import Derived.Shelf.SlIter.Nil
import Derived.Shelf.SortM.Plain
import Derived.Shelf.SortM.SortNone
import Derived.Ground.GgzProg
import Derived.Ground.SlgmProg
import Derived.Test.YtcomhlimgocoaaaGreatDoorProg
import Derived.Test.YtcomhlimgocoaaaGreatDoorGe00
namespace Go.Proofs.YtcomhlimgocoaaaGreatDoor
open Go.RowKit Go.Shelf
set_option linter.unusedVariables false
set_option linter.unusedSimpArgs false
attribute [local go_sem] Oper.semAt_some
/-- a row of the tables -/
abbrev Mw := { x : List UInt8 × Mn // x ∈ mnAll }
def encG (x : Mw) : Array Value := encM x.1
theorem mw_len : ∀ x ∈ mnAll, x.1.length ≤ 1000 := by decide +kernel
theorem each_seqG (F : Fence) (hd : F.depth = none) (hro : F.round = none) (h66 : F.fn 63) (h105 : F.fn 102) (n : Nat) (w0 : World) (hT : WTabs w0) :
    SeqStopsK F n Tryz.prog 63 #[] encG KC (fun ys => ys.map (fun x => x.1) = live mnAll) (fun pre => pre.map (fun x => x.1) <+: live mnAll) 111 w0 := fun l J Jx W hW hJ hJx hY h0 => by
  have hT := hT.out hW
  refine (each_inG F hd hro h66 h105 n l 111 mnAll_len (fun pre W => ∃ ps : List Mw, ps.map (fun x => x.1) = pre ∧ J ps W) (fun pre W => ∃ ps : List Mw, ps.map (fun x => x.1) = pre ∧ Jx ps W) W
    (fun s A B row ⟨ps, e, h⟩ hg hr => ⟨ps, e, hJ ps A B row h hg hr⟩) (fun s A B row ⟨ps, e, h⟩ hg hr => ⟨ps, e, hJx ps A B row h hg hr⟩)
    (fun m pre x W1 hx ⟨ps, e, h⟩ hl => yield_any hd m (YieldAt.mono (hY ps ⟨x, hx⟩ W1 h (by rw [← e, List.length_map] at hl; exact hl)) (fun e' W' h' => h'.elim (fun ⟨a, b, c⟩ => .inl ⟨a, ⟨ps ++ [⟨x, hx⟩], by rw [List.map_append, e]; rfl, b⟩, c⟩) (fun ⟨a, b⟩ => .inr ⟨a, ⟨ps ++ [⟨x, hx⟩], by rw [List.map_append, e]; rfl, b⟩⟩))))
    ⟨[], rfl, h0⟩
    reckCs hT.1 (show (Tryz.prog.info? 133).map (·.size) = some reckCs.length by kernel_rfl) reckA reckB (fun k hk w => reck_idx k (by omega) w) (fun k hk => by rw [mnR_step, reck_ent k hk, List.append_assoc]; rfl) pR
    jumpCs hT.2.1 (show (Tryz.prog.info? 107).map (·.size) = some jumpCs.length by kernel_rfl) jumpA jumpB (fun k hk w => jump_idx k (by omega) w) (fun k hk => by rw [mnJ_step, jump_ent k hk, List.append_assoc]; rfl) pJ
    memCs hT.2.2.1 (show (Tryz.prog.info? 136).map (·.size) = some memCs.length by kernel_rfl) memA memW (fun k hk w => mem_idx k (by omega) w) (fun k j hj w => idx4s (fun j => .string ⟨(memW k j).toArray⟩) j (by omega) w)
    (fun k j hk hj => (mem_all ⟨k, hk⟩ ⟨j, hj⟩).2.2.1) (fun k j hk hj => by rw [mnM_step, (mem_all ⟨k, hk⟩ ⟨j, hj⟩).1]) pM
    offCs hT.2.2.2.1 (show (Tryz.prog.info? 142).map (·.size) = some offCs.length by kernel_rfl) offA offB offS3 (fun k hk w => off_idx k (by omega) w) (fun k hk => by rw [mnO_step, off_ent k hk]) pO
    immCs hT.2.2.2.2 (show (Tryz.prog.info? 144).map (·.size) = some immCs.length by kernel_rfl) immA immB immS3 (fun k hk w => imm_idx k (by omega) w) (fun k hk => by rw [mnI_step, imm_ent k hk]) pI).mono ?_
  rintro e W' ⟨hv, ⟨ys, rfl, ps, hp, hj⟩ | ⟨pre, hpre, ps, hp, hj⟩⟩
  · exact ⟨hv, .inl ⟨ps, hp, hj⟩⟩
  · exact ⟨hv, .inr ⟨ps, by show List.map (fun x => x.val) ps <+: live mnAll; rw [hp]; exact hpre, hj⟩⟩
def dG (ps : List Mw) : DataW Unit := DL (ps.map (fun x => x.1))
theorem dG_snoc (ps : List Mw) (x : Mw) : dG (ps ++ [x]) = (dG ps).put (.string x.1.1) (mnD x.1.2) := by
  unfold dG
  rw [List.map_append]
  exact (DL_snoc _ _ _).symm
theorem KC.grown {W W' : World} {b : Nat} (hg : W.grownBy W' (some b)) (hb : ∃ o : Obj, W.heap[b]? = some o ∧ o.isCells = false) : KC W W' := by
  refine ⟨hg.size, fun k cs t fr hk => ?_⟩
  obtain ⟨o, ho, hc⟩ := hb
  refine (hg.block k (Array.getElem?_eq_some_iff.1 hk).1 (fun e => ?_)).trans hk
  cases e
  rw [hk] at ho
  cases ho
  simp [Obj.isCells] at hc
set_option maxRecDepth 40000 in
set_option maxHeartbeats 4000000 in
theorem insert_in (F : Fence) (hd : F.depth = none) (hro : F.round = none) (h66 : F.fn 63) (h105 : F.fn 102) (hI : F.fn 83) (n : Nat) (hn : 3 ≤ n) (w : World) (b : Nat) (hb : b < w.heap.size) (hm : w.ownsMap Tryz.prog 9 R4 b 0 (.map [])) (hT : WTabs w) :
    CallsIn F n Tryz.prog 83 #[.map (some b), .func (.func 63) #[] #[]] w fun e W' => (∃ v, e = .returned v) ∧ W'.ownsMap Tryz.prog 9 R4 b 107 (DL (live mnAll)) ∧ Below b w W' := by
  have h1 : 1 ≤ n := by omega
  refine callsIn_of_wp_marks Tryz.func83 rfl hI ?_ hro
  simp only [Tryz.ntmps83, List.size_toArray, List.length_cons, List.length_nil, Nat.reduceAdd, Nat.reduceSub, Array.replicate_succ, Array.replicate_zero, List.push_toArray, List.append_toArray, List.nil_append, List.cons_append]
  gi_wp2
  obtain ⟨W0, hW0⟩ : ∃ W0, w.alloc (.cells #[.map (some b)] 97) = W0 := ⟨_, rfl⟩
  have hB0 : Below w.heap.size w W0 := by rw [← hW0]; exact (Below.refl _ w).alloc (Nat.le_refl _) _
  have hbx : W0.heap[w.heap.size]? = some (.cells #[.map (some b)] 97 (0, 0)) := by rw [← hW0]; exact heap_alloc_new w _
  have hm0 : W0.ownsMap Tryz.prog 9 R4 b 0 (.map []) := by rw [← hW0]; exact hm.alloc _
  have hsz : W0.heap.size = w.heap.size + 1 := by rw [← hW0]; simp
  rw [hW0]
  clear hW0
  refine wpIn_rangeFunc_ownH hro h1 (gf := 63) (lb := #[]) rfl h66 (enters_of Tryz.func63 (by kernel_rfl) rfl)
    (each_seqG F hd hro h66 h105 (n - 1) W0 (hT.out hB0)) KC.trans (fun W l o o' _ h hc _ => KC.put W l o o' h hc) (Below.refl _ _) (fun _ => rfl)
    (fun pre W => (W.heap[w.heap.size]? = some (.cells #[.map (some b)] 97 (0, 0)) ∧ W.ownsMap Tryz.prog 9 R4 b pre.length (dG pre)) ∧ Below b w W)
    (fun _ _ _ => False)
    (OwnFrom.and (fun s X Y row hs hg hr => ⟨blk_kept hs.1 hg (fun r e => (hr r e).2), hs.2.kept hg (fun e => by have := (hr _ e.symm).1; omega)⟩) (ownFrom_below (Nat.le_of_lt hb) (by omega)))
    (fun _ _ _ _ _ hs _ _ => hs)
    ⟨⟨hbx, hm0⟩, hB0.mono (Nat.le_of_lt hb)⟩
    (fun x a' W => ∃ Bx, w.heap.size < Bx ∧ W.heap[Bx]? = some (.cells (mnC x.1.2) 77 (0, 0)) ∧ a' = { tmps := #[.map (some b), .func (.func 63) #[] #[], .pointer (some ⟨w.heap.size, 0, none⟩), undef, .string ⟨x.1.1.toArray⟩, .pointer (some ⟨Bx, 0, none⟩), .func (.func 63) #[] #[], .string ⟨x.1.1.toArray⟩, mnV x.1.2, undef, undef, undef], defers := [] })
    (fun x a' _ X Y row hs hg hr => by obtain ⟨Bx, e1, e2, e3⟩ := hs; exact ⟨Bx, e1, blk_kept e2 hg (fun r e => (hr r e).2), e3⟩)
    ?assign ?body ?done ?stop
  case assign =>
    rintro l pre ⟨⟨k, o, s, f, i⟩, hx⟩ W K ⟨⟨hc, hown⟩, hB⟩ hK
    simp only [encG, encM, mnV]
    gi_wp2
    have hlt := (Array.getElem?_eq_some_iff.1 hc).1
    exact hK _ _ ((KeepsOthers.alloc _ _).from _) (KC.alloc _ _) ⟨⟨blk_alloc hc _, hown.alloc _⟩, hB.alloc (by omega) _⟩ ⟨W.heap.size, hlt, heap_alloc_new W _, rfl⟩
  case body =>
    rintro l pre ⟨⟨k, o, s, f, i⟩, hx⟩ a' W hl hrec ⟨⟨hc, hown⟩, hB⟩ ⟨Bx, hBx, bX, rfl⟩ hlt
    have cw : W.cell? ⟨w.heap.size, 0, none⟩ = some (.map (some b)) := (blk_at hc 0).1
    have x0 : W.cell? ⟨Bx, 0, none⟩ = some (.int .u8 o) := (blk_at bX 0).1
    have x1 : W.cell? ⟨Bx, 1, none⟩ = some (.int .u8 s) := (blk_at bX 1).1
    have x2 : W.cell? ⟨Bx, 2, none⟩ = some (.int .u8 f) := (blk_at bX 2).1
    have x3 : W.cell? ⟨Bx, 3, none⟩ = some (.int .u8 i) := (blk_at bX 3).1
    have hky : keyOf Tryz.prog 9 (.string ⟨k.toArray⟩) = some (.string k) := keyOf_tx k (mw_len _ hx)
    gi_wp2_with (gi_at_mapUpdate; refine wpListIn_mapUpdate_own _ rfl _ _ _ 97 rfl 9 77 mnLaw Tryz.underlying97 R4 b pre.length _ rfl hown (by unfold maxLen; omega) _ _ _ rfl rfl hky (mnD (o, s, f, i)) [] rfl ?_; intro w1 hown1 hgrow1)
    obtain ⟨es, ck, hh, _⟩ := hown
    exact ⟨KeepsFrom.of_grownBy hgrow1 (fun j e => by cases e; omega), KC.grown hgrow1 ⟨_, hh, rfl⟩, ⟨blk_kept hc hgrow1 (fun r e => by cases e; exact ⟨_, hh, rfl⟩), by rw [dG_snoc, List.length_append]; exact hown1⟩, hB.grown hgrow1 (by have := hB.size; omega) (fun k e => by cases e; exact Nat.le_refl _)⟩
  case done =>
    rintro D zs W hD hzs ⟨⟨hc, hown⟩, hB⟩ hK
    gi_wp2
    have hl : zs.length = 107 := by
      have := congrArg List.length hzs
      rw [List.length_map] at this
      rw [this]
      decide +kernel
    have hdg : dG zs = DL (live mnAll) := by unfold dG; rw [hzs]
    rw [hl, hdg] at hown
    refine ⟨by simp, .inl ⟨_, _, rfl, run_takeDeferred hK, ?_⟩⟩
    exact ⟨_, results_none rfl _ _ _, ⟨_, rfl⟩, hown.kept (grownBy_putObj' _ D _) (fun e => by cases e; omega), hB.trans ((Below.refl b W).grown (grownBy_putObj' W D _) (by have := hB.size; omega) (fun k e => by cases e; omega))⟩
  case stop =>
    rintro D c pre W _ _ h _
    exact h.elim
theorem mk107 (w : World) : (Instr.makeMap 97 (some (.int .i64 107))).run Tryz.prog w = .ok (.map (some w.heap.size)) (w.alloc (.map #[] 0)) := by kernel_rfl
/-- the map of the mnemonics -/
theorem mnemonicsG_any (w : World) (hT : WTabs w) : Calls Tryz.prog 44 #[] w fun e w' => e = .returned (.map (some w.heap.size)) ∧ w'.ownsMap Tryz.prog 9 R4 w.heap.size 107 (DL (live mnAll)) ∧ Out w w' := by
  have hmm := mk107
  have hm0 := World.ownsMap_made w Tryz.prog 9 R4
  have CI : Hid (Calls Tryz.prog 83 #[.map (some w.heap.size), .func (.func 63) #[] #[]] (w.alloc (.map #[] 0)) fun e W' => (∃ v, e = .returned v) ∧ W'.ownsMap Tryz.prog 9 R4 w.heap.size 107 (DL (live mnAll)) ∧ Below w.heap.size (w.alloc (.map #[] 0)) W') := hidOf ((callsIn_wide (n := 5)).1 (insert_in Fence.wide rfl rfl trivial trivial trivial 5 (by omega) _ w.heap.size (by simp) hm0 (hT.out ((Out.refl w).alloc _))))
  clear hT hm0
  go_enter Tryz.func44, Tryz.ntmps44
  go_wp2_with (go_at_call 83; refine CI.out.mono ?_; rintro e w1 ⟨⟨v, rfl⟩, hown, hb⟩; have HO := hidOf hown; have HB := hidOf hb; clear hown hb)
  go_ret
  exact ⟨rfl, HO.out, Below.trans ((Below.refl _ w).alloc (Nat.le_refl _) _) HB.out⟩
end Go.Proofs.YtcomhlimgocoaaaGreatDoor
namespace Go.Proofs
open Go.RowKit Go.Maps Go.Sort Go.Shelf

def Tryz.keys43_ren : Go.Shelf.Ren := ⟨fun | 7 => 43 | 10 => 82 | n => n, fun | 23 => 97 | 26 => 9 | 3 => 77 | 28 => 95 | 0 => 0 | 27 => 94 | 33 => 49 | 4 => 4 | n => n, fun n => n⟩
theorem Tryz.keys43 : SlLaysZ.n7 Tryz.prog Tryz.keys43_ren := {
  mixed := by kernel_rfl
  f7 := ⟨ "maps.Keys[map[string]spindle/line.meaning,string,spindle/line.meaning]", of_decide_eq_true (by kernel_rfl), Tryz.func43.trans (congrArg some (by kernel_rfl))⟩
  f10 := ⟨ "maps.Keys[map[string]spindle/line.meaning,string,spindle/line.meaning]$1", of_decide_eq_true (by kernel_rfl), Tryz.func82.trans (congrArg some (by kernel_rfl))⟩
  t0 := Tryz.underlying0
  a0 := Tryz.isAgg0
  z0 := Tryz.sizeOf0
  v0 := Tryz.zeroValue0
  t4 := Tryz.underlying4
  a4 := Tryz.isAgg4
  z4 := Tryz.sizeOf4
  v4 := Tryz.zeroValue4
  t23 := Tryz.underlying97
  a23 := Tryz.isAgg97
  z23 := Tryz.sizeOf97
  v23 := Tryz.zeroValue97
  t26 := Tryz.underlying9
  a26 := Tryz.isAgg9
  z26 := Tryz.sizeOf9
  v26 := Tryz.zeroValue9
  t27 := Tryz.underlying94
  a27 := Tryz.isAgg94
  z27 := Tryz.sizeOf94
  v27 := Tryz.zeroValue94
  t28 := Tryz.underlying95
  a28 := Tryz.isAgg95
  z28 := Tryz.sizeOf95
  v28 := Tryz.zeroValue95
  t33 := Tryz.underlying49
  a33 := Tryz.isAgg49
  z33 := Tryz.sizeOf49
  v33 := Tryz.zeroValue49 }
def Tryz.sorted42_ren : Go.Shelf.Ren := ⟨fun | 6 => 42 | 8 => 80 | 9 => 81 | 11 => 120 | 13 => 122 | 12 => 121 | 23 => 145 | 24 => 146 | 14 => 136 | 15 => 137 | 16 => 138 | 17 => 139 | 18 => 140 | 19 => 141 | 20 => 142 | 21 => 143 | 22 => 144 | 25 => 157 | 26 => 158 | 27 => 159 | 28 => 160 | 29 => 161 | 30 => 162 | 31 => 181 | n => n, fun | 26 => 9 | 28 => 95 | 24 => 35 | 0 => 0 | 3 => 3 | 37 => 105 | 48 => 188 | 50 => 113 | 4 => 4 | 40 => 180 | 39 => 179 | 45 => 185 | 5 => 5 | 9 => 9 | 51 => 198 | 55 => 202 | 57 => 220 | 58 => 124 | 33 => 49 | n => n, fun n => n⟩
theorem Tryz.sorted42 : SlLaysZ.n6 Tryz.prog Tryz.sorted42_ren := {
  mixed := by kernel_rfl
  f6 := ⟨ "slices.Sorted[string]", of_decide_eq_true (by kernel_rfl), Tryz.func42.trans (congrArg some (by kernel_rfl))⟩
  f8 := ⟨ "slices.Collect[string]", of_decide_eq_true (by kernel_rfl), Tryz.func80.trans (congrArg some (by kernel_rfl))⟩
  f11 := ⟨ "slices.AppendSeq[[]string,string]", of_decide_eq_true (by kernel_rfl), Tryz.func120.trans (congrArg some (by kernel_rfl))⟩
  t0 := Tryz.underlying0
  a0 := Tryz.isAgg0
  z0 := Tryz.sizeOf0
  v0 := Tryz.zeroValue0
  t24 := Tryz.underlying35
  a24 := Tryz.isAgg35
  z24 := Tryz.sizeOf35
  v24 := Tryz.zeroValue35
  t26 := Tryz.underlying9
  a26 := Tryz.isAgg9
  z26 := Tryz.sizeOf9
  v26 := Tryz.zeroValue9
  t28 := Tryz.underlying95
  a28 := Tryz.isAgg95
  z28 := Tryz.sizeOf95
  v28 := Tryz.zeroValue95
  i26 := by kernel_rfl }
def Tryz.sort81_ren : Go.Shelf.Ren := ⟨fun | 6 => 81 | 8 => 122 | 9 => 121 | 19 => 145 | 20 => 146 | 21 => 136 | 22 => 137 | 23 => 138 | 24 => 139 | 25 => 140 | 26 => 141 | 27 => 142 | 28 => 143 | 29 => 144 | 36 => 157 | 31 => 158 | 32 => 159 | 37 => 160 | 38 => 161 | 39 => 162 | 41 => 181 | n => n, fun | 27 => 35 | 29 => 9 | 3 => 3 | 32 => 105 | 26 => 35 | 0 => 0 | 44 => 188 | 46 => 113 | 4 => 4 | 36 => 180 | 35 => 179 | 41 => 185 | 5 => 5 | 9 => 9 | 53 => 198 | 57 => 202 | 63 => 220 | 64 => 124 | n => n, fun n => n⟩
theorem Tryz.sort81 : SlLaysM.n6 Tryz.prog Tryz.sort81_ren := {
  mixed := by kernel_rfl
  f6 := ⟨ "slices.Sort[[]string,string]", of_decide_eq_true (by kernel_rfl), Tryz.func81.trans (congrArg some (by kernel_rfl))⟩
  f8 := Tryz.func122.trans (congrArg some (by kernel_rfl))
  f9 := ⟨ "slices.pdqsortOrdered[string]", of_decide_eq_true (by kernel_rfl), Tryz.func121.trans (congrArg some (by kernel_rfl))⟩
  f19 := Tryz.func145.trans (congrArg some (by kernel_rfl))
  f20 := Tryz.func146.trans (congrArg some (by kernel_rfl))
  f21 := ⟨ "slices.insertionSortOrdered[string]", of_decide_eq_true (by kernel_rfl), Tryz.func136.trans (congrArg some (by kernel_rfl))⟩
  f22 := ⟨ "slices.heapSortOrdered[string]", of_decide_eq_true (by kernel_rfl), Tryz.func137.trans (congrArg some (by kernel_rfl))⟩
  f23 := ⟨ "slices.breakPatternsOrdered[string]", of_decide_eq_true (by kernel_rfl), Tryz.func138.trans (congrArg some (by kernel_rfl))⟩
  f24 := ⟨ "slices.choosePivotOrdered[string]", of_decide_eq_true (by kernel_rfl), Tryz.func139.trans (congrArg some (by kernel_rfl))⟩
  f25 := ⟨ "slices.reverseRangeOrdered[string]", of_decide_eq_true (by kernel_rfl), Tryz.func140.trans (congrArg some (by kernel_rfl))⟩
  f26 := ⟨ "slices.partialInsertionSortOrdered[string]", of_decide_eq_true (by kernel_rfl), Tryz.func141.trans (congrArg some (by kernel_rfl))⟩
  f27 := ⟨ "cmp.Less[string]", of_decide_eq_true (by kernel_rfl), Tryz.func142.trans (congrArg some (by kernel_rfl))⟩
  f28 := ⟨ "slices.partitionEqualOrdered[string]", of_decide_eq_true (by kernel_rfl), Tryz.func143.trans (congrArg some (by kernel_rfl))⟩
  f29 := ⟨ "slices.partitionOrdered[string]", of_decide_eq_true (by kernel_rfl), Tryz.func144.trans (congrArg some (by kernel_rfl))⟩
  f31 := Tryz.func158.trans (congrArg some (by kernel_rfl))
  f32 := Tryz.func159.trans (congrArg some (by kernel_rfl))
  f36 := ⟨ "slices.siftDownOrdered[string]", of_decide_eq_true (by kernel_rfl), Tryz.func157.trans (congrArg some (by kernel_rfl))⟩
  f37 := ⟨ "slices.medianAdjacentOrdered[string]", of_decide_eq_true (by kernel_rfl), Tryz.func160.trans (congrArg some (by kernel_rfl))⟩
  f38 := ⟨ "slices.medianOrdered[string]", of_decide_eq_true (by kernel_rfl), Tryz.func161.trans (congrArg some (by kernel_rfl))⟩
  f39 := ⟨ "cmp.isNaN[string]", of_decide_eq_true (by kernel_rfl), Tryz.func162.trans (congrArg some (by kernel_rfl))⟩
  f41 := ⟨ "slices.order2Ordered[string]", of_decide_eq_true (by kernel_rfl), Tryz.func181.trans (congrArg some (by kernel_rfl))⟩
  t0 := Tryz.underlying0
  a0 := Tryz.isAgg0
  z0 := Tryz.sizeOf0
  v0 := Tryz.zeroValue0
  t3 := Tryz.underlying3
  a3 := Tryz.isAgg3
  z3 := Tryz.sizeOf3
  v3 := Tryz.zeroValue3
  t4 := Tryz.underlying4
  a4 := Tryz.isAgg4
  z4 := Tryz.sizeOf4
  v4 := Tryz.zeroValue4
  t5 := Tryz.underlying5
  a5 := Tryz.isAgg5
  z5 := Tryz.sizeOf5
  v5 := Tryz.zeroValue5
  t9 := Tryz.underlying9
  a9 := Tryz.isAgg9
  z9 := Tryz.sizeOf9
  v9 := Tryz.zeroValue9
  t26 := Tryz.underlying35
  a26 := Tryz.isAgg35
  z26 := Tryz.sizeOf35
  v26 := Tryz.zeroValue35
  t27 := Tryz.underlying35
  a27 := Tryz.isAgg35
  z27 := Tryz.sizeOf35
  v27 := Tryz.zeroValue35
  t29 := Tryz.underlying9
  a29 := Tryz.isAgg9
  z29 := Tryz.sizeOf9
  v29 := Tryz.zeroValue9
  t32 := Tryz.underlying105
  a32 := Tryz.isAgg105
  z32 := Tryz.sizeOf105
  v32 := Tryz.zeroValue105
  t35 := Tryz.underlying179
  a35 := Tryz.isAgg179
  z35 := Tryz.sizeOf179
  v35 := Tryz.zeroValue179
  t36 := Tryz.underlying180
  a36 := Tryz.isAgg180
  z36 := Tryz.sizeOf180
  v36 := Tryz.zeroValue180
  t41 := Tryz.underlying185
  a41 := Tryz.isAgg185
  z41 := Tryz.sizeOf185
  v41 := Tryz.zeroValue185
  t44 := Tryz.underlying188
  a44 := Tryz.isAgg188
  z44 := Tryz.sizeOf188
  v44 := Tryz.zeroValue188
  t46 := Tryz.underlying113
  a46 := Tryz.isAgg113
  z46 := Tryz.sizeOf113
  v46 := Tryz.zeroValue113
  t53 := Tryz.underlying198
  a53 := Tryz.isAgg198
  z53 := Tryz.sizeOf198
  v53 := Tryz.zeroValue198
  t57 := Tryz.underlying202
  a57 := Tryz.isAgg202
  z57 := Tryz.sizeOf202
  v57 := Tryz.zeroValue202
  t63 := Tryz.underlying220
  a63 := Tryz.isAgg220
  z63 := Tryz.sizeOf220
  v63 := Tryz.zeroValue220
  t64 := Tryz.underlying124
  a64 := Tryz.isAgg124
  z64 := Tryz.sizeOf124
  v64 := Tryz.zeroValue124 }

theorem Tryz.sorts42 (m : Nat) : AnyZ.SortsIn Tryz.prog Tryz.sorted42_ren Fence.wide m :=
  ⟨fun blk off cap ss W hH hblk hsz => callsIn_wide.2 (AnyM.slices_Sort_string Tryz.sort81 blk off cap ss W hH hblk hsz),
   fun p cap W => callsIn_wide.2 (AnyM.slices_Sort_string_none Tryz.sort81 p cap W)⟩

theorem Tryz.maps_Keys_43 (mb : Option Nat) (W : World) : CallsIn Fence.wide 5 Tryz.prog 43 #[.map mb] W fun e w' => e = .returned (.func (.func 82) #[] #[.pointer (some ⟨W.heap.size, 0, none⟩)]) ∧ w' = W.alloc (.cells #[.map mb] 97) :=
  AnyZ.keys_in Tryz.keys43 Fence.wide 5 trivial rfl mb W

set_option maxHeartbeats 1000000 in
theorem Tryz.slices_Sorted_keys_42_43 {H : Type} (b nn : Nat) (D0 : DataW H) (R : Value → Option (DataW H × List MemPlace)) (w : World) (hown : w.ownsMap Tryz.prog 9 R b nn D0) (hmax : Maps.size D0 ≤ maxLen) (hbytes : Maps.size D0 * 16 ≤ 140737488355328) :
    CallsIn Fence.wide 5 Tryz.prog 42 #[.func (.func 82) #[] #[.pointer (some ⟨w.heap.size, 0, none⟩)]] (w.alloc (.cells #[.map (some b)] 97)) fun e w' => ∃ (v : Value) (ss : List (List UInt8)), e = .returned v ∧ ss.Perm (strKeys D0) ∧
      w'.ownsRow (w.alloc (.cells #[.map (some b)] 97)).heap.size 9 1 v ss.length ((ss.mergeSort (fun x y => decide (x ≤ y))).map encStr) ∧ (v = .slice none 0 0 ↔ ss = []) ∧ Below (w.alloc (.cells #[.map (some b)] 97)).heap.size (w.alloc (.cells #[.map (some b)] 97)) w' := by
  have hbl := hown.lt
  have hseq : SeqGives Fence.wide 2 Tryz.prog 82 #[.pointer (some ⟨w.heap.size, 0, none⟩)] encStr (fun ss => ss.Perm (strKeys D0)) (Maps.size D0) (w.alloc (.cells #[.map (some b)] 97)) :=
    AnyZ.keys_gives (ρ := Tryz.keys43_ren) { Tryz.keys43 with } Fence.wide _ trivial rfl (by omega) w.heap.size b nn D0 _ (by simp) (by simp) (by
      obtain ⟨es, clock, hb, Ft, hs, hD⟩ := hown
      exact ⟨es, clock, (Below.heap_alloc _ _ b hbl).trans hb, Ft, hs, hD⟩)
  exact AnyZ.sorted_in Tryz.sorted42 Fence.wide 5 trivial trivial trivial trivial rfl (by omega) (Tryz.sorts42 _) (enters_of Tryz.func81 (by kernel_rfl) rfl) 82 #[.pointer (some ⟨w.heap.size, 0, none⟩)] trivial (enters_of Tryz.func82 (by kernel_rfl) rfl) _ _ hmax hbytes _ hseq

set_option maxHeartbeats 1000000 in
theorem Tryz.slices_Sorted_keys_nil_42_43 (w : World) :
    CallsIn Fence.wide 5 Tryz.prog 42 #[.func (.func 82) #[] #[.pointer (some ⟨w.heap.size, 0, none⟩)]] (w.alloc (.cells #[.map none] 97)) fun e w' => ∃ (v : Value) (ss : List (List UInt8)), e = .returned v ∧ ss = [] ∧
      w'.ownsRow (w.alloc (.cells #[.map none] 97)).heap.size 9 1 v ss.length ((ss.mergeSort (fun x y => decide (x ≤ y))).map encStr) ∧ (v = .slice none 0 0 ↔ ss = []) ∧ Below (w.alloc (.cells #[.map none] 97)).heap.size (w.alloc (.cells #[.map none] 97)) w' := by
  have hseq : SeqGives Fence.wide 2 Tryz.prog 82 #[.pointer (some ⟨w.heap.size, 0, none⟩)] encStr (fun ss : List (List UInt8) => ss = []) 0 (w.alloc (.cells #[.map none] 97)) :=
    AnyZ.keys_gives_nil (ρ := Tryz.keys43_ren) { Tryz.keys43 with } Fence.wide _ trivial rfl w.heap.size _ (by simp) (by simp)
  exact AnyZ.sorted_in Tryz.sorted42 Fence.wide 5 trivial trivial trivial trivial rfl (by omega) (Tryz.sorts42 _) (enters_of Tryz.func81 (by kernel_rfl) rfl) 82 #[.pointer (some ⟨w.heap.size, 0, none⟩)] trivial (enters_of Tryz.func82 (by kernel_rfl) rfl) _ 0 (Nat.zero_le _) (by omega) _ hseq

end Go.Proofs
namespace Go.Proofs.YtcomhlimgocoaaaGreatDoor
open Go.RowKit
set_option linter.unusedVariables false
set_option linter.unusedSimpArgs false
theorem size_mnG : Maps.size (DL (live mnAll)) = 107 := by decide +kernel
theorem wordsG_perm : (strKeys (DL (live mnAll))).isPerm wordsS = true := by decide +kernel
theorem wordsG_of {ss : List (List UInt8)} (h : ss.Perm (strKeys (DL (live mnAll)))) : ss.mergeSort (fun x y => decide (x ≤ y)) = wordsS ∧ ss.length = 107 := by
  refine words_of (h.trans ?_)
  exact (List.isPerm_iff.1 wordsG_perm).trans (List.isPerm_iff.1 words_perm).symm
set_option maxHeartbeats 1600000 in
/-- the mnemonics, in new memory -/
theorem wordsO_any (w : World) (hT : WTabs w) : Calls Tryz.prog 14 #[] w fun e w' => ∃ v, e = .returned v ∧ w'.ownsRow w.heap.size 9 1 v 107 (wordsS.map encStr) ∧ Out w w' := by
  have CM := hidOf (mnemonicsG_any w hT)
  obtain ⟨D, hD⟩ : ∃ D, D = DL (live mnAll) := ⟨_, rfl⟩
  have hmax : Maps.size D ≤ maxLen := by rw [hD, size_mnG]; unfold maxLen; decide
  have hby : Maps.size D * 16 ≤ 140737488355328 := by rw [hD, size_mnG]; decide
  rw [← hD] at CM
  have HS : Hid (∀ w1 : World, w1.ownsMap Tryz.prog 9 R4 w.heap.size 107 D → Calls Tryz.prog 42 #[.func (.func 82) #[] #[.pointer (some ⟨w1.heap.size, 0, none⟩)]] (w1.alloc (.cells #[.map (some w.heap.size)] 97)) fun e w' => ∃ (v : Value) (ss : List (List UInt8)), e = .returned v ∧ ss.Perm (strKeys D) ∧ w'.ownsRow (w1.alloc (.cells #[.map (some w.heap.size)] 97)).heap.size 9 1 v ss.length ((ss.mergeSort (fun x y => decide (x ≤ y))).map encStr) ∧ (v = .slice none 0 0 ↔ ss = []) ∧ Below (w1.alloc (.cells #[.map (some w.heap.size)] 97)).heap.size (w1.alloc (.cells #[.map (some w.heap.size)] 97)) w') := fun w1 hown => callsIn_wide.1 (Tryz.slices_Sorted_keys_42_43 w.heap.size 107 D R4 w1 hown hmax hby)
  have HK : Hid (∀ (mb : Option Nat) (W : World), Calls Tryz.prog 43 #[.map mb] W fun e w' => e = .returned (.func (.func 82) #[] #[.pointer (some ⟨W.heap.size, 0, none⟩)]) ∧ w' = W.alloc (.cells #[.map mb] 97)) := fun mb W => callsIn_wide.1 (Tryz.maps_Keys_43 mb W)
  have HD := hidOf hD
  clear hT hmax hby hD
  go_enter Tryz.func14, Tryz.ntmps14
  go_wp2_with (first | (go_at_call 44; refine CM.out.mono ?_; rintro e w1 ⟨rfl, hown, ho⟩; have H1 := hidOf ho; have HO := hidOf hown; clear ho hown CM) | (go_at_call 43; refine (HK.out (some w.heap.size) w1).mono ?_; rintro e wk ⟨rfl, hw⟩; have HWK := hidOf hw; clear hw) | (go_at_call 42; rw [HWK.out]; refine (HS.out w1 HO.out).mono ?_; rintro e w2 ⟨v, ss, rfl, hp, hrow, hnil, hb⟩; have HP := hidOf hp; have HR := hidOf hrow; have HB := hidOf hb; clear hp hrow hnil hb))
  obtain ⟨e1, e2⟩ := wordsG_of (ss := ss) (by have h := HP.out; rw [HD.out] at h; exact h)
  have h3 : w2.ownsRow (w1.alloc (.cells #[.map (some w.heap.size)] 97)).heap.size 9 1 v 107 (wordsS.map encStr) := by
    have := HR.out
    rw [e1, e2] at this
    exact this
  have h4 : w2.ownsRow w.heap.size 9 1 v 107 (wordsS.map encStr) := by
    refine ⟨h3.1, ?_⟩
    rcases h3.2 with h | ⟨g, cap, cur, q1, q2, rest⟩
    · exact .inl h
    · exact .inr ⟨g, cap, cur, q1, Nat.le_trans (Nat.le_trans H1.out.size (by rw [size_alloc]; omega)) q2, rest⟩
  clear h3 e1 e2 HR HP
  have H4 := hidOf h4
  clear h4
  go_ret
  exact ⟨_, rfl, H4.out, Out.trans H1.out (Out.trans ((Out.refl w1).alloc _) HB.out)⟩
theorem row_cells {w : World} {B : Nat} {v : Value} {xs : List (List UInt8)} (h : w.ownsRow B 9 1 v xs.length (xs.map encStr)) (h0 : ¬ xs = []) : ∃ g cap, v = .slice (some ⟨g, 0, none⟩) xs.length cap ∧ xs.length ≤ cap ∧ ∀ k, k < xs.length → w.cell? ⟨g, k, none⟩ = some (.string ⟨(xs.getD k []).toArray⟩) := by
  rcases h.2 with ⟨hv, hn⟩ | ⟨g, cap, cur, rfl, hb, hg, hnc, hcm, hsz, htake⟩
  · exact absurd (List.length_eq_zero_iff.1 hn) h0
  · refine ⟨g, cap, rfl, hnc, fun k hk => ?_⟩
    have e1 : (cur.toList.take (xs.length * 1))[k]? = some (encStr (xs.getD k [])) := by
      rw [htake, List.getElem?_map, List.getD_eq_getElem?_getD, List.getElem?_eq_getElem hk]
      rfl
    rw [Nat.mul_one, List.getElem?_take, if_pos hk] at e1
    have e2 : w.cell? ⟨g, k, none⟩ = cur[k]? := by simp [World.cell?, hg]
    rw [e2, ← Array.getElem?_toList]
    exact e1
theorem words_any (w : World) (hT : WTabs w) : Calls Tryz.prog 14 #[] w fun e w' => ∃ g cap, e = .returned (.slice (some ⟨g, 0, none⟩) 107 cap) ∧ 107 ≤ cap ∧ (∀ k, k < 107 → w'.cell? ⟨g, k, none⟩ = some (.string ⟨(wd k).toArray⟩)) ∧ Out w w' := by
  refine (wordsO_any w hT).mono ?_
  rintro e w' ⟨v, rfl, h, ho⟩
  obtain ⟨g, cap, rfl, hc, hcell⟩ := row_cells (xs := wordsS) h (by decide)
  exact ⟨g, cap, rfl, hc, hcell, ho⟩
end Go.Proofs.YtcomhlimgocoaaaGreatDoor
