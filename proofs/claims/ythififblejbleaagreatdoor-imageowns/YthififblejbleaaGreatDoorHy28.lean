import Derived.Test.YthififblejbleaaGreatDoorHy27
import Derived.Lib.BufferWrite
import Derived.Laws.CopyOwn
import Derived.Deep.DeepCutAuto
namespace Go.Proofs.YthififblejbleaaGreatDoor
open Go.RowKit
set_option linter.unusedVariables false
set_option linter.unusedSimpArgs false
theorem made_bytes (N : Nat) : madeCells #[.int .u8 0] N = (Lib.byteCells (List.replicate N 0)).toArray := by
  apply Array.ext_getElem?
  intro j
  simp only [madeCells, Array.getElem?_map, List.getElem?_toArray, Lib.byteCells, List.getElem?_map, List.getElem?_replicate]
  by_cases hj : j < N
  · rw [if_pos hj, Array.getElem?_range, if_pos hj]
    simp [Nat.mod_one]
  · rw [if_neg hj, Array.getElem?_range, if_neg hj]; rfl
theorem run_make_bytes (n : Nat) (hn : n ≤ 281474976710656) (w : World) : (Instr.makeSlice 27 (.int .i64 (n : Int)) (.int .i64 (n : Int))).run Tryz.prog w = .ok (.slice (some ⟨w.heap.size, 0, none⟩) n n) (w.alloc (.cells (Lib.byteCells (List.replicate n 0)).toArray 5)) := by
  obtain ⟨i0, hi, hz0, hz1, hz2⟩ := info_parts infoB
  have h := run_make (P := Tryz.prog) w 27 5 i0 _ Tryz.underlying27 hi hz0 .i64 .i64 (n : Int) (n : Int) (by omega) (Int.le_refl _) (by rw [hz2]; omega) (by omega)
  rw [hz1] at h
  simp only [Int.toNat_natCast, Value.cells, Nat.mul_one] at h
  rw [h, made_bytes]
theorem Tp.made (w : World) (n : Nat) : Tp ((w.alloc (.cells (Lib.byteCells (List.replicate n 0)).toArray 5)).alloc (.cells #[.slice (some ⟨w.heap.size, 0, none⟩) n n, .int .i64 0, .bool false] 92)) (w.heap.size + 1) w.heap.size 0 (List.replicate n 0) := by
  refine ⟨?_, ?_⟩
  · have := heap_alloc_new (w.alloc (.cells (Lib.byteCells (List.replicate n 0)).toArray 5)) (.cells #[.slice (some ⟨w.heap.size, 0, none⟩) n n, .int .i64 0, .bool false] 92)
    rw [size_alloc] at this
    rw [List.length_replicate]; exact this
  · rw [Below.heap_alloc _ _ _ (by rw [size_alloc]; omega)]; exact heap_alloc_new w _
theorem Tp.own {w : World} {p g o B0 : Nat} {B : List UInt8} (h : Tp w p g o B) (hb : B0 ≤ g) (hl : B.length ≤ 1000000000) : OwB B0 (.slice (some ⟨g, 0, none⟩) B.length B.length) B w :=
  ⟨by simp [Lib.byteCells], .inr ⟨g, B.length, _, rfl, hb, h.b, Nat.le_refl _, by unfold maxLen; omega, by simp [Lib.byteCells], by rw [List.take_of_length_le (by simp [Lib.byteCells])]⟩⟩
theorem Tp.row {w w' : World} {p g o : Nat} {B C : List UInt8} (h : Tp w p g o B) (hc : Chg (fun k => k = g) w w') (hb : w'.heap[g]? = some (.cells (Lib.byteCells C).toArray 5 (0, 0))) (hl : C.length = B.length) : Tp w' p g o C :=
  ⟨by rw [hl]; exact (hc.block p (Array.getElem?_eq_some_iff.1 h.t).1 h.ne).trans h.t, hb⟩
theorem putB_cells (B L : List UInt8) (o : Nat) : Lib.byteCells (putB B o L) = (Lib.byteCells B).take o ++ Lib.byteCells L ++ (Lib.byteCells B).drop (o + L.length) := by
  simp [putB, Lib.byteCells, List.map_take, List.map_drop]
theorem setRow_chg (w : World) (g : Nat) (cs : Array Value) : Chg (fun k => k = g) w (w.setRow g cs) := by
  refine ⟨rfl, rfl, rfl, ?_, fun k hk hs => ?_⟩
  · simp [World.setRow]
  · exact setRow_other w g k cs hs
theorem run_copy_op (w : World) (g n : Nat) (B : List UInt8) (ty : TypeId) (hg : w.heap[g]? = some (.cells (Lib.byteCells B).toArray 5 (0, 0))) (hB : B.length = n) (hn : 8 ≤ n) : ∃ w', (Builtin.copy_ #[27, 9] ty #[.slice (some ⟨g, 0, none⟩) n n, .string ⟨#[83, 80, 73, 78, 1, 0, 0, 0]⟩]).run Tryz.prog w = .ok (.int .i64 8) w' ∧ w'.heap[g]? = some (.cells (Lib.byteCells (putB B 0 opB)).toArray 5 (0, 0)) ∧ Chg (fun k => k = g) w w' := by
  have h := Lib.run_copy_row_string (P := Tryz.prog) w 27 9 ty 5 g 0 n n ⟨#[83, 80, 73, 78, 1, 0, 0, 0]⟩ (Lib.byteCells B).toArray 5 Tryz.underlying27 (by kernel_rfl) hg (by show 8 ≤ n; exact hn) (by show 0 + 8 ≤ _; simp [Lib.byteCells]; omega)
  refine ⟨_, h, ?_, setRow_chg _ _ _⟩
  rw [putB_cells]
  exact setRow_heap w g _ _ 5 _ hg
theorem run_copy_nm (w : World) (g o n : Nat) (B L : List UInt8) (ty : TypeId) (na : Option Addr) (nc : Nat) (hg : w.heap[g]? = some (.cells (Lib.byteCells B).toArray 5 (0, 0))) (hB : B.length = n) (hL : RestAt w.heap.size w na L) (hne : ¬ L = []) (hr : o + L.length = n) : ∃ w', (Builtin.copy_ #[27, 27] ty #[.slice (some ⟨g, o, none⟩) (n - o) (n - o), .slice na L.length nc]).run Tryz.prog w = .ok (.int .i64 L.length) w' ∧ w'.heap[g]? = some (.cells (Lib.byteCells (putB B o L)).toArray 5 (0, 0)) ∧ Chg (fun k => k = g) w w' := by
  rcases hL with h | ⟨b, off, hb, rfl, hc⟩
  · exact absurd h hne
  have hl : (Lib.byteCells L).length = L.length := by simp [Lib.byteCells]
  have h := Go.run_copy_row (P := Tryz.prog) w 27 27 ty 5 g o (n - o) (n - o) ⟨b, off, none⟩ L.length nc (Lib.byteCells B).toArray 5 (Lib.byteCells L) Tryz.underlying27 (by kernel_rfl) hg (by rw [hl]; show L.length = min L.length (n - o); omega) (fun j v hv => by
    simp only [Lib.byteCells, List.getElem?_map, Option.map_eq_some_iff] at hv
    obtain ⟨x, hx, rfl⟩ := hv
    rw [WideShapes.add_plain]; exact hc j x hx) (by simp [Lib.byteCells]; omega) (bc_one L)
  rw [hl] at h
  refine ⟨_, h, ?_, setRow_chg _ _ _⟩
  rw [putB_cells]
  exact setRow_heap w g _ _ 5 _ hg
theorem putB_all {B L : List UInt8} (h : L.length = B.length) : putB B 0 L = L := by
  unfold putB
  rw [List.drop_of_length_le (by omega)]; simp
theorem pcs_get {m : Img} {k : Nat} {x : List UInt8} (h : (allN m)[k]? = some x) : (pcs (allN m))[k]? = some (plF 1 (tabM m) x : Int) := by
  unfold pcs; rw [List.getElem?_map, h]; rfl
theorem Ok17n.cutK {T : List Ins} {F : List Fn} (h : ∀ j, j < F.length → fcB T F j = false) : CutK T F := fun k x hx => by
  have hk := (List.getElem?_eq_some_iff.1 hx).1
  have h1 := h k hk
  have hb := bgn_le T F k (by omega) (fun j hj => h j (by omega))
  simp only [fcB, hx, Bool.or_eq_false_iff, bne_eq_false_iff_eq, decide_eq_false_iff_not] at h1
  refine ⟨x.fi.toNat, x.ct.toNat, by omega, by omega, by omega, by omega⟩
structure Wr17 (m : Img) : Prop where
  t : slotsP m.T ≤ 1048576
  f : m.F.length ≤ 4096
  d : m.D.length ≤ 1024
  fit : ∀ x ∈ m.T, fitI x = true
  i : ∀ x ∈ m.T, -9223372036854775808 ≤ x.i ∧ x.i ≤ 9223372036854775807
  ok : ∀ x ∈ allN m, nameOk x = true
  cut : CutK m.T m.F
  f1 : 1 ≤ m.F.length
theorem Wr17.n {m : Img} (h : Wr17 m) : (byP (tabM m)).length ≤ 1000000 := by
  have := (namesF_ok (allN m) h.ok).2.2.2
  have hl : (allN m).length = m.F.length + m.D.length := by simp [allN]
  have := h.f; have := h.d
  rw [byP_len]; unfold tabM; omega
set_option maxRecDepth 8000 in
set_option maxHeartbeats 4000000 in
theorem bytesOf_any (m : Img) (w : World) (ta fa da : Option Addr) (tc fc dc : Nat) (h : ImA w ta fa da m) (hw : Wr17 m) (htc : m.T.length ≤ tc) (hen : -9223372036854775808 ≤ m.en ∧ m.en ≤ 9223372036854775807) : Calls Tryz.prog 24 #[.agg #[.slice ta m.T.length tc, .slice fa m.F.length fc, .slice da m.D.length dc, .int .i64 m.en]] w fun e w' => ∃ a c, e = .returned (.tuple #[.slice a (wrB m).length c, .int .i64 0]) ∧ OwB w.heap.size (.slice a (wrB m).length c) (wrB m) w' ∧ Out w w' := by
  have hnl := hw.n
  have htl : m.T.length ≤ 1048576 := by have := hw.t; have : m.T.length ≤ slotsP m.T := by unfold slotsP; omega
                                        omega
  have hf := hw.f
  have hd := hw.d
  have hsl := hw.t
  have CS : Hid (∀ wx, Out w wx → Calls Tryz.prog 51 #[.agg #[.slice ta m.T.length tc, .slice fa m.F.length fc, .slice da m.D.length dc, .int .i64 m.en]] wx fun e w' => ∃ pa pc na nc, e = .returned (.tuple #[.slice pa (allN m).length pc, .slice na (byP (tabM m)).length nc, .int .i64 0]) ∧ OwI wx.heap.size (.slice pa (allN m).length pc) (pcs (allN m)) w' ∧ OwB wx.heap.size (.slice na (byP (tabM m)).length nc) (byP (tabM m)) w' ∧ Out wx w') := fun wx ox => stringsOf_any m wx ta fa da tc fc dc (h.out ox) hw.f hw.d hw.ok
  have CL : Hid (∀ wx, Out w wx → Calls Tryz.prog 52 #[.slice ta m.T.length tc] wx fun e w' => e = .returned (.int .i64 (slotsP m.T : Nat)) ∧ Out wx w') := fun wx ox => slotsI_any wx ta _ tc m.T rfl (h.t.out ox) h.n
  obtain ⟨tn, htn⟩ : ∃ n, Hid (n = m.T.length) := ⟨_, rfl⟩
  obtain ⟨fn, hfn⟩ : ∃ n, Hid (n = m.F.length) := ⟨_, rfl⟩
  obtain ⟨dn, hdn⟩ : ∃ n, Hid (n = m.D.length) := ⟨_, rfl⟩
  obtain ⟨sn, hsn⟩ : ∃ n, Hid (n = slotsP m.T) := ⟨_, rfl⟩
  obtain ⟨nl, hnn⟩ : ∃ n, Hid (n = (byP (tabM m)).length) := ⟨_, rfl⟩
  obtain ⟨an, han⟩ : ∃ n, Hid (n = (allN m).length) := ⟨_, rfl⟩
  have hafd : an = fn + dn := by rw [han.out, hfn.out, hdn.out]; simp [allN]
  rw [← htn.out, ← hfn.out, ← hdn.out, ← hnn.out, ← han.out] at CS
  rw [← htn.out, ← hsn.out] at CL
  rw [← htn.out, ← hfn.out, ← hdn.out]
  rw [← hfn.out] at hf
  rw [← hdn.out] at hd
  rw [← hsn.out] at hsl
  rw [← hnn.out] at hnl
  rw [← htn.out] at htl htc
  have HA := hidOf h
  have HEN := hidOf hen
  clear hen
  have HW := hidOf hw
  have HAF := hidOf hafd
  clear h hw hafd
  obtain ⟨w1, hw1⟩ : ∃ w1, Hid (w1 = w.alloc (Obj.cells #[Value.slice ta tn tc, Value.slice fa fn fc, Value.slice da dn dc, Value.int IntKind.i64 m.en] 26)) := ⟨_, rfl⟩
  have O1 : Hid (Out w w1) := hidOf (by rw [hw1.out]; exact Out.alloc (Out.refl _) _)
  have hs1 : w1.heap.size = w.heap.size + 1 := by rw [hw1.out, size_alloc]
  have X1 : Hid (∀ j, w1.cell? ⟨w.heap.size, j, none⟩ = (#[Value.slice ta tn tc, Value.slice fa fn fc, Value.slice da dn dc, Value.int IntKind.i64 m.en] : Array Value)[j]?) := hidOf (fun j => by rw [hw1.out]; exact cell_fresh w _ _ j _ rfl)
  have x0 : w1.cell? ⟨w.heap.size, 0, none⟩ = some (.slice ta tn tc) := X1.out 0
  have x1 : w1.cell? ⟨w.heap.size, 1, none⟩ = some (.slice fa fn fc) := X1.out 1
  have x2 : w1.cell? ⟨w.heap.size, 2, none⟩ = some (.slice da dn dc) := X1.out 2
  have x3 : w1.cell? ⟨w.heap.size, 3, none⟩ = some (.int .i64 m.en) := X1.out 3
  go_enter Tryz.func24, Tryz.ntmps24
  go_upto_region 1 with fail
  rw [← hw1.out]
  go_upto_region 4 with (go_at_call 51; refine (CS.out _ O1.out).mono ?_; rintro e w2 ⟨pa, pc, na, nc, rfl, hpl, hnm, o2⟩)
  have y0 : w2.cell? ⟨w.heap.size, 0, none⟩ = some (.slice ta tn tc) := cell_later o2 x0
  have y1 : w2.cell? ⟨w.heap.size, 1, none⟩ = some (.slice fa fn fc) := cell_later o2 x1
  have y2 : w2.cell? ⟨w.heap.size, 2, none⟩ = some (.slice da dn dc) := cell_later o2 x2
  have y3 : w2.cell? ⟨w.heap.size, 3, none⟩ = some (.int .i64 m.en) := cell_later o2 x3
  have O2 : Hid (Out w w2) := hidOf (O1.out.trans o2)
  have O12 := hidOf o2
  have HP2 := hidOf hpl
  have HN2 := hidOf hnm
  have hs2 : w.heap.size + 1 ≤ w2.heap.size := by have := o2.size; omega
  clear x0 x1 x2 x3 hpl hnm CS o2
  have hlo2 : w.heap.size < w2.heap.size := by omega
  go_cut [7] (fun s7 wx => ∃ hb : Nat, s7 = .pointer (some ⟨hb, 0, none⟩) ∧ w2.heap.size ≤ hb ∧ Hid (Out w2 wx) ∧ Hid (wx.heap[hb]? = some (.cells #[.int .i64 sn, .int .i64 fn, .int .i64 dn, .int .i64 nl, .int .i64 m.en] 94 (0, 0))))
  case first =>
    go_region_held3 (fun wx => wx.cell? ⟨w.heap.size, 0, none⟩ = some (.slice ta tn tc) ∧ wx.cell? ⟨w.heap.size, 1, none⟩ = some (.slice fa fn fc) ∧ wx.cell? ⟨w.heap.size, 2, none⟩ = some (.slice da dn dc) ∧ wx.cell? ⟨w.heap.size, 3, none⟩ = some (.int .i64 m.en)) (first | go_keep | assumption) (first | (go_at_call 52; refine (CL.out _ (Out.drew O2.out)).mono ?_; rintro e w3 ⟨rfl, o3⟩; have k0 := cell_later o3 y0; have k1 := cell_later o3 y1; have k2 := cell_later o3 y2; have k3 := cell_later o3 y3; have OO3 : Hid (Out w2 w3) := hidOf (Out.trans (Out.drew (Out.refl _)) o3); have hne : ¬ w3.heap.size = w.heap.size := (by have := OO3.out.size; omega)) | (go_at_call 52; refine (CL.out _ (Out.drew (Out.alloc O2.out _))).mono ?_; rintro e w3 ⟨rfl, o3⟩; have OO3 : Hid (Out w2 w3) := hidOf (Out.trans (Out.drew (Out.alloc (Out.refl _) _)) o3); have k0 := cell_later OO3.out y0; have k1 := cell_later OO3.out y1; have k2 := cell_later OO3.out y2; have k3 := cell_later OO3.out y3; have hz : w3.heap[w2.heap.size]? = some (.cells #[.int .i64 0, .int .i64 0, .int .i64 0, .int .i64 0, .int .i64 0] 94 (0, 0)) := (o3.block _ (by rw [heap_drew', size_alloc]; omega)).trans (heap_alloc_new w2 _); have HZ := hidOf hz; have f0 := frozen_atL hz 0; have f1 := frozen_atL hz 1; have f2 := frozen_atL hz 2; have f3 := frozen_atL hz 3; have f4 := frozen_atL hz 4; have z0 := cell_atL hz 0; have z1 := cell_atL hz 1; have z2 := cell_atL hz 2; have z3 := cell_atL hz 3; have z4 := cell_atL hz 4; clear hz; simp only [List.getElem?_toArray, List.getElem?_cons_zero, List.getElem?_cons_succ] at z0 z1 z2 z3 z4; have hne : ¬ w2.heap.size = w.heap.size := (by omega)))
    · go_wp2
      go_meet
      exact ⟨w3.heap.size, rfl, OO3.out.size, hidOf (Out.alloc OO3.out _), hidOf (heap_alloc_new w3 _)⟩
    · go_wp2
      go_meet
      refine ⟨w2.heap.size, rfl, Nat.le_refl _, hidOf ?_, hidOf ?_⟩
      · exact ((((OO3.out.setCell (a := ⟨w2.heap.size, 0, none⟩) (Nat.le_refl _) _).setCell (a := ⟨w2.heap.size, 1, none⟩) (Nat.le_refl _) _).setCell (a := ⟨w2.heap.size, 2, none⟩) (Nat.le_refl _) _).setCell (a := ⟨w2.heap.size, 3, none⟩) (Nat.le_refl _) _).setCell (a := ⟨w2.heap.size, 4, none⟩) (Nat.le_refl _) _
      · rw [set_atL (set_atL (set_atL (set_atL (set_atL HZ.out 0 _) 1 _) 2 _) 3 _) 4 _]; rfl
  case rest =>
    obtain ⟨hb, rfl, hhb, OC, HH⟩ := hcut
    have hen : -9223372036854775808 ≤ m.en ∧ m.en ≤ 9223372036854775807 := HEN.out
    have CZ : Hid (Calls Tryz.prog 53 #[.pointer (some ⟨hb, 0, none⟩)] wc fun e w' => e = .returned (.int .i64 (sizP sn fn dn nl : Nat)) ∧ ∃ m, w' = wc.drewN m) := hidOf (headSize_any hb wc sn fn dn nl (cell_atL HH.out 0) (cell_atL HH.out 1) (cell_atL HH.out 2) (cell_atL HH.out 3) (by omega) (by omega) (by omega) (by omega))
    obtain ⟨N, hN⟩ : ∃ N, Hid (N = sizP sn fn dn nl) := ⟨_, rfl⟩
    have hNb : N ≤ 100000000 := by rw [hN.out]; unfold sizP; omega
    have hN8 : 28 ≤ N := by rw [hN.out]; unfold sizP; omega
    rw [← hN.out] at CZ
    have MK : Hid (∀ k, (Instr.makeSlice 27 (.int .i64 (N : Int)) (.int .i64 (N : Int))).run Tryz.prog (wc.drewN k) = .ok (.slice (some ⟨wc.heap.size, 0, none⟩) N N) ((wc.drewN k).alloc (.cells (Lib.byteCells (List.replicate N 0)).toArray 5))) := hidOf (fun k => run_make_bytes N (by omega) (wc.drewN k))
    clear y0 y1 y2 y3 hlo2
    go_upto_region 6 with (go_at_call 53; refine (CZ.out).mono ?_; rintro e w4 ⟨rfl, nd, rfl⟩; have mk4 := MK.out nd)
    obtain ⟨wA, hwA⟩ : ∃ wA, Hid (wA = ((wc.drewN nd).alloc (.cells (Lib.byteCells (List.replicate N 0)).toArray 5)).alloc (.cells #[.slice (some ⟨wc.heap.size, 0, none⟩) N N, .int .i64 0, .bool false] 92)) := ⟨_, rfl⟩
    rw [← hwA.out]
    have TA : Hid (Tp wA (wc.heap.size + 1) wc.heap.size 0 (List.replicate N 0)) := hidOf (by rw [hwA.out]; exact Tp.made (wc.drewN nd) N)
    have OcA : Hid (Out wc wA) := hidOf (by rw [hwA.out]; exact Out.alloc (Out.alloc (Out.drewN (Out.refl _) _) _) _)
    have O2A : Hid (Out w2 wA) := hidOf (OC.out.trans OcA.out)
    have OA : Hid (Out w wA) := hidOf (O2.out.trans O2A.out)
    have hgw : w2.heap.size ≤ wc.heap.size := OC.out.size
    have hhl : hb < wc.heap.size := (Array.getElem?_eq_some_iff.1 HH.out).1
    have HHA : Hid (wA.heap[hb]? = some (.cells #[.int .i64 sn, .int .i64 fn, .int .i64 dn, .int .i64 nl, .int .i64 m.en] 94 (0, 0))) := hidOf ((OcA.out.block hb hhl).trans HH.out)
    have PA : Hid (OwI w1.heap.size (.slice pa an pc) (pcs (allN m)) wA) := hidOf (HP2.out.out O2A.out)
    have NA : Hid (OwB w1.heap.size (.slice na nl nc) (byP (tabM m)) wA) := hidOf (owns_chg (S := fun _ => False) HN2.out (fun _ _ h => h) (Chg.of_out O2A.out))
    have NB : Hid (∀ b, (Value.slice na nl nc).ownBlock = some b → b < wc.heap.size) := hidOf (fun b hb => by have := (HN2.out.lt b hb).2; omega)
    have XA : Hid (∀ j, wA.cell? ⟨w.heap.size, j, none⟩ = (#[Value.slice ta tn tc, Value.slice fa fn fc, Value.slice da dn dc, Value.int IntKind.i64 m.en] : Array Value)[j]?) := hidOf (fun j => by
      have e1 : wA.cell? ⟨w.heap.size, j, none⟩ = w1.cell? ⟨w.heap.size, j, none⟩ := (O12.out.trans O2A.out).cells _ _ (by rw [hs1]; omega)
      rw [e1]; exact X1.out j)
    have hwg : w.heap.size < wc.heap.size := by omega
    have TAA := hidOf TA.out
    have HTA : Hid (wc.heap.size + 1 < wA.heap.size ∧ wc.heap.size < wA.heap.size) := hidOf ⟨(Array.getElem?_eq_some_iff.1 TA.out.t).1, (Array.getElem?_eq_some_iff.1 TA.out.b).1⟩
    clear mk4 HP2 HN2 CZ MK HH OC OcA O2A O2 X1 O1
    generalize wc.heap.size = g at *
    clear hwA
    obtain ⟨w6, cp6, hb6, cg6⟩ := run_copy_op wA g N (List.replicate N 0) 3 TA.out.b (by simp) (by omega)
    have T6a : Hid (Tp w6 (g + 1) g 0 (putB (List.replicate N 0) 0 opB)) := hidOf (TA.out.row cg6 hb6 (by rw [putB_len (by rw [List.length_replicate]; show 0 + 8 ≤ N; omega)]))
    have C6a := hidOf cg6
    clear hb6 cg6
    have a0 : wA.cell? ⟨g + 1, 0, none⟩ = some (.slice (some ⟨g, 0, none⟩) N N) := by rw [cell_atL TA.out.t]; simp
    have a1 : w6.cell? ⟨g + 1, 1, none⟩ = some (.int .i64 0) := by rw [cell_atL T6a.out.t]; rfl
    have af : w6.frozen? ⟨g + 1, 1, none⟩ = false := frozen_atL T6a.out.t 1
    go_upto_region 7 with fail
    obtain ⟨w7, hw7⟩ : ∃ w7, Hid (w7 = w6.setCell ⟨g + 1, 1, none⟩ (.int .i64 8)) := ⟨_, rfl⟩
    rw [← hw7.out]
    obtain ⟨Z, hZ⟩ : ∃ Z, Hid (Z = List.replicate N (0 : UInt8)) := ⟨_, rfl⟩
    have hZl : Hid (Z.length = N) := hidOf (by rw [hZ.out]; simp)
    have T7 : Hid (Tp w7 (g + 1) g 8 (putB Z 0 opB)) := hidOf (by rw [hw7.out, hZ.out]; exact T6a.out.step 8)
    have C7 : Hid (Chg (fun k => k = g + 1 ∨ k = g) wA w7) := hidOf (by rw [hw7.out]; exact (C6a.out.mono (fun x h _ => .inr h)).setCell (p := ⟨g + 1, 1, none⟩) (.inl rfl) _)
    clear a0 a1 af T6a C6a hw7 cp6 TA hZ
    have HPS := hidOf HW.out
    have LEN : Hid (N = (wrB m).length) := hidOf (by rw [wrB_len, hN.out, hsn.out, hfn.out, hdn.out, hnn.out])
    have CF : Hid (∀ wx, Calls Tryz.prog 55 #[.pointer (some ⟨hb, 0, none⟩)] wx (FldE hb 5 wx)) := fun wx => headFields_any _ wx
    have l8 : Hid ((putB Z 0 opB).length = N) := hidOf (by rw [putB_len (by rw [hZl.out]; show 0 + 8 ≤ N; omega)]; exact hZl.out)
    have hpA : g + 1 < wA.heap.size ∧ g < wA.heap.size := HTA.out
    have NU : Hid (∀ w8 q, Out w7 w8 → w7.heap.size ≤ q → (∀ i, i < 5 → w8.cell? ⟨q, i, none⟩ = some (.pointer (some ⟨hb, i, none⟩))) → Calls Tryz.prog 54 #[.pointer (some ⟨g + 1, 0, none⟩), .slice (some ⟨q, 0, none⟩) 5 5] w8 fun e w' => (∃ v, e = .returned v) ∧ Tp w' (g + 1) g (8 + 4 * 5) (putB (putB Z 0 opB) 8 (([(sn : Int), (fn : Int), (dn : Int), (nl : Int), m.en] : List Int).flatMap b4)) ∧ Chg (fun k => k = g + 1 ∨ k = g) w8 w') := hidOf (fun w8 q o8 hq hf => numFW w8 (g + 1) g 8 q hb 5 (putB Z 0 opB) [(sn : Int), (fn : Int), (dn : Int), (nl : Int), m.en] (T7.out.out o8) hf (fun i x hx => by
      refine cell_later o8 (C7.out.cell (a := ⟨hb, i, none⟩) ?_ (by simp; omega))
      rw [cell_atL HHA.out i]
      rcases i with _ | _ | _ | _ | _ | i <;> simp at hx ⊢ <;> exact hx) rfl (by omega) (by have := C7.out.size; omega) (by rw [l8.out]; omega) (by rw [l8.out]; omega))
    have E1 : Hid (putB (putB Z 0 opB) 8 (([(sn : Int), (fn : Int), (dn : Int), (nl : Int), m.en] : List Int).flatMap b4) = putB Z 0 (hdB sn fn dn nl m.en)) := hidOf (by
      have e : (([(sn : Int), (fn : Int), (dn : Int), (nl : Int), m.en] : List Int).flatMap b4) = b4 sn ++ (b4 fn ++ (b4 dn ++ (b4 nl ++ b4 m.en))) := by simp
      have := putB_put (B := Z) (L := opB) (M := (([(sn : Int), (fn : Int), (dn : Int), (nl : Int), m.en] : List Int).flatMap b4)) (o := 0) (by rw [hZl.out, e]; simp only [List.length_append, b4_len]; show 0 + 8 + _ ≤ N; omega)
      rw [show 0 + opB.length = 8 from rfl] at this
      rw [this, e]; rfl)
    go_upto_region 8 with (first | (go_at_call 55; refine (CF.out _).mono ?_; rintro e w8 ⟨q, rfl, hq5, hq6, hcq, o8⟩) | (go_at_call 54; refine (NU.out _ _ o8 hq5 hcq).mono ?_; rintro e w9 ⟨⟨rv, rfl⟩, t9, c9⟩))
    have T9 : Hid (Tp w9 (g + 1) g 28 (putB Z 0 (hdB sn fn dn nl m.en))) := hidOf (by rw [← E1.out]; exact t9)
    have C9 : Hid (Chg (fun k => k = g + 1 ∨ k = g) wA w9) := hidOf ((C7.out.trans (T := fun _ => False) (Chg.of_out o8) (fun _ h _ => h.elim)).trans c9 (fun x h _ => h))
    clear t9 c9 o8 hcq hq5 hq6 NU CF E1 l8 C7 T7
    have OUT : Hid (∀ wx, Chg (fun k => k = g + 1 ∨ k = g) wA wx → Out w wx) := hidOf (fun wx c => out_chg OA.out c (fun k hk => by omega))
    have BOX : Hid (∀ wx, Chg (fun k => k = g + 1 ∨ k = g) wA wx → ∀ (j : Nat) (v : Value), (#[Value.slice ta tn tc, Value.slice fa fn fc, Value.slice da dn dc, Value.int IntKind.i64 m.en] : Array Value)[j]? = some v → wx.cell? ⟨w.heap.size, j, none⟩ = some v) := hidOf (fun wx c j v hv => c.cell (a := ⟨w.heap.size, j, none⟩) (by rw [XA.out j]; exact hv) (by simp; omega))
    have x0 : w9.cell? ⟨w.heap.size, 0, none⟩ = some (.slice ta tn tc) := BOX.out _ C9.out 0 _ rfl
    have hl28 : Hid ((hdB sn fn dn nl m.en).length = 28) := hidOf (hdB_len _ _ _ _ _)
    have lB1 : Hid ((putB Z 0 (hdB sn fn dn nl m.en)).length = N) := hidOf (by rw [putB_len (by rw [hZl.out, hl28.out]; omega)]; exact hZl.out)
    have hN2a : N ≤ 28 + 8 * sn + 16 * fn + 20 * dn + nl := by rw [hN.out]; exact Nat.le_refl _
    have hN2b : 28 + 8 * sn + 16 * fn + 20 * dn + nl ≤ N := by rw [hN.out]; exact Nat.le_refl _
    have CT : Hid (Calls Tryz.prog 56 #[.pointer (some ⟨g + 1, 0, none⟩), .slice ta tn tc] w9 fun e w' => (∃ v, e = .returned v) ∧ Tp w' (g + 1) g (28 + 8 * sn) (putB (putB Z 0 (hdB sn fn dn nl m.en)) 28 (txtB m.T)) ∧ Chg (fun k => k = g + 1 ∨ k = g) w9 w') := hidOf (by
      have := layText_any w w9 (g + 1) g 28 (putB Z 0 (hdB sn fn dn nl m.en)) m.T ta tc T9.out HA.out.t (OUT.out _ C9.out) (by omega) (by omega) HPS.out.fit HPS.out.i (by rw [lB1.out, ← hsn.out]; omega) (by rw [lB1.out]; omega)
      rw [← htn.out, ← hsn.out] at this
      exact this)
    have E2 : Hid (putB (putB Z 0 (hdB sn fn dn nl m.en)) 28 (txtB m.T) = putB Z 0 (hdB sn fn dn nl m.en ++ txtB m.T)) := hidOf (by
      have := putB_put (B := Z) (L := hdB sn fn dn nl m.en) (M := txtB m.T) (o := 0) (by rw [hZl.out, hl28.out, txtB_len, ← hsn.out]; omega)
      rw [hl28.out] at this; exact this)
    rw [E2.out] at CT
    go_upto_region 9 with (go_at_call 56; refine (CT.out).mono ?_; rintro e w10 ⟨⟨rv2, rfl⟩, t10, c10⟩)
    have T10 := hidOf t10
    have C10 : Hid (Chg (fun k => k = g + 1 ∨ k = g) wA w10) := hidOf (C9.out.trans c10 (fun x h _ => h))
    clear t10 c10 CT E2 T9 x0 lB1
    have x0 : w10.cell? ⟨w.heap.size, 0, none⟩ = some (.slice ta tn tc) := BOX.out _ C10.out 0 _ rfl
    have x1 : w10.cell? ⟨w.heap.size, 1, none⟩ = some (.slice fa fn fc) := BOX.out _ C10.out 1 _ rfl
    have x2 : w10.cell? ⟨w.heap.size, 2, none⟩ = some (.slice da dn dc) := BOX.out _ C10.out 2 _ rfl
    have x3 : w10.cell? ⟨w.heap.size, 3, none⟩ = some (.int .i64 m.en) := BOX.out _ C10.out 3 _ rfl
    have hl2 : Hid ((hdB sn fn dn nl m.en ++ txtB m.T).length = 28 + 8 * sn) := hidOf (by rw [List.length_append, hl28.out, txtB_len, ← hsn.out])
    have lB2 : Hid ((putB Z 0 (hdB sn fn dn nl m.en ++ txtB m.T)).length = N) := hidOf (by rw [putB_len (by rw [hZl.out, hl2.out]; omega)]; exact hZl.out)
    -- the places
    have hfp : 1 ≤ fn := by rw [hfn.out]; exact HPS.out.f1
    have PG : ∃ pg, pa = some ⟨pg, 0, none⟩ ∧ an ≤ pc ∧ Hid (¬ pg = g + 1 ∧ ¬ pg = g) ∧ Hid (∀ (k : Nat) (x : List UInt8), (allN m)[k]? = some x → wA.cell? ⟨pg, k, none⟩ = some (.int .i64 (plF 1 (tabM m) x : Nat))) := by
      have hp : wA.ownsRow w1.heap.size 3 1 (.slice pa an pc) an ((pcs (allN m)).map (Value.int .i64)) := by have := PA.out; unfold OwI at this; rw [pcs_len, ← han.out] at this; exact this
      obtain ⟨y, hy⟩ : ∃ y, (allN m)[0]? = some y := ⟨_, List.getElem?_eq_getElem (by rw [← han.out, HAF.out]; omega)⟩
      obtain ⟨pg, rfl, hc, -, hlt⟩ := OwI.get hp (pcs_get hy)
      refine ⟨pg, rfl, hc, hidOf ⟨fun e => ?_, fun e => ?_⟩, hidOf (fun k x hx => ?_)⟩
      · exact own_type hp TAA.out.t (by decide) (by rw [← e]; rfl)
      · exact own_type hp TAA.out.b (by decide) (by rw [← e]; rfl)
      · obtain ⟨pg', e, -, hc', -⟩ := OwI.get hp (pcs_get hx)
        cases e; exact hc'
    obtain ⟨pg, rfl, hpc, HNP, HPC⟩ := PG
    have CFn : Hid (Calls Tryz.prog 57 #[.pointer (some ⟨g + 1, 0, none⟩), .agg #[.slice ta tn tc, .slice fa fn fc, .slice da dn dc, .int .i64 m.en], .slice (some ⟨pg, 0, none⟩) an pc] w10 fun e w' => (∃ v, e = .returned v) ∧ Tp w' (g + 1) g (28 + 8 * sn + 16 * fn) (putB (putB Z 0 (hdB sn fn dn nl m.en ++ txtB m.T)) (28 + 8 * sn) (fnsB m.T (tabM m) 0 m.F)) ∧ Chg (fun k => k = g + 1 ∨ k = g) w10 w') := hidOf (by
      have := layFuncs_any w w10 (g + 1) g (28 + 8 * sn) (putB Z 0 (hdB sn fn dn nl m.en ++ txtB m.T)) m (tabM m) ta fa da tc fc dc pg an pc T10.out HA.out.t HA.out.f (OUT.out _ C10.out) (by omega) (by omega) HPS.out.cut (by rw [← htn.out]; exact htc) (fun k x hx => C10.out.cell (a := ⟨pg, k, none⟩) (HPC.out k x.nm (by
        have hk := (List.getElem?_eq_some_iff.1 hx).1
        rw [allN, List.getElem?_append_left (by simpa using hk), List.getElem?_map, hx]; rfl)) (by have := HNP.out; simp; omega)) HNP.out.1 HNP.out.2 (by rw [← hfn.out, HAF.out]; omega) hpc (by rw [lB2.out, ← hfn.out]; omega) (by rw [lB2.out]; omega) (by rw [← hfn.out]; omega) (by rw [HAF.out]; omega) (by rw [← hsn.out]; omega)
      rw [← htn.out, ← hfn.out, ← hdn.out] at this
      exact this)
    have E3 : Hid (putB (putB Z 0 (hdB sn fn dn nl m.en ++ txtB m.T)) (28 + 8 * sn) (fnsB m.T (tabM m) 0 m.F) = putB Z 0 (hdB sn fn dn nl m.en ++ txtB m.T ++ fnsB m.T (tabM m) 0 m.F)) := hidOf (by
      have := putB_put (B := Z) (L := hdB sn fn dn nl m.en ++ txtB m.T) (M := fnsB m.T (tabM m) 0 m.F) (o := 0) (by rw [hZl.out, hl2.out, fnsB_len, ← hfn.out]; omega)
      rw [hl2.out, Nat.zero_add] at this; exact this)
    rw [E3.out] at CFn
    go_upto_region 10 with (go_at_call 57; refine (CFn.out).mono ?_; rintro e w11 ⟨⟨rv3, rfl⟩, t11, c11⟩)
    have T11 := hidOf t11
    have C11 : Hid (Chg (fun k => k = g + 1 ∨ k = g) wA w11) := hidOf (C10.out.trans c11 (fun x h _ => h))
    clear t11 c11 CFn E3 T10 x0 x1 x2 x3 lB2
    have x1 : w11.cell? ⟨w.heap.size, 1, none⟩ = some (.slice fa fn fc) := BOX.out _ C11.out 1 _ rfl
    have x2 : w11.cell? ⟨w.heap.size, 2, none⟩ = some (.slice da dn dc) := BOX.out _ C11.out 2 _ rfl
    have hl3 : Hid ((hdB sn fn dn nl m.en ++ txtB m.T ++ fnsB m.T (tabM m) 0 m.F).length = 28 + 8 * sn + 16 * fn) := hidOf (by rw [List.length_append, hl2.out, fnsB_len, ← hfn.out])
    have lB3 : Hid ((putB Z 0 (hdB sn fn dn nl m.en ++ txtB m.T ++ fnsB m.T (tabM m) 0 m.F)).length = N) := hidOf (by rw [putB_len (by rw [hZl.out, hl3.out]; omega)]; exact hZl.out)
    have E4 : Hid (putB (putB Z 0 (hdB sn fn dn nl m.en ++ txtB m.T ++ fnsB m.T (tabM m) 0 m.F)) (28 + 8 * sn + 16 * fn) (tdsB (tabM m) m.D) = putB Z 0 (hdB sn fn dn nl m.en ++ txtB m.T ++ fnsB m.T (tabM m) 0 m.F ++ tdsB (tabM m) m.D)) := hidOf (by
      have := putB_put (B := Z) (L := hdB sn fn dn nl m.en ++ txtB m.T ++ fnsB m.T (tabM m) 0 m.F) (M := tdsB (tabM m) m.D) (o := 0) (by rw [hZl.out, hl3.out, tdsB_len, ← hdn.out]; omega)
      rw [hl3.out, Nat.zero_add] at this; exact this)
    have CTd : Hid (∀ nd po pn pc', (dn = 0 ∨ po = fn) → dn ≤ pn → pn ≤ pc' → pn ≤ 100000 → Calls Tryz.prog 58 #[.pointer (some ⟨g + 1, 0, none⟩), .slice da dn dc, .slice (some ⟨pg, po, none⟩) pn pc'] (w11.drewN nd) fun e w' => (∃ v, e = .returned v) ∧ Tp w' (g + 1) g (28 + 8 * sn + 16 * fn + 20 * dn) (putB Z 0 (hdB sn fn dn nl m.en ++ txtB m.T ++ fnsB m.T (tabM m) 0 m.F ++ tdsB (tabM m) m.D)) ∧ Chg (fun k => k = g + 1 ∨ k = g) wA w') := hidOf (fun nd po pn pc' hpo h1 h2 h3 => by
      have c11' : Chg (fun k => k = g + 1 ∨ k = g) wA (w11.drewN nd) := C11.out.of_drewN nd
      have := layTables_any w (w11.drewN nd) (g + 1) g (28 + 8 * sn + 16 * fn) (putB Z 0 (hdB sn fn dn nl m.en ++ txtB m.T ++ fnsB m.T (tabM m) 0 m.F)) m.D (tabM m) da dc pg po pn pc' (T11.out.out (Out.drewN (Out.refl _) _)) HA.out.d (OUT.out _ c11') (by omega) (by omega) (fun k x hx => by
        have hk := (List.getElem?_eq_some_iff.1 hx).1
        rw [← hdn.out] at hk
        obtain rfl := hpo.resolve_left (by omega)
        refine c11'.cell (a := ⟨pg, po + k, none⟩) (HPC.out (po + k) x.nm ?_) (by have := HNP.out; simp; omega)
        rw [allN, List.getElem?_append_right (by rw [List.length_map, ← hfn.out]; omega), List.length_map, ← hfn.out, List.getElem?_map, Nat.add_sub_cancel_left, hx]; rfl) HNP.out.1 HNP.out.2 (by rw [← hdn.out]; exact h1) h2 (by rw [lB3.out, ← hdn.out]; omega) (by rw [lB3.out]; omega) (by rw [← hdn.out]; exact hd) h3
      rw [← hdn.out, E4.out] at this
      refine this.mono ?_
      rintro e w' ⟨a, b, c⟩
      exact ⟨a, b, c11'.trans c (fun x h _ => h)⟩)
    have s1 : (fn : Int) ≤ an := by rw [HAF.out]; omega
    have s2 : (an : Int) ≤ pc := by omega
    have s3 : fn ≤ an := by omega
    have s4 : an - fn = dn := by rw [HAF.out]; omega
    have s5 : an ≤ pc := hpc
    have s6 : dn ≤ pc - fn := by omega
    go_cut [63] (fun s63 wx => Hid (Tp wx (g + 1) g (28 + 8 * sn + 16 * fn + 20 * dn) (putB Z 0 (hdB sn fn dn nl m.en ++ txtB m.T ++ fnsB m.T (tabM m) 0 m.F ++ tdsB (tabM m) m.D))) ∧ Hid (Chg (fun k => k = g + 1 ∨ k = g) wA wx))
    case first =>
      by_cases hpf : pc = fn
      · have HD0 : Hid (dn = 0) := hidOf (by omega)
        obtain rfl : an = fn := by omega
        obtain rfl : an = pc := hpf.symm
        clear s1 s2 s3 s4 s5 s6 HAF
        go_region_held3 (fun wx => wx.cell? ⟨w.heap.size, 1, none⟩ = some (.slice fa an fc) ∧ wx.cell? ⟨w.heap.size, 2, none⟩ = some (.slice da dn dc)) (first | go_keep | assumption | (exact ⟨BOX.out _ c12 1 _ rfl, BOX.out _ c12 2 _ rfl⟩)) (first | (go_at_call 58; refine (CTd.out 1 0 0 0 (.inl HD0.out) (by rw [HD0.out]; exact Nat.le_refl _) (Nat.le_refl _) (by omega)).mono ?_; rintro e w12 ⟨⟨rv4, rfl⟩, t12, c12⟩))
        go_wp2
        go_meet
        exact ⟨hidOf t12, hidOf c12⟩
      · have hpf2 : ¬ (pc : Int) = fn := by omega
        go_region_held3 (fun wx => wx.cell? ⟨w.heap.size, 1, none⟩ = some (.slice fa fn fc) ∧ wx.cell? ⟨w.heap.size, 2, none⟩ = some (.slice da dn dc)) (first | go_keep | assumption | (exact ⟨BOX.out _ c12 1 _ rfl, BOX.out _ c12 2 _ rfl⟩)) (first | (go_at_call 58; refine (CTd.out 1 fn dn (pc - fn) (.inr rfl) (Nat.le_refl _) s6 (by omega)).mono ?_; rintro e w12 ⟨⟨rv4, rfl⟩, t12, c12⟩))
        go_wp2
        go_meet
        exact ⟨hidOf t12, hidOf c12⟩
    case rest =>
      obtain ⟨T12, C12⟩ := hcut
      clear x1 x2 CTd E4 T11 lB3 hl2 hl28 OUT C11 C10 C9
      have hl4 : Hid ((hdB sn fn dn nl m.en ++ txtB m.T ++ fnsB m.T (tabM m) 0 m.F ++ tdsB (tabM m) m.D).length = 28 + 8 * sn + 16 * fn + 20 * dn) := hidOf (by rw [List.length_append, hl3.out, tdsB_len, ← hdn.out])
      obtain ⟨B4, hB4⟩ : ∃ B4, Hid (B4 = putB Z 0 (hdB sn fn dn nl m.en ++ txtB m.T ++ fnsB m.T (tabM m) 0 m.F ++ tdsB (tabM m) m.D)) := ⟨_, rfl⟩
      rw [← hB4.out] at T12
      have lB4 : Hid (B4.length = N) := hidOf (by rw [hB4.out, putB_len (by rw [hZl.out, hl4.out]; omega)]; exact hZl.out)
      obtain ⟨oo, hoo⟩ : ∃ oo, Hid (oo = 28 + 8 * sn + 16 * fn + 20 * dn) := ⟨_, rfl⟩
      rw [← hoo.out] at T12
      have hon : oo + nl = N := by rw [hoo.out]; omega
      have HON := hidOf hon
      have NM : Hid (RestAt wc.heap.size wc na (byP (tabM m))) := hidOf (by
        have h1 := owns_chg NA.out (fun b hb hs => by have := NB.out b hb; omega) C12.out
        have h1' : OwB w1.heap.size (.slice na nl nc) (byP (tabM m)) wc := h1
        obtain ⟨a, cp, hv, -, hr⟩ := OwB.rest h1'
        simp only [Value.slice.injEq] at hv
        rw [hv.1]; exact hr)
      have hne : ¬ byP (tabM m) = [] := by simp [byP]
      obtain ⟨wz, cpz, hbz, cgz⟩ := run_copy_nm wc.drew g oo N B4 (byP (tabM m)) 3 na nc T12.out.b lB4.out NM.out hne (by rw [← hnn.out]; exact hon)
      rw [← hnn.out] at cpz
      have hL5 : Hid (putB B4 oo (byP (tabM m)) = wrB m) := hidOf (by
        have hlz : (hdB sn fn dn nl m.en ++ txtB m.T ++ fnsB m.T (tabM m) 0 m.F ++ tdsB (tabM m) m.D ++ byP (tabM m)).length = Z.length := by rw [List.length_append, hl4.out, hZl.out, ← hnn.out, ← hoo.out]; exact hon
        have := putB_put (B := Z) (L := hdB sn fn dn nl m.en ++ txtB m.T ++ fnsB m.T (tabM m) 0 m.F ++ tdsB (tabM m) m.D) (M := byP (tabM m)) (o := 0) (by rw [hl4.out, hZl.out, ← hnn.out, ← hoo.out]; omega)
        rw [hl4.out, Nat.zero_add, ← hoo.out, putB_all hlz, ← hB4.out] at this
        rw [this, wrB, ← hsn.out, ← hfn.out, ← hdn.out, ← hnn.out]
        simp only [List.append_assoc])
      have TZ : Hid (Tp wz (g + 1) g oo (wrB m)) := hidOf (by rw [← hL5.out]; exact (T12.out.out (Out.drew (Out.refl _))).row cgz hbz (by rw [lB4.out]; rw [putB_len (by rw [lB4.out, ← hnn.out]; omega)]; exact lB4.out))
      have CZ : Hid (Chg (fun k => k = g + 1 ∨ k = g) wA wz) := hidOf (C12.out.drew.trans (cgz.mono (T := fun k => k = g + 1 ∨ k = g) (fun x h _ => .inr h)) (fun x h _ => h))
      have b0 : wc.cell? ⟨g + 1, 0, none⟩ = some (.slice (some ⟨g, 0, none⟩) N N) := by rw [cell_atL T12.out.t, lB4.out]; rfl
      have b1 : wc.cell? ⟨g + 1, 1, none⟩ = some (.int .i64 oo) := by rw [cell_atL T12.out.t]; rfl
      have hon2 : ¬ (N : Int) = oo := by have : 1 ≤ nl := by rw [hnn.out]; exact List.length_pos_iff.2 hne
                                         omega
      have hon3 : (oo : Int) ≤ N := by omega
      have hon4 : oo ≤ N := by omega
      have d0 : wz.cell? ⟨g + 1, 0, none⟩ = some (.slice (some ⟨g, 0, none⟩) N N) := by rw [cell_atL TZ.out.t, ← LEN.out]; rfl
      have d1 : wz.cell? ⟨g + 1, 1, none⟩ = some (.int .i64 oo) := by rw [cell_atL TZ.out.t]; rfl
      clear hbz cgz hon NM T12
      go_upto_region 11 with fail
      go_region_held3 (fun wx => wx.cell? ⟨g + 1, 0, none⟩ = some (.slice (some ⟨g, 0, none⟩) N N) ∧ wx.cell? ⟨g + 1, 1, none⟩ = some (.int .i64 oo)) (first | go_keep | assumption | exact ⟨d0, d1⟩) (fail)
      have HFIN : Hid (OwB w.heap.size (.slice (some ⟨g, 0, none⟩) (wrB m).length N) (wrB m) wz ∧ Out w wz) := hidOf (by
        refine ⟨?_, out_chg OA.out CZ.out (fun k hk => by omega)⟩
        have := TZ.out.own (B0 := w.heap.size) (by omega) (by rw [← LEN.out]; omega)
        rw [LEN.out]; exact this)
      go_wp2
      go_ret2
      exact ⟨some ⟨g, 0, none⟩, N, by rw [← LEN.out]; rfl, HFIN.out.1, HFIN.out.2⟩
end Go.Proofs.YthififblejbleaaGreatDoor
