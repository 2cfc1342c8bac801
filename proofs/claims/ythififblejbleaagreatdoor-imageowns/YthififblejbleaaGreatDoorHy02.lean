import Derived.Test.YthififblejbleaaGreatDoorHy01
import Derived.Lib.IndexLaws
import Derived.Laws.MakeOwn
import Derived.Lib.AppendStr
namespace Go.Proofs.YthififblejbleaaGreatDoor
open Go.RowKit
open Go.Maps (Keyed)
set_option linter.unusedVariables false
set_option linter.unusedSimpArgs false
def Tab (p : Nat) (w : World) (N : List (List UInt8)) (F : Nat → Prop) : Prop := ∃ nv sv mv, T3 p w N N N nv sv mv ∧ ∀ k, fp p nv sv mv k → F k
def FN (F : Nat → Prop) (w w' : World) (k : Nat) : Prop := F k ∨ (w.heap.size ≤ k ∧ k < w'.heap.size)
theorem Tab.chg {p : Nat} {w w' : World} {N : List (List UInt8)} {F S : Nat → Prop} (h : Tab p w N F) (hc : Chg S w w') (hs : ∀ k, F k → ¬ S k) : Tab p w' N F := by
  obtain ⟨nv, sv, mv, t, hf⟩ := h
  exact ⟨nv, sv, mv, t.chg hc (fun k hk => hs k (hf k hk)), hf⟩
theorem Tab.out {p : Nat} {w w' : World} {N : List (List UInt8)} {F : Nat → Prop} (h : Tab p w N F) (o : Out w w') : Tab p w' N F := h.chg (S := fun _ => False) (Chg.of_out o) (fun _ _ h => h)
theorem Tab.mono {p : Nat} {w : World} {N : List (List UInt8)} {F G : Nat → Prop} (h : Tab p w N F) (hg : ∀ k, F k → G k) : Tab p w N G := by
  obtain ⟨nv, sv, mv, t, hf⟩ := h
  exact ⟨nv, sv, mv, t, fun k hk => hg k (hf k hk)⟩
def newO : Obj := .cells #[.slice none 0 0, .slice none 0 0, .map none] 158 (0, 0)
theorem new_any (w : World) : Calls Tryz.prog 84 #[] w fun e w' => e = .returned (.pointer (some ⟨w.heap.size, 0, none⟩)) ∧ w' = w.alloc newO := by
  go_enter Tryz.func84, Tryz.ntmps84
  go_wp2
  go_ret
  exact ⟨rfl, rfl⟩
theorem new_tab (w : World) : Tab w.heap.size (w.alloc newO) [] (fun k => k = w.heap.size) := by
  refine ⟨.slice none 0 0, .slice none 0 0, .map none, ⟨heap_alloc_new w _, World.ownsRow_nil _ _ _ _, World.ownsRow_nil _ _ _ _, .inl ⟨rfl, rfl⟩⟩, ?_⟩
  intro k hk
  rcases hk with hk | hk | hk | hk
  · exact hk
  · cases hk
  · cases hk
  · cases hk
theorem idx_neg (x : List UInt8) : decide (Lib.indexByte x 0 < 0) = !x.contains 0 := by
  have hge := Lib.indexByte_ge x 0
  by_cases h : Lib.indexByte x 0 < 0
  · have hn := Lib.indexByte_none (l := x) (c := 0) (by omega)
    have : ¬ (0 : UInt8) ∈ x := fun hm => by
      obtain ⟨k, hk⟩ := List.mem_iff_getElem?.1 hm
      exact hn k hk
    simp [h, this]
  · obtain ⟨o, ho⟩ : ∃ o : Nat, Lib.indexByte x 0 = o := ⟨(Lib.indexByte x 0).toNat, by omega⟩
    have := (Lib.indexByte_some (l := x) (c := 0) ho).1
    have hm : (0 : UInt8) ∈ x := List.mem_of_getElem? this
    simp [hm]; omega
theorem isName_any (x : List UInt8) (w : World) : Calls Tryz.prog 103 #[.string ⟨x.toArray⟩] w fun e w' => e = .returned (.bool (nameOk x)) ∧ w = w' := by
  have hsz : (⟨x.toArray⟩ : ByteArray).size = x.length := mk_size x
  have hli : (⟨x.toArray⟩ : ByteArray).toList = x := mk_list x
  have hI := Tryz.strings_IndexByte ⟨x.toArray⟩ 0 w
  simp only [show ((0 : Int).toNat.toUInt8) = 0 from rfl] at hI
  have hneg := idx_neg x
  unfold nameOk
  go_enter Tryz.func103, Tryz.ntmps103
  go_wp2_with (go_at_call 114; refine (hI).mono ?_; rintro e w1 ⟨rfl, rfl⟩)
  all_goals (go_ret; refine ret_bool ?_; simp_all <;> (try (rw [decide_eq_true (by omega : x.length ≤ 64)]; simp)) <;> (try omega))
theorem zeroI (w : World) : (zeroValue 3).run Tryz.prog w = .ok (.int .i64 0) w := by kernel_rfl
theorem look_any {w : World} {mv : Value} {N : List (List UInt8)} (h : MapOk w mv N) (x : List UInt8) (hl : x.length ≤ 1000000000000) : ∃ (r : Option Nat) (c : Int), mv = .map r ∧ (Instr.lookup 156 (.map r) (.string ⟨x.toArray⟩) true).run Tryz.prog w = .ok (.tuple #[.int .i64 c, .bool (decide (x ∈ N))]) w ∧ (x ∈ N → c = (plF 1 N x : Nat)) := by
  have hk := keyOf_tx x hl
  rcases h with ⟨rfl, rfl⟩ | ⟨b, D, rfl, ho, hm⟩
  · refine ⟨none, 0, rfl, ?_, by simp⟩
    have := Maps.look_nil (w := w) true strLaw Tryz.underlying156 (zeroI w) hk
    simpa using this
  · have hw0 : (Lit.int .i64 0).wf = true := by decide
    obtain ⟨v, ps, hr, hv⟩ := ho.look_ok strLaw Tryz.underlying156 (zeroI w) (zd := .lit (.int .i64 0)) (zp := []) (plainElem_int Tryz.underlying3 hw0) hk
    obtain ⟨c, rfl, hc, hwc⟩ := plainElem_int_inv Tryz.underlying3 hv
    refine ⟨some b, c, rfl, by rw [hr, (hm.2 x).1], fun hx => ?_⟩
    have h1 := congrArg Prod.fst hc
    simp only at h1
    rw [(hm.2 x).2 hx] at h1
    cases h1
    rfl
theorem clone_any (x : List UInt8) (w : World) (hl : x.length ≤ 1000000000000) : Calls Tryz.prog 105 #[.string ⟨x.toArray⟩] w fun e w' => e = .returned (.string ⟨x.toArray⟩) ∧ Out w w' := by
  have hsz : (⟨x.toArray⟩ : ByteArray).size = x.length := mk_size x
  have HC := hidOf (Tryz.stringslite_Clone ⟨x.toArray⟩ w (by rw [hsz]; omega))
  go_enter Tryz.func105, Tryz.ntmps105
  go_wp2_with (go_at_call 115; refine (HC.out).mono ?_; rintro e w1 ⟨rfl, ho⟩; have Ho := hidOf ho; clear ho)
  go_ret
  exact ⟨rfl, Ho.out⟩
theorem name_len {x : List UInt8} (h : nameOk x = true) : x.length ≤ 64 := by
  unfold nameOk at h
  simp at h
  exact h.1.2
theorem add_old (p : Nat) (x : List UInt8) (w : World) (N : List (List UInt8)) (F : Nat → Prop) (h : Tab p w N F) (hx : nameOk x = true) (hm : x ∈ N) : Calls Tryz.prog 86 #[.pointer (some ⟨p, 0, none⟩), .string ⟨x.toArray⟩] w fun e w' => e = .returned (.tuple #[.int .i64 (plF 1 N x : Nat), .int .i64 0]) ∧ w = w' := by
  obtain ⟨nv, sv, mv, t, hf⟩ := h
  have HI := hidOf (isName_any x w)
  rw [hx] at HI
  obtain ⟨r, c, rfl, hr, hc⟩ := look_any t.mp x (by have := name_len hx; omega)
  obtain rfl := hc hm
  rw [decide_eq_true hm] at hr
  have c2 : w.cell? ⟨p, 2, none⟩ = some (.map r) := t.cell 2
  clear t hf hc
  generalize plF 1 N x = c at *
  go_enter Tryz.func86, Tryz.ntmps86
  go_wp2_with (go_at_call 103; refine (HI.out).mono ?_; rintro e w1 ⟨rfl, rfl⟩)
  go_ret2
  exact ⟨rfl, rfl⟩
theorem add_new (p : Nat) (x : List UInt8) (w : World) (N : List (List UInt8)) (F : Nat → Prop) (h : Tab p w N F) (hx : nameOk x = true) (hm : ¬ x ∈ N) (hb : szF 1 N ≤ 1000000000000) : Calls Tryz.prog 86 #[.pointer (some ⟨p, 0, none⟩), .string ⟨x.toArray⟩] w fun e w' => e = .returned (.tuple #[.int .i64 (szF 1 N : Nat), .int .i64 0]) ∧ Tab p w' (N ++ [x]) (FN F w w') ∧ Chg F w w' := by
  obtain ⟨nv, sv, mv, t, hf⟩ := h
  have hxl := name_len hx
  have HI := hidOf (isName_any x w)
  rw [hx] at HI
  obtain ⟨r, c, rfl, hr, hc⟩ := look_any t.mp x (by omega)
  rw [decide_eq_false hm] at hr
  have c2 : w.cell? ⟨p, 2, none⟩ = some (.map r) := t.cell 2
  have HT := hidOf t
  have HF := hidOf hf
  have Hm := hidOf hm
  have Hb := hidOf hb
  have Hx := hidOf hxl
  clear t hf hc hm hb hxl
  go_enter Tryz.func86, Tryz.ntmps86
  go_wp2_with (first | (go_at_call 103; refine (HI.out).mono ?_; rintro e w1 ⟨rfl, rfl⟩) | (go_at_call 105; refine (clone_any x _ (by have := Hx.out; omega)).mono ?_; rintro e w2 ⟨rfl, ho⟩; have Ho := hidOf ho; clear ho) | (go_at_call 104; refine (push_any p w2 N _ _ _ x (HT.out.out Ho.out) Hm.out Hb.out (by have := Hx.out; omega)).mono ?_; rintro e w3 ⟨rfl, hp⟩; have Hp := hidOf hp; clear hp))
  go_ret2
  obtain ⟨nv', sv', mv', t', hc', hi'⟩ := Hp.out
  refine ⟨rfl, ⟨nv', sv', mv', t', fun k hk => ?_⟩, ?_⟩
  · rcases hi' k hk with h | h
    · exact .inl (HF.out k h)
    · exact .inr ⟨Nat.le_trans Ho.out.size h, t'.fp_lt k hk⟩
  · exact (Chg.of_out Ho.out).trans hc' (fun k hk _ => HF.out k hk)
theorem getD_of {l : List Int} {j : Nat} {x : Int} (h : l[j]? = some x) : l.getD j 0 = x := by simp [List.getD, h]
theorem search_any {p : Nat} {w : World} {A N C : List (List UInt8)} {nv sv mv : Value} (t : T3 p w A N C nv sv mv) (hn : N.length ≤ 1000000000000) (q : Int) : ∃ a c, sv = .slice a N.length c ∧ Calls Tryz.prog 123 #[.slice a N.length c, .int .i64 q] w fun e w' => e = .returned (.tuple #[.int .i64 ((stF 1 N).countP (· < q) : Nat), .bool (atF 1 N q).isSome]) ∧ ∃ m, w' = w.drewN m := by
  rcases t.st.2 with ⟨hv, h0⟩ | ⟨g, cap, cur, hv, _, _, _⟩
  · obtain rfl := List.length_eq_zero_iff.1 h0
    refine ⟨none, 0, hv, ?_⟩
    refine (Tryz.slices_BinarySearch_int_empty none 0 q w).mono ?_
    rintro e w' ⟨rfl, rfl⟩
    exact ⟨by simp [stF, atF], 0, rfl⟩
  · refine ⟨some ⟨g, 0, none⟩, cap, hv, ?_⟩
    have hc := t.st.cells (g := g) (by rw [hv]; rfl)
    have h1 := Tryz.slices_BinarySearch_int g 0 N.length cap (stF 1 N) q w (by rw [stF_len]; exact Nat.le_refl _) (by omega) (fun j hj => by
      have hx : (stF 1 N)[j]? = some (stF 1 N)[j] := List.getElem?_eq_getElem hj
      have := hc j (.int .i64 (stF 1 N)[j]) (by simp [hx])
      rw [WideShapes.add_plain] at this
      rw [this, getD_of hx]) (by rw [← stF_len N 1, List.take_length]; exact stF_rise N 1)
    rw [← stF_len N 1, List.take_length, (at_search N 1 q).1] at h1
    rw [stF_len] at h1
    exact h1
theorem at_none (p : Nat) (w : World) (N : List (List UInt8)) (F : Nat → Prop) (q : Int) (h : Tab p w N F) (hb : szF 1 N ≤ 1000000000000) (hq : ¬ q = 0) (ha : atF 1 N q = none) : Calls Tryz.prog 119 #[.pointer (some ⟨p, 0, none⟩), .int .i64 q] w fun e w' => e = .returned (.tuple #[.string ⟨#[]⟩, .int .i64 81]) ∧ ∃ m, w' = w.drewN m := by
  obtain ⟨nv, sv, mv, t, hf⟩ := h
  have hn := szF_ge N 1
  obtain ⟨a, c, rfl, hS⟩ := search_any t (by omega) q
  have c1 : w.cell? ⟨p, 1, none⟩ = some (.slice a N.length c) := t.cell 1
  rw [ha] at hS
  have HS := hidOf hS
  have hq' : (q == 0) = false := by simpa using hq
  clear t hf hS ha hb hn hq
  go_enter Tryz.func119, Tryz.ntmps119
  go_wp2_with (go_at_call 123; refine (HS.out).mono ?_; rintro e w1 ⟨rfl, m, rfl⟩)
  go_ret2
  exact ⟨rfl, _, rfl⟩
theorem at_some (p : Nat) (w : World) (N : List (List UInt8)) (F : Nat → Prop) (q : Int) (x : List UInt8) (h : Tab p w N F) (hb : szF 1 N ≤ 1000000000000) (ha : atF 1 N q = some x) : Calls Tryz.prog 119 #[.pointer (some ⟨p, 0, none⟩), .int .i64 q] w fun e w' => e = .returned (.tuple #[.string ⟨x.toArray⟩, .int .i64 0]) ∧ ∃ m, w' = w.drewN m := by
  obtain ⟨nv, sv, mv, t, hf⟩ := h
  have hn := szF_ge N 1
  have hat := at_search N 1 q
  obtain ⟨a, c, rfl, hS⟩ := search_any t (by omega) q
  have c1 : w.cell? ⟨p, 1, none⟩ = some (.slice a N.length c) := t.cell 1
  have hx := hat.2 x ha
  rw [ha] at hS
  have hq' : (q == 0) = false := by
    have h2 : (stF 1 N).contains q = true := by rw [hat.1, ha]; rfl
    have := stF_ge N 1 q (by simpa using h2)
    simp; omega
  generalize (stF 1 N).countP (· < q) = k at *
  have hkl : k < N.length := (List.getElem?_eq_some_iff.1 hx).1
  obtain ⟨g, cap, rfl, hc, d⟩ := own_cell t.nm (k := k) (u := strV x) (by simp [hx])
  have c0 : w.cell? ⟨p, 0, none⟩ = some (.slice (some ⟨g, 0, none⟩) N.length cap) := t.cell 0
  simp only [strV] at d
  have HS := hidOf hS
  have hk1 : (k : Int) < N.length := by omega
  have dd : ∀ m, (w.drewN m).cell? ⟨g, k, none⟩ = some (.string ⟨x.toArray⟩) := fun m => d
  have cc : ∀ m, (w.drewN m).cell? ⟨p, 0, none⟩ = some (.slice (some ⟨g, 0, none⟩) N.length cap) := fun m => c0
  clear t hf hS ha hb hn hx hat
  go_enter Tryz.func119, Tryz.ntmps119
  go_wp2_with (go_at_call 123; refine (HS.out).mono ?_; rintro e w1 ⟨rfl, m, rfl⟩)
  go_ret2
  exact ⟨rfl, _, rfl⟩
def OwS (B : Nat) (v : Value) (N : List (List UInt8)) (w : World) : Prop := w.ownsRow B 9 1 v N.length (N.map strV)
def OwB (B : Nat) (v : Value) (O : List UInt8) (w : World) : Prop := w.ownsRow B 5 1 v O.length (Lib.byteCells O)
theorem infoB : (Tryz.prog.info? 5).map (fun i => (i.zero, i.size, i.bytes)) = some (some (.int .u8 0), 1, 1) := by kernel_rfl
theorem run_make_b1 (n : Nat) (h1 : 1 ≤ n) (hn : n ≤ 1000000000000) (w : World) : ∃ cur : Array Value, (Instr.makeSlice 27 (.int .i64 1) (.int .i64 (n : Int))).run Tryz.prog w = .ok (.slice (some ⟨w.heap.size, 0, none⟩) 1 n) (w.alloc (.cells cur 5)) ∧ OwB w.heap.size (.slice (some ⟨w.heap.size, 0, none⟩) 1 n) [0] (w.alloc (.cells cur 5)) := by
  obtain ⟨i0, hi, hz0, hz1, hz2⟩ := info_parts infoB
  have h := run_make (P := Tryz.prog) w 27 5 i0 _ Tryz.underlying27 hi hz0 .i64 .i64 1 (n : Int) (by omega) (by omega) (by rw [hz2]; omega) (by omega)
  rw [hz1, Nat.mul_one] at h
  refine ⟨_, h, rfl, .inr ⟨w.heap.size, n, _, rfl, Nat.le_refl _, heap_alloc_new w _, h1, by unfold maxLen; omega, by simp [madeCells], ?_⟩⟩
  simp only [madeCells, Int.toNat_natCast]
  obtain ⟨m, rfl⟩ : ∃ m, n = m + 1 := ⟨n - 1, by omega⟩
  simp [Lib.byteCells, Value.cells, List.range_succ_eq_map, List.take]
theorem bc_app (O P : List UInt8) : Lib.byteCells (O ++ P) = Lib.byteCells O ++ Lib.byteCells P := by simp [Lib.byteCells]
theorem bc_str (x : List UInt8) : Lib.strCells ⟨x.toArray⟩ = Lib.byteCells x := by simp [Lib.strCells, Lib.byteCells]
theorem bc_one (O : List UInt8) : ∀ u ∈ Lib.byteCells O, u.oneCell' = true := fun u hu => by
  simp only [Lib.byteCells, List.mem_map] at hu
  obtain ⟨b, _, rfl⟩ := hu
  rfl
theorem byP_snoc (N : List (List UInt8)) (x : List UInt8) : byP (N ++ [x]) = byP N ++ x ++ [0] := by simp [byP, byF_snoc]
theorem take_snoc {α : Type} {l : List α} {k : Nat} {x : α} (h : l[k]? = some x) : l.take (k + 1) = l.take k ++ [x] := by
  rw [List.take_add_one, h]; rfl
theorem szF_take (N : List (List UInt8)) (k : Nat) : szF 1 (N.take k) ≤ szF 1 N := by
  have := szF_add (N.take k) (N.drop k) 1
  rw [List.take_append_drop] at this
  have h2 := szF_ge (N.drop k) (szF 1 (N.take k))
  omega
theorem out_row {w0 X w' : World} {v : Value} {e n : Nat} {xs : List Value} (h : Out w0 X) (hown : X.ownsRow w0.heap.size e 1 v n xs) (hg : X.grownBy w' v.ownBlock) : Out w0 w' := Below.grown h hg h.size (fun k hk => (hown.lt k hk).1)
set_option maxRecDepth 4000 in
set_option maxHeartbeats 2000000 in
theorem bytes_any (p : Nat) (w : World) (N : List (List UInt8)) (F : Nat → Prop) (h : Tab p w N F) (hb : szF 1 N ≤ 1000000000000) : Calls Tryz.prog 87 #[.pointer (some ⟨p, 0, none⟩)] w fun e w' => ∃ a c, e = .returned (.tuple #[.slice a (byP N).length c, .int .i64 0]) ∧ OwB w.heap.size (.slice a (byP N).length c) (byP N) w' ∧ Out w w' := by
  obtain ⟨nv, sv, mv, t, hf⟩ := h
  have hn := szF_ge N 1
  obtain ⟨i0, hi, hz0, hz1, hz2⟩ := info_parts infoB
  obtain ⟨a, c, rfl⟩ := own_form t.nm
  have HS := hidOf (size_any p w N N _ _ _ t hb)
  have HT := hidOf t
  have Hb := hidOf hb
  have HM := hidOf (fun w => run_make_b1 (szF 1 N) (by omega) hb w)
  have hnn : N.length ≤ 1000000000000 := by omega
  clear t hf hb hn
  go_enter Tryz.func87, Tryz.ntmps87
  go_upto_region 4 with (go_at_call 106; refine (HS.out).mono ?_; rintro e w1 ⟨rfl, nd, rfl⟩; obtain ⟨cur, hmk, hown⟩ := HM.out (w.drewN nd); have HOw := hidOf hown; clear hown)
  have HO1 : Hid (Out w ((w.drewN nd).alloc (.cells cur 5))) := ((Out.refl w).drewN nd).alloc _
  have HW1 : Hid (OwB w.heap.size (.slice (some ⟨w.heap.size, 0, none⟩) 1 (szF 1 N)) [0] ((w.drewN nd).alloc (.cells cur 5))) := HOw.out
  clear hmk HOw HM
  generalize (w.drewN nd).alloc (.cells cur 5) = w2 at *
  have c0 : w2.cell? ⟨p, 0, none⟩ = some (.slice a N.length c) := (HT.out.out HO1.out).cell 0
  go_wp2
  go_loopw [17, 4] (fun iv bv wr => ∃ (k : Nat) (O : List UInt8) (ba : Option Addr) (bc : Nat), iv = .int .i64 k ∧ bv = .slice ba O.length bc ∧ k ≤ N.length ∧ O.length ≤ 1000000000000 ∧ Hid (O = byP (N.take k)) ∧ Hid (OwB w.heap.size (.slice ba O.length bc) O wr) ∧ Hid (Out w wr)) (fun iv _ _ => N.length - (intOf iv).toNat)
  case atStart => exact ⟨0, [0], _, _, rfl, rfl, by omega, by simp, rfl, HW1.out, HO1.out⟩
  case round =>
    obtain ⟨k, O, ba, bc, rfl, rfl, hk, hOl, HO, HB, Ho⟩ := hrel
    by_cases hkN : k < N.length
    · have hlt : (k : Int) < N.length := by omega
      have h0 : (0 : Int) ≤ k := by omega
      obtain ⟨x, hx⟩ : ∃ x, N[k]? = some x := ⟨_, List.getElem?_eq_getElem hkN⟩
      obtain ⟨g, cap, hv, hc, d⟩ := own_cell (HT.out.out Ho.out).nm (k := k) (u := strV x) (by simp [hx])
      simp only [Value.slice.injEq] at hv
      obtain ⟨rfl, _, rfl⟩ := hv
      simp only [strV] at d
      have Hx := hidOf hx
      have hsz : (⟨x.toArray⟩ : ByteArray).size = x.length := mk_size x
      have hlen : szF 1 (N.take (k + 1)) = O.length + x.length + 1 := by rw [take_snoc hx, szF_snoc, ← byP_len, ← HO.out]
      have hle := szF_take N (k + 1)
      have hxl : O.length + x.length + 1 ≤ 1000000000000 := by have := Hb.out; omega
      have hsz' : w.heap.size ≤ wr.heap.size := Ho.out.size
      clear hx hlen hle
      go_wp2_with (first | (at_builtin; refine Lib.wpList_append_own_string _ rfl _ _ 27 9 rfl w.heap.size 5 i0 Tryz.underlying27 Tryz.underlying9 hi hz0 hz1 hz2 (.slice ba O.length bc) O.length (Lib.byteCells O) rfl HB.out ⟨x.toArray⟩ rfl (by rw [hsz]; unfold maxLen; omega) (by rw [hsz]; omega) hsz' ?_; intro v3 w3 hown3 hgrow3 _; rw [hsz, bc_str, ← bc_app] at hown3; have HO3 := hidOf hown3; have Ho3 := hidOf (out_row Ho.out HB.out hgrow3); clear hgrow3; obtain ⟨a3, c3, rfl⟩ := own_form hown3; clear hown3) | (at_builtin; refine wpList_append_own _ rfl (.tmp 24) (.tmp 25) 27 rfl w.heap.size 5 i0 _ 1 1 Tryz.underlying27 hi hz0 hz1 hz2 rfl (by decide) (.slice a3 (O.length + x.length) c3) (O.length + x.length) (Lib.byteCells (O ++ x)) rfl (HO3.out.alloc _) ⟨w3.heap.size, 0, none⟩ 1 1 [.int .u8 0] rfl rfl (news_new w3 _ _ _ rfl) (fun u hu => by rw [List.mem_singleton.1 hu]; rfl) (by unfold maxLen; omega) (by omega) (by have := Ho3.out.size; rw [size_alloc]; omega) ?_; intro v4 w4 hown4 hgrow4 _; have HO4 := hidOf hown4; have Ho4 := hidOf (out_row (Ho3.out.alloc _) (HO3.out.alloc _) hgrow4); clear hgrow4; obtain ⟨a4, c4, rfl⟩ := own_form hown4; clear hown4))
      go_roundw
      case rel =>
        have e1 : byP (N.take (k + 1)) = O ++ x ++ [0] := by rw [take_snoc Hx.out, byP_snoc, ← HO.out]
        have e2 : (byP (N.take (k + 1))).length = O.length + x.length + 1 := by rw [e1]; simp; omega
        refine ⟨k + 1, byP (N.take (k + 1)), a4, c4, by simp, by rw [e2], by omega, by rw [e2]; exact hxl, rfl, ?_, Ho4.out⟩
        show World.ownsRow _ _ _ _ _ _ _
        rw [e2, e1, bc_app]
        exact HO4.out
      case measure => simp [intOf]; omega
    · have hlt : ¬ (k : Int) < N.length := by omega
      obtain rfl : k = N.length := by omega
      rw [List.take_length] at HO
      have HO' := HO.out
      subst HO'
      go_wp2
      go_ret2
      exact ⟨_, _, rfl, HB.out, Ho.out⟩
end Go.Proofs.YthififblejbleaaGreatDoor
