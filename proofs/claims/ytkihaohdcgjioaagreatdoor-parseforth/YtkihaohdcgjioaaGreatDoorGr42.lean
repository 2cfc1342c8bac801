import Derived.Test.YtkihaohdcgjioaaGreatDoorGr41
namespace Go.Proofs.YtkihaohdcgjioaaGreatDoor
open Go.RowKit
set_option linter.unusedVariables false
set_option linter.unusedSimpArgs false
theorem stC_get (Y : List (Stm × Value × Value)) : ∀ (k : Nat) (y : Stm × Value × Value) (i : Nat), Y[k]? = some y → i < 11 → (stC Y)[k * 11 + i]? = (stL y.1 y.2.1 y.2.2)[i]? := by
  induction Y with
  | nil => intro k y i h; simp at h
  | cons z r ih =>
    intro k y i h hi
    have hz : (stL z.1 z.2.1 z.2.2).length = 11 := rfl
    cases k with
    | zero =>
      have : z = y := by simpa using h
      subst this
      show (stL z.1 z.2.1 z.2.2 ++ stC r)[0 * 11 + i]? = _
      rw [List.getElem?_append_left (by omega)]
      simp
    | succ k =>
      show (stL z.1 z.2.1 z.2.2 ++ stC r)[(k + 1) * 11 + i]? = _
      rw [List.getElem?_append_right (by omega), show (k + 1) * 11 + i - (stL z.1 z.2.1 z.2.2).length = k * 11 + i by omega]
      exact ih k y i (by simpa using h) hi
theorem OwQ.at {B : Nat} {sv : Value} {L : List Stm} {w : World} (h : OwQ B sv L w) (hne : ¬ L = []) : ∃ g cap Y, sv = .slice (some ⟨g, 0, none⟩) L.length cap ∧ L.length ≤ cap ∧ B ≤ g ∧ g < w.heap.size ∧ Y.map (fun y => y.1) = L ∧ StR w g 0 Y ∧ ∀ y ∈ Y, LsOk B w y.1 y.2.1 y.2.2 := by
  obtain ⟨Y, h1, h2, h3⟩ := h.ex
  have h2' := h2
  rcases h2.2 with ⟨hv, hn⟩ | ⟨g, cap, cur, hv, hb, hg, hc, _⟩
  · exact absurd (List.length_eq_zero_iff.1 hn) hne
  · refine ⟨g, cap, Y, hv, hc, hb, (Array.getElem?_eq_some_iff.1 hg).1, h1, fun k y hy => ?_, h3⟩
    have hl := h3 y (List.mem_of_getElem? hy)
    obtain ⟨aw, cw, e1⟩ := own_form hl.1
    obtain ⟨an, cn, e2⟩ := own_form hl.2
    refine ⟨⟨_, _, _, e1⟩, ⟨_, _, _, e2⟩, fun i u hu => ?_⟩
    have hi : i < 11 := by
      have := (List.getElem?_eq_some_iff.1 hu).1
      exact this
    have h4 := h2'.cells (g := g) (by rw [hv]; rfl) (k * 11 + i) u (by rw [stC_get Y k y i hy hi, hu])
    rw [← h4, Go.WideShapes.add_plain, Nat.add_assoc]
def awT : List UInt8 := [97, 58, 32, 46, 102, 117, 110, 99, 32, 102, 10, 32, 101, 120, 105, 116]
def awL : List Stm := [⟨1, [97], [], [], 0, 0, 0, 0, 0, [], 1⟩, ⟨2, [102], [], [], 0, 0, 0, 0, 0, [], 1⟩, ⟨6, [], [], [], 149, 0, 0, 0, 0, [], 2⟩]
theorem aw_stats : statsP awT = (awL, 0, 0) := by kernel_rfl
theorem aw_line : lnPl ⟨1, [97], [], [], 0, 0, 0, 0, 0, [], 0⟩ 0 0 = ([97, 58], 0) := by kernel_rfl
theorem aw_print : prF [] 0 [([97, 58], 0)] = ([97, 58, 10], 0) := by kernel_rfl
theorem num6_any (k : Int) (w : World) : Calls Tryz.prog 14 #[.int .i64 k] w fun e w' => e = .returned (.int .i64 k) ∧ w = w' := by
  go_enter Tryz.func14, Tryz.ntmps14
  go_wp2
  go_ret
  exact ⟨rfl, rfl⟩
theorem StR.get {w : World} {g off : Nat} {Y : List (Stm × Value × Value)} {L : List Stm} (h : StR w g off Y) (hY : Y.map (fun y => y.1) = L) {k : Nat} {x : Stm} (hx : L[k]? = some x) : ∃ aw nw cw an nn cn, ∀ i u, (stL x (.slice aw nw cw) (.slice an nn cn))[i]? = some u → w.cell? ⟨g, off + k * 11 + i, none⟩ = some u := by
  rw [← hY, List.getElem?_map, Option.map_eq_some_iff] at hx
  obtain ⟨y, hy, rfl⟩ := hx
  obtain ⟨⟨aw, nw, cw, e1⟩, ⟨an, nn, cn, e2⟩, hc⟩ := h k y hy
  rw [e1, e2] at hc
  exact ⟨aw, nw, cw, an, nn, cn, hc⟩
def awS : Stm := ⟨1, [97], [], [], 0, 0, 0, 0, 0, [], 0⟩
set_option maxRecDepth 20000 in
set_option maxHeartbeats 4000000 in
theorem awake6_any (w : World) (hE : Lx.LEnv w) (hP : PEnv w) : Calls Tryz.prog 9 #[] w fun e w' => e = .returned (.bool true) ∧ Out w w' := by
  have CN := hidOf num6_any
  obtain ⟨wA, hwA⟩ : ∃ wA, wA = w.alloc (.cells #[.int .u8 97, .int .u8 58, .int .u8 32, .int .u8 46, .int .u8 102, .int .u8 117, .int .u8 110, .int .u8 99, .int .u8 32, .int .u8 102, .int .u8 10, .int .u8 32, .int .u8 101, .int .u8 120, .int .u8 105, .int .u8 116] 5 (16, 17)) := ⟨_, rfl⟩
  have OA : Hid (Out w wA) := hidOf (by rw [hwA]; exact (Out.refl w).alloc _)
  have C1 : Hid (Calls Tryz.prog 15 #[.slice (some ⟨w.heap.size, 0, none⟩) 16 16] wA fun e w' => ∃ sv B, wA.heap.size ≤ B ∧ e = .returned (.tuple #[sv, .int .i64 0, .int .i64 0]) ∧ OwQ B sv awL w' ∧ Out wA w') := hidOf (by
    have h := stats_any wA (hE.out OA.out) (hP.out OA.out) (some ⟨w.heap.size, 0, none⟩) 16 awT (.inr ⟨w.heap.size, 0, by rw [hwA, size_alloc]; omega, rfl, fun k x hx => by
      rw [hwA, World.cell?_alloc_mark, Nat.zero_add]
      show ((awT.map (fun x => Value.int .u8 (x.toNat : Int))).toArray)[k]? = _
      rw [List.getElem?_toArray, List.getElem?_map, hx]
      rfl⟩) (by decide) (by decide)
    rw [aw_stats] at h
    exact h)
  have LB : Hid (∀ wx, Out w wx → Calls Tryz.prog 12 #[.slice (some ⟨wx.heap.size, 0, none⟩) 1 1] (wx.alloc (.cells #[.int .i64 1, .string ⟨#[97]⟩, .slice none 0 0, .slice none 0 0, .int .i64 0, .int .i64 0, .int .i64 0, .int .i64 0, .int .i64 0, .string ⟨#[]⟩, .int .i64 0] 60)) fun e w' => e = .returned (.tuple #[.string ⟨#[97, 58, 10]⟩, .int .i64 0]) ∧ Out (wx.alloc (.cells #[.int .i64 1, .string ⟨#[97]⟩, .slice none 0 0, .slice none 0 0, .int .i64 0, .int .i64 0, .int .i64 0, .int .i64 0, .int .i64 0, .string ⟨#[]⟩, .int .i64 0] 60)) w') := hidOf (fun wx o => by
    obtain ⟨wy, hwy⟩ : ∃ wy, wy = wx.alloc (.cells #[.int .i64 1, .string ⟨#[97]⟩, .slice none 0 0, .slice none 0 0, .int .i64 0, .int .i64 0, .int .i64 0, .int .i64 0, .int .i64 0, .string ⟨#[]⟩, .int .i64 0] 60) := ⟨_, rfl⟩
    rw [← hwy]
    have oy : Out wx wy := by rw [hwy]; exact (Out.refl wx).alloc _
    have by_ : wy.heap[wx.heap.size]? = some (.cells #[.int .i64 1, .string ⟨#[97]⟩, .slice none 0 0, .slice none 0 0, .int .i64 0, .int .i64 0, .int .i64 0, .int .i64 0, .int .i64 0, .string ⟨#[]⟩, .int .i64 0] 60 (0, 0)) := by rw [hwy]; exact heap_alloc_new wx _
    have h := print6_any wy wx.heap.size 0 1 [(awS, .slice none 0 0, .slice none 0 0)] [([97, 58], 0)] rfl (fun k y hy => by
      match k, hy with
      | 0, hy =>
        have e : (awS, Value.slice none 0 0, Value.slice none 0 0) = y := by simpa using hy
        subst e
        refine ⟨⟨_, _, _, rfl⟩, ⟨_, _, _, rfl⟩, fun i u hu => ?_⟩
        rw [cell_atL by_, ← hu]
        simp only [Nat.zero_mul, Nat.zero_add]
        show ((stL awS (.slice none 0 0) (.slice none 0 0)).toArray)[i]? = _
        rw [List.getElem?_toArray]
      | k + 1, hy => simp at hy) (Array.getElem?_eq_some_iff.1 by_).1 (by decide) (by decide) (fun wz oz k y r hy hr => by
      match k, hy, hr with
      | 0, hy, hr =>
        have e : (awS, Value.slice none 0 0, Value.slice none 0 0) = y := by simpa using hy
        have e2 : (([97, 58] : List UInt8), (0 : Int)) = r := by simpa using hr
        subst e e2
        have h9 := lineOf_plain awS none none 0 0 0 0 wz (hE.out ((o.trans oy).trans oz)).2 (by decide) (by decide) (by decide)
        rw [show lnPl awS 0 0 = ([97, 58], 0) from aw_line] at h9
        simp only [stE]
        exact h9
      | k + 1, hy, hr => simp at hy) (fun r hr _ => by
      have : r = ([97, 58], 0) := by simpa using hr
      rw [this]
      decide)
    rw [aw_print] at h
    exact h)
  have hcv := Lib.run_convert_bytes_const (P := Tryz.prog) w 24 5 #[.int .u8 97, .int .u8 58, .int .u8 32, .int .u8 46, .int .u8 102, .int .u8 117, .int .u8 110, .int .u8 99, .int .u8 32, .int .u8 102, .int .u8 10, .int .u8 32, .int .u8 101, .int .u8 120, .int .u8 105, .int .u8 116] 16 16 Tryz.underlying24 Tryz.underlying5
  simp only [List.size_toArray, List.length_cons, List.length_nil, Nat.zero_add, Nat.reduceAdd] at hcv
  rw [← hwA] at hcv
  clear hwA hE hP
  go_enter Tryz.func9, Tryz.ntmps9
  go_upto_region 2 with (go_at_call 15; refine C1.out.mono ?_; rintro e w1 ⟨sv, B, hB, rfl, hq, ho⟩; have Q1 := hidOf hq; have O1 := hidOf (OA.out.trans ho); clear hq ho hB)
  obtain ⟨g, cap, Y, rfl, hcap, -, -, hY, hS, -⟩ := Q1.out.at (by simp [awL])
  obtain ⟨_, _, _, _, _, _, k0⟩ := hS.get hY (k := 0) rfl
  obtain ⟨_, _, _, _, _, _, k1⟩ := hS.get hY (k := 1) rfl
  obtain ⟨_, _, _, _, _, _, k2⟩ := hS.get hY (k := 2) rfl
  have q0 : w1.cell? ⟨g, 1, none⟩ = some (.string ⟨#[97]⟩) := k0 1 _ rfl
  have q1 : w1.cell? ⟨g, 11, none⟩ = some (.int .i64 2) := k1 0 _ rfl
  have q2 : w1.cell? ⟨g, 26, none⟩ = some (.int .i64 149) := k2 4 _ rfl
  have q3 : w1.cell? ⟨g, 32, none⟩ = some (.int .i64 2) := k2 10 _ rfl
  have e3 : awL.length = 3 := rfl
  rw [e3] at hcap ⊢
  clear hS hY k0 k1 k2 hcv Q1 e3
  go_wp2_with (first | (go_at_call 14; refine (CN.out _ _).mono ?_; rintro e wn ⟨rfl, hwn⟩; subst hwn) | (go_at_call 12; refine (LB.out _ O1.out).mono ?_; rintro e w3 ⟨rfl, ho⟩; have O3 := hidOf (Out.trans (O1.out.alloc _) ho); clear ho q0 q1 q2 q3))
  go_ret
  exact ⟨rfl, O3.out⟩
def LnB (lo hi : Int) (ts : List Lx.Tk) : Prop := ∀ x ∈ ts, ¬ x.k = 0 → lo ≤ x.l ∧ x.l ≤ hi
theorem Lw.head {ts : List Lx.Tk} (h : Lw ts) {lo hi : Int} (hb : LnB lo hi ts) : lo ≤ lineQ ts ∧ lineQ ts ≤ hi := by
  obtain ⟨t, r, rfl⟩ := h.ne
  refine hb t (by simp) (fun e => ?_)
  unfold Lw at h
  by_cases hk : t.k = 5
  · omega
  · rw [if_neg hk] at h; exact h.1 e
theorem bc_one6 (O : List UInt8) : ∀ u ∈ Lib.byteCells O, u.oneCell' = true := fun u hu => by
  simp only [Lib.byteCells, List.mem_map] at hu
  obtain ⟨b, _, rfl⟩ := hu
  rfl
def OwB6 (B : Nat) (v : Value) (O : List UInt8) (w : World) : Prop := w.ownsRow B 5 1 v O.length (Lib.byteCells O)
theorem owns_void6 (w : World) (B size : Nat) (e : TypeId) (hB : B ≤ w.heap.size) : (w.alloc (.cells #[] e)).ownsRow B e size (.slice (some ⟨w.heap.size, 0, none⟩) 0 0) 0 [] :=
  ⟨by simp, .inr ⟨w.heap.size, 0, #[], rfl, hB, heap_alloc_new w _, Nat.le_refl _, by decide, by simp, by simp⟩⟩
theorem out_own6 {B n sz : Nat} {w X w1 : World} {e : TypeId} {v : Value} {xs : List Value} (hB : B = w.heap.size) (h : X.ownsRow B e sz v n xs) (o : Out w X) (hg : X.grownBy w1 v.ownBlock) : Out w w1 :=
  Chg.out (S := fun k => v.ownBlock = some k) (Chg.of_grown hg (fun k h => h)) o (fun k hk => by have := (h.lt k hk).1; omega)
theorem infoB6 : (Tryz.prog.info? 5).map (fun i => (i.zero, i.size, i.bytes)) = some (some (.int .u8 0), 1, 1) := by kernel_rfl
set_option maxHeartbeats 800000 in
theorem copy6_any (w : World) (a : Option Addr) (cap : Nat) (l : List UInt8) (hr : Lx.RestAt w.heap.size w a l) (hll : l.length ≤ 140737488351232) : Calls Tryz.prog 17 #[.slice a l.length cap] w fun e w' => ∃ v, e = .returned v ∧ OwB6 w.heap.size v l w' ∧ Out w w' := by
  obtain ⟨i0, hi, hz0, hz1, hz2⟩ := info_parts infoB6
  have H0 := hidOf (owns_void6 w w.heap.size 1 5 (Nat.le_refl _))
  cases a with
  | none =>
    obtain rfl : l = [] := by
      rcases hr with h | ⟨b, off, _, h, _⟩
      · exact h
      · cases h
    simp only [List.length_nil]
    go_enter Tryz.func17, Tryz.ntmps17
    go_wp2
    go_ret
    exact ⟨_, rfl, H0.out, Out.alloc (Out.refl _) _⟩
  | some ad =>
    have HC : Hid (∀ j u, (Lib.byteCells l)[j]? = some u → (w.alloc (.cells #[] 5)).cell? (ad.add j) = some u) := hidOf (fun j u hu => by
      simp only [Lib.byteCells, List.getElem?_map, Option.map_eq_some_iff] at hu
      obtain ⟨x, hx, rfl⟩ := hu
      rcases hr with rfl | ⟨b, off, _, h, hc⟩
      · simp at hx
      · cases h
        rw [WideShapes.add_plain]
        exact cell_later ((Out.refl w).alloc _) (hc j x hx))
    clear hr
    go_enter Tryz.func17, Tryz.ntmps17
    go_wp2_with (at_builtin; refine wpList_append_own _ rfl (.tmp 3) (.tmp 4) 24 rfl w.heap.size 5 i0 _ 1 1 Tryz.underlying24 hi hz0 hz1 hz2 rfl (by decide) (.slice (some ⟨w.heap.size, 0, none⟩) 0 0) 0 [] rfl H0.out ad l.length cap (Lib.byteCells l) rfl (by rw [Lib.byteCells_length, Nat.mul_one]) HC.out (bc_one6 l) (by unfold maxLen; omega) (by omega) (by rw [size_alloc]; omega) ?_; intro v' w3 hown' hgrow _; have H3 := hidOf (out_own6 rfl H0.out ((Out.refl w).alloc _) hgrow); have HN : Hid (OwB6 w.heap.size v' l w3) := hidOf (by unfold OwB6; rw [← Nat.zero_add l.length]; exact hown'); clear hown' hgrow)
    go_ret
    exact ⟨_, rfl, HN.out, H3.out⟩
theorem OwB6.rest {B : Nat} {v : Value} {l : List UInt8} {w : World} (h : OwB6 B v l w) : ∃ a cap, v = .slice a l.length cap ∧ l.length ≤ cap ∧ Lx.RestAt w.heap.size w a l := by
  rcases h.2 with ⟨hv, hn⟩ | ⟨g, cap, cur, hv, hb, hg, hc, _⟩
  · exact ⟨none, 0, by rw [hv, hn], by omega, .inl (List.length_eq_zero_iff.1 hn)⟩
  · refine ⟨_, _, hv, hc, .inr ⟨g, 0, (Array.getElem?_eq_some_iff.1 hg).1, rfl, fun k x hx => ?_⟩⟩
    have := World.ownsRow.cells h (g := g) (by rw [hv]; rfl) k (.int .u8 (x.toNat : Int)) (by simp [Lib.byteCells, hx])
    rw [← this, Go.WideShapes.add_plain]
def RowC (w : World) (a : Option Addr) (cs : List Value) : Prop := cs = [] ∨ ∃ g off, a = some ⟨g, off, none⟩ ∧ ∀ k u, cs[k]? = some u → w.cell? ⟨g, off + k, none⟩ = some u
theorem RowC.out {w w' : World} {a : Option Addr} {cs : List Value} (h : RowC w a cs) (o : Out w w') : RowC w' a cs := by
  rcases h with h | ⟨g, off, e, h⟩
  · exact .inl h
  · exact .inr ⟨g, off, e, fun k u hu => cell_later o (h k u hu)⟩
theorem RowC.get {w : World} {a : Option Addr} {cs : List Value} (h : RowC w a cs) {k : Nat} {u : Value} (hu : cs[k]? = some u) : ∃ g off, a = some ⟨g, off, none⟩ ∧ w.cell? ⟨g, off + k, none⟩ = some u := by
  rcases h with h | ⟨g, off, e, h⟩
  · rw [h] at hu; cases hu
  · exact ⟨g, off, e, h k u hu⟩
theorem own_row {B n : Nat} {w : World} {t : TypeId} {v : Value} {cs : List Value} (h : w.ownsRow B t 1 v n cs) (hn : cs.length = n) : ∃ a cap, v = .slice a n cap ∧ n ≤ cap ∧ RowC w a cs := by
  rcases h.2 with ⟨hv, h0⟩ | ⟨g, cap, cur, hv, hb, hg, hc, _⟩
  · exact ⟨none, 0, by rw [hv, h0], by omega, .inl (List.length_eq_zero_iff.1 (by omega))⟩
  · refine ⟨_, _, hv, hc, .inr ⟨g, 0, rfl, fun k u hu => ?_⟩⟩
    have := World.ownsRow.cells h (g := g) (by rw [hv]; rfl) k u hu
    rw [← this, Go.WideShapes.add_plain]
theorem strsC_get {N : List (List UInt8)} {k : Nat} {y : List UInt8} (h : N[k]? = some y) : (strsC N)[k]? = some (.string ⟨y.toArray⟩) := by simp [strsC, h]
theorem intsC_get {N : List Int} {k : Nat} {y : Int} (h : N[k]? = some y) : (intsC N)[k]? = some (.int .i64 y) := by simp [intsC, h]
set_option maxHeartbeats 800000 in
theorem sameT6_any (a b : Option Addr) (c d : Nat) (N : List (List UInt8)) (w : World) (h : RowC w a (strsC N)) (h' : RowC w b (strsC N)) (hn : N.length ≤ 20000000000000) : Calls Tryz.prog 35 #[.slice a N.length c, .slice b N.length d] w fun e w' => e = .returned (.bool true) ∧ ∃ m, w' = w.drewN m := by
  have H := hidOf h
  have H' := hidOf h'
  have hee : ((N.length : Int) != (N.length : Int)) = false := by simp
  clear h h'
  go_enter Tryz.func35, Tryz.ntmps35
  go_wp2
  go_loopw [5] (fun iv wr => ∃ k m : Nat, iv = .int .i64 k ∧ k ≤ N.length ∧ wr = w.drewN m) (fun iv _ => N.length - (intOf iv).toNat)
  case atStart => exact ⟨0, 0, rfl, by omega, rfl⟩
  case round =>
    obtain ⟨k, m, rfl, hk, rfl⟩ := hrel
    by_cases hkN : k < N.length
    · have hlt : (k : Int) < N.length := by omega
      have h0 : (0 : Int) ≤ k := by omega
      obtain ⟨y, hy⟩ : ∃ y, N[k]? = some y := ⟨_, List.getElem?_eq_getElem hkN⟩
      obtain ⟨g, off, rfl, q⟩ := H.out.get (strsC_get hy)
      obtain ⟨g', off', rfl, q'⟩ := H'.out.get (strsC_get hy)
      have q1 : ∀ m, (w.drewN m).cell? ⟨g, off + k, none⟩ = some (.string ⟨y.toArray⟩) := fun m => q
      have q2 : ∀ m, (w.drewN m).cell? ⟨g', off' + k, none⟩ = some (.string ⟨y.toArray⟩) := fun m => q'
      clear hy q q'
      go_wp2_with (go_quiet (fail))
      go_roundw
      case rel => exact ⟨k + 1, _, by simp, by omega, rfl⟩
      case measure => simp [intOf]; omega
    · have hlt : ¬ (k : Int) < N.length := by omega
      go_wp2
      go_ret
      exact ⟨rfl, _, rfl⟩
set_option maxHeartbeats 800000 in
theorem sameI6_any (a b : Option Addr) (c d : Nat) (N : List Int) (w : World) (h : RowC w a (intsC N)) (h' : RowC w b (intsC N)) (hn : N.length ≤ 20000000000000) : Calls Tryz.prog 36 #[.slice a N.length c, .slice b N.length d] w fun e w' => e = .returned (.bool true) ∧ ∃ m, w' = w.drewN m := by
  have H := hidOf h
  have H' := hidOf h'
  have hee : ((N.length : Int) != (N.length : Int)) = false := by simp
  clear h h'
  go_enter Tryz.func36, Tryz.ntmps36
  go_wp2
  go_loopw [5] (fun iv wr => ∃ k m : Nat, iv = .int .i64 k ∧ k ≤ N.length ∧ wr = w.drewN m) (fun iv _ => N.length - (intOf iv).toNat)
  case atStart => exact ⟨0, 0, rfl, by omega, rfl⟩
  case round =>
    obtain ⟨k, m, rfl, hk, rfl⟩ := hrel
    by_cases hkN : k < N.length
    · have hlt : (k : Int) < N.length := by omega
      have h0 : (0 : Int) ≤ k := by omega
      obtain ⟨y, hy⟩ : ∃ y, N[k]? = some y := ⟨_, List.getElem?_eq_getElem hkN⟩
      obtain ⟨g, off, rfl, q⟩ := H.out.get (intsC_get hy)
      obtain ⟨g', off', rfl, q'⟩ := H'.out.get (intsC_get hy)
      have q1 : ∀ m, (w.drewN m).cell? ⟨g, off + k, none⟩ = some (.int .i64 y) := fun m => q
      have q2 : ∀ m, (w.drewN m).cell? ⟨g', off' + k, none⟩ = some (.int .i64 y) := fun m => q'
      have hyy : (y != y) = false := by simp
      clear hy q q'
      go_wp2_with (go_quiet (fail))
      go_roundw
      case rel => exact ⟨k + 1, _, by simp, by omega, rfl⟩
      case measure => simp [intOf]; omega
    · have hlt : ¬ (k : Int) < N.length := by omega
      go_wp2
      go_ret
      exact ⟨rfl, _, rfl⟩
theorem box2_new {w : World} (o1 o2 : Array Value) (t1 t2 : TypeId) : ((w.alloc (.cells o1 t1)).alloc (.cells o2 t2)).heap[w.heap.size]? = some (.cells o1 t1 (0, 0)) ∧ ((w.alloc (.cells o1 t1)).alloc (.cells o2 t2)).heap[w.heap.size + 1]? = some (.cells o2 t2 (0, 0)) := by
  have e1 := heap_alloc_new w (.cells o1 t1)
  have o : Out (w.alloc (.cells o1 t1)) ((w.alloc (.cells o1 t1)).alloc (.cells o2 t2)) := (Out.refl _).alloc _
  refine ⟨(o.block _ (by rw [size_alloc]; omega)).trans e1, ?_⟩
  have := heap_alloc_new (w.alloc (.cells o1 t1)) (.cells o2 t2)
  rw [size_alloc] at this
  exact this
set_option maxRecDepth 20000 in
set_option maxHeartbeats 4000000 in
theorem sameSt_any (x : Stm) (aw aw2 an an2 : Option Addr) (cw cw2 cn cn2 : Nat) (w : World) (h1 : RowC w aw (strsC x.ws)) (h2 : RowC w aw2 (strsC x.ws)) (h3 : RowC w an (intsC x.ns)) (h4 : RowC w an2 (intsC x.ns)) (hw : x.ws.length ≤ 20000000000000) (hn : x.ns.length ≤ 20000000000000) :
    Calls Tryz.prog 16 #[.agg #[.int .i64 x.k, .string ⟨x.nm.toArray⟩, .slice aw x.ws.length cw, .slice an x.ns.length cn, .int .i64 x.o, .int .i64 x.d, .int .i64 x.s, .int .i64 x.f, .int .i64 x.i, .string ⟨x.tg.toArray⟩, .int .i64 x.l], .agg #[.int .i64 x.k, .string ⟨x.nm.toArray⟩, .slice aw2 x.ws.length cw2, .slice an2 x.ns.length cn2, .int .i64 x.o, .int .i64 x.d, .int .i64 x.s, .int .i64 x.f, .int .i64 x.i, .string ⟨x.tg.toArray⟩, .int .i64 x.l]] w fun e w' => e = .returned (.bool true) ∧ Out w w' := by
  obtain ⟨W, hW⟩ : ∃ W, W = (w.alloc (.cells #[.int .i64 x.k, .string ⟨x.nm.toArray⟩, .slice aw x.ws.length cw, .slice an x.ns.length cn, .int .i64 x.o, .int .i64 x.d, .int .i64 x.s, .int .i64 x.f, .int .i64 x.i, .string ⟨x.tg.toArray⟩, .int .i64 x.l] 60)).alloc (.cells #[.int .i64 x.k, .string ⟨x.nm.toArray⟩, .slice aw2 x.ws.length cw2, .slice an2 x.ns.length cn2, .int .i64 x.o, .int .i64 x.d, .int .i64 x.s, .int .i64 x.f, .int .i64 x.i, .string ⟨x.tg.toArray⟩, .int .i64 x.l] 60) := ⟨_, rfl⟩
  have HO : Hid (Out w W) := hidOf (by rw [hW]; exact ((Out.refl w).alloc _).alloc _)
  have hb : W.heap[w.heap.size]? = some (.cells #[.int .i64 x.k, .string ⟨x.nm.toArray⟩, .slice aw x.ws.length cw, .slice an x.ns.length cn, .int .i64 x.o, .int .i64 x.d, .int .i64 x.s, .int .i64 x.f, .int .i64 x.i, .string ⟨x.tg.toArray⟩, .int .i64 x.l] 60 (0, 0)) ∧ W.heap[w.heap.size + 1]? = some (.cells #[.int .i64 x.k, .string ⟨x.nm.toArray⟩, .slice aw2 x.ws.length cw2, .slice an2 x.ns.length cn2, .int .i64 x.o, .int .i64 x.d, .int .i64 x.s, .int .i64 x.f, .int .i64 x.i, .string ⟨x.tg.toArray⟩, .int .i64 x.l] 60 (0, 0)) := by rw [hW]; exact box2_new _ _ _ _
  have HK : Hid (∀ wx, Out W wx → wx.cell? ⟨w.heap.size, 0, none⟩ = some (.int .i64 x.k) ∧ wx.cell? ⟨w.heap.size, 1, none⟩ = some (.string ⟨x.nm.toArray⟩) ∧ wx.cell? ⟨w.heap.size, 2, none⟩ = some (.slice aw x.ws.length cw) ∧ wx.cell? ⟨w.heap.size, 3, none⟩ = some (.slice an x.ns.length cn) ∧ wx.cell? ⟨w.heap.size, 4, none⟩ = some (.int .i64 x.o) ∧ wx.cell? ⟨w.heap.size, 5, none⟩ = some (.int .i64 x.d) ∧ wx.cell? ⟨w.heap.size, 6, none⟩ = some (.int .i64 x.s) ∧ wx.cell? ⟨w.heap.size, 7, none⟩ = some (.int .i64 x.f) ∧ wx.cell? ⟨w.heap.size, 8, none⟩ = some (.int .i64 x.i) ∧ wx.cell? ⟨w.heap.size, 9, none⟩ = some (.string ⟨x.tg.toArray⟩) ∧ wx.cell? ⟨w.heap.size, 10, none⟩ = some (.int .i64 x.l) ∧ wx.cell? ⟨(w.heap.size + 1), 0, none⟩ = some (.int .i64 x.k) ∧ wx.cell? ⟨(w.heap.size + 1), 1, none⟩ = some (.string ⟨x.nm.toArray⟩) ∧ wx.cell? ⟨(w.heap.size + 1), 2, none⟩ = some (.slice aw2 x.ws.length cw2) ∧ wx.cell? ⟨(w.heap.size + 1), 3, none⟩ = some (.slice an2 x.ns.length cn2) ∧ wx.cell? ⟨(w.heap.size + 1), 4, none⟩ = some (.int .i64 x.o) ∧ wx.cell? ⟨(w.heap.size + 1), 5, none⟩ = some (.int .i64 x.d) ∧ wx.cell? ⟨(w.heap.size + 1), 6, none⟩ = some (.int .i64 x.s) ∧ wx.cell? ⟨(w.heap.size + 1), 7, none⟩ = some (.int .i64 x.f) ∧ wx.cell? ⟨(w.heap.size + 1), 8, none⟩ = some (.int .i64 x.i) ∧ wx.cell? ⟨(w.heap.size + 1), 9, none⟩ = some (.string ⟨x.tg.toArray⟩) ∧ wx.cell? ⟨(w.heap.size + 1), 10, none⟩ = some (.int .i64 x.l)) := hidOf (fun wx o => by
    obtain ⟨b1, b2⟩ := hb
    exact ⟨cell_later o (by rw [cell_atL b1]; rfl), cell_later o (by rw [cell_atL b1]; rfl), cell_later o (by rw [cell_atL b1]; rfl), cell_later o (by rw [cell_atL b1]; rfl), cell_later o (by rw [cell_atL b1]; rfl), cell_later o (by rw [cell_atL b1]; rfl), cell_later o (by rw [cell_atL b1]; rfl), cell_later o (by rw [cell_atL b1]; rfl), cell_later o (by rw [cell_atL b1]; rfl), cell_later o (by rw [cell_atL b1]; rfl), cell_later o (by rw [cell_atL b1]; rfl), cell_later o (by rw [cell_atL b2]; rfl), cell_later o (by rw [cell_atL b2]; rfl), cell_later o (by rw [cell_atL b2]; rfl), cell_later o (by rw [cell_atL b2]; rfl), cell_later o (by rw [cell_atL b2]; rfl), cell_later o (by rw [cell_atL b2]; rfl), cell_later o (by rw [cell_atL b2]; rfl), cell_later o (by rw [cell_atL b2]; rfl), cell_later o (by rw [cell_atL b2]; rfl), cell_later o (by rw [cell_atL b2]; rfl), cell_later o (by rw [cell_atL b2]; rfl)⟩)
  have CT : Hid (∀ wx, Out W wx → Calls Tryz.prog 35 #[.slice aw x.ws.length cw, .slice aw2 x.ws.length cw2] wx fun e w' => e = .returned (.bool true) ∧ Out wx w') := hidOf (fun wx o => (sameT6_any aw aw2 cw cw2 x.ws wx (h1.out (HO.out.trans o)) (h2.out (HO.out.trans o)) hw).mono (by
    rintro e w' ⟨he, m, rfl⟩
    exact ⟨he, (Out.refl wx).dN m⟩))
  have CI : Hid (∀ wx, Out W wx → Calls Tryz.prog 36 #[.slice an x.ns.length cn, .slice an2 x.ns.length cn2] wx fun e w' => e = .returned (.bool true) ∧ Out wx w') := hidOf (fun wx o => (sameI6_any an an2 cn cn2 x.ns wx (h3.out (HO.out.trans o)) (h4.out (HO.out.trans o)) hn).mono (by
    rintro e w' ⟨he, m, rfl⟩
    exact ⟨he, (Out.refl wx).dN m⟩))
  have OW : Hid (Out W W) := hidOf (Out.refl W)
  have HW := hidOf hW
  obtain ⟨nw, hnw⟩ : ∃ n, n = x.ws.length := ⟨_, rfl⟩
  obtain ⟨nn, hnn⟩ : ∃ n, n = x.ns.length := ⟨_, rfl⟩
  clear hb h1 h2 h3 h4 hW
  rw [← hnw] at HK CT HW ⊢
  rw [← hnn] at HK CI HW ⊢
  clear hnw hnn hw hn
  obtain ⟨xk, xnm, xws, xns, xo, xd, xs, xf, xi, xtg, xl⟩ := x
  simp only at HK HW ⊢
  go_enter Tryz.func16, Tryz.ntmps16
  go_upto_region 1 with fail
  rw [← HW.out]
  have q := HK.out W OW.out
  obtain ⟨q0, q1, q2, q3, q4, q5, q6, q7, q8, q9, q10, q11, q12, q13, q14, q15, q16, q17, q18, q19, q20, q21⟩ := q
  go_wp2_with (first | (go_at_call 35; refine (CT.out _ OW.out).mono ?_; rintro e w1 ⟨rfl, hO1⟩; have HO1 := hidOf hO1; clear hO1; obtain ⟨r0, r1, r2, r3, r4, r5, r6, r7, r8, r9, r10, r11, r12, r13, r14, r15, r16, r17, r18, r19, r20, r21⟩ := HK.out _ HO1.out) | (go_at_call 36; refine (CI.out _ HO1.out).mono ?_; rintro e w2 ⟨rfl, hO2⟩; have HO2 := hidOf (Out.trans HO1.out hO2); clear hO2; obtain ⟨s0, s1, s2, s3, s4, s5, s6, s7, s8, s9, s10, s11, s12, s13, s14, s15, s16, s17, s18, s19, s20, s21⟩ := HK.out _ HO2.out))
  go_ret
  exact ⟨rfl, HO.out.trans HO2.out⟩
end Go.Proofs.YtkihaohdcgjioaaGreatDoor
