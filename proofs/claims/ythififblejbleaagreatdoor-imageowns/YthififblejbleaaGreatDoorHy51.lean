import Derived.Test.YthififblejbleaaGreatDoorHy44
import Derived.Test.YthififblejbleaaGreatDoorHy50
import Derived.Test.YthififblejbleaaGreatDoorHy39
import Derived.Test.YthififblejbleaaGreatDoorHy26
namespace Go.Proofs.YthififblejbleaaGreatDoor
open Go.RowKit
set_option linter.unusedVariables false
set_option linter.unusedSimpArgs false
def wriB (m : Img) : List UInt8 := if (ckP m).2 = 0 then wrB m else []
def WrU (m : Img) (w : World) (e : Ending) (w' : World) : Prop := ∃ a c, e = .returned (.tuple #[.slice a (wriB m).length c, .int .i64 ((ckP m).1 : Nat), .int .i64 (ckP m).2]) ∧ OwB w.heap.size (.slice a (wriB m).length c) (wriB m) w' ∧ Out w w'
theorem writeU_any (m : Img) (w : World) (ta fa da : Option Addr) (tc fc dc : Nat) (h : ImA w ta fa da m) (htc : m.T.length ≤ tc) (hi : ∀ x ∈ m.T, -9223372036854775808 ≤ x.i ∧ x.i ≤ 9223372036854775807) : Calls Tryz.prog 5 #[.agg #[.slice ta m.T.length tc, .slice fa m.F.length fc, .slice da m.D.length dc, .int .i64 m.en]] w (WrU m w) := by
  refine (write_any m w ta fa da tc fc dc h htc hi).mono ?_
  rintro e w' (⟨hok, a, c, rfl, ho, o⟩ | ⟨hne, rfl, o⟩)
  · have hb : wriB m = wrB m := by unfold wriB; rw [ok_ck hok]; simp
    refine ⟨a, c, ?_, ?_, o⟩
    · rw [hb, ok_ck hok]; rfl
    · rw [hb]; exact ho
  · have hb : wriB m = [] := by unfold wriB; rw [if_neg hne]
    refine ⟨none, 0, ?_, ?_, o⟩
    · rw [hb]; rfl
    · rw [hb]; exact World.ownsRow_nil _ _ _ _
set_option maxRecDepth 8000 in
theorem refWrite_no (w : World) (ta fa da : Option Addr) (tc fc dc tn fn dn : Nat) (en : Int) (kk : Nat) (ee : Int) (hee : (ee != 0) = true) (CK : Hid (∀ wx, Out w wx → Calls Tryz.prog 17 #[.agg #[.slice ta tn tc, .slice fa fn fc, .slice da dn dc, .int .i64 en]] wx fun e w' => e = .returned (.tuple #[.int .i64 (kk : Nat), .int .i64 ee]) ∧ Out wx w')) : Calls Tryz.prog 4 #[.agg #[.slice ta tn tc, .slice fa fn fc, .slice da dn dc, .int .i64 en]] w fun e w' => e = .returned (.tuple #[.slice none 0 0, .int .i64 (kk : Nat), .int .i64 ee]) ∧ Out w w' := by
  have HO : ∀ {w1 : World} {O : Obj}, Out (w.alloc O) w1 → Out w w1 := fun o => Out.trans (Out.alloc (Out.refl _) _) o
  go_enter Tryz.func4, Tryz.ntmps4
  go_wp2_with (go_at_call 17; refine (CK.out _ (Out.alloc (Out.refl _) _)).mono ?_; rintro e w1 ⟨rfl, o1⟩)
  go_ret3
  exact ⟨rfl, HO o1⟩
theorem refWriteU_any (m : Img) (w : World) (ta fa da : Option Addr) (tc fc dc : Nat) (h : ImA w ta fa da m) (htc : m.T.length ≤ tc) (hkD : ∀ x ∈ m.D, x.nm.length ≤ 4611686018427387904) : Calls Tryz.prog 4 #[.agg #[.slice ta m.T.length tc, .slice fa m.F.length fc, .slice da m.D.length dc, .int .i64 m.en]] w (WrU m w) := by
  by_cases h0 : (ckP m).2 = 0
  · have hok := ck_ok h0
    have hb : wriB m = wrB m := by unfold wriB; rw [if_pos h0]
    refine (refWrite_ok m w ta fa da tc fc dc h htc hkD hok).mono ?_
    rintro e w' ⟨a, c, rfl, ho, o⟩
    refine ⟨a, c, ?_, ?_, o⟩
    · rw [hb, ok_ck hok]; rfl
    · rw [hb]; exact ho
  · have hb : wriB m = [] := by unfold wriB; rw [if_neg h0]
    refine (refWrite_no w ta fa da tc fc dc _ _ _ _ (ckP m).1 (ckP m).2 (by simpa using h0) (hidOf fun wx o => refCheck_any m wx ta fa da tc fc dc (h.out o) hkD)).mono ?_
    rintro e w' ⟨rfl, o⟩
    refine ⟨none, 0, ?_, ?_, o⟩
    · rw [hb]; rfl
    · rw [hb]; exact World.ownsRow_nil _ _ _ _
theorem head_nil (w : World) (p c : Nat) (a : Option Addr) (h : RgA w p (.slice a 0 c) 0 0 0 0 (.slice none 0 0) (.slice none 0 0) 0) : Calls Tryz.prog 25 #[.pointer (some ⟨p, 0, none⟩)] w fun e w' => e = .returned (.int .i64 0) ∧ w = w' := by
  obtain ⟨c0, _⟩ := h.at
  clear h
  go_enter Tryz.func25, Tryz.ntmps25
  go_wp2
  go_ret
  exact ⟨rfl, rfl⟩
set_option maxRecDepth 8000 in
theorem refRead_nil (w : World) (a : Option Addr) (c : Nat) : Calls Tryz.prog 6 #[.slice a 0 c] w (RdE [] w) := by
  obtain ⟨w2, hw2⟩ : ∃ x, Hid (x = (w.alloc (.cells #[.slice none 0 0, .slice none 0 0, .slice none 0 0, .int .i64 0] 26)).alloc (.cells #[.slice a 0 c, .int .i64 0, .int .i64 0, .int .i64 0, .int .i64 0, .slice none 0 0, .slice none 0 0, .int .i64 0] 81)) := ⟨_, rfl⟩
  obtain ⟨p, hp⟩ : ∃ p, Hid (p = w.heap.size + 1) := ⟨_, rfl⟩
  have O2 : Hid (Out w w2) := hidOf (by rw [hw2.out]; exact Out.alloc (Out.alloc (Out.refl _) _) _)
  have b5 : Hid (w2.heap[w.heap.size]? = some (.cells #[.slice none 0 0, .slice none 0 0, .slice none 0 0, .int .i64 0] 26 (0, 0))) := hidOf (by rw [hw2.out]; exact ((Out.alloc (Out.refl (w.alloc _)) _).block w.heap.size (by rw [size_alloc]; omega)).trans (heap_alloc_new w _))
  have R2 : Hid (RgA w2 p (.slice a 0 c) 0 0 0 0 (.slice none 0 0) (.slice none 0 0) 0) := hidOf (by
    have := heap_alloc_new (w.alloc (.cells #[.slice none 0 0, .slice none 0 0, .slice none 0 0, .int .i64 0] 26)) (.cells #[.slice a 0 c, .int .i64 0, .int .i64 0, .int .i64 0, .int .i64 0, .slice none 0 0, .slice none 0 0, .int .i64 0] 81)
    rw [size_alloc, ← hw2.out, ← hp.out] at this; exact this)
  have CH := hidOf (head_nil w2 p c a R2.out)
  have HP : Hid (pasR [] = .error 0) := hidOf (by simp [pasR, hdF])
  have z0 : w2.cell? ⟨w.heap.size, 0, none⟩ = some (.slice none 0 0) := by rw [cell_atL b5.out]; rfl
  have z1 : w2.cell? ⟨w.heap.size, 1, none⟩ = some (.slice none 0 0) := by rw [cell_atL b5.out]; rfl
  have z2 : w2.cell? ⟨w.heap.size, 2, none⟩ = some (.slice none 0 0) := by rw [cell_atL b5.out]; rfl
  have z3 : w2.cell? ⟨w.heap.size, 3, none⟩ = some (.int .i64 0) := by rw [cell_atL b5.out]; rfl
  have g0 := frozen_atL b5.out 0
  have g1' := frozen_atL b5.out 1
  have g2 := frozen_atL b5.out 2
  have g3 := frozen_atL b5.out 3
  go_enter Tryz.func6, Tryz.ntmps6
  go_upto_region 2 with fail
  rw [← hw2.out, ← hp.out]
  go_upto_region 3 with (go_at_call 25; refine CH.out.mono ?_; rintro e w3 ⟨rfl, h3⟩; subst h3)
  go_wp2
  refine bodyPost_ret (results_cell3 rfl _ _ w.heap.size 26 _ (0, 0) _ rfl (blk_set (blk_set (blk_set (blk_set b5.out _ _) _ _) _ _) _ _) Tryz.underlying26 rfl (by kernel_rfl)) rfl ?_
  have hr := rd_bad HP.out
  refine ⟨((O2.out.setCell (Nat.le_refl _) _).setCell (Nat.le_refl _) _ |>.setCell (Nat.le_refl _) _).setCell (Nat.le_refl _) _, none, 0, none, 0, none, 0, ?_, ?_, ?_, ?_⟩
  · rw [hr]; rfl
  · rw [hr]; exact World.ownsRow_nil _ _ _ _
  · rw [hr]; exact World.ownsRow_nil _ _ _ _
  · rw [hr]; exact World.ownsRow_nil _ _ _ _
theorem refRead_rest (w : World) (a : Option Addr) (c : Nat) (l : List UInt8) (h : RestAt w.heap.size w a l) (hc : l.length ≤ c) (hn : l.length ≤ 281474976710656) : Calls Tryz.prog 6 #[.slice a l.length c] w (RdE l w) := by
  rcases h with rfl | ⟨b, off, hb, rfl, h⟩
  · exact refRead_nil w a c
  · exact refRead_some w b off l.length c l rfl hc h hb hn
theorem owns_void (w : World) (B size : Nat) (e : TypeId) (hB : B ≤ w.heap.size) : (w.alloc (.cells #[] e)).ownsRow B e size (.slice (some ⟨w.heap.size, 0, none⟩) 0 0) 0 [] :=
  ⟨by simp, .inr ⟨w.heap.size, 0, #[], rfl, hB, heap_alloc_new w _, Nat.le_refl _, by decide, by simp, by simp⟩⟩
theorem OwB.out {B : Nat} {v : Value} {O : List UInt8} {w w' : World} (h : OwB B v O w) (o : Out w w') : OwB B v O w' := owns_chg (S := fun _ => False) h (fun _ _ h => h) (Chg.of_out o)
set_option maxHeartbeats 800000 in
theorem copyBytes_any (w : World) (a : Option Addr) (cap : Nat) (l : List UInt8) (hr : RestAt w.heap.size w a l) (hll : l.length ≤ 140737488351232) : Calls Tryz.prog 7 #[.slice a l.length cap] w fun e w' => ∃ v, e = .returned v ∧ OwB w.heap.size v l w' ∧ Out w w' := by
  obtain ⟨i0, hi, hz0, hz1, hz2⟩ := info_parts infoB
  have H0 := hidOf (owns_void w w.heap.size 1 5 (Nat.le_refl _))
  cases a with
  | none =>
    obtain rfl : l = [] := by
      rcases hr with h | ⟨b, off, _, h, _⟩
      · exact h
      · cases h
    simp only [List.length_nil]
    go_enter Tryz.func7, Tryz.ntmps7
    go_wp2
    go_ret
    exact ⟨_, rfl, H0.out, Out.alloc (Out.refl _) _⟩
  | some ad =>
    have HC : Hid (∀ j u, (Lib.byteCells l)[j]? = some u → (w.alloc (.cells #[] 5)).cell? (ad.add j) = some u) := fun j u hu => by
      simp only [Lib.byteCells, List.getElem?_map, Option.map_eq_some_iff] at hu
      obtain ⟨x, hx, rfl⟩ := hu
      rcases hr with rfl | ⟨b, off, _, h, hc⟩
      · simp at hx
      · cases h
        rw [WideShapes.add_plain]
        exact cell_later ((Out.refl w).alloc _) (hc j x hx)
    clear hr
    go_enter Tryz.func7, Tryz.ntmps7
    go_wp2_with (at_builtin; refine wpList_append_own _ rfl (.tmp 3) (.tmp 4) 27 rfl w.heap.size 5 i0 _ 1 1 Tryz.underlying27 hi hz0 hz1 hz2 rfl (by decide) (.slice (some ⟨w.heap.size, 0, none⟩) 0 0) 0 [] rfl H0.out ad l.length cap (Lib.byteCells l) rfl (by rw [Lib.byteCells_length, Nat.mul_one]) HC.out (bc_one l) (by unfold maxLen; omega) (by omega) (by rw [size_alloc]; omega) ?_; intro v' w3 hown' hgrow _; have H3 := hidOf (out_row ((Out.refl w).alloc _) H0.out hgrow); have HN := hidOf hown'; clear hown' hgrow)
    go_ret
    refine ⟨_, rfl, ?_, H3.out⟩
    have := HN.out
    rw [Nat.zero_add, List.nil_append] at this
    exact this
theorem wri_lim (m : Img) : (wriB m).length ≤ 10000000 := by
  unfold wriB
  split
  · have h := ck_ok ‹_›
    have h1 := h.counts
    have h2 := h.small
    rw [wrB_len, byP_len]; unfold sizP; omega
  · simp
theorem rd_small (l : List UInt8) : (rdI l).1.T.length ≤ 1048576 ∧ (rdI l).1.F.length ≤ 4096 ∧ (rdI l).1.D.length ≤ 1024 := by
  by_cases h : (rdI l).2.2 = 0
  · obtain ⟨_, _, hok⟩ := pas_of (l := l) (m := (rdI l).1) (k := (rdI l).2.1) (by rw [← h])
    have := hok.counts
    refine ⟨?_, this.2.1, this.2.2⟩
    have h1 := this.1
    unfold slotsP at h1; omega
  · rw [rd_err h]; simp [nilM]
theorem k5_bkt {w : World} {B B1 n1 : Nat} {ma : Value} {x1 : List Value} (hm : w.ownsRow B1 3 1 ma n1 x1) {k : Nat} (h1 : K5 w k) : ¬ Bo.Bkt B w ma k := fun ⟨_, cur, t, hc, ht⟩ => by
  obtain ⟨cs, t', fr, h1, ht'⟩ := h1
  have e4 : ¬ ma.ownBlock = some k := fun e => by
    obtain ⟨_, cs, fr, h2⟩ := own_cells hm e
    rw [h1] at h2
    simp at h2
    obtain ⟨_, h3, _⟩ := h2
    subst h3
    revert ht'; decide
  rw [h1] at hc
  simp at hc
  obtain ⟨_, h3, _⟩ := hc
  subst h3
  rcases ht with e | e | e | e
  · subst e; revert ht'; decide
  · subst e; revert ht'; decide
  · subst e; revert ht'; decide
  · exact e4 e
structure OR (W wr : World) (pb ps B : Nat) (cb c1 : Int) (ma : Value) (cs tt : Int) (r : Nat → Value) (L : Nat → List Iv) : Prop where
  bk : ∃ fa ha ka wa F n hs M K V, Bo.Bk B wr pb cb c1 fa ha ma ka wa F n hs M K V ∧ F.length = n
  sh : QI wr B ps cs tt r L
  bW : W.heap.size ≤ B
  out : Out W wr
def bookO : Obj := .cells #[.int .i64 0, .int .i64 0, .bool false, .slice none 0 0, .slice none 0 0, .slice none 0 0, .slice none 0 0, .slice none 0 0] 36 (0, 0)
def shelfO : Obj := .cells #[.int .i64 0, .int .i64 0, .bool false, .slice none 0 0, .slice none 0 0, .slice none 0 0, .slice none 0 0] 31 (0, 0)
theorem bk_new (w : World) (B : Nat) (hB : B ≤ w.heap.size) : Bo.Bk B (w.alloc bookO) w.heap.size 0 0 (.slice none 0 0) (.slice none 0 0) (.slice none 0 0) (.slice none 0 0) (.slice none 0 0) [] 0 [] [] [] [] := by
  have hd : ∀ y : Value, Bo.Dis (.slice none 0 0) y := fun y k hk => by simp [Value.ownBlock] at hk
  exact ⟨⟨heap_alloc_new w _, World.ownsRow_nil _ _ _ _, World.ownsRow_nil _ _ _ _, World.ownsRow_nil _ _ _ _, World.ownsRow_nil _ _ _ _, World.ownsRow_nil _ _ _ _, hd _, hd _, hd _, hd _, hd _, hd _, hB, by rw [size_alloc]; omega⟩,
    ⟨(fun x hx => by cases hx), List.Pairwise.nil⟩, ⟨rfl, fun j x y hx _ => by simp at hx⟩, (fun j x y hx _ => by simp at hx), rfl, rfl, Nat.le_refl _, (fun x hx => by cases hx), (fun m hm => by cases hm), by omega, by omega, by omega, by omega, by simp⟩
theorem qi_new (w : World) : QI (w.alloc shelfO) w.heap.size w.heap.size 0 0 (fun _ => .slice none 0 0) (fun _ => []) :=
  ⟨⟨heap_alloc_new w _, Nat.le_refl _, fun j hj => World.ownsRow_nil _ _ _ _, fun i j b _ _ _ hb => by cases hb⟩, rfl, rfl, fun i x y hx => by simp at hx, fun i x y hx => by simp at hx, ⟨fun j z hz => by simp at hz, fun i j x y hx => by simp at hx⟩, fun l x hx j z hz => by simp at hz, fun j z hz => by simp at hz⟩
def OP (W w : World) (pb ps B : Nat) (i : Nat) : Prop := ∃ cb c1 ma cs tt r L, OR W w pb ps B cb c1 ma cs tt r L ∧ cb ≤ i ∧ 0 ≤ cs ∧ cs ≤ 4 * i ∧ 0 ≤ tt ∧ tt ≤ 2000000 ∧ (L 0).length ≤ 2 ∧ (L 2).length ≤ 12 * i ∧ Hid (∃ s, s = tt)
theorem OP.start (W : World) : OP W ((W.alloc shelfO).alloc bookO) (W.heap.size + 1) W.heap.size W.heap.size 0 := by
  have hs : (W.alloc shelfO).heap.size = W.heap.size + 1 := size_alloc _ _
  have o2 : Out (W.alloc shelfO) ((W.alloc shelfO).alloc bookO) := (Out.refl _).alloc _
  exact ⟨0, 0, .slice none 0 0, 0, 0, _, _, ⟨⟨_, _, _, _, [], 0, _, _, _, _, by rw [← hs]; exact bk_new (W.alloc shelfO) W.heap.size (by omega), rfl⟩, (qi_new W).out o2, Nat.le_refl _, ((Out.refl W).alloc _).trans o2⟩, by simp, by omega, by simp, by omega, by omega, by simp, by simp, hidOf ⟨_, rfl⟩⟩
theorem OP.out {W w : World} {pb ps B i : Nat} (h : OP W w pb ps B i) : Out W w := by
  obtain ⟨cb, c1, ma, cs, tt, r, L, h1, _⟩ := h
  exact h1.out
theorem OR.more {W w w' : World} {pb ps B : Nat} {cb c1 : Int} {ma : Value} {cs tt : Int} {r : Nat → Value} {L : Nat → List Iv} (h : OR W w pb ps B cb c1 ma cs tt r L) (o : Out w w') : OR W w' pb ps B cb c1 ma cs tt r L := by
  obtain ⟨fa, ha, ka, wa, F, n, hs, M, K, V, hb, hF⟩ := h.bk
  exact ⟨⟨fa, ha, ka, wa, F, n, hs, M, K, V, hb.out o, hF⟩, h.sh.out o, h.bW, h.out.trans o⟩
theorem OP.more {W w w' : World} {pb ps B i : Nat} (h : OP W w pb ps B i) (o : Out w w') : OP W w' pb ps B i := by
  obtain ⟨cb, c1, ma, cs, tt, r, L, h1, h2⟩ := h
  exact ⟨cb, c1, ma, cs, tt, r, L, h1.more o, h2⟩
theorem OP.next {W w : World} {pb ps B i : Nat} (h : OP W w pb ps B i) : OP W w pb ps B (i + 1) := by
  obtain ⟨cb, c1, ma, cs, tt, r, L, h1, h2, h3, h4, h5, h6, h7, h8, h9⟩ := h
  exact ⟨cb, c1, ma, cs, tt, r, L, h1, by omega, h3, by omega, h5, h6, h7, by omega, h9⟩
theorem OP.holdsB {W w : World} {pb ps B i : Nat} (h : OP W w pb ps B i) (hi : i ≤ 9) : Calls Tryz.prog 15 #[.pointer (some ⟨pb, 0, none⟩)] w fun e w' => e = .returned (.bool true) ∧ Out w w' := by
  obtain ⟨cb, c1, ma, cs, tt, r, L, h1, h2, _⟩ := h
  obtain ⟨fa, ha, ka, wa, F, m, hs, M, K, V, hb, hF⟩ := h1.bk
  refine (hb.holds (by omega)).mono ?_
  rintro e w' ⟨rfl, k, rfl⟩
  exact ⟨rfl, (Out.refl w).drewN k⟩
theorem OP.holdsS {W w : World} {pb ps B i : Nat} (h : OP W w pb ps B i) (hi : i ≤ 9) : Calls Tryz.prog 14 #[.pointer (some ⟨ps, 0, none⟩)] w fun e w' => e = .returned (.bool true) ∧ Out w w' := by
  obtain ⟨cb, c1, ma, cs, tt, r, L, h1, h2, h3, h4, h5, h6, h7, h8, h9⟩ := h
  exact h1.sh.holds (by omega) (by omega)
theorem bV_bytes (O : List UInt8) : Bo.bV (O.map (fun b => (b.toNat : Int))) = Lib.byteCells O := by simp [Bo.bV, Lib.byteCells]
theorem OP.sums {W w w' : World} {pb ps B i : Nat} (h : OP W w pb ps B i) (o : Out w w') (hi : i ≤ 8) {a1 : Option Addr} {n1 q1 : Nat} {U : List UInt8} (hU : OwB w.heap.size (.slice a1 n1 q1) U w') (hn1 : n1 = U.length) (hUl : U.length ≤ 60000000000000)
    {M : Img} {nT nF nD : Nat} {en : Int} {ta fa da : Option Addr} {tc fc dc : Nat} (hx : HoI w' ⟨.slice ta nT tc, .slice fa nF fc, .slice da nD dc, en⟩ M) (hT : M.T.length = nT) (hF : M.F.length = nF) (hD : M.D.length = nD) (bT : nT ≤ 1048576) (bF : nF ≤ 4096) (bD : nD ≤ 1024) (hnew : ∀ b, (Iv.mk (.slice ta nT tc) (.slice fa nF fc) (.slice da nD dc) en).blk b → w.heap.size ≤ b) :
    ∃ c1 tt : Int, w'.cell? ⟨pb, 1, none⟩ = some (.int .i64 c1) ∧ w'.cell? ⟨ps, 1, none⟩ = some (.int .i64 tt) ∧ 0 ≤ c1 ∧ 0 ≤ tt ∧ c1 ≤ 1000000000000000 ∧ tt ≤ 2000000 ∧ OP W w' pb ps B (i + 1) ∧
    (tt + c1 < 4000 → ∀ mark : Int, 0 ≤ mark → mark ≤ 100000000000 → Calls Tryz.prog 12 #[.pointer (some ⟨pb, 0, none⟩), .slice a1 n1 q1, .int .i64 mark] w' fun e w'' => (∃ q, e = .returned q) ∧ (∀ U v1 v2 v3 en, BxI w' U v1 v2 v3 en → BxI w'' U v1 v2 v3 en) ∧ Calls Tryz.prog 13 #[.pointer (some ⟨ps, 0, none⟩), .agg #[.slice ta nT tc, .slice fa nF fc, .slice da nD dc, .int .i64 en]] w'' fun e w3 => (∃ q, e = .returned q) ∧ OP W w3 pb ps B (i + 1)) := by
  have hN := (h.more o).next
  obtain ⟨cb, c1, ma, cs, tt, r, L, h1, g1, g2, g3, g4, g5, g6, g7, g8⟩ := h
  subst hn1
  have h1' := h1.more o
  obtain ⟨fa', ha, ka, wa, F, n, hs, M', K, V, hb, hF'⟩ := h1.bk
  have b1 := hb.b1
  have bb := hb.bb
  refine ⟨c1, tt, (hb.out o).arr.st.cell 1, by rw [cell_atL h1'.sh.sh.st]; rfl, b1, g4, bb, g5, hN, fun hlt mark m0 m1 => ?_⟩
  have hb2 := hb.take o (v := .slice a1 U.length q1) (l := U.map (fun b => (b.toNat : Int))) (by rw [bV_bytes, List.length_map]; exact hU) (by rw [List.length_map]; exact hUl)
  refine (Bo.books_own w' B pb cb c1 fa' ha ma ka wa (F ++ [(.slice a1 U.length q1, U.map (fun b => (b.toNat : Int)))]) n hs M' K V (by omega) hb2 a1 U.length q1 _ (by rw [List.getElem?_append_right (by omega), hF', Nat.sub_self]; rfl) (by simp) mark m0 m1 (by omega)).mono ?_
  rintro e w2 ⟨he, fa2, ha2, ma2, ka2, wa2, hs2, M2, K2, V2, F2, n2, hb3, hF3, hc, hma⟩
  have hF2 : F2.length = n2 := by
    rcases hF3 with ⟨rfl, rfl⟩ | ⟨rfl, rfl⟩
    · simp; omega
    · simp; omega
  have away : ∀ b, Bo.Bkt B w' ma b → ¬ K5 w' b := fun b hb' hk => k5_bkt hb2.arr.ma_ hk hb'
  have hS2 : QI w2 B ps cs tt r L := h1'.sh.away hc (fun b hb' _ => away b hb')
  have hx2 := hx.chg hc (fun b hb' e => away b e (hx.ls b hb').k5)
  have o2 : Out W w2 := Chg.out hc h1'.out (fun k hk => Nat.le_trans h1.bW hk.1)
  refine ⟨he, fun U v1 v2 v3 en hU => (hc.block U hU.lt (fun e => away U e ⟨_, _, _, hU, .inr (.inl rfl)⟩)).trans hU, ?_⟩
  refine (ownI_any w2 B ps cs tt r L hS2 g6 (by omega) _ M hx2 nT nF nD en hT hF hD ta fa da tc fc dc rfl (by omega) (by omega) (by omega) (fun b hb' => ?_) (fun j hj l z hz b e1 e2 => ?_) g2 (by omega) g4 (by omega)).mono ?_
  · have := hnew b hb'
    have := h1.sh.sh.lt
    have := h1.sh.sh.bp
    omega
  · have := hnew b e2
    have := h1.sh.lt hj hz b e1
    omega
  · rintro e w3 ⟨he3, ct', r', L', q3, s0, s2, s3, s4, hC⟩
    have hb4 := hb3.away hC (fun k hk => k5_bkt hb3.arr.ma_ hk.2)
    exact ⟨he3, cb + 1, _, ma2, ct', _, r', L', ⟨⟨fa2, ha2, ka2, wa2, F2, n2, hs2, M2, K2, V2, hb4, hF2⟩, q3, h1.bW, Chg.out hC o2 (fun k hk => Nat.le_trans h1.bW hk.1)⟩, by omega, by omega, by omega, by omega, by omega, s0, by omega, hidOf ⟨_, rfl⟩⟩
theorem numO (n : Int) (w : World) : Calls Tryz.prog 10 #[.int .i64 n] w fun e w' => e = .returned (.int .i64 n) ∧ w = w' := by
  go_enter Tryz.func10, Tryz.ntmps10
  go_wp2
  go_ret
  exact ⟨rfl, rfl⟩
def RdX (M : Img) (k er : Int) (nT nF nD : Nat) (en : Int) (w : World) (e : Ending) (w' : World) : Prop :=
  ∃ ta tc fa fc da dc, e = .returned (.tuple #[.agg #[.slice ta nT tc, .slice fa nF fc, .slice da nD dc, .int .i64 en], .int .i64 k, .int .i64 er]) ∧ HoI w' ⟨.slice ta nT tc, .slice fa nF fc, .slice da nD dc, en⟩ M ∧ (∀ b, (Iv.mk (.slice ta nT tc) (.slice fa nF fc) (.slice da nD dc) en).blk b → w.heap.size ≤ b) ∧ Out w w'
theorem RdE.x {l : List UInt8} {w w' : World} {e : Ending} (h : RdE l w e w') : RdX (rdI l).1 ((rdI l).2.1 : Nat) (rdI l).2.2 (rdI l).1.T.length (rdI l).1.F.length (rdI l).1.D.length (rdI l).1.en w e w' := by
  obtain ⟨ho, ta, tc, fa, fc, da, dc, he, h1, h2, h3⟩ := h
  refine ⟨ta, tc, fa, fc, da, dc, he, ⟨Ho.own (K := kI) h1, Ho.own (K := kF) h2, Ho.own (K := kD) h3, rfl⟩, fun b hb => ?_, ho⟩
  rcases hb with hb | hb | hb
  · exact (World.ownsRow.lt h1 b hb).1
  · exact (World.ownsRow.lt h2 b hb).1
  · exact (World.ownsRow.lt h3 b hb).1
set_option maxRecDepth 20000 in
set_option maxHeartbeats 8000000 in
theorem imageOwns_walk (W : World) (hTb : Tb64 W) (h1w : 1 < W.heap.size) (m : Img) (ta fa da : Option Addr) (tc fc dc : Nat) (hA : ImA W ta fa da m) (htc : m.T.length ≤ tc) (hi : ∀ x ∈ m.T, -9223372036854775808 ≤ x.i ∧ x.i ≤ 9223372036854775807) (hkD : ∀ x ∈ m.D, x.nm.length ≤ 4611686018427387904) (a2 : Option Addr) (c2 : Nat) (b : List UInt8) (hb : RestAt W.heap.size W a2 b) (hc2 : b.length ≤ c2) (hl2 : b.length ≤ 140737488351232) :
    Calls Tryz.prog 3 #[.agg #[.slice ta m.T.length tc, .slice fa m.F.length fc, .slice da m.D.length dc, .int .i64 m.en], .slice a2 b.length c2] W fun e W' => e = .returned (.bool true) ∧ Out W W' := by
  have BX : ∀ wx, Out W wx → RestAt wx.heap.size wx a2 b := fun wx ho => by
    rcases hb with h | ⟨b, o, hb, h, hc⟩
    · exact .inl h
    · exact .inr ⟨b, o, by have := ho.size; omega, h, fun k x hx => cell_later ho (hc k x hx)⟩
  obtain ⟨mT, hmT⟩ : ∃ n, m.T.length = n := ⟨_, rfl⟩
  obtain ⟨mF, hmF⟩ : ∃ n, m.F.length = n := ⟨_, rfl⟩
  obtain ⟨mD, hmD⟩ : ∃ n, m.D.length = n := ⟨_, rfl⟩
  obtain ⟨me, hme⟩ : ∃ n, m.en = n := ⟨_, rfl⟩
  obtain ⟨bl, hbl⟩ : ∃ n, b.length = n := ⟨_, rfl⟩
  have CRW : Hid (∀ wx, Out W wx → Calls Tryz.prog 4 #[.agg #[.slice ta mT tc, .slice fa mF fc, .slice da mD dc, .int .i64 me]] wx (WrU m wx)) := hidOf fun wx ho => by
    have := refWriteU_any m wx ta fa da tc fc dc (hA.out ho) htc hkD
    rw [hmT, hmF, hmD, hme] at this; exact this
  have CUW : Hid (∀ wx, Out W wx → Calls Tryz.prog 5 #[.agg #[.slice ta mT tc, .slice fa mF fc, .slice da mD dc, .int .i64 me]] wx (WrU m wx)) := hidOf fun wx ho => by
    have := writeU_any m wx ta fa da tc fc dc (hA.out ho) htc hi
    rw [hmT, hmF, hmD, hme] at this; exact this
  have CCp : Hid (∀ wx, Out W wx → Calls Tryz.prog 7 #[.slice a2 bl c2] wx fun e w' => ∃ d cp, e = .returned (.slice d bl cp) ∧ bl ≤ cp ∧ RestAt w'.heap.size w' d b ∧ Out wx w') := hidOf fun wx ho => by
    have := copyBytes_any wx a2 c2 b (BX wx ho) hl2
    rw [hbl] at this
    refine this.mono ?_
    rintro e w' ⟨v, rfl, h1, h2⟩
    obtain ⟨d, cp, rfl, h3, h4⟩ := OwB.rest h1
    exact ⟨d, cp, by rw [hbl], by rw [← hbl]; exact h3, h4, h2⟩
  obtain ⟨nT, hnT⟩ : ∃ n, (rdI b).1.T.length = n := ⟨_, rfl⟩
  obtain ⟨nF, hnF⟩ : ∃ n, (rdI b).1.F.length = n := ⟨_, rfl⟩
  obtain ⟨nD, hnD⟩ : ∃ n, (rdI b).1.D.length = n := ⟨_, rfl⟩
  obtain ⟨en, hen⟩ : ∃ n, (rdI b).1.en = n := ⟨_, rfl⟩
  have hsm := rd_small b
  rw [hnT, hnF, hnD] at hsm
  have CRR : Hid (∀ wx d cp, RestAt wx.heap.size wx d b → bl ≤ cp → Calls Tryz.prog 6 #[.slice d bl cp] wx (RdX (rdI b).1 ((rdI b).2.1 : Nat) (rdI b).2.2 nT nF nD en wx)) := hidOf fun wx d cp h1 h2 => by
    have := refRead_rest wx d cp b h1 (by omega) (by omega)
    rw [hbl] at this
    refine this.mono fun e w' h => ?_
    have := h.x
    rw [hnT, hnF, hnD, hen] at this; exact this
  have CUR : Hid (∀ wx, Out W wx → Calls Tryz.prog 8 #[.slice a2 bl c2] wx (RdX (rdI b).1 ((rdI b).2.1 : Nat) (rdI b).2.2 nT nF nD en wx)) := hidOf fun wx ho => by
    have := read17_rest wx a2 c2 b (BX wx ho) hc2 (hTb.out ho) (by have := ho.size; omega) (by omega)
    rw [hbl] at this
    refine this.mono fun e w' h => ?_
    have := h.x
    rw [hnT, hnF, hnD, hen] at this; exact this
  have hUl := wri_lim m
  have CS : Hid (∀ wx ta fa da ta' fa' da' tc fc dc tc' fc' dc', HoI wx ⟨.slice ta nT tc, .slice fa nF fc, .slice da nD dc, en⟩ (rdI b).1 → HoI wx ⟨.slice ta' nT tc', .slice fa' nF fc', .slice da' nD dc', en⟩ (rdI b).1 → Calls Tryz.prog 11 #[.agg #[.slice ta nT tc, .slice fa nF fc, .slice da nD dc, .int .i64 en], .agg #[.slice ta' nT tc', .slice fa' nF fc', .slice da' nD dc', .int .i64 en]] wx fun e w' => e = .returned (.bool true) ∧ Out wx w') := hidOf fun wx ta fa da ta' fa' da' tc fc dc tc' fc' dc' h1 h2 => by
    exact sameImV wx (rdI b).1 nT nF nD en hnT hnF hnD hen ta fa da ta' fa' da' tc fc dc tc' fc' dc' ⟨h1.t.a1, h1.f.a2, h1.d.a3⟩ ⟨h2.t.a1, h2.f.a2, h2.d.a3⟩ ⟨by omega, by omega, by omega⟩
  have HL : Hid ((rdI b).1.T.length = nT ∧ (rdI b).1.F.length = nF ∧ (rdI b).1.D.length = nD) := hidOf ⟨hnT, hnF, hnD⟩
  have HS := hidOf hsm
  have HUl := hidOf hUl
  obtain ⟨W0, hW0⟩ : ∃ W0, Hid (W0 = W.alloc (.cells #[.slice ta mT tc, .slice fa mF fc, .slice da mD dc, .int .i64 me] 26)) := ⟨_, rfl⟩
  have OW0 : Hid (Out W W0) := hidOf (by rw [hW0.out]; exact Out.alloc (Out.refl _) _)
  obtain ⟨q, hq⟩ : ∃ q, Hid (q = W.heap.size) := ⟨_, rfl⟩
  have BXq : Hid (BxI W0 q (.slice ta mT tc) (.slice fa mF fc) (.slice da mD dc) me) := hidOf (by show W0.heap[q]? = _; rw [hW0.out, hq.out]; exact heap_alloc_new W _)
  rw [hmT, hmF, hmD, hme, hbl]
  clear BX hA hb hmT hmF hmD hme hbl hnT hnF hnD hen hsm hUl htc hi hkD hc2 hl2 hTb h1w
  generalize (rdI b).1 = M at *
  generalize ((rdI b).2.1 : Nat) = RA0 at *
  generalize ((RA0 : Nat) : Int) = RA at *
  generalize (rdI b).2.2 = RN at *
  have HO : Hid (OP W0 ((W0.alloc shelfO).alloc bookO) (W0.heap.size + 1) W0.heap.size W0.heap.size 0) := hidOf (OP.start W0)
  go_enter Tryz.func3, Tryz.ntmps3
  go_upto_region 1 with fail
  rw [← hW0.out, ← hq.out]
  go_upto_region 3 with fail
  show Code.wp _ _ _ _ ((W0.alloc shelfO).alloc bookO)
  have hsz : (W0.alloc (Obj.cells #[.int .i64 0, .int .i64 0, .bool false, .slice none 0 0, .slice none 0 0, .slice none 0 0, .slice none 0 0] 31 (0, 0))).heap.size = W0.heap.size + 1 := size_alloc _ _
  try rw [hsz]
  generalize (W0.alloc shelfO).alloc bookO = w2 at *
  obtain ⟨ps, hps⟩ : ∃ ps, ps = W0.heap.size := ⟨_, rfl⟩
  rw [← hps] at HO ⊢
  have Hps := hidOf hps
  clear hps hsz
  go_wp2
  go_loopw [7] (fun iv wr => ∃ i : Nat, iv = .int .i64 i ∧ i ≤ 9 ∧ Hid (OP W0 wr (ps + 1) ps ps i)) (fun iv _ => 9 - (intOf iv).toNat)
  case atStart => exact ⟨0, rfl, by omega, HO⟩
  case round =>
    clear HO
    obtain ⟨i, rfl, hi, HO⟩ := hrel
    by_cases hi9 : i < 9
    · have hlt : (i : Int) < 9 := by omega
      have h0 : (0 : Int) ≤ i := by omega
      have O0 : Hid (Out W wr) := hidOf (Out.trans OW0.out HO.out.out)
      obtain ⟨x0, x1, x2, x3⟩ := (BXq.out.out HO.out.out).cell
      go_upto_region 7 with (go_at_call 4; refine (CRW.out wr O0.out).mono ?_; rintro e w3 ⟨b3, d3, rfl, hown, ho⟩; have W3 := hidOf hown; have P3 := hidOf ho; have O3 := hidOf (Out.trans O0.out ho); clear hown ho)
      have x0 := cell_later P3.out x0
      have x1 := cell_later P3.out x1
      have x2 := cell_later P3.out x2
      have x3 := cell_later P3.out x3
      go_upto_region 8 with (go_at_call 5; refine (CUW.out w3 O3.out).mono ?_; rintro e w4 ⟨b4, d4, rfl, hown, ho⟩; have W4 := hidOf hown; have P4 := hidOf ho; have O4 := hidOf (Out.trans O3.out ho); clear hown ho)
      clear x0 x1 x2 x3
      go_upto_region 9 with (first
        | (go_at_call 7; refine (CCp.out w4 O4.out).mono ?_; rintro e w5 ⟨b5, c5, rfl, hc5, hr5, ho⟩; have P5 := hidOf ho; have O5 := hidOf (Out.trans O4.out ho); have R5 := hidOf hr5; clear ho hr5)
        | (go_at_call 6; refine (CRR.out w5 b5 c5 R5.out hc5).mono ?_; rintro e w6 ⟨t6, k6, f6, l6, d6, q6, rfl, hh6, hn6, ho⟩; have H6 := hidOf hh6; have P6 := hidOf ho; have O6 := hidOf (Out.trans O5.out ho); clear hh6 hn6 ho))
      obtain ⟨wY, hwY⟩ : ∃ wY, Hid (wY = w6.alloc (.cells #[.slice t6 nT k6, .slice f6 nF l6, .slice d6 nD q6, .int .i64 en] 26)) := ⟨_, rfl⟩
      obtain ⟨U6, hU6⟩ : ∃ u, Hid (u = w6.heap.size) := ⟨_, rfl⟩
      rw [← hwY.out, ← hU6.out]
      have PY : Hid (Out w6 wY) := hidOf (by rw [hwY.out]; exact Out.alloc (Out.refl _) _)
      have OY := hidOf (Out.trans O6.out PY.out)
      have B6 : Hid (BxI wY U6 (.slice t6 nT k6) (.slice f6 nF l6) (.slice d6 nD q6) en) := hidOf (by show wY.heap[U6]? = _; rw [hwY.out, hU6.out]; exact heap_alloc_new w6 _)
      go_upto_region 10 with (go_at_call 8; refine (CUR.out wY OY.out).mono ?_; rintro e w7 ⟨t7, k7, f7, l7, d7, q7, rfl, hh7, hn7, ho⟩; have H7 := hidOf hh7; have N7 := hidOf hn7; have P7 := hidOf ho; clear hh7 hn7 ho)
      obtain ⟨wZ, hwZ⟩ : ∃ wZ, Hid (wZ = w7.alloc (.cells #[.slice t7 nT k7, .slice f7 nF l7, .slice d7 nD q7, .int .i64 en] 26)) := ⟨_, rfl⟩
      obtain ⟨U7, hU7⟩ : ∃ u, Hid (u = w7.heap.size) := ⟨_, rfl⟩
      rw [← hwZ.out, ← hU7.out]
      have PZ : Hid (Out w7 wZ) := hidOf (by rw [hwZ.out]; exact Out.alloc (Out.refl _) _)
      have B7 : Hid (BxI wZ U7 (.slice t7 nT k7) (.slice f7 nF l7) (.slice d7 nD q7) en) := hidOf (by show wZ.heap[U7]? = _; rw [hwZ.out, hU7.out]; exact heap_alloc_new w7 _)
      have Q6 := (B6.out.out (Out.trans P7.out PZ.out))
      obtain ⟨y0, y1, y2, y3⟩ := Q6.cell
      obtain ⟨z0, z1, z2, z3⟩ := B7.out.cell
      have PP5 : Hid (Out w4 wZ) := hidOf (Out.trans (Out.trans (Out.trans (Out.trans P5.out P6.out) PY.out) P7.out) PZ.out)
      have PP : Hid (Out wr wZ) := hidOf (Out.trans (Out.trans P3.out P4.out) PP5.out)
      have X4 : Hid (OwB wr.heap.size (.slice b4 (wriB m).length d4) (wriB m) wZ) := hidOf (owns_base17 (W4.out.out PP5.out) P3.out.size)
      have X3 : Hid (OwB wr.heap.size (.slice b3 (wriB m).length d3) (wriB m) wZ) := hidOf ((W3.out.out P4.out).out PP5.out)
      have HZ6 := hidOf (H6.out.out (Out.trans (Out.trans PY.out P7.out) PZ.out))
      have HZ7 := hidOf (H7.out.out PZ.out)
      obtain ⟨b4', d4', e4, _, ht4⟩ := OwB.rest X4.out
      obtain ⟨b3', d3', e3, _, ht3⟩ := OwB.rest X3.out
      simp only [Value.slice.injEq] at e4 e3
      rw [← e4.1] at ht4
      rw [← e3.1] at ht3
      have T4 := hidOf ht4
      have T3 := hidOf ht3
      have NEW : Hid (∀ b, (Iv.mk (.slice t7 nT k7) (.slice f7 nF l7) (.slice d7 nD q7) en).blk b → wr.heap.size ≤ b) := hidOf fun b hb => by
        have := N7.out b hb
        have := P3.out.size
        have := P4.out.size
        have := P5.out.size
        have := P6.out.size
        have := PY.out.size
        omega
      clear ht4 ht3 e4 e3 W3 W4 P3 P4 P5 P6 P7 O3 O4 O5 O6 R5 hc5 PY OY PZ PP5 Q6 H6 H7 N7
      go_upto_region 12 with (first | (go_at_call 9; refine (sameBytes_any _ _ _ _ (wriB m) _ T4.out T3.out).mono ?_; rintro e w8 ⟨rfl, hw⟩; subst hw) | (go_at_call 10; refine (numO _ _).mono ?_; rintro e w8 ⟨rfl, hw⟩; subst hw) | (go_at_call 11; refine (CS.out _ _ _ _ _ _ _ _ _ _ _ _ _ HZ7.out HZ6.out).mono ?_; rintro e w9 ⟨rfl, ho⟩; have P9 := hidOf ho; clear ho))
      obtain ⟨s1, s2, g1, g2, j1, j2, j3, j4, hOQ, hcalls⟩ := HO.out.sums (w' := w9.drew) (Out.drew (Out.trans PP.out P9.out)) (by omega) (a1 := b4) (q1 := d4) (U := wriB m) ((X4.out.out P9.out).out (Out.refl w9).drew) rfl (by have := HUl.out; omega) ((HZ7.out.out P9.out).out (Out.refl w9).drew) HL.out.1 HL.out.2.1 HL.out.2.2 HS.out.1 HS.out.2.1 HS.out.2.2 NEW.out
      have hw : IntKind.i64.wrap (s2 + s1) = s2 + s1 := by rw [IntKind.wrap_i64]; omega
      have HOQ := hidOf hOQ
      have HC := hidOf hcalls
      have B9 := hidOf ((B7.out.out P9.out).out (Out.refl w9).drew)
      clear hOQ hcalls y0 y1 y2 y3 z0 z1 z2 z3
      by_cases hsum : s2 + s1 < 4000
      · have CB := hidOf (HC.out hsum (5 * i) (by omega) (by omega))
        go_region_law (fail)
        all_goals
          go_upto_region 14 with (go_at_call 12; refine CB.out.mono ?_; rintro e w11 ⟨⟨r7, rfl⟩, hbx, hs7⟩; have H7 := hidOf hs7; have B11 := hidOf (hbx _ _ _ _ _ B9.out); clear hs7 hbx)
          obtain ⟨y0, y1, y2, y3⟩ := B11.out.cell
          go_upto_region 15 with (go_at_call 13; refine H7.out.mono ?_; rintro e w12 ⟨⟨r8, rfl⟩, hq8⟩; have HQ8 := hidOf hq8; clear hq8)
          have CH := hidOf (HQ8.out.holdsS (by omega))
          go_wp2_with (first | (go_at_call 14; refine CH.out.mono ?_; rintro e w13 ⟨rfl, ho⟩; have H13 := hidOf (HQ8.out.more ho); have CK := hidOf (H13.out.holdsB (by omega)); clear ho) | (go_at_call 15; refine CK.out.mono ?_; rintro e w14 ⟨rfl, ho⟩; have H14 := hidOf (H13.out.more ho); clear ho))
          go_roundw
          case rel => exact ⟨i + 1, by simp, by omega, H14⟩
          case measure => simp [intOf]; omega
      · go_region_law (fail)
        all_goals
          go_upto_region 15 with fail
          have CH := hidOf (HOQ.out.holdsS (by omega))
          go_wp2_with (first | (go_at_call 14; refine CH.out.mono ?_; rintro e w13 ⟨rfl, ho⟩; have H13 := hidOf (HOQ.out.more ho); have CK := hidOf (H13.out.holdsB (by omega)); clear ho) | (go_at_call 15; refine CK.out.mono ?_; rintro e w14 ⟨rfl, ho⟩; have H14 := hidOf (H13.out.more ho); clear ho))
          go_roundw
          case rel => exact ⟨i + 1, by simp, by omega, H14⟩
          case measure => simp [intOf]; omega
    · have hlt : ¬ (i : Int) < 9 := by omega
      go_wp2_with (go_at_call 16; refine (awake17_any _).mono ?_; rintro e w5 ⟨rfl, ho⟩; have HO5 := hidOf (HO.out.more ho); clear ho)
      go_ret
      exact ⟨rfl, Out.trans OW0.out HO5.out.out⟩
end Go.Proofs.YthififblejbleaaGreatDoor
