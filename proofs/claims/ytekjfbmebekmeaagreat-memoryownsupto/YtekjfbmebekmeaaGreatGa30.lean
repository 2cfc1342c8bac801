import Derived.Test.YtekjfbmebekmeaaGreatGa29
namespace Go.Proofs.YtekjfbmebekmeaaGreat
open Go.RowKit
set_option linter.unusedVariables false
set_option linter.unusedSimpArgs false
theorem RLs.write {B i o : Nat} {w w' : World} {a : Option Addr} {c n : Nat} {R : List Rg} {z : Rg} {zb : Nat} {b : List UInt8} {cur : Array Value} (h : RLs B w a c n R) (hd : R.Pairwise (fun x y => ∀ k, x.a = some k → y.a ≠ some k)) (hz : R[i]? = some z) (hzb : z.a = some zb) (ho : o + b.length ≤ z.d.length) (hg : w.heap[zb]? = some (.cells cur 5 (0, 0)))
    (hw : ∃ cur' : Array Value, w'.heap[zb]? = some (.cells cur' 5 (0, 0)) ∧ cur'.size = cur.size ∧ ∀ j, cur'[j]? = if o ≤ j ∧ j < o + b.length then (b[j - o]?).map byV else cur[j]?) (c2 : Chg (fun k => k = zb) w w') : RLs B w' a c n (R.set i { z with d := layL z.d o b }) := by
  have hzm := List.mem_of_getElem? hz
  have hil := (List.getElem?_eq_some_iff.1 hz).1
  have hll : (layL z.d o b).length = z.d.length := layL_len z.d o b ho
  have hown := own_chg h.own c2 (fun k hk e => own_ne h.own hg (by decide) (by subst e; exact hk))
  have hrow : rowG (R.set i { z with d := layL z.d o b }) = rowG R := by
    have e1 : R = R.take i ++ (z :: R.drop (i + 1)) := by
      conv => lhs; rw [← List.take_append_drop i R, List.drop_eq_getElem_cons hil, (List.getElem?_eq_some_iff.1 hz).2]
    rw [List.set_eq_take_append_cons_drop, if_pos hil]
    conv => rhs; rw [e1]
    rw [rowG_app, rowG_app, rowG_cons, rowG_cons]
    have : csG { z with d := layL z.d o b } = csG z := by simp [csG, daV, hll]
    rw [this]
  refine ⟨by rw [hrow]; exact hown, fun y hy => ?_⟩
  obtain ⟨j, hj, ey⟩ := List.getElem_of_mem hy
  rw [List.length_set] at hj
  by_cases hij : i = j
  · subst hij
    rw [List.getElem_set_self] at ey
    subst ey
    have hda : w.ownsRow B 5 1 (daV z) z.d.length (z.d.map byV) := h.da z hzm
    rw [daV, hzb] at hda
    obtain ⟨cl, hg2, hB, hnc, hcm, hcl, hct, hxl⟩ := owns_blk hda
    rw [hg] at hg2
    simp only [Option.some.injEq, Obj.cells.injEq, and_true] at hg2
    obtain ⟨cur', hg', hs', hv'⟩ := hw
    show w'.ownsRow B 5 1 (.slice (z.a.map fun b => ⟨b, 0, none⟩) (layL z.d o b).length z.c) (layL z.d o b).length ((layL z.d o b).map byV)
    rw [hzb, hll]
    have hcs : cur.size = z.c := by rw [hg2]; simpa using hcl
    refine ⟨by simp [hll], .inr ⟨zb, z.c, cur', rfl, hB, hg', hnc, hcm, by rw [hs', hcs, Nat.mul_one], ?_⟩⟩
    apply List.ext_getElem?
    intro q
    rw [Nat.mul_one, List.getElem?_take]
    by_cases hq : q < z.d.length
    · rw [if_pos hq, Array.getElem?_toList, hv' q, List.getElem?_map, layL_get z.d o b ho q]
      by_cases hin : o ≤ q ∧ q < o + b.length
      · rw [if_pos hin, if_pos hin]
      · rw [if_neg hin, if_neg hin]
        have h5 : (cl.take (z.d.length * 1))[q]? = (z.d.map byV)[q]? := by rw [hct]
        rw [Nat.mul_one, List.getElem?_take, if_pos hq, List.getElem?_map] at h5
        rw [hg2, List.getElem?_toArray]
        exact h5
    · rw [if_neg hq, List.getElem?_eq_none (by rw [List.length_map, hll]; omega)]
  · rw [List.getElem_set_ne hij] at ey
    have hym : y ∈ R := by rw [← ey]; exact List.getElem_mem hj
    refine (h.da y hym).chg c2 (fun k hk e => ?_)
    subst e
    rcases Nat.lt_or_gt_of_ne hij with hlt | hlt
    · have := List.pairwise_iff_getElem.1 hd i j hil hj hlt
      rw [(List.getElem?_eq_some_iff.1 hz).2, ey] at this
      exact this k hzb hk
    · have := List.pairwise_iff_getElem.1 hd j i hj hil hlt
      rw [(List.getElem?_eq_some_iff.1 hz).2, ey] at this
      exact this k hk hzb
def RestG (w : World) (a : Option Addr) (d : List UInt8) : Prop := d = [] ∨ ∃ g, a = some ⟨g, 0, none⟩ ∧ ∀ (j : Nat) x, d[j]? = some x → w.cell? ⟨g, j, none⟩ = some (.int .u8 (x.toNat : Int))
theorem RestG.out {w w' : World} {a : Option Addr} {d : List UInt8} (h : RestG w a d) (o : Out w w') : RestG w' a d := h.imp id (fun ⟨g, e, h1⟩ => ⟨g, e, fun j x hx => cell_later o (h1 j x hx)⟩)
theorem RestG.own {B n cap g : Nat} {w : World} {d : List UInt8} (h : w.ownsRow B 5 1 (.slice (some ⟨g, 0, none⟩) n cap) n (d.map byV)) : RestG w (some ⟨g, 0, none⟩) d :=
  .inr ⟨g, rfl, fun j x hx => (own_cellK h (show (d.map byV)[j]? = some (byV x) by rw [List.getElem?_map, hx]; rfl)).1⟩
def PutE (a : Option Addr) (c n : Nat) (R : List Rg) (at_ : Nat) (d : List UInt8) (w : World) (e : Ending) (w' : World) : Prop :=
  Out w w' ∧ (((PutQ (R.map fdR) at_ d).1 = R.map fdR ∧ e = .returned (.tuple #[.agg #[.slice a n c], .int .i64 (PutQ (R.map fdR) at_ d).2])) ∨
  ∃ a' c', ∃ R' : List Rg, e = .returned (.tuple #[.agg #[.slice a' n c'], .int .i64 (PutQ (R.map fdR) at_ d).2]) ∧ RLs w.heap.size w' a' c' n R' ∧ R'.map fdR = (PutQ (R.map fdR) at_ d).1)
set_option maxHeartbeats 8000000 in
set_option maxRecDepth 100000 in
theorem refPut_any (w : World) (B0 : Nat) (a : Option Addr) (c n : Nat) (R : List Rg) (at_ bc : Nat) (ba : Option Addr) (bd : List UInt8) (h : RLs B0 w a c n R) (hRn : R.length = n) (hb : ∀ z ∈ R, z.d.length ≤ 140737488355328 ∧ z.f < 18446744073709551616) (hn : n ≤ 4398046511104) (ha : at_ < 18446744073709551616) (hB : RestG w ba bd) (hbl : bd.length ≤ 140737488355328) :
    Calls Tryz.prog 34 #[.agg #[.slice a n c], .int .u64 at_, .slice ba bd.length bc] w fun e w' => PutE a c n R at_ bd w e w' := by
  obtain ⟨k, hk⟩ : ∃ k, Hid (k = bd.length) := ⟨_, rfl⟩
  obtain ⟨P, hP⟩ : ∃ P, Hid (P = R.map fdR) := ⟨_, rfl⟩
  have FC := hidOf (fun (W : World) (o : Out w W) => refFind_any W B0 a c n R at_ k (h.out o) hRn hb hn ha (by rw [hk.out]; omega))
  have CC := hidOf (fun (W : World) (o : Out w W) => refCopy_any W B0 a c n R (h.out o) hRn (fun z hz => (hb z hz).1) hn)
  rw [← hP.out] at FC
  rw [← hk.out]
  have HB0 := hidOf hb
  have HRN := hidOf hRn
  have HBD := hidOf hB
  have hkb : k ≤ 140737488355328 := by rw [hk.out]; exact hbl
  clear h hb hRn hB hbl
  obtain ⟨p, hp⟩ : ∃ p, Hid (p = w.heap.size) := ⟨_, rfl⟩
  obtain ⟨w0, H0, bp, b1, o0, s0⟩ : ∃ w0, Hid (w0 = (w.alloc (.cells #[.slice a n c] 47)).alloc (.cells #[.slice none 0 0] 47)) ∧ w0.heap[p]? = some (.cells #[.slice a n c] 47 (0, 0)) ∧ w0.heap[p + 1]? = some (.cells #[.slice none 0 0] 47 (0, 0)) ∧ Out w w0 ∧ w0.heap.size = p + 2 := by
    have s1 : (w.alloc (.cells #[.slice a n c] 47)).heap.size = p + 1 := by rw [size_alloc, hp.out]
    refine ⟨_, rfl, ?_, ?_, ((Out.refl w).alloc _).alloc _, by rw [size_alloc, s1]⟩
    · refine blk_out ?_ ((Out.refl _).alloc _)
      rw [hp.out]; exact heap_alloc_new w _
    · rw [← s1]; exact heap_alloc_new _ _
  have O0 := hidOf o0
  have BP := hidOf bp
  have B1 := hidOf b1
  have cp : w0.cell? ⟨p, 0, none⟩ = some (.slice a n c) := (cell_B bp 0).trans rfl
  have c1 : w0.cell? ⟨p + 1, 0, none⟩ = some (.slice none 0 0) := (cell_B b1 0).trans rfl
  have z1 : w0.frozen? ⟨p + 1, 0, none⟩ = false := froz_B b1 0
  have F1 := hidOf (FC.out w0 O0.out)
  clear o0 bp b1 s0 FC
  by_cases hk0 : k = 0
  · have hbd : bd = [] := List.length_eq_zero_iff.1 (by rw [← hk.out]; exact hk0)
    have HQ : Hid (PutQ P at_ bd = (P, 0)) := hidOf (by simp [PutQ, hbd])
    have hkb0 : ((k : Int) == 0) = true := by rw [hk0]; rfl
    obtain ⟨wT, HT, bT, cT⟩ : ∃ wT, Hid (wT = w0.setCell ⟨p + 1, 0, none⟩ (.slice a n c)) ∧ wT.heap[p + 1]? = some (.cells #[.slice a n c] 47 (0, 0)) ∧ Chg (fun b => b = p + 1) w0 wT := ⟨_, rfl, set_B B1.out 0 _, (Chg.refl (fun b => b = p + 1) w0).setCell rfl _⟩
    have BT := hidOf bT
    have CT := hidOf cT
    clear hbd hk0 bT cT F1
    go_enter Tryz.func34, Tryz.ntmps34
    go_upto_region 1 with fail
    rw [← hp.out]
    rw [← H0.out]
    go_wp2
    rw [← HT.out]
    refine bodyPost_ret (results_cell2 rfl _ _ (p + 1) 47 _ (0, 0) _ rfl BT.out Tryz.underlying47 rfl (by kernel_rfl)) rfl ?_
    unfold PutE
    rw [← hP.out]
    exact ⟨Chg.out CT.out O0.out (fun b hb => by have := hp.out; omega), .inl ⟨by rw [HQ.out], by rw [HQ.out]; rfl⟩⟩
  · have hkb0 : ((k : Int) == 0) = false := by rw [beq_eq_false_iff_ne]; omega
    have hbd : ¬ bd = [] := fun e => hk0 (by rw [hk.out, e]; rfl)
    obtain ⟨gb, rfl, hsrc⟩ := HBD.out.resolve_left hbd
    have SRC := hidOf hsrc
    have HK0 : Hid (0 < k) := hidOf (Nat.pos_of_ne_zero hk0)
    clear hsrc
    cases hf : fndO P at_ k with
    | none =>
      have hF : fndI P at_ k = -1 := by simp only [fndI, hf]
      have HQ : Hid (PutQ P at_ bd = (P, 200)) := hidOf (by simp only [PutQ, if_neg hbd, ← hk.out, hf])
      rw [hF] at F1
      clear hF hf hbd hk0
      go_enter Tryz.func34, Tryz.ntmps34
      go_upto_region 1 with fail
      rw [← hp.out]
      rw [← H0.out]
      go_upto_region 4 with (go_at_call 58; refine F1.out.mono ?_; rintro e w2 ⟨rfl, ho2⟩; have O2 := hidOf (O0.out.trans ho2); have cp2 := cell_later ho2 cp; have B2 := hidOf (blk_out B1.out ho2); clear ho2)
      have c2 : w2.cell? ⟨p + 1, 0, none⟩ = some (.slice none 0 0) := (cell_B B2.out 0).trans rfl
      have z2 : w2.frozen? ⟨p + 1, 0, none⟩ = false := froz_B B2.out 0
      obtain ⟨wT, HT, bT, cT⟩ : ∃ wT, Hid (wT = w2.setCell ⟨p + 1, 0, none⟩ (.slice a n c)) ∧ wT.heap[p + 1]? = some (.cells #[.slice a n c] 47 (0, 0)) ∧ Chg (fun b => b = p + 1) w2 wT := ⟨_, rfl, set_B B2.out 0 _, (Chg.refl (fun b => b = p + 1) w2).setCell rfl _⟩
      have BT := hidOf bT
      have CT := hidOf cT
      clear bT cT cp c1 z1
      go_wp2
      rw [← HT.out]
      refine bodyPost_ret (results_cell2 rfl _ _ (p + 1) 47 _ (0, 0) _ rfl BT.out Tryz.underlying47 rfl (by kernel_rfl)) rfl ?_
      unfold PutE
      rw [← hP.out]
      exact ⟨Chg.out CT.out O2.out (fun b hb => by have := hp.out; omega), .inl ⟨by rw [HQ.out], by rw [HQ.out]; rfl⟩⟩
    | some i =>
      have hF : fndI P at_ k = (i : Int) := by simp only [fndI, hf]
      obtain ⟨q, hq, hfit⟩ := fnd_some hf
      have HQ : Hid (PutQ P at_ bd = (putP P at_ i bd, 0)) := hidOf (by simp only [PutQ, if_neg hbd, ← hk.out, hf])
      have hin : i < n := by have := (List.getElem?_eq_some_iff.1 hq).1; rw [hP.out, List.length_map, HRN.out] at this; exact this
      have hi0 : ¬ (i : Int) < 0 := by omega
      have hft := fitQ_iff.1 hfit
      have HPQ := hidOf hq
      rw [hF] at F1
      clear hF hf hfit hbd hk0 hq
      go_enter Tryz.func34, Tryz.ntmps34
      go_upto_region 1 with fail
      rw [← hp.out]
      rw [← H0.out]
      go_upto_region 4 with (go_at_call 58; refine F1.out.mono ?_; rintro e w2 ⟨rfl, ho2⟩; have O2 := hidOf (O0.out.trans ho2); have cp2 := cell_later ho2 cp; have B2 := hidOf (blk_out B1.out ho2); clear ho2)
      have C2 := hidOf (CC.out w2 O2.out)
      clear cp c1 z1
      go_upto_region 7 with (go_at_call 47; refine C2.out.mono ?_; rintro e w3 ⟨a', c', R', rfl, hrl, hmap, ho3, hdn⟩; have RL3 := hidOf hrl; have MP := hidOf hmap; have O3 := hidOf ho3; have DN := hidOf hdn; clear hrl hmap ho3 hdn)
      obtain ⟨q4, hq4⟩ : ∃ q4, Hid (q4 = w3.heap.size) := ⟨_, rfl⟩
      obtain ⟨wB, HB, bB, oB⟩ : ∃ wB, Hid (wB = w3.alloc (.cells #[.slice a' n c'] 47)) ∧ wB.heap[q4]? = some (.cells #[.slice a' n c'] 47 (0, 0)) ∧ Out w3 wB := ⟨_, rfl, by rw [hq4.out]; exact heap_alloc_new w3 _, (Out.refl w3).alloc _⟩
      rw [← hq4.out]
      rw [← HB.out]
      have OB := hidOf (O3.out.trans oB)
      have BQ := hidOf bB
      have RLB := hidOf (RL3.out.out oB)
      have hRl : Hid (R'.length = n) := hidOf (by have := congrArg List.length MP.out; simp only [List.length_map] at this; rw [this]; exact HRN.out)
      obtain ⟨z, hz⟩ : ∃ z, R'[i]? = some z := ⟨_, List.getElem?_eq_getElem (by rw [hRl.out]; exact hin)⟩
      have hqz : q = fdR z := by
        have h1 : (R'.map fdR)[i]? = some (fdR z) := by rw [List.getElem?_map, hz]; rfl
        rw [MP.out, ← hP.out, HPQ.out] at h1; exact Option.some.inj h1
      subst hqz
      simp only [fdR] at hft
      have hown := RLB.out.own
      obtain ⟨g, cc2, ee, _, _⟩ := hown.form (by omega)
      simp only [Value.slice.injEq] at ee
      obtain ⟨rfl, _, rfl⟩ := ee
      have q0 := (own_cellK hown (rowG_get hz).1).1
      have q1 := (own_cellK hown (rowG_get hz).2).1
      rw [daV] at q1
      have hda : wB.ownsRow w2.heap.size 5 1 (daV z) z.d.length (z.d.map byV) := RLB.out.da z (List.mem_of_getElem? hz)
      obtain ⟨zb, kk, jj, _, _⟩ := hda.form (by omega)
      rw [daV] at jj
      simp only [Value.slice.injEq] at jj
      rw [daV, jj.1, jj.2.2] at hda
      have hza : z.a = some zb := by
        cases hzz : z.a with
        | none => rw [hzz] at jj; simp at jj
        | some x => rw [hzz] at jj; simp at jj; rw [jj.1]
      obtain ⟨cl, hg2, hB2, hnc, hcm, hcl, hct, hxl⟩ := owns_blk hda
      rw [jj.1, jj.2.2] at q1
      have hgz : ¬ g = zb := fun e => own_ne hown hg2 (by decide) (by rw [← e]; rfl)
      have hqz4 : ¬ q4 = zb := fun e => by rw [← e] at hg2; rw [BQ.out] at hg2; simp at hg2
      have hgbz : ¬ gb = zb := fun e => by
        have h1 := SRC.out 0 (bd[0]'(by rw [← hk.out]; exact HK0.out)) (List.getElem?_eq_getElem _)
        have h2 : gb < w.heap.size := by
          by_cases hg : gb < w.heap.size
          · exact hg
          · simp [World.cell?, Array.getElem?_eq_none (Nat.le_of_not_lt hg)] at h1
        have h3 := O2.out.size
        omega
      have hqg : ¬ q4 = g := fun e => by
        obtain ⟨cl3, hg3, _⟩ := owns_blk hown
        rw [← e, BQ.out] at hg3
        simp at hg3
      obtain ⟨zf, hzf⟩ : ∃ zf, Hid (zf = z.f) := ⟨_, rfl⟩
      obtain ⟨zl, hzl⟩ : ∃ zl, Hid (zl = z.d.length) := ⟨_, rfl⟩
      obtain ⟨D, hD⟩ : ∃ D, Hid (D = at_ - zf) := ⟨_, rfl⟩
      rw [← hzf.out] at q0 hft
      rw [← hzl.out] at q1 hft
      rw [← hD.out] at hft
      have hzb48 : zl ≤ 140737488355328 := by
        have h1 : fdR z ∈ R.map fdR := by rw [← hP.out]; exact List.mem_of_getElem? HPQ.out
        obtain ⟨y, hy, ey⟩ := List.mem_map.1 h1
        have h3 := (HB0.out y hy).1
        simp only [fdR, Prod.mk.injEq] at ey
        rw [hzl.out, ← ey.2]; exact h3
      have hzf64 : zf < 18446744073709551616 := by
        have h1 : fdR z ∈ R.map fdR := by rw [← hP.out]; exact List.mem_of_getElem? HPQ.out
        obtain ⟨y, hy, ey⟩ := List.mem_map.1 h1
        have h3 := (HB0.out y hy).2
        simp only [fdR, Prod.mk.injEq] at ey
        rw [hzf.out, ← ey.1]; exact h3
      have hDk : D + k ≤ zl := by omega
      have hzlk : zl ≤ kk := by rw [hzl.out]; omega
      have hws : IntKind.u64.wrap ((at_ : Int) - zf) = (D : Int) := by have := hD.out; rw [IntKind.wrap_u64]; omega
      have hws2 : IntKind.i64.wrap (D : Int) = (D : Int) := by rw [IntKind.wrap_i64]; omega
      have Q1 := hidOf q1
      have HZ := hidOf hz
      have HZA := hidOf hza
      obtain ⟨cur, hcur⟩ : ∃ cur : Array Value, Hid (cur = cl.toArray) := ⟨_, rfl⟩
      rw [← hcur.out] at hg2
      have HG2 := hidOf hg2
      have hcs : Hid (cur.size = kk) := hidOf (by rw [hcur.out]; simpa using hcl)
      have ne1 := hidOf hgz
      have ne2 := hidOf hqz4
      have ne3 := hidOf hgbz
      have cq : wB.cell? ⟨q4, 0, none⟩ = some (.slice (some ⟨g, 0, none⟩) n c') := (cell_B BQ.out 0).trans rfl
      have KB2 := hidOf (blk_out B2.out OB.out)
      have hp1q : Hid (¬ p + 1 = zb) := hidOf (fun e => by have h1 := KB2.out; rw [e, hg2] at h1; simp at h1)
      clear hown hda jj hct hxl hcl hcm hnc hB2 hg2 hz hza hgz hqz4 hgbz hqg oB bB
      go_upto_region 9 with fail
      clear q0 q1 cq cp2
      go_loopw [11] (fun jv wr => ∃ j : Nat, jv = .int .i64 (j : Nat) ∧ j ≤ k ∧ Hid (∃ cur' : Array Value, wr.heap[zb]? = some (.cells cur' 5 (0, 0)) ∧ cur'.size = cur.size ∧ ∀ q, cur'[q]? = if D ≤ q ∧ q < D + j then (bd[q - D]?).map byV else cur[q]?) ∧ Hid (Chg (fun x => x = zb) wB wr)) (fun jv _ => k - (intOf jv).toNat)
      case atStart => exact ⟨0, rfl, Nat.zero_le _, hidOf ⟨cur, HG2.out, rfl, fun q => by rw [if_neg (by omega)]⟩, hidOf (Chg.refl _ wB)⟩
      case round =>
        obtain ⟨j, rfl, hj, HC, CG⟩ := hrel
        have cq : wr.cell? ⟨q4, 0, none⟩ = some (.slice (some ⟨g, 0, none⟩) n c') := CG.out.cell ((cell_B BQ.out 0).trans rfl) (by show ¬ q4 = zb; exact ne2.out)
        by_cases hjk : j < k
        · have hlt : (j : Int) < k := by omega
          have r1 : wr.cell? ⟨g, i * 2 + 1, none⟩ = some (.slice (some ⟨zb, 0, none⟩) zl kk) := CG.out.cell Q1.out (by show ¬ g = zb; exact ne1.out)
          obtain ⟨x, hx⟩ : ∃ x, bd[j]? = some x := ⟨_, List.getElem?_eq_getElem (by rw [← hk.out]; exact hjk)⟩
          have rs : wr.cell? ⟨gb, j, none⟩ = some (.int .u8 (x.toNat : Int)) := CG.out.cell (cell_later (O2.out.trans OB.out) (SRC.out j x hx)) (by show ¬ gb = zb; exact ne3.out)
          obtain ⟨V, hV⟩ : ∃ V, Hid (V = D + j) := ⟨_, rfl⟩
          have hw4 : IntKind.i64.wrap ((D : Int) + j) = (V : Int) := by have := hV.out; rw [IntKind.wrap_i64]; omega
          have hVz : V < zl := by have := hV.out; omega
          have hVz2 : (V : Int) < zl := by omega
          have HX := hidOf hx
          obtain ⟨cur', hc1, hc2, hc3⟩ := HC.out
          obtain ⟨u, hu⟩ : ∃ u, wr.cell? ⟨zb, V, none⟩ = some u := ⟨_, (cell_B hc1 V).trans (Array.getElem?_eq_getElem (by have := hcs.out; omega))⟩
          have hzv : wr.frozen? ⟨zb, V, none⟩ = false := froz_B hc1 V
          obtain ⟨wS, HS, HC2, CG2⟩ : ∃ wS, Hid (wS = (wr.setCell ⟨zb, V, none⟩ (.int .u8 (x.toNat : Int))).drew) ∧ Hid (∃ cur' : Array Value, wS.heap[zb]? = some (.cells cur' 5 (0, 0)) ∧ cur'.size = cur.size ∧ ∀ q, cur'[q]? = if D ≤ q ∧ q < D + (j + 1) then (bd[q - D]?).map byV else cur[q]?) ∧ Hid (Chg (fun x => x = zb) wB wS) := by
            refine ⟨_, rfl, hidOf ⟨_, set_B hc1 V _, by rw [Array.size_setIfInBounds]; exact hc2, fun q => ?_⟩, hidOf ((CG.out.setCell rfl _).drew)⟩
            have hVV := hV.out
            rw [Array.getElem?_setIfInBounds]
            by_cases hqV : V = q
            · subst hqV
              rw [if_pos rfl, if_pos (by have := hcs.out; omega), if_pos (by omega), show V - D = j by omega, HX.out]
              rfl
            · rw [if_neg hqV, hc3 q]
              by_cases hin2 : D ≤ q ∧ q < D + j
              · rw [if_pos hin2, if_pos (by omega)]
              · rw [if_neg hin2, if_neg (by omega)]
          have s0 : wS.cell? ⟨q4, 0, none⟩ = some (.slice (some ⟨g, 0, none⟩) n c') := CG2.out.cell ((cell_B BQ.out 0).trans rfl) (by show ¬ q4 = zb; exact ne2.out)
          have s1 : wS.cell? ⟨g, i * 2 + 1, none⟩ = some (.slice (some ⟨zb, 0, none⟩) zl kk) := CG2.out.cell Q1.out (by show ¬ g = zb; exact ne1.out)
          have s2 : wS.cell? ⟨gb, j, none⟩ = some (.int .u8 (x.toNat : Int)) := CG2.out.cell (cell_later (O2.out.trans OB.out) (SRC.out j x HX.out)) (by show ¬ gb = zb; exact ne3.out)
          clear hc1 hc2 hc3 hx
          go_upto_region 11 with fail
          refine wp_region_held_drew (S := (fun w' => w'.cell? ⟨q4, 0, none⟩ = some (.slice (some ⟨g, 0, none⟩) n c') ∧ w'.cell? ⟨g, i * 2 + 1, none⟩ = some (.slice (some ⟨zb, 0, none⟩) zl kk) ∧ w'.cell? ⟨gb, j, none⟩ = some (.int .u8 (x.toNat : Int)))) (by kernel_rfl) ?_ (fun hHeld => ?_)
          · exact ⟨cq, r1, rs⟩
          refine tkLB [0, 1, 2, 3, 4, 5, 6, 7, 8, 9, 10, 11, 12, 13] ?_
          iterate 14 (refine tkLC (v := ?_) rfl rfl (by kernel_rfl) (by kernel_rfl) (by kernel_rfl) (fun _ _ _ h => h) (by rfl) (by assumption) ?_ ?_; rotate_left; (· (intro w hSw; (try dsimp only at hSw); go_simp; (try with_reducible rfl))); simp only [Act.put, List.setIfInBounds_toArray, List.set_cons_zero, List.set_cons_succ])
          refine tkLE ?_
          refine wpAnyH_ready (rs := [14]) (by kernel_rfl) (by simp) ?_
          refine (AllReadyH.cons rfl (fun Ko14 hKo14 => ?_) AllReadyH.nil)
          rw [if_pos (by rfl)]
          go_simp
          rw [← HS.out]
          refine hKo14.out _ _ ⟨s0, s1, s2⟩ (fun hHeld14 => ?_)
          try simp only [Act.put, List.setIfInBounds_toArray, List.set_cons_zero, List.set_cons_succ]
          refine wpAnyH_done (by kernel_rfl) ?_ _
          clear cq r1 rs s0 s1 s2 hu hzv
          go_wp2
          go_roundw
          case rel => exact ⟨j + 1, by simp, by omega, HC2, CG2⟩
          case measure => simp [intOf]; omega
        · have hlt : ¬ (j : Int) < k := by omega
          obtain rfl : j = k := by omega
          have KT : Hid (wr.heap[p + 1]? = some (.cells #[.slice none 0 0] 47 (0, 0))) := hidOf (blk_chg KB2.out CG.out (by show ¬ p + 1 = zb; exact hp1q.out))
          have c9 : wr.cell? ⟨p + 1, 0, none⟩ = some (.slice none 0 0) := (cell_B KT.out 0).trans rfl
          have z9 : wr.frozen? ⟨p + 1, 0, none⟩ = false := froz_B KT.out 0
          have RLW : Hid (RLs w2.heap.size wr (some ⟨g, 0, none⟩) c' n (R'.set i { z with d := layL z.d D bd })) := hidOf (by
            obtain ⟨cur', h1, h2, h3⟩ := HC.out
            exact RLB.out.write DN.out HZ.out HZA.out (by rw [← hk.out, ← hzl.out]; exact hDk) HG2.out ⟨cur', h1, h2, fun q => by rw [h3 q, hk.out]⟩ CG.out)
          obtain ⟨wT, HT, bT, cT⟩ : ∃ wT, Hid (wT = wr.setCell ⟨p + 1, 0, none⟩ (.slice (some ⟨g, 0, none⟩) n c')) ∧ wT.heap[p + 1]? = some (.cells #[.slice (some ⟨g, 0, none⟩) n c'] 47 (0, 0)) ∧ Chg (fun b => b = p + 1) wr wT := ⟨_, rfl, set_B KT.out 0 _, (Chg.refl (fun b => b = p + 1) wr).setCell rfl _⟩
          have BT := hidOf bT
          have CT := hidOf cT
          have hzbw : Hid (w.heap.size ≤ zb) := hidOf (by
            have h1 := (RLB.out.da z (List.mem_of_getElem? HZ.out)).blk HZA.out
            have h2 := O2.out.size
            omega)
          clear bT cT
          go_wp2
          rw [← HT.out]
          refine bodyPost_ret (results_cell2 rfl _ _ (p + 1) 47 _ (0, 0) _ rfl BT.out Tryz.underlying47 rfl (by kernel_rfl)) rfl ?_
          unfold PutE
          rw [← hP.out]
          refine ⟨Chg.out CT.out (Chg.out CG.out (O2.out.trans OB.out) (fun b hb => by have := hzbw.out; omega)) (fun b hb => by have := hp.out; omega), .inr ⟨some ⟨g, 0, none⟩, c', _, by rw [HQ.out]; rfl, (RLW.out.chgT KT.out CT.out).base O2.out.size, ?_⟩⟩
          rw [HQ.out]
          show (R'.set i { z with d := layL z.d D bd }).map fdR = putP P at_ i bd
          unfold putP
          rw [HPQ.out]
          show (R'.set i { z with d := layL z.d D bd }).map fdR = P.set i (z.f, layL z.d (at_ - z.f) bd)
          rw [List.map_set, MP.out, ← hP.out, ← hzf.out, ← hD.out, hzf.out]
          rfl
end Go.Proofs.YtekjfbmebekmeaaGreat
