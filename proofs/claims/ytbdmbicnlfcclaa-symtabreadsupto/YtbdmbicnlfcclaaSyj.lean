import Derived.Test.YtbdmbicnlfcclaaSyi
namespace Go.Proofs.Ytbdmbicnlfcclaa
open Go.RowKit
set_option linter.unusedVariables false
set_option linter.unusedSimpArgs false
theorem run_make24 (n : Nat) (h1 : 24 ≤ n) (hn : n ≤ 140737488355328) (w : World) : ∃ cur : Array Value, (Instr.makeSlice 37 (.int .i64 24) (.int .i64 (n : Int))).run Try.prog w = .ok (.slice (some ⟨w.heap.size, 0, none⟩) 24 n) (w.alloc (.cells cur 5)) ∧ OwB w.heap.size (.slice (some ⟨w.heap.size, 0, none⟩) 24 n) (List.replicate 24 0) (w.alloc (.cells cur 5)) := by
  obtain ⟨i0, hi, hz0, hz1, hz2⟩ := info_parts infoB
  have h := run_make (P := Try.prog) w 37 5 i0 _ Try.underlying37 hi hz0 .i64 .i64 24 (n : Int) (by omega) (by omega) (by rw [hz2]; omega) (by omega)
  rw [hz1, Nat.mul_one] at h
  have e24 : (List.replicate 24 (0 : UInt8)).length = 24 := by decide
  refine ⟨_, h, by rw [Lib.byteCells_length, e24], .inr ⟨w.heap.size, n, _, by rw [e24], Nat.le_refl _, heap_alloc_new w _, by rw [e24]; omega, by unfold maxLen; omega, by simp [madeCells], ?_⟩⟩
  rw [e24]
  apply List.ext_getElem?
  intro j
  by_cases hj : j < 24
  · rw [List.getElem?_take_of_lt (by omega)]
    have hjn : j < n := by omega
    rw [show Lib.byteCells (List.replicate 24 0) = List.replicate 24 (Value.int .u8 0) from rfl, List.getElem?_replicate, if_pos hj]
    simp [madeCells, Value.cells, hjn, Nat.mod_one]
  · rw [List.getElem?_eq_none (by rw [List.length_take]; omega), List.getElem?_eq_none (by rw [Lib.byteCells_length, e24]; omega)]
/-- amid Write -/
structure WSt (w wr : World) (p : Nat) (v : Value) (P : List UInt8) (q : Rn) : Prop where
  own : OwB w.heap.size v P wr
  out : Out w wr
  rb : RB wr p q
  ge : w.heap.size ≤ p
theorem WSt.on {w wr w' : World} {p : Nat} {v : Value} {P : List UInt8} {q : Rn} (h : WSt w wr p v P q) (o : Out wr w') : WSt w w' p v P q := ⟨own_at h.own o, h.out.trans o, h.rb.out o, h.ge⟩
theorem WSt.take {w wr w' : World} {p : Nat} {v : Value} {P : List UInt8} {q q' : Rn} (h : WSt w wr p v P q) (c : Chg (fun k => k = p) wr w') (r : RB w' p q') : WSt w w' p v P q' := ⟨owns_chg h.own (fun k hk e => own_type h.own (show wr.heap[p]? = _ from h.rb) (by decide) (by rw [← e]; exact hk)) c, Chg.out c h.out (fun k hk => by rw [hk]; exact h.ge), r, h.ge⟩
theorem WSt.lay {w wr w' : World} {p : Nat} {v v' : Value} {P P' : List UInt8} {q : Rn} (h : WSt w wr p v P q) (ho : OwB w.heap.size v' P' w') (hb : Below w.heap.size wr w') (hk : Keep wr w') : WSt w w' p v' P' q := ⟨ho, Below.trans h.out hb, hk _ _ _ h.rb (by decide), h.ge⟩
def WrE (w : World) (o : Option (List UInt8) × Int) (e : Ending) (w' : World) : Prop := Out w w' ∧ match o with
  | (none, er) => e = .returned (.tuple #[.slice none 0 0, .int .i64 er])
  | (some b, _) => ∃ a c, e = .returned (.tuple #[.slice a b.length c, .int .i64 0]) ∧ OwB w.heap.size (.slice a b.length c) b w'
set_option maxRecDepth 8000 in
set_option maxHeartbeats 4000000 in
theorem write_any (w : World) (a : Option Addr) (c : Nat) (L : List Sy) (h : SyAt w.heap.size w a L) (hc : L.length ≤ c) (hl : L.length ≤ 2932031007402) (hk : ∀ s ∈ L, SyOk s) : Calls Try.prog 15 #[.slice a L.length c] w fun e w' => WrE w (wrP L) e w' := by
  obtain ⟨n, hn⟩ : ∃ n : Nat, n = 24 * (1 + L.length) := ⟨_, rfl⟩
  obtain ⟨cur, hmk, hown⟩ := run_make24 n (by omega) (by omega) w
  have hwr : (24 : Int) * (1 + L.length) = n := by omega
  have HL := hidOf h
  have Hk := hidOf hk
  have hlI : (L.length : Int) ≤ 2932031007402 := by omega
  have hcI : (L.length : Int) ≤ c := by omega
  obtain ⟨O0, hO0⟩ : ∃ O, O = wrP L := ⟨_, rfl⟩
  rw [← hO0]
  have H0 : Hid (O0 = wrF ⟨0, 0, 0⟩ L (List.replicate 24 0)) := hidOf hO0
  have HW0 : Hid (WSt w ((w.alloc (.cells cur 5)).alloc (.cells #[.int .i64 0, .int .i64 0, .int .i64 0] 66)) (w.heap.size + 1) (.slice (some ⟨w.heap.size, 0, none⟩) 24 n) (List.replicate 24 0) ⟨0, 0, 0⟩) := hidOf ⟨own_at hown ((Out.refl _).alloc _), ((Out.refl _).alloc _).alloc _, heap_new2 w _ _, by omega⟩
  clear h hn hO0 hk hown
  go_enter Try.func15, Try.ntmps15
  go_wp2
  clear hmk hwr
  generalize (w.alloc (.cells cur 5)).alloc (.cells #[.int .i64 0, .int .i64 0, .int .i64 0] 66) = W1 at *
  generalize hp : w.heap.size + 1 = p at *
  clear hp
  go_loopw [17, 4] (fun iv bv wr => ∃ (i : Nat) (P : List UInt8) (a1 : Option Addr) (c1 : Nat) (q : Rn), iv = .int .i64 i ∧ bv = .slice a1 P.length c1 ∧ i ≤ L.length ∧ Hid (O0 = wrF q (L.drop i) P) ∧ Hid (P.length = 24 + 24 * i) ∧ Hid (0 ≤ q.c ∧ q.c ≤ i) ∧ Hid (WSt w wr p (.slice a1 P.length c1) P q)) (fun iv _ _ => L.length - (intOf iv).toNat)
  case atStart => exact ⟨0, List.replicate 24 0, _, _, ⟨0, 0, 0⟩, rfl, rfl, by omega, H0.out, by show _ = _; simp, ⟨by decide, by decide⟩, HW0.out⟩
  case round =>
    obtain ⟨i, P, a1, c1, q, rfl, rfl, hi, HO, HPl, HQ, HW⟩ := hrel
    by_cases hiL : i < L.length
    · have hlt : (i : Int) < L.length := by omega
      have h0 : (0 : Int) ≤ i := by omega
      obtain ⟨x, hx⟩ : ∃ x, L[i]? = some x := ⟨_, List.getElem?_eq_getElem hiL⟩
      obtain ⟨g, off, rfl, hg, h6⟩ := HL.out.get hx
      obtain ⟨x0, x1, x2, x3, x4, x5⟩ := h6.later HW.out.out
      have Hst := hidOf (wrF_step (q := q) (b := P) hx)
      have Hkx := hidOf (Hk.out x (List.mem_of_getElem? hx))
      obtain ⟨na, bi, ki, se, va, si⟩ := x
      simp only at x0 x1 x2 x3 x4 x5
      obtain ⟨qb, hqb⟩ : ∃ qb, qb = wr.heap.size := ⟨_, rfl⟩
      have HX : Hid ((wr.alloc (.cells #[.int .i64 na, .int .i64 bi, .int .i64 ki, .int .i64 se, .int .i64 va, .int .i64 si] 57)).heap[qb]? = some (.cells #[.int .i64 na, .int .i64 bi, .int .i64 ki, .int .i64 se, .int .i64 va, .int .i64 si] 57 (0, 0))) := hidOf (by rw [hqb]; exact heap_alloc_new wr _)
      have HWb := hidOf (HW.out.on ((Out.refl wr).alloc (.cells #[.int .i64 na, .int .i64 bi, .int .i64 ki, .int .i64 se, .int .i64 va, .int .i64 si] 57)))
      have CS := hidOf (fun wx => sortOfSymbol_any na bi ki se va si wx)
      clear hx h6
      go_upto_region 6 with fail
      rw [← hqb]
      clear hqb x0 x1 x2 x3 x4 x5
      generalize wr.alloc (.cells #[.int .i64 na, .int .i64 bi, .int .i64 ki, .int .i64 se, .int .i64 va, .int .i64 si] 57) = wb at *
      have HK : Hid (∀ wx, Keep wb wx → wx.cell? ⟨qb, 0, none⟩ = some (.int .i64 na) ∧ wx.cell? ⟨qb, 1, none⟩ = some (.int .i64 bi) ∧ wx.cell? ⟨qb, 2, none⟩ = some (.int .i64 ki) ∧ wx.cell? ⟨qb, 3, none⟩ = some (.int .i64 se) ∧ wx.cell? ⟨qb, 4, none⟩ = some (.int .i64 va) ∧ wx.cell? ⟨qb, 5, none⟩ = some (.int .i64 si)) := fun wx k => by
        have h := k _ _ _ HX.out (by decide)
        exact ⟨box_cell h 0, box_cell h 1, box_cell h 2, box_cell h 3, box_cell h 4, box_cell h 5⟩
      obtain ⟨k0, k1, k2, k3, k4, k5⟩ := HK.out wb (Keep.refl wb)
      obtain ⟨so, hso⟩ : ∃ so, so = soP ⟨na, bi, ki, se, va, si⟩ := ⟨_, rfl⟩
      rw [← hso] at CS Hst
      have Hso := hidOf hso
      by_cases hs0 : so = 0
      · subst hs0
        rw [if_pos rfl] at Hst
        have hdec : decide (0 < 0) = false := rfl
        have CS2 : Hid (∀ wx, Calls Try.prog 31 #[.agg #[.int .i64 na, .int .i64 bi, .int .i64 ki, .int .i64 se, .int .i64 va, .int .i64 si]] wx fun e w' => ∃ kx, e = .returned (.tuple #[kv kx, .bool false]) ∧ Out wx w') := fun wx => (CS.out wx).mono fun e w' ⟨⟨k, he, _⟩, o⟩ => ⟨k, he, o⟩
        clear CS hso
        go_wp2_with (first | (go_at_call 31; refine (CS2.out _).mono ?_; rintro e w2 ⟨kx, rfl, hO⟩; have HO2 := hidOf (HWb.out.out.trans hO); clear hO))
        go_ret2
        rw [HO.out, Hst.out]
        exact ⟨HO2.out, rfl⟩
      · have hpos : 0 < so := by omega
        rw [if_neg hs0] at Hst
        have CS2 : Hid (∀ wx, Calls Try.prog 31 #[.agg #[.int .i64 na, .int .i64 bi, .int .i64 ki, .int .i64 se, .int .i64 va, .int .i64 si]] wx fun e w' => e = .returned (.tuple #[kv so, .bool true]) ∧ Out wx w') := fun wx => (CS.out wx).mono fun e w' ⟨⟨k, he, _, hk⟩, o⟩ => ⟨by rw [he, hk hpos, decide_eq_true hpos], o⟩
        have hsf := so_facts (s := ⟨na, bi, ki, se, va, si⟩) (by rw [← hso]; exact hpos)
        rw [← hso] at hsf
        have Hlay := hidOf (lay_ok (s := ⟨na, bi, ki, se, va, si⟩) (by rw [← hso]; exact hpos) Hkx.out)
        obtain ⟨q1, q2, q3⟩ := q
        have CT := hidOf (fun wx (hr : RB wx p ⟨q1, q2, q3⟩) => take_any so ⟨hsf.1, hsf.2.1⟩ wx p q1 q2 q3 va hr ⟨HQ.out.1, by have := HQ.out.2; simp only at this; omega⟩)
        simp only at Hst
        cases htk : tkS ⟨q1, q2, q3⟩ so va with
        | none =>
          rw [htk] at CT Hst
          clear CS hso hsf hs0 hpos
          go_upto_region 9 with (first | (go_at_call 31; refine (CS2.out _).mono ?_; rintro e w2 ⟨rfl, hO⟩; have HW2 := hidOf (HWb.out.on hO); have HKp2 := hidOf (Keep.of_out hO); clear hO))
          clear k0 k1 k2 k3 k4 k5
          obtain ⟨k0, k1, k2, k3, k4, k5⟩ := HK.out w2 HKp2.out
          go_wp2_with (first | (go_at_call 32; refine (CT.out _ HW2.out.rb).mono ?_; rintro e w3 ⟨rfl, hC, q', hR, _⟩; have HW3 := hidOf (HW2.out.take hC hR); clear hC hR))
          go_ret2
          rw [HO.out, Hst.out]
          exact ⟨HW3.out.out, rfl⟩
        | some qn =>
          rw [htk] at CT Hst
          obtain ⟨hqc1, hqc2⟩ := tkS_c htk
          have HQn : Hid (0 ≤ qn.c ∧ qn.c ≤ ((i + 1 : Nat) : Int)) := hidOf ⟨hqc2 HQ.out.1, by have h1 := HQ.out.1; have h2 := HQ.out.2; simp only at hqc1 h1 h2; omega⟩
          obtain ⟨P2, hP2⟩ : ∃ P2, P2 = P ++ enB ⟨na, bi, ki, se, va, si⟩ := ⟨_, rfl⟩
          have hpl := HPl.out
          have HP2l : Hid (P2.length = 24 + 24 * (i + 1)) := hidOf (by rw [hP2, List.length_append, enB_len]; show P.length + 24 = _; rw [hpl]; omega)
          have CLy := hidOf (fun wx a' c' (ho : OwB w.heap.size (.slice a' P.length c') P wx) (hx : w.heap.size ≤ wx.heap.size) => layEntry_any w.heap.size wx a' c' P P2 na bi ki se va si hP2 ho hx (by omega) Hlay.out)
          simp only at Hst
          rw [← hP2] at Hst
          clear CS hso hsf hs0 hpos hqc1 hqc2 hP2 hpl htk
          go_upto_region 9 with (first | (go_at_call 31; refine (CS2.out _).mono ?_; rintro e w2 ⟨rfl, hO⟩; have HW2 := hidOf (HWb.out.on hO); have HKp2 := hidOf (Keep.of_out hO); clear hO))
          clear k0 k1 k2 k3 k4 k5
          obtain ⟨k0, k1, k2, k3, k4, k5⟩ := HK.out w2 HKp2.out
          have hne : ¬ qb = p := fun e => by
            have h1 := HX.out
            rw [e, show wb.heap[p]? = _ from HWb.out.rb] at h1
            simp at h1
          go_upto_region 11 with (first | (go_at_call 32; refine (CT.out _ HW2.out.rb).mono ?_; rintro e w3 ⟨rfl, hC, q', hR, hq'⟩; have HW3 := hidOf (HW2.out.take hC (hq' _ rfl ▸ hR)); have HX3 := hidOf ((hC.block qb (Array.getElem?_eq_some_iff.1 (HKp2.out _ _ _ HX.out (by decide))).1 hne).trans (HKp2.out _ _ _ HX.out (by decide))); clear hC hR hq'))
          clear k0 k1 k2 k3 k4 k5
          have k0 := box_cell HX3.out 0
          have k1 := box_cell HX3.out 1
          have k2 := box_cell HX3.out 2
          have k3 := box_cell HX3.out 3
          have k4 := box_cell HX3.out 4
          have k5 := box_cell HX3.out 5
          simp only [List.getElem?_toArray, List.getElem?_cons_zero, List.getElem?_cons_succ] at k0 k1 k2 k3 k4 k5
          go_wp2_with (first | (go_at_call 33; refine (CLy.out _ _ _ HW3.out.own HW3.out.out.size).mono ?_; rintro e w4 ⟨a4, c4, rfl, ho, hb, hkp⟩; have HW4 := hidOf (HW3.out.lay ho hb hkp); clear ho hb hkp))
          exact ⟨⟨i + 1, P2, a4, c4, qn, by simp, rfl, by omega, by show _ = _; rw [HO.out, Hst.out], HP2l.out, HQn.out, HW4.out⟩, by simp [intOf]; omega⟩
    · have hlt : ¬ (i : Int) < L.length := by omega
      obtain rfl : i = L.length := by omega
      have HO2 : Hid (O0 = (some P, 0)) := hidOf (by rw [HO.out, List.drop_length]; rfl)
      go_wp2
      go_ret2
      rw [HO2.out]
      exact ⟨HW.out.out, a1, c1, rfl, HW.out.own⟩
end Go.Proofs.Ytbdmbicnlfcclaa
