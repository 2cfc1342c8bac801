import Derived.Test.YtikmaoigepoeoaaSwc
namespace Go.Proofs.Ytikmaoigepoeoaa
open Go.RowKit
set_option linter.unusedVariables false
set_option linter.unusedSimpArgs false
theorem prv_succ {L : List Sy} {i : Nat} {x : Sy} (h : L[i]? = some x) : prv L (i + 1) = some x := h
set_option maxRecDepth 8000 in
set_option maxHeartbeats 4000000 in
theorem refWrite_any (w : World) (a : Option Addr) (c : Nat) (L : List Sy) (h : SyAt w.heap.size w a L) (hc : L.length ≤ c) (hl : L.length ≤ 2932031007402) (hk : ∀ s ∈ L, SyOk s) : Calls Try.prog 20 #[.slice a L.length c] w fun e w' => WrE w (wrP L) e w' := by
  obtain ⟨cur, hmk, hown⟩ := run_make24 24 (by omega) (by omega) w
  have HL := hidOf h
  have Hk := hidOf hk
  have hlI : (L.length : Int) ≤ 2932031007402 := by omega
  have hcI : (L.length : Int) ≤ c := by omega
  obtain ⟨O0, hO0⟩ : ∃ O, O = wrP L := ⟨_, rfl⟩
  rw [← hO0]
  have H0 : Hid (O0 = wrF ⟨0, 0, 0⟩ L (List.replicate 24 0)) := hidOf hO0
  have HW0 : Hid (OwB w.heap.size (.slice (some ⟨w.heap.size, 0, none⟩) 24 24) (List.replicate 24 0) (w.alloc (.cells cur 5))) := hidOf hown
  have CF : Hid (∀ wx (k t : Nat) x, Out w wx → L[k]? = some x → t ≤ 10000000000000 → Calls Try.prog 38 #[.slice a L.length c, .int .i64 k, .int .i64 t] wx fun e w' => e = .returned (.bool (folP (prv L k) x t)) ∧ Out wx w') := fun wx k t x o hx ht => follows_any wx a c L (h.out o) hc k x hx t ht (by omega)
  obtain ⟨N, hN⟩ : ∃ N, N = w.heap.size := ⟨_, rfl⟩
  rw [← hN] at HW0
  have HN := hidOf hN
  have Ho0 : Hid (Out w (w.alloc (.cells cur 5))) := hidOf ((Out.refl w).alloc _)
  clear h hk hO0 hown hN
  go_enter Try.func20, Try.ntmps20
  have hmk' : (Instr.makeSlice 37 (.int .i64 24) (.int .i64 24)).run Try.prog w = .ok (.slice (some ⟨w.heap.size, 0, none⟩) 24 24) (w.alloc (.cells cur 5)) := hmk
  clear hmk
  go_wp2
  clear hmk'
  rw [← HN.out]
  generalize w.alloc (.cells cur 5) = w0 at *
  have e24 : (List.replicate 24 (0 : UInt8)).length = 24 := by decide
  go_loopw [6, 4, 5] (fun iv bv tv wr => ∃ (i t : Nat) (P : List UInt8) (a1 : Option Addr) (c1 : Nat) (q : Rn), iv = .int .i64 i ∧ bv = .slice a1 P.length c1 ∧ tv = .int .i64 t ∧ i ≤ L.length ∧ t ≤ i ∧ Hid (O0 = wrF q (L.drop i) P) ∧ Hid (Sim (prv L i) q t) ∧ Hid (P.length = 24 + 24 * i) ∧ Hid (OwB N (.slice a1 P.length c1) P wr) ∧ Hid (Out w wr)) (fun iv _ _ _ => L.length - (intOf iv).toNat)
  case atStart => exact ⟨0, 0, List.replicate 24 0, some ⟨N, 0, none⟩, 24, ⟨0, 0, 0⟩, rfl, by rw [e24], rfl, by omega, by omega, H0, hidOf ⟨rfl, rfl⟩, hidOf e24, by rw [e24]; exact HW0, Ho0⟩
  case round =>
    clear H0 HW0 Ho0 e24
    obtain ⟨i, t, P, a1, c1, q, rfl, rfl, rfl, hi, hti, HO, HS, HPl, HW, HOu⟩ := hrel
    by_cases hiL : i < L.length
    · have hlt : (i : Int) < L.length := by omega
      have h0 : (0 : Int) ≤ i := by omega
      obtain ⟨x, hx⟩ : ∃ x, L[i]? = some x := ⟨_, List.getElem?_eq_getElem hiL⟩
      obtain ⟨g, off, rfl, hg, h6⟩ := HL.out.get hx
      have Hst := hidOf (wrF_step (q := q) (b := P) hx)
      have Hxk : Hid (SyOk x) := hidOf (Hk.out x (List.mem_of_getElem? hx))
      have Hx := hidOf hx
      have CFx : Hid (∀ wx, Out w wx → Calls Try.prog 38 #[.slice (some ⟨g, off, none⟩) L.length c, .int .i64 i, .int .i64 t] wx fun e w' => e = .returned (.bool (folP (prv L i) x t)) ∧ Out wx w') := fun wx o => CF.out wx i t x o hx (by omega)
      have Hsim : Hid (1 ≤ soP x → (folP (prv L i) x t = false → tkS q (soP x) x.va = none) ∧ (folP (prv L i) x t = true → ∃ q', tkS q (soP x) x.va = some q' ∧ Sim (some x) q' (if soP x = 2 then t + 1 else t))) := fun h => HS.out.step h
      obtain ⟨na, bi, ki, se, va, si⟩ := x
      have HX : Hid (∀ wx, Out w wx → Cells6 wx g (off + i * 6) ⟨na, bi, ki, se, va, si⟩) := fun wx o => h6.later o
      have CX : Hid (∀ wx, Calls Try.prog 37 #[.agg #[.int .i64 na, .int .i64 bi, .int .i64 ki, .int .i64 se, .int .i64 va, .int .i64 si]] wx fun e w' => e = .returned (.int .i64 (soP ⟨na, bi, ki, se, va, si⟩ : Nat)) ∧ Out wx w') := fun wx => refSort_any na bi ki se va si wx
      obtain ⟨q0, q1, q2, q3, q4, q5⟩ := HX.out wr HOu.out
      simp only at q0 q1 q2 q3 q4 q5
      clear hx h6 HS CF
      obtain ⟨sx, hsx⟩ : ∃ sx, sx = soP ⟨na, bi, ki, se, va, si⟩ := ⟨_, rfl⟩
      rw [← hsx] at CX Hst Hsim
      have h4 := so_le ⟨na, bi, ki, se, va, si⟩
      rw [← hsx] at h4
      by_cases hs0 : sx = 0
      · subst hs0
        have Hst := Hst.out
        rw [if_pos rfl] at Hst
        rw [show ((0 : Nat) : Int) = 0 from rfl] at CX
        clear hsx
        go_wp2_with (go_at_call 37; refine (CX.out _).mono ?_; rintro e w1 ⟨rfl, ho⟩; have O1 := hidOf (Out.trans HOu.out ho); clear ho)
        go_ret2
        rw [HO.out, Hst]
        exact ⟨O1.out, rfl⟩
      · have b0 : ((sx : Int) == 0) = false := by simp; omega
        have Hst' := Hst.out
        rw [if_neg hs0] at Hst'
        clear Hst
        obtain ⟨F, hF⟩ : ∃ F, F = folP (prv L i) ⟨na, bi, ki, se, va, si⟩ t := ⟨_, rfl⟩
        rw [← hF] at CFx Hsim
        clear hF
        have hlay : LayOk ⟨na, bi, ki, se, va, si⟩ := lay_ok (by rw [← hsx]; omega) Hxk.out
        obtain ⟨h1, h2, h3, h4', h5, h6⟩ := hlay
        simp only at h1 h2 h3 h4' h5 h6
        have Hb2 := hidOf h2
        have Hb3 := hidOf h3
        have HL1 := hidOf h1
        have HL4 := hidOf h4'
        have HL5 := hidOf h5
        have HL6 := hidOf h6
        clear h1 h2 h3 h4' h5 h6 hsx
        cases F with
        | false =>
          have e1 := (Hsim.out (by omega)).1 rfl
          simp only at e1 Hst'
          rw [e1] at Hst'
          have Hst := hidOf Hst'
          clear Hst' e1
          go_wp2_with (first | (go_at_call 37; refine (CX.out _).mono ?_; rintro e w1 ⟨rfl, ho⟩; have O1 := hidOf (Out.trans HOu.out ho); clear ho) | (go_at_call 38; refine (CFx.out _ O1.out).mono ?_; rintro e w2 ⟨rfl, ho⟩; have O2 := hidOf (Out.trans O1.out ho); clear ho))
          go_ret2
          rw [HO.out, Hst.out]
          exact ⟨O2.out, rfl⟩
        | true =>
          obtain ⟨q', e1, e2⟩ := (Hsim.out (by omega)).2 rfl
          simp only at e1 e2 Hst'
          rw [e1] at Hst'
          simp only at Hst'
          have Hst := hidOf Hst'
          clear Hst' e1 Hsim
          go_upto_region 10 with (first | (go_at_call 37; refine (CX.out _).mono ?_; rintro e w1 ⟨rfl, ho⟩; have O1 := hidOf (Out.trans HOu.out ho); have P1 := hidOf ho; clear ho) | (go_at_call 38; refine (CFx.out _ O1.out).mono ?_; rintro e w2 ⟨rfl, ho⟩; have O2 := hidOf (Out.trans O1.out ho); have P2 := hidOf (Out.trans P1.out ho); clear ho))
          clear q0 q1 q2 q3 q4 q5
          obtain ⟨q0, q1, q2, q3, q4, q5⟩ := HX.out w2 O2.out
          simp only at q0 q1 q2 q3 q4 q5
          obtain ⟨T, hT⟩ : ∃ T : Nat, T = if sx = 2 then t + 1 else t := ⟨_, rfl⟩
          rw [← hT] at e2
          have HS2 := hidOf e2
          clear e2
          have hcase : (((sx : Int) == 2) = true ∧ T = t + 1) ∨ (((sx : Int) == 2) = false ∧ T = t) := by
            by_cases h2 : sx = 2
            · left; rw [if_pos h2] at hT; exact ⟨by simp; omega, hT⟩
            · right; rw [if_neg h2] at hT; exact ⟨by simp; omega, hT⟩
          clear hT
          obtain ⟨n1, rfl⟩ : ∃ n : Nat, na = n := ⟨na.toNat, by have := HL1.out; omega⟩
          obtain ⟨n4, rfl⟩ : ∃ n : Nat, se = n := ⟨se.toNat, by have := HL4.out; omega⟩
          obtain ⟨n5, rfl⟩ : ∃ n : Nat, va = n := ⟨va.toNat, by have := HL5.out; omega⟩
          obtain ⟨n6, rfl⟩ : ∃ n : Nat, si = n := ⟨si.toNat, by have := HL6.out; omega⟩
          obtain ⟨n2, hn2⟩ : ∃ n : Nat, 16 * bi + ki = n := ⟨(16 * bi + ki).toNat, by have := Hb2.out; have := Hb3.out; omega⟩
          have hn2b : n2 ≤ 300 := by have := Hb2.out; have := Hb3.out; omega
          obtain ⟨R1, hR1⟩ : ∃ R, R = P ++ leB n1 4 := ⟨_, rfl⟩
          obtain ⟨R2, hR2⟩ : ∃ R, R = R1 ++ leB n2 1 := ⟨_, rfl⟩
          obtain ⟨R3, hR3⟩ : ∃ R, R = R2 ++ leB 0 1 := ⟨_, rfl⟩
          obtain ⟨R4, hR4⟩ : ∃ R, R = R3 ++ leB n4 2 := ⟨_, rfl⟩
          obtain ⟨R5, hR5⟩ : ∃ R, R = R4 ++ leB n5 8 := ⟨_, rfl⟩
          obtain ⟨R, hR⟩ : ∃ R, R = P ++ enB ⟨n1, bi, ki, n4, n5, n6⟩ := ⟨_, rfl⟩
          rw [← hR] at Hst
          have hR6 : R = R5 ++ leB n6 8 := by
            rw [hR, enB, hR5, hR4, hR3, hR2, hR1]
            simp only [hn2, Int.toNat_natCast, List.append_assoc]
          have hPl := HPl.out
          have l1 : R1.length = P.length + 4 := by rw [hR1, List.length_append, leB_len]
          have l2 : R2.length = R1.length + 1 := by rw [hR2, List.length_append, leB_len]
          have l3 : R3.length = R2.length + 1 := by rw [hR3, List.length_append, leB_len]
          have l4 : R4.length = R3.length + 2 := by rw [hR4, List.length_append, leB_len]
          have l5 : R5.length = R4.length + 8 := by rw [hR5, List.length_append, leB_len]
          have l6 : Hid (R.length = 24 + 24 * (i + 1)) := by
            show R.length = _
            rw [hR6, List.length_append, leB_len]; omega
          have C1 := hidOf (fun wx a c (h : OwB N (.slice a P.length c) P wx) (hx : N ≤ wx.heap.size) => refNumber_any N wx a c P R1 n1 4 hR1 h hx (by omega) (by omega) (by have := HL1.out; omega))
          have C2 := hidOf (fun wx a c (h : OwB N (.slice a R1.length c) R1 wx) (hx : N ≤ wx.heap.size) => refNumber_any N wx a c R1 R2 n2 1 hR2 h hx (by omega) (by omega) (by omega))
          have C3 := hidOf (fun wx a c (h : OwB N (.slice a R2.length c) R2 wx) (hx : N ≤ wx.heap.size) => refNumber_any N wx a c R2 R3 0 1 hR3 h hx (by omega) (by omega) (by omega))
          have C4 := hidOf (fun wx a c (h : OwB N (.slice a R3.length c) R3 wx) (hx : N ≤ wx.heap.size) => refNumber_any N wx a c R3 R4 n4 2 hR4 h hx (by omega) (by omega) (by have := HL4.out; omega))
          have C5 := hidOf (fun wx a c (h : OwB N (.slice a R4.length c) R4 wx) (hx : N ≤ wx.heap.size) => refNumber_any N wx a c R4 R5 n5 8 hR5 h hx (by omega) (by omega) (by have := HL5.out; omega))
          have C6 := hidOf (fun wx a c (h : OwB N (.slice a R5.length c) R5 wx) (hx : N ≤ wx.heap.size) => refNumber_any N wx a c R5 R n6 8 hR6 h hx (by omega) (by omega) (by have := HL6.out; omega))
          rw [← hn2] at C2
          have bb0 : 0 ≤ bi := Hb2.out.1
          have bb1 : bi < 16 := Hb2.out.2
          have bk0 : 0 ≤ ki := Hb3.out.1
          have bk1 : ki < 16 := Hb3.out.2
          have HW2 : Hid (OwB N (.slice a1 P.length c1) P w2) := hidOf (own_at HW.out P2.out)
          clear hR hR1 hR2 hR3 hR4 hR5 hR6 l1 l2 l3 l4 l5 hPl hn2 hn2b b0 HW

          rcases hcase with ⟨b2, hT⟩ | ⟨b2, hT⟩
          · go_upto_region 12 with (go_at_call 37; refine (CX.out _).mono ?_; rintro e w3 ⟨rfl, ho⟩; have O3 := hidOf (Out.trans O2.out ho); have HW3 := hidOf (own_at HW2.out ho); clear ho)
            clear q0 q1 q2 q3 q4 q5
            obtain ⟨q0, q1, q2, q3, q4, q5⟩ := HX.out w3 O3.out
            simp only at q0 q1 q2 q3 q4 q5
            go_upto_region 13 with fail
            clear q0 q1 q2 q3 q4 q5
            obtain ⟨W, hW⟩ : ∃ W, W = w3.alloc (.cells #[.int .i64 (n1 : Int), .int .i64 bi, .int .i64 ki, .int .i64 (n4 : Int), .int .i64 (n5 : Int), .int .i64 (n6 : Int)] 57) := ⟨_, rfl⟩
            have HXb : Hid (W.heap[w3.heap.size]? = some (.cells #[.int .i64 (n1 : Int), .int .i64 bi, .int .i64 ki, .int .i64 (n4 : Int), .int .i64 (n5 : Int), .int .i64 (n6 : Int)] 57 (0, 0))) := hidOf (by rw [hW]; exact heap_alloc_new w3 _)
            have OW : Hid (Out w W) := hidOf (by rw [hW]; exact O3.out.alloc _)
            have HBW : Hid (OwB N (.slice a1 P.length c1) P W) := hidOf (by rw [hW]; exact own_at HW3.out ((Out.refl w3).alloc _))
            have HK : Hid (∀ wx, Keep W wx → wx.cell? ⟨w3.heap.size, 0, none⟩ = some (.int .i64 (n1 : Int)) ∧ wx.cell? ⟨w3.heap.size, 1, none⟩ = some (.int .i64 bi) ∧ wx.cell? ⟨w3.heap.size, 2, none⟩ = some (.int .i64 ki) ∧ wx.cell? ⟨w3.heap.size, 3, none⟩ = some (.int .i64 (n4 : Int)) ∧ wx.cell? ⟨w3.heap.size, 4, none⟩ = some (.int .i64 (n5 : Int)) ∧ wx.cell? ⟨w3.heap.size, 5, none⟩ = some (.int .i64 (n6 : Int))) := fun wx k => by
              have h := k _ _ _ HXb.out (by decide)
              exact ⟨box_cell h 0, box_cell h 1, box_cell h 2, box_cell h 3, box_cell h 4, box_cell h 5⟩
            have HNW : Hid (N ≤ W.heap.size) := hidOf (by rw [HN.out]; exact OW.out.size)
            have HB0 : Hid (Below N w W) := hidOf (Below.mono OW.out (by rw [HN.out]; exact Nat.le_refl _))
            rw [← hW]
            clear hW
            obtain ⟨c0, c1', c2, c3, c4, c5⟩ := HK.out W (Keep.refl W)
            go_upto_region 14 with (first | (go_at_call 39; refine (C1.out _ _ _ HBW.out HNW.out).mono ?_; rintro e x1 ⟨a2, b1, rfl, ho, hb, hk⟩; have HO1 := hidOf ho; have HB1 := hidOf (Below.trans HB0.out hb); have HP1 := hidOf hk; have HN1 := hidOf (Nat.le_trans HNW.out hb.size); clear ho hb hk))
            clear c0 c1' c2 c3 c4 c5
            obtain ⟨c0, c1', c2, c3, c4, c5⟩ := HK.out x1 HP1.out
            go_upto_region 15 with (first | (go_at_call 39; refine (C2.out _ _ _ HO1.out HN1.out).mono ?_; rintro e x2 ⟨a3, b3, rfl, ho, hb, hk⟩; have HO2 := hidOf ho; have HB2 := hidOf (Below.trans HB1.out hb); have HP2 := hidOf (HP1.out.trans hk); have HN2 := hidOf (Nat.le_trans HN1.out hb.size); clear ho hb hk))
            clear c0 c1' c2 c3 c4 c5
            go_upto_region 16 with (first | (go_at_call 39; refine (C3.out _ _ _ HO2.out HN2.out).mono ?_; rintro e x3 ⟨a4, b4, rfl, ho, hb, hk⟩; have HO3 := hidOf ho; have HB3 := hidOf (Below.trans HB2.out hb); have HP3 := hidOf (HP2.out.trans hk); have HN3 := hidOf (Nat.le_trans HN2.out hb.size); clear ho hb hk))
            obtain ⟨c0, c1', c2, c3, c4, c5⟩ := HK.out x3 HP3.out
            go_upto_region 17 with (first | (go_at_call 39; refine (C4.out _ _ _ HO3.out HN3.out).mono ?_; rintro e x4 ⟨a5, b5, rfl, ho, hb, hk⟩; have HO4 := hidOf ho; have HB4 := hidOf (Below.trans HB3.out hb); have HP4 := hidOf (HP3.out.trans hk); have HN4 := hidOf (Nat.le_trans HN3.out hb.size); clear ho hb hk))
            clear c0 c1' c2 c3 c4 c5
            obtain ⟨c0, c1', c2, c3, c4, c5⟩ := HK.out x4 HP4.out
            go_upto_region 18 with (first | (go_at_call 39; refine (C5.out _ _ _ HO4.out HN4.out).mono ?_; rintro e x5 ⟨a6, b6, rfl, ho, hb, hk⟩; have HO5 := hidOf ho; have HB5 := hidOf (Below.trans HB4.out hb); have HP5 := hidOf (HP4.out.trans hk); have HN5 := hidOf (Nat.le_trans HN4.out hb.size); clear ho hb hk))
            clear c0 c1' c2 c3 c4 c5
            obtain ⟨c0, c1', c2, c3, c4, c5⟩ := HK.out x5 HP5.out
            go_wp2_with (first | (go_at_call 39; refine (C6.out _ _ _ HO5.out HN5.out).mono ?_; rintro e x6 ⟨a7, b7, rfl, ho, hb, hk⟩; have HO6 := hidOf ho; have HB6 := hidOf (Below.trans HB5.out hb); clear ho hb hk))
            refine ⟨⟨i + 1, T, R, a7, b7, q', by simp, rfl, by first | (rw [hT]; done) | (rw [hT]; simp), by omega, by omega, hidOf (HO.out.trans Hst.out), ?_, l6, HO6, ?_⟩, by simp [intOf]; omega⟩
            · show Sim _ _ _
              rw [prv_succ Hx.out]
              exact HS2.out
            · have := HB6.out
              rw [HN.out] at this
              exact this
          · go_upto_region 12 with (go_at_call 37; refine (CX.out _).mono ?_; rintro e w3 ⟨rfl, ho⟩; have O3 := hidOf (Out.trans O2.out ho); have HW3 := hidOf (own_at HW2.out ho); clear ho)
            clear q0 q1 q2 q3 q4 q5
            obtain ⟨q0, q1, q2, q3, q4, q5⟩ := HX.out w3 O3.out
            simp only at q0 q1 q2 q3 q4 q5
            go_upto_region 13 with fail
            clear q0 q1 q2 q3 q4 q5
            obtain ⟨W, hW⟩ : ∃ W, W = w3.alloc (.cells #[.int .i64 (n1 : Int), .int .i64 bi, .int .i64 ki, .int .i64 (n4 : Int), .int .i64 (n5 : Int), .int .i64 (n6 : Int)] 57) := ⟨_, rfl⟩
            have HXb : Hid (W.heap[w3.heap.size]? = some (.cells #[.int .i64 (n1 : Int), .int .i64 bi, .int .i64 ki, .int .i64 (n4 : Int), .int .i64 (n5 : Int), .int .i64 (n6 : Int)] 57 (0, 0))) := hidOf (by rw [hW]; exact heap_alloc_new w3 _)
            have OW : Hid (Out w W) := hidOf (by rw [hW]; exact O3.out.alloc _)
            have HBW : Hid (OwB N (.slice a1 P.length c1) P W) := hidOf (by rw [hW]; exact own_at HW3.out ((Out.refl w3).alloc _))
            have HK : Hid (∀ wx, Keep W wx → wx.cell? ⟨w3.heap.size, 0, none⟩ = some (.int .i64 (n1 : Int)) ∧ wx.cell? ⟨w3.heap.size, 1, none⟩ = some (.int .i64 bi) ∧ wx.cell? ⟨w3.heap.size, 2, none⟩ = some (.int .i64 ki) ∧ wx.cell? ⟨w3.heap.size, 3, none⟩ = some (.int .i64 (n4 : Int)) ∧ wx.cell? ⟨w3.heap.size, 4, none⟩ = some (.int .i64 (n5 : Int)) ∧ wx.cell? ⟨w3.heap.size, 5, none⟩ = some (.int .i64 (n6 : Int))) := fun wx k => by
              have h := k _ _ _ HXb.out (by decide)
              exact ⟨box_cell h 0, box_cell h 1, box_cell h 2, box_cell h 3, box_cell h 4, box_cell h 5⟩
            have HNW : Hid (N ≤ W.heap.size) := hidOf (by rw [HN.out]; exact OW.out.size)
            have HB0 : Hid (Below N w W) := hidOf (Below.mono OW.out (by rw [HN.out]; exact Nat.le_refl _))
            rw [← hW]
            clear hW
            obtain ⟨c0, c1', c2, c3, c4, c5⟩ := HK.out W (Keep.refl W)
            go_upto_region 14 with (first | (go_at_call 39; refine (C1.out _ _ _ HBW.out HNW.out).mono ?_; rintro e x1 ⟨a2, b1, rfl, ho, hb, hk⟩; have HO1 := hidOf ho; have HB1 := hidOf (Below.trans HB0.out hb); have HP1 := hidOf hk; have HN1 := hidOf (Nat.le_trans HNW.out hb.size); clear ho hb hk))
            clear c0 c1' c2 c3 c4 c5
            obtain ⟨c0, c1', c2, c3, c4, c5⟩ := HK.out x1 HP1.out
            go_upto_region 15 with (first | (go_at_call 39; refine (C2.out _ _ _ HO1.out HN1.out).mono ?_; rintro e x2 ⟨a3, b3, rfl, ho, hb, hk⟩; have HO2 := hidOf ho; have HB2 := hidOf (Below.trans HB1.out hb); have HP2 := hidOf (HP1.out.trans hk); have HN2 := hidOf (Nat.le_trans HN1.out hb.size); clear ho hb hk))
            clear c0 c1' c2 c3 c4 c5
            go_upto_region 16 with (first | (go_at_call 39; refine (C3.out _ _ _ HO2.out HN2.out).mono ?_; rintro e x3 ⟨a4, b4, rfl, ho, hb, hk⟩; have HO3 := hidOf ho; have HB3 := hidOf (Below.trans HB2.out hb); have HP3 := hidOf (HP2.out.trans hk); have HN3 := hidOf (Nat.le_trans HN2.out hb.size); clear ho hb hk))
            obtain ⟨c0, c1', c2, c3, c4, c5⟩ := HK.out x3 HP3.out
            go_upto_region 17 with (first | (go_at_call 39; refine (C4.out _ _ _ HO3.out HN3.out).mono ?_; rintro e x4 ⟨a5, b5, rfl, ho, hb, hk⟩; have HO4 := hidOf ho; have HB4 := hidOf (Below.trans HB3.out hb); have HP4 := hidOf (HP3.out.trans hk); have HN4 := hidOf (Nat.le_trans HN3.out hb.size); clear ho hb hk))
            clear c0 c1' c2 c3 c4 c5
            obtain ⟨c0, c1', c2, c3, c4, c5⟩ := HK.out x4 HP4.out
            go_upto_region 18 with (first | (go_at_call 39; refine (C5.out _ _ _ HO4.out HN4.out).mono ?_; rintro e x5 ⟨a6, b6, rfl, ho, hb, hk⟩; have HO5 := hidOf ho; have HB5 := hidOf (Below.trans HB4.out hb); have HP5 := hidOf (HP4.out.trans hk); have HN5 := hidOf (Nat.le_trans HN4.out hb.size); clear ho hb hk))
            clear c0 c1' c2 c3 c4 c5
            obtain ⟨c0, c1', c2, c3, c4, c5⟩ := HK.out x5 HP5.out
            go_wp2_with (first | (go_at_call 39; refine (C6.out _ _ _ HO5.out HN5.out).mono ?_; rintro e x6 ⟨a7, b7, rfl, ho, hb, hk⟩; have HO6 := hidOf ho; have HB6 := hidOf (Below.trans HB5.out hb); clear ho hb hk))
            refine ⟨⟨i + 1, T, R, a7, b7, q', by simp, rfl, by first | (rw [hT]; done) | (rw [hT]; simp), by omega, by omega, hidOf (HO.out.trans Hst.out), ?_, l6, HO6, ?_⟩, by simp [intOf]; omega⟩
            · show Sim _ _ _
              rw [prv_succ Hx.out]
              exact HS2.out
            · have := HB6.out
              rw [HN.out] at this
              exact this
    · have hlt : ¬ (i : Int) < L.length := by omega
      obtain rfl : i = L.length := by omega
      go_wp2
      go_ret2
      have e := HO.out
      rw [List.drop_length, wrF] at e
      rw [e]
      refine ⟨HOu.out, a1, c1, rfl, ?_⟩
      rw [← HN.out]
      exact HW.out
end Go.Proofs.Ytikmaoigepoeoaa
