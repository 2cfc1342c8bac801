import Derived.Test.YthififblejbleaaGreatDoorHy41
namespace Go.Proofs.YthififblejbleaaGreatDoor
open Go.RowKit
set_option linter.unusedVariables false
set_option linter.unusedSimpArgs false
theorem ins_parts (l : List UInt8) (p : Nat) : insR l p = ⟨(g1 l p : Nat), ((g1 l (p + 1) % 16 : Nat) : Int), ((g1 l (p + 1) / 16 : Nat) : Int), sxP 32768 ((g1 l (p + 2) + 256 * g1 l (p + 3) : Nat) : Int), sxP 2147483648 (g4 l (p + 4) : Nat)⟩ := by
  have b0 := g1_lt l p; have b1 := g1_lt l (p + 1); have b2 := g1_lt l (p + 2); have b3 := g1_lt l (p + 3)
  unfold insR
  have e0 : (g4 l p : Int) % 256 = (g1 l p : Nat) := by unfold g4; omega
  have e1 : (g4 l p : Int) / 256 % 16 = ((g1 l (p + 1) % 16 : Nat) : Int) := by unfold g4; omega
  have e2 : (g4 l p : Int) / 4096 % 16 = ((g1 l (p + 1) / 16 : Nat) : Int) := by unfold g4; omega
  have e3 : (g4 l p : Int) / 65536 = ((g1 l (p + 2) + 256 * g1 l (p + 3) : Nat) : Int) := by unfold g4; omega
  rw [e0, e1, e2, e3]
theorem tx_one {l : List UInt8} {S k : Nat} {A : List Ins} (hk : k < S) (h : txR l S 28 = (txR l (S - k) (28 + 8 * k)).map (A ++ ·)) (hw : isW (insR l (28 + 8 * k)).o = false) : txR l S 28 = (txR l (S - (k + 1)) (28 + 8 * (k + 1))).map ((A ++ [insR l (28 + 8 * k)]) ++ ·) := by
  rw [h, show S - k = (S - (k + 1)) + 1 by omega, show 28 + 8 * (k + 1) = 28 + 8 * k + 8 by omega]
  obtain ⟨j, hj⟩ : ∃ j, S - (k + 1) = j := ⟨_, rfl⟩
  rw [hj]
  have e : txR l (j + 1) (28 + 8 * k) = (txR l j (28 + 8 * k + 8)).map (insR l (28 + 8 * k) :: ·) := by
    rw [txR.eq_def]; simp only [hw, Bool.false_eq_true, if_false]
  rw [e]
  cases txR l j (28 + 8 * k + 8) <;> simp [Except.map]
theorem tx_two {l : List UInt8} {S k : Nat} {A : List Ins} (hk : k + 1 < S) (h : txR l S 28 = (txR l (S - k) (28 + 8 * k)).map (A ++ ·)) (hw : isW (insR l (28 + 8 * k)).o = true) (h0 : g4 l (28 + 8 * k + 8) = 0) : txR l S 28 = (txR l (S - (k + 2)) (28 + 8 * (k + 2))).map ((A ++ [widR l (28 + 8 * k)]) ++ ·) := by
  rw [h, show S - k = (S - (k + 2)) + 1 + 1 by omega, txR, hw, if_pos rfl, show 28 + 8 * (k + 2) = 28 + 8 * k + 16 by omega]
  simp only [h0, ne_eq, not_true, if_false]
  cases txR l (S - (k + 2)) (28 + 8 * k + 16) <;> simp [Except.map]
theorem tx_end {l : List UInt8} {S k : Nat} {A : List Ins} (hk : k + 1 = S) (h : txR l S 28 = (txR l (S - k) (28 + 8 * k)).map (A ++ ·)) (hw : isW (insR l (28 + 8 * k)).o = true) : txR l S 28 = .error (28 + 8 * k) := by
  rw [h, show S - k = 0 + 1 by omega, txR, hw]; rfl
theorem tx_bad {l : List UInt8} {S k j : Nat} {A : List Ins} (hk : k + 1 < S) (h : txR l S 28 = (txR l (S - k) (28 + 8 * k)).map (A ++ ·)) (hw : isW (insR l (28 + 8 * k)).o = true) (hj : j < 4) (h0 : ∀ i, i < j → g1 l (28 + 8 * k + 8 + i) = 0) (hn : g1 l (28 + 8 * k + 8 + j) ≠ 0) : txR l S 28 = .error (28 + 8 * k + 8 + j) := by
  obtain ⟨e1, e2⟩ := tz4_at hj h0 hn
  rw [h, show S - k = (S - (k + 2)) + 1 + 1 by omega, txR, hw, if_pos rfl]
  simp only [e1, ne_eq, not_false_iff, if_true, e2]
  rfl
def TxtE (l : List UInt8) (p : Nat) (v0 : Value) (S : Nat) (f d k : Int) (w : World) (e : Ending) (w' : World) : Prop :=
  (∃ q : Nat, txR l S 28 = .error q ∧ e = .returned (.int .i64 q) ∧ Chg (fun k => k = p) w w') ∨
  (∃ (L : List Ins) (ta sa : Option Addr) (tc sc : Nat), txR l S 28 = .ok L ∧ slotsP L = S ∧ e = .returned (.int .i64 (-1)) ∧ TxS w w' p v0 S f d k L (stT L ++ [true]) ta sa L.length tc (S + 1) sc)
set_option maxRecDepth 8000 in
set_option maxHeartbeats 8000000 in
theorem text_any (w : World) (p g go n c S : Nat) (l : List UInt8) (f d k : Int) (hl : l.length = n) (hnc : n ≤ c) (hb : BtA w g go l) (hgp : ¬ g = p) (hgw : g < w.heap.size) (hS : 28 + 8 * S ≤ n) (hSb : S < 4294967296) (h : RgA w p (.slice (some ⟨g, go, none⟩) n c) S f d k (.slice none 0 0) (.slice none 0 0) 0) : Calls Tryz.prog 26 #[.pointer (some ⟨p, 0, none⟩)] w (TxtE l p (.slice (some ⟨g, go, none⟩) n c) S f d k w) := by
  have HL := hidOf hl
  have HB := hidOf hb
  have hp := h.lt
  have S0 : Hid (TxS w w p (.slice (some ⟨g, go, none⟩) n c) S f d k [] (stT []) none none 0 0 0 0) := hidOf ⟨h, World.ownsRow_nil _ _ _ _, World.ownsRow_nil _ _ _ _, Chg.refl _ _⟩
  clear hl hb h
  go_enter Tryz.func26, Tryz.ntmps26
  go_wp2
  go_loopw [3] (fun i wr => ∃ (kk tn tc sc : Nat) (A : List Ins) (ta sa : Option Addr), kk ≤ S ∧ i = .int .i64 kk ∧ Hid (slotsP A = kk) ∧ Hid (A.length = tn) ∧ Hid (TxS w wr p (.slice (some ⟨g, go, none⟩) n c) S f d k A (stT A) ta sa tn tc kk sc) ∧ Hid (txR l S 28 = (txR l (S - kk) (28 + 8 * kk)).map (A ++ ·))) (fun i _ => S - (intOf i).toNat)
  case atStart => exact ⟨0, 0, 0, 0, [], none, none, by omega, rfl, hidOf rfl, hidOf rfl, S0, hidOf (by rw [show S - 0 = S by omega, show 28 + 8 * 0 = 28 by omega]; cases txR l S 28 <;> simp [Except.map])⟩
  case round =>
    obtain ⟨kk, tn, tc, sc, A, ta, sa, hk, rfl, hsl, htn, HS, HX⟩ := hrel
    obtain ⟨c0, c1, c2, c3, c4, c5, c6, c7⟩ := HS.out.rg.at
    by_cases hkS : kk < S
    · have hlt : (kk : Int) < S := by omega
      obtain ⟨at', hat⟩ : ∃ a : Nat, Hid (28 + 8 * kk = a) := ⟨_, rfl⟩
      have ha1 : at' + 8 ≤ n := by rw [← hat.out]; omega
      have ha0 : 28 ≤ at' := by rw [← hat.out]; omega
      have ha2 : at' ≤ 34359738400 := by rw [← hat.out]; omega
      have BtR := hidOf (bt_chg HB.out HS.out.ch hgp)
      have hsr : w.heap.size ≤ wr.heap.size := HS.out.ch.size
      have htnb : tn ≤ 4294967296 := by
        rw [← htn.out]
        have h1 : A.length ≤ slotsP A := by unfold slotsP; omega
        rw [hsl.out] at h1; omega
      clear c2 c3 c4 c7
      go_upto_region 5 with fail
      rw [show (28 + 8 * (kk : Int)) = (at' : Int) by rw [← hat.out]; omega]
      have s1 : (at' : Int) + 8 ≤ c := by omega
      have s2 : (at' : Int) ≤ at' + 8 := by omega
      have s3 : ((at' : Int) + 8).toNat = at' + 8 := by omega
      have s4 : at' + 8 - at' = 8 := by omega
      have s5 : ¬ c = at' := by omega
      have s6 : ¬ (c : Int) = at' := by omega
      have s7 : (0 : Int) ≤ at' := by omega
      go_upto_region 6 with fail
      clear s1 s2 s3 s4 s5 s6
      have HI := hidOf (ins_parts l at')
      obtain ⟨y0, hy0⟩ : ∃ y, Hid (g1 l at' = y) := ⟨_, rfl⟩
      obtain ⟨y1, hy1⟩ : ∃ y, Hid (g1 l (at' + 1) = y) := ⟨_, rfl⟩
      obtain ⟨v2, hv2⟩ : ∃ y, Hid (g1 l (at' + 2) + 256 * g1 l (at' + 3) = y) := ⟨_, rfl⟩
      obtain ⟨v4, hv4⟩ : ∃ y, Hid (g4 l (at' + 4) = y) := ⟨_, rfl⟩
      have y0b : y0 < 256 := by rw [← hy0.out]; exact g1_lt _ _
      have y1b : y1 < 256 := by rw [← hy1.out]; exact g1_lt _ _
      have v2b : v2 < 65536 := by rw [← hv2.out]; have := g1_lt l (at' + 2); have := g1_lt l (at' + 3); omega
      have v4b : v4 < 4294967296 := by rw [← hv4.out]; exact g4_lt _ _
      rw [hy0.out, hy1.out, hv2.out, hv4.out] at HI
      obtain ⟨xf, hxf⟩ : ∃ y, Hid (sxP 32768 (v2 : Int) = y) := ⟨_, rfl⟩
      obtain ⟨xi, hxi⟩ : ∃ y, Hid (sxP 2147483648 (v4 : Int) = y) := ⟨_, rfl⟩
      rw [hxf.out, hxi.out] at HI
      have r0 : wr.cell? ⟨g, go + at', none⟩ = some (.int .u8 (y0 : Nat)) := by rw [← hy0.out]; exact BtR.out at' _ (getD_at (by rw [HL.out]; omega))
      have r1 : wr.cell? ⟨g, go + at' + 1, none⟩ = some (.int .u8 (y1 : Nat)) := by rw [← hy1.out]; exact BtR.out (at' + 1) _ (getD_at (by rw [HL.out]; omega))
      have CT : Hid (∀ wx q m (r : Nat), Out wr wx → ((q = 2 ∧ m = 2 ∧ r = v2) ∨ (q = 4 ∧ m = 4 ∧ r = v4)) → Calls Tryz.prog 30 #[.slice (some ⟨g, go + at' + q, none⟩) m (c - at' - q)] wx fun e w' => e = .returned (.int .i64 (r : Nat)) ∧ wx = w') := hidOf fun wx q m r ox hq => by
        rcases hq with ⟨rfl, rfl, rfl⟩ | ⟨rfl, rfl, rfl⟩
        · have := taken_any wx g (go + (at' + 2)) (c - at' - 2) 2 ((l.drop (at' + 2)).take 2) (by rw [List.length_take, List.length_drop, HL.out]; omega) (by omega) (bt_sub (BtR.out.outI ox) _ 2)
          rw [tk2 (by rw [HL.out]; omega), show at' + 2 + 1 = at' + 3 from rfl, hv2.out] at this
          exact this
        · have := taken_any wx g (go + (at' + 4)) (c - at' - 4) 4 ((l.drop (at' + 4)).take 4) (by rw [List.length_take, List.length_drop, HL.out]; omega) (by omega) (bt_sub (BtR.out.outI ox) _ 4)
          rw [tk4 (by rw [HL.out]; omega), hv4.out] at this
          exact this
      have CG : Hid (∀ wx (x : Nat) (b r : Int), ((x = v2 ∧ b = 16 ∧ r = xf) ∨ (x = v4 ∧ b = 32 ∧ r = xi)) → Calls Tryz.prog 59 #[.int .i64 (x : Nat), .int .i64 b] wx fun e w' => e = .returned (.int .i64 r) ∧ wx = w') := hidOf fun wx x b r hq => by
        rcases hq with ⟨rfl, rfl, rfl⟩ | ⟨rfl, rfl, rfl⟩
        · have := signed_any wx x 16 (.inl rfl) (by omega)
          rw [← hxf.out]; exact this
        · have := signed_any wx x 32 (.inr rfl) (by omega)
          rw [← hxi.out]; exact this
      have t1 : ¬ c - at' = 2 := by omega
      have t2 : ¬ ((c - at' : Nat) : Int) = 2 := by omega
      have t3 : ¬ c - at' = 4 := by omega
      have t4 : ¬ ((c - at' : Nat) : Int) = 4 := by omega
      have t5 : (4 : Int) ≤ ((c - at' : Nat) : Int) := by omega
      have t6 : (8 : Int) ≤ ((c - at' : Nat) : Int) := by omega
      obtain ⟨cm, hcm⟩ : ∃ y, Hid (c - at' = y) := ⟨_, rfl⟩
      rw [hcm.out] at t1 t2 t3 t4 t5 t6 CT ⊢
      have HIV : Hid (insR l at' = ⟨(y0 : Nat), ((y1 % 16 : Nat) : Int), ((y1 / 16 : Nat) : Int), xf, xi⟩) := HI
      have W0 : Hid (IntKind.i64.wrap (y0 : Int) = (y0 : Int)) := hidOf (by rw [IntKind.wrap_i64]; omega)
      have W1 : Hid (IntKind.i64.wrap ((y1 : Int).tmod 16) = ((y1 % 16 : Nat) : Int)) := hidOf (by
        have e : (y1 : Int).tmod 16 = ((y1 % 16 : Nat) : Int) := rfl
        rw [e, IntKind.wrap_i64]; omega)
      have W2 : Hid (IntKind.i64.wrap (IntKind.u8.wrap ((y1 : Int) / 16)) = ((y1 / 16 : Nat) : Int)) := hidOf (by
        have e : IntKind.u8.wrap ((y1 : Int) / 16) = (y1 : Int) / 16 := by rw [IntKind.wrap_u8]; omega
        rw [e, IntKind.wrap_i64]; omega)
      clear c0 c1 c5 c6 hlt
      go_cut [6] (fun s6 wx => ∃ I : Nat, s6 = .pointer (some ⟨I, 0, none⟩) ∧ wr.heap.size ≤ I ∧ Hid (Out wr wx) ∧ Hid (wx.heap[I]? = some (.cells #[.int .i64 (y0 : Nat), .int .i64 ((y1 % 16 : Nat) : Int), .int .i64 ((y1 / 16 : Nat) : Int), .int .i64 xf, .int .i64 xi] 67 (0, 0))))
      case first =>
        go_region_held3 (fun wx => wx.cell? ⟨g, go + at', none⟩ = some (.int .u8 (y0 : Nat)) ∧ wx.cell? ⟨g, go + at' + 1, none⟩ = some (.int .u8 (y1 : Nat))) (first | go_keep | assumption) (first
          | (go_at_call 30; refine (CT.out _ _ _ _ (by repeat first | with_reducible exact Out.refl _ | with_reducible apply Out.drew | with_reducible apply Out.alloc) (by first | exact .inl ⟨rfl, rfl, rfl⟩ | exact .inr ⟨rfl, rfl, rfl⟩)).mono ?_; rintro e wy ⟨rfl, hy⟩; subst hy)
          | (go_at_call 59; refine (CG.out _ _ _ _ (by first | exact .inl ⟨rfl, rfl, rfl⟩ | exact .inr ⟨rfl, rfl, rfl⟩)).mono ?_; rintro e wy ⟨rfl, hy⟩; subst hy))
        all_goals (
          go_wp2
          go_meet
          refine ⟨wr.heap.size, rfl, Nat.le_refl _, hidOf ?_, hidOf ?_⟩
          · repeat first | with_reducible exact Out.refl _ | with_reducible apply Out.drew | with_reducible apply Out.alloc | (with_reducible refine Out.setCell ?_ (Nat.le_refl _) _)
          · rw [heap_drew', W0.out, W1.out, W2.out]; exact heap_alloc_new wr _)
      case rest =>
        obtain ⟨I, rfl, hI, OC, HIb⟩ := hcut
        obtain ⟨wA, hwA⟩ : ∃ x, x = wc := ⟨_, rfl⟩
        subst hwA
        have hIp : ¬ I = p := by omega
        have hIl : I < wA.heap.size := (Array.getElem?_eq_some_iff.1 HIb.out).1
        have HOW : Hid (∀ k, (Value.slice ta tn tc).ownBlock = some k → k < wr.heap.size) := hidOf fun k hk => (HS.out.ot.lt k hk).2
        have HOB : Hid (∀ k, (Value.slice sa kk sc).ownBlock = some k → k < wr.heap.size) := hidOf fun k hk => (HS.out.ob.lt k hk).2
        have TA : Hid (∀ O, TxS w (wA.alloc O) p (.slice (some ⟨g, go, none⟩) n c) S f d k A (stT A) ta sa tn tc kk sc) := hidOf fun O => HS.out.out (OC.out.trans (Out.alloc (Out.refl _) O))
        obtain ⟨c0, c1, c2, c3, c4, c5, c6, c7⟩ := (HS.out.out OC.out).rg.at
        have HOB2 : Hid (∀ k, (Value.slice sa kk sc).ownBlock = some k → w.heap.size ≤ k) := hidOf fun k hk => (HS.out.ob.lt k hk).1
        have OAl : Hid (∀ O, Out wA (wA.alloc O)) := hidOf fun O => Out.alloc (Out.refl _) O
        clear c0 c1 c2 c3 c4 c5 c7 r0 r1 t1 t2 t3 t4 t5 t6 CT CG W0 W1 W2
        go_upto_region 8 with ((at_builtin; refine app_Bo w _ rfl (.tmp 54) (.tmp 55) rfl sa sc kk (stT A) true rfl (TA.out _).ob (TA.out _).ch.size ⟨wA.heap.size, 0, none⟩ 1 rfl (news_new wA #[.bool true] _ _ rfl) (by omega) ?_; intro a9 c9 w8 own8 gr8; have NB := hidOf (TxS.pushB (TA.out _) hp own8 gr8); have cg8 := Chg.of_grown (S := fun k => (Value.slice sa kk sc).ownBlock = some k) gr8 (fun k hk => hk); have rg8 := (TA.out _).rg.chg cg8 (fun h => by have := HOB2.out _ h; omega); obtain ⟨_, _, _, _, _, _, d6, _⟩ := rg8.at; have f6 := rg8.fr 6; have IB8 := hidOf ((cg8.block I (by rw [size_alloc]; omega) (fun h => by have := HOB.out _ h; omega)).trans (((OAl.out _).block I hIl).trans HIb.out)); clear own8 gr8 cg8 rg8))
        obtain ⟨w9, hw9⟩ : ∃ x, Hid (x = w8.setCell ⟨p, 6, none⟩ (.slice a9 (kk + 1) c9)) := ⟨_, rfl⟩
        rw [← hw9.out] at NB ⊢
        have cs9 := Chg.setCell (S := fun k => k = p) (Chg.refl _ w8) (p := ⟨p, 6, none⟩) rfl (.slice a9 (kk + 1) c9)
        rw [← hw9.out] at cs9
        have IB9 := hidOf ((cs9.block I (Array.getElem?_eq_some_iff.1 IB8.out).1 hIp).trans IB8.out)
        have BI : Hid (∀ wx, Out w9 wx → wx.cell? ⟨I, 0, none⟩ = some (.int .i64 (y0 : Nat)) ∧ wx.cell? ⟨I, 1, none⟩ = some (.int .i64 ((y1 % 16 : Nat) : Int)) ∧ wx.cell? ⟨I, 2, none⟩ = some (.int .i64 ((y1 / 16 : Nat) : Int)) ∧ wx.cell? ⟨I, 3, none⟩ = some (.int .i64 xf) ∧ wx.cell? ⟨I, 4, none⟩ = some (.int .i64 xi)) := hidOf fun wx o => by
          have hb := (o.block I (Array.getElem?_eq_some_iff.1 IB9.out).1).trans IB9.out
          exact ⟨by rw [cell_atL hb]; rfl, by rw [cell_atL hb]; rfl, by rw [cell_atL hb]; rfl, by rw [cell_atL hb]; rfl, by rw [cell_atL hb]; rfl⟩
        clear d6 f6 c6 IB8 cs9
        obtain ⟨z1, hz1'⟩ : ∃ y : Int, Hid (((y1 % 16 : Nat) : Int) = y) := ⟨_, rfl⟩
        obtain ⟨z2, hz2'⟩ : ∃ y : Int, Hid (((y1 / 16 : Nat) : Int) = y) := ⟨_, rfl⟩
        rw [hz1'.out, hz2'.out] at BI HIV
        have CW : Hid (Calls Tryz.prog 49 #[.agg #[.int .i64 (y0 : Nat), .int .i64 z1, .int .i64 z2, .int .i64 xf, .int .i64 xi]] w9 fun e w' => e = .returned (.bool (isW (y0 : Nat))) ∧ Out w9 w') := hidOf (refWide_any w9 _ _ _ _ _)
        obtain ⟨j0, j1, j2, j3, j4⟩ := BI.out w9 (Out.refl _)
        cases hw : isW ((y0 : Nat) : Int) with
        | false =>
          rw [hw] at CW
          have hwI : isW (insR l (28 + 8 * kk)).o = false := by rw [hat.out, HIV.out]; exact hw
          have HXN : Hid (txR l S 28 = (txR l (S - (kk + 1)) (28 + 8 * (kk + 1))).map ((A ++ [⟨(y0 : Nat), z1, z2, xf, xi⟩]) ++ ·)) := hidOf (by
            have := tx_one hkS HX.out hwI
            rw [hat.out, HIV.out] at this
            exact this)
          clear hwI
          go_upto_region 19 with (go_at_call 49; refine CW.out.mono ?_; rintro e w10 ⟨rfl, o10⟩; have O10 := hidOf o10; clear o10)
          clear j0 j1 j2 j3 j4
          have NC := hidOf (NB.out.out O10.out)
          obtain ⟨j0, j1, j2, j3, j4⟩ := BI.out w10 O10.out
          have hw1 : isW ((y0 : Nat) : Int) = false := hw
          have hXs : w.heap.size ≤ w10.heap.size := NC.out.ch.size
          obtain ⟨c0, c1, c2, c3, c4, c5, c6, c7⟩ := NC.out.rg.at
          clear c0 c1 c2 c3 c4 c6 c7
          have a5 : ∀ O, (World.alloc w10 O).cell? ⟨p, 5, none⟩ = some (.slice ta tn tc) := fun O => ((NC.out.out (Out.alloc (Out.refl _) O)).rg.at).2.2.2.2.2.1
          have TD : Hid (∀ O, TxS w (World.alloc w10 O).drew p (.slice (some ⟨g, go, none⟩) n c) S f d k A (stT A ++ [true]) ta a9 tn tc (kk + 1) c9) := hidOf fun O => NC.out.out (Out.drew (Out.alloc (Out.refl _) O))
          have SA : Hid (∀ O, ((World.alloc w10 O).cell? ⟨I, 0, none⟩ = some (.int .i64 (y0 : Nat)) ∧ (World.alloc w10 O).cell? ⟨I, 1, none⟩ = some (.int .i64 z1) ∧ (World.alloc w10 O).cell? ⟨I, 2, none⟩ = some (.int .i64 z2) ∧ (World.alloc w10 O).cell? ⟨I, 3, none⟩ = some (.int .i64 xf) ∧ (World.alloc w10 O).cell? ⟨I, 4, none⟩ = some (.int .i64 xi))) := hidOf fun O => ⟨cell_later (Out.alloc (Out.refl _) O) j0, cell_later (Out.alloc (Out.refl _) O) j1, cell_later (Out.alloc (Out.refl _) O) j2, cell_later (Out.alloc (Out.refl _) O) j3, cell_later (Out.alloc (Out.refl _) O) j4⟩
          have FAR : Hid (∀ O w', (World.alloc w10 O).drew.grownBy w' (Value.slice ta tn tc).ownBlock → RgA w' p (.slice (some ⟨g, go, none⟩) n c) S f d k (.slice ta tn tc) (.slice a9 (kk + 1) c9) 0 ∧ (w'.cell? ⟨I, 0, none⟩ = some (.int .i64 (y0 : Nat)) ∧ w'.cell? ⟨I, 1, none⟩ = some (.int .i64 z1) ∧ w'.cell? ⟨I, 2, none⟩ = some (.int .i64 z2) ∧ w'.cell? ⟨I, 3, none⟩ = some (.int .i64 xf) ∧ w'.cell? ⟨I, 4, none⟩ = some (.int .i64 xi))) := hidOf fun O w' hg => by
            have hc := Chg.of_grown (S := fun k => (Value.slice ta tn tc).ownBlock = some k) hg (fun k hk => hk)
            have hb : ¬ (Value.slice ta tn tc).ownBlock = some I := fun h => by have := HOW.out _ h; omega
            have q := SA.out O
            exact ⟨(TD.out O).rg.chg hc (fun h => by have := ((TD.out O).ot.lt _ h).1; omega), hc.cell q.1 hb, hc.cell q.2.1 hb, hc.cell q.2.2.1 hb, hc.cell q.2.2.2.1 hb, hc.cell q.2.2.2.2 hb⟩
          obtain ⟨t0, hi0, hz0, hz1, hz2⟩ := info_parts info5I
          refine wp_region_held_drew (S := (fun wx => wx.cell? ⟨I, 0, none⟩ = some (.int .i64 (y0 : Nat)) ∧ wx.cell? ⟨I, 1, none⟩ = some (.int .i64 z1) ∧ wx.cell? ⟨I, 2, none⟩ = some (.int .i64 z2) ∧ wx.cell? ⟨I, 3, none⟩ = some (.int .i64 xf) ∧ wx.cell? ⟨I, 4, none⟩ = some (.int .i64 xi))) (by kernel_rfl) ?_ (fun hHeld => ?_)
          · exact ⟨j0, j1, j2, j3, j4⟩
          refine tkLB [0,1,2,3,5] ?_
          iterate 5 (refine tkLC (v := ?_) rfl rfl (by kernel_rfl) (by kernel_rfl) (by kernel_rfl) (fun _ _ _ h => h) (by rfl) (by assumption) ?_ ?_; rotate_left; (· (intro w hSw; (try dsimp only at hSw); go_simp; (try with_reducible rfl))); simp only [Act.put, List.setIfInBounds_toArray, List.set_cons_zero, List.set_cons_succ])
          refine tkLE ?_
          refine wpAnyH_ready (rs := [4, 6]) (by kernel_rfl) (by simp) ?_
          refine AllReadyH.cons rfl (fun K1 hK1 => ?_) (AllReadyH.cons rfl (fun K1 hK1 => ?_) AllReadyH.nil)
          · rw [if_pos (by rfl)]
            go_simp
            refine hK1.out _ _ ⟨j0, j1, j2, j3, j4⟩ (fun hHeld1 => ?_)
            refine wpAnyH_ready (rs := [6]) (by kernel_rfl) (by simp) ?_
            refine AllReadyH.cons rfl (fun K2 hK2 => ?_) AllReadyH.nil
            rw [if_pos (by rfl)]
            go_simp
            refine hK2.out _ _ (SA.out _) (fun hHeld2 => ?_)
            refine wpAnyH_ready (rs := [7]) (by kernel_rfl) (by simp) ?_
            refine AllReadyH.cons rfl (fun K3 hK3 => ?_) AllReadyH.nil
            refine step_append_lies _ rfl (.tmp 120) (.tmp 122) 22 rfl w.heap.size 67 t0 _ 5 40 Tryz.underlying22 hi0 hz0 hz1 hz2 rfl (by decide) (.slice ta tn tc) tn (insV A) rfl (TD.out _).ot ⟨w10.heap.size, 0, none⟩ 1 1 (Ins.cs ⟨(y0 : Nat), z1, z2, xf, xi⟩) rfl rfl (news_drew17 _ _ _ _ rfl) (cs_one _) (by decide) (by unfold maxLen; omega) (by omega) ((TD.out _).ch.size) _ rfl ?_
            intro g2 cap w4 hown' hgrow hg hlt
            obtain ⟨hR4, hS4⟩ := FAR.out _ _ hgrow
            have N4 := hidOf (TxS.pushT (x := ⟨(y0 : Nat), z1, z2, xf, xi⟩) (TD.out _) hp hown' hgrow)
            obtain ⟨_, _, _, _, _, q10, _, _⟩ := hR4.at
            have qf := hR4.fr 5
            clear hown' hgrow hg hlt hR4
            refine hK3.out _ _ hS4 (fun hHeld3 => ?_)
            refine tkLB [8,9] ?_
            iterate 2 (refine tkLC (v := ?_) rfl rfl (by kernel_rfl) (by kernel_rfl) (by kernel_rfl) (fun _ _ _ h => h) (by rfl) (by assumption) ?_ ?_; rotate_left; (· (intro w hSw; (try dsimp only at hSw); go_simp; (try with_reducible rfl))); simp only [Act.put, List.setIfInBounds_toArray, List.set_cons_zero, List.set_cons_succ])
            refine tkLE ?_
            refine wpAnyH_ready (rs := [10]) (by kernel_rfl) (by simp) ?_
            refine AllReadyH.cons rfl (fun K4 hK4 => ?_) AllReadyH.nil
            rw [if_pos (by rfl)]
            go_simp
            refine hK4.out _ _ (by
              have cs := Chg.setCell (S := fun k => k = p) (Chg.refl _ w4) (p := ⟨p, 5, none⟩) rfl (.slice (some ⟨g2, 0, none⟩) (tn + 1) cap)
              exact ⟨cs.cell hS4.1 hIp, cs.cell hS4.2.1 hIp, cs.cell hS4.2.2.1 hIp, cs.cell hS4.2.2.2.1 hIp, cs.cell hS4.2.2.2.2 hIp⟩) (fun hHeld4 => ?_)
            refine wpAnyH_done (by kernel_rfl) ?_ _
            go_wp2
            go_roundw
            case rel => exact ⟨kk + 1, tn + 1, cap, c9, A ++ [⟨(y0 : Nat), z1, z2, xf, xi⟩], some ⟨g2, 0, none⟩, a9, by omega, by first | rfl | (simp <;> omega), hidOf (by rw [slots_app, hsl.out]; simp [slotsP, hw1]), hidOf (by rw [List.length_append, htn.out]; rfl), hidOf (by
              have := N4.out
              rw [stT_app, show stT [⟨(y0 : Nat), z1, z2, xf, xi⟩] = [true] by simp [stT, hw1]]
              exact this), HXN⟩
            case measure => simp [intOf] <;> omega
          · rw [if_pos (by rfl)]
            go_simp
            refine hK1.out _ _ (SA.out _) (fun hHeld1 => ?_)
            refine wpAnyH_ready (rs := [4]) (by kernel_rfl) (by simp) ?_
            refine AllReadyH.cons rfl (fun K2 hK2 => ?_) AllReadyH.nil
            rw [if_pos (by rfl)]
            go_simp
            refine hK2.out _ _ (SA.out _) (fun hHeld2 => ?_)
            refine wpAnyH_ready (rs := [7]) (by kernel_rfl) (by simp) ?_
            refine AllReadyH.cons rfl (fun K3 hK3 => ?_) AllReadyH.nil
            refine step_append_lies _ rfl (.tmp 120) (.tmp 122) 22 rfl w.heap.size 67 t0 _ 5 40 Tryz.underlying22 hi0 hz0 hz1 hz2 rfl (by decide) (.slice ta tn tc) tn (insV A) rfl (TD.out _).ot ⟨w10.heap.size, 0, none⟩ 1 1 (Ins.cs ⟨(y0 : Nat), z1, z2, xf, xi⟩) rfl rfl (news_drew17 _ _ _ _ rfl) (cs_one _) (by decide) (by unfold maxLen; omega) (by omega) ((TD.out _).ch.size) _ rfl ?_
            intro g2 cap w4 hown' hgrow hg hlt
            obtain ⟨hR4, hS4⟩ := FAR.out _ _ hgrow
            have N4 := hidOf (TxS.pushT (x := ⟨(y0 : Nat), z1, z2, xf, xi⟩) (TD.out _) hp hown' hgrow)
            obtain ⟨_, _, _, _, _, q10, _, _⟩ := hR4.at
            have qf := hR4.fr 5
            clear hown' hgrow hg hlt hR4
            refine hK3.out _ _ hS4 (fun hHeld3 => ?_)
            refine tkLB [8,9] ?_
            iterate 2 (refine tkLC (v := ?_) rfl rfl (by kernel_rfl) (by kernel_rfl) (by kernel_rfl) (fun _ _ _ h => h) (by rfl) (by assumption) ?_ ?_; rotate_left; (· (intro w hSw; (try dsimp only at hSw); go_simp; (try with_reducible rfl))); simp only [Act.put, List.setIfInBounds_toArray, List.set_cons_zero, List.set_cons_succ])
            refine tkLE ?_
            refine wpAnyH_ready (rs := [10]) (by kernel_rfl) (by simp) ?_
            refine AllReadyH.cons rfl (fun K4 hK4 => ?_) AllReadyH.nil
            rw [if_pos (by rfl)]
            go_simp
            refine hK4.out _ _ (by
              have cs := Chg.setCell (S := fun k => k = p) (Chg.refl _ w4) (p := ⟨p, 5, none⟩) rfl (.slice (some ⟨g2, 0, none⟩) (tn + 1) cap)
              exact ⟨cs.cell hS4.1 hIp, cs.cell hS4.2.1 hIp, cs.cell hS4.2.2.1 hIp, cs.cell hS4.2.2.2.1 hIp, cs.cell hS4.2.2.2.2 hIp⟩) (fun hHeld4 => ?_)
            refine wpAnyH_done (by kernel_rfl) ?_ _
            go_wp2
            go_roundw
            case rel => exact ⟨kk + 1, tn + 1, cap, c9, A ++ [⟨(y0 : Nat), z1, z2, xf, xi⟩], some ⟨g2, 0, none⟩, a9, by omega, by first | rfl | (simp <;> omega), hidOf (by rw [slots_app, hsl.out]; simp [slotsP, hw1]), hidOf (by rw [List.length_append, htn.out]; rfl), hidOf (by
              have := N4.out
              rw [stT_app, show stT [⟨(y0 : Nat), z1, z2, xf, xi⟩] = [true] by simp [stT, hw1]]
              exact this), HXN⟩
            case measure => simp [intOf] <;> omega
        | true =>
          rw [hw] at CW
          have hwI : isW (insR l (28 + 8 * kk)).o = true := by rw [hat.out, HIV.out]; exact hw
          have HWI := hidOf hwI
          clear hwI
          go_upto_region 9 with (go_at_call 49; refine CW.out.mono ?_; rintro e w10 ⟨rfl, o10⟩; have O10 := hidOf o10; clear o10)
          clear j0 j1 j2 j3 j4
          have NC := hidOf (NB.out.out O10.out)
          obtain ⟨c0, c1, c2, c3, c4, c5, c6, c7⟩ := NC.out.rg.at
          clear c2 c3 c4 c5 c6 c7
          by_cases hk1 : kk + 1 = S
          · have bq : ((kk : Int) + 1 == (S : Int)) = true := by simp; omega
            have E := hidOf (tx_end hk1 HX.out HWI.out)
            clear hk1
            go_wp2
            go_ret
            exact .inl ⟨at', by rw [← hat.out]; exact E.out, rfl, NC.out.ch⟩
          · have bq : ((kk : Int) + 1 == (S : Int)) = false := by simp; omega
            have hk2 : kk + 1 < S := by omega
            have ha3 : at' + 16 ≤ n := by rw [← hat.out]; omega
            have Bt10 := hidOf (bt_chg HB.out NC.out.ch hgp)
            obtain ⟨wo, hwo⟩ : ∃ x, x = wr := ⟨_, rfl⟩
            subst hwo
            go_upto_region 11 with fail
            clear bq hk1 c1
            go_wp2
            go_loopw [7] (fun v wr => ∃ (j : Nat), j ≤ 4 ∧ v = .int .i64 j ∧ Hid (∀ i, i < j → g1 l (at' + 8 + i) = 0) ∧ Hid (w10 = wr)) (fun v _ => 4 - (intOf v).toNat)
            case atStart => exact ⟨0, by omega, rfl, hidOf (fun i hi => by omega), hidOf rfl⟩
            case round =>
              obtain ⟨j, hj, rfl, HZ, hww⟩ := hrel
              have hww := hww.out
              subst hww
              by_cases hj4 : j < 4
              · have hlt4 : (j : Int) < 4 := by omega
                obtain ⟨z, hz⟩ : ∃ z, Hid (g1 l (at' + 8 + j) = z) := ⟨_, rfl⟩
                have q1 : w10.cell? ⟨g, go + (at' + 8 + j), none⟩ = some (.int .u8 (z : Nat)) := by rw [← hz.out]; exact Bt10.out (at' + 8 + j) _ (getD_at (by rw [HL.out]; omega))
                have u1 : ((at' : Int) + 8 + j).toNat = at' + 8 + j := by omega
                have u2 : (0 : Int) ≤ (at' : Int) + 8 + j := by omega
                have u3 : (at' : Int) + 8 + j < n := by omega
                by_cases hz0 : z = 0
                · have hzz : ((z : Int) != 0) = false := by simp [hz0]
                  have HZ2 : Hid (∀ i, i < j + 1 → g1 l (at' + 8 + i) = 0) := hidOf fun i hi => by
                    by_cases hij : i < j
                    · exact HZ.out i hij
                    · rw [show i = j by omega, hz.out]; exact hz0
                  clear hz0
                  go_wp2
                  go_roundw
                  case rel => exact ⟨j + 1, by omega, by simp, HZ2, by first | exact hidOf rfl | exact hidOf trivial⟩
                  case measure => simp [intOf] <;> omega
                · have hzz : ((z : Int) != 0) = true := by simp; omega
                  have E : Hid (txR l S 28 = .error (at' + 8 + j)) := hidOf (by
                    have := tx_bad (j := j) hk2 HX.out HWI.out hj4 (by rw [hat.out]; exact HZ.out) (by rw [hat.out, hz.out]; exact hz0)
                    rw [hat.out] at this; exact this)
                  clear hz0
                  go_wp2
                  go_ret
                  exact .inl ⟨at' + 8 + j, E.out, by simp [Int.add_assoc], NC.out.ch⟩
              · have hlt4 : ¬ (j : Int) < 4 := by omega
                have G0 : Hid (g4 l (at' + 8) = 0) := hidOf (g4_zero fun i hi => HZ.out i (by omega))
                clear HZ
                go_upto_region 16 with fail
                clear hlt4 hj4 hj
                obtain ⟨v12, hv12⟩ : ∃ y, Hid (g4 l (at' + 12) = y) := ⟨_, rfl⟩
                have v12b : v12 < 4294967296 := by rw [← hv12.out]; exact g4_lt _ _
                obtain ⟨sg, hsg⟩ : ∃ y, Hid (sxP 2147483648 (v12 : Int) = y) := ⟨_, rfl⟩
                have sgb : -2147483648 ≤ sg ∧ sg ≤ 2147483647 := by rw [← hsg.out]; unfold sxP; split <;> omega
                have CTa : Hid (∀ wx, Out w10 wx → Calls Tryz.prog 30 #[.slice (some ⟨g, go + at' + 4, none⟩) 4 (cm - 4)] wx fun e w' => e = .returned (.int .i64 (v4 : Nat)) ∧ wx = w') := hidOf fun wx ox => by
                  have := taken_any wx g (go + (at' + 4)) (cm - 4) 4 ((l.drop (at' + 4)).take 4) (by rw [List.length_take, List.length_drop, HL.out]; omega) (by omega) (bt_sub (Bt10.out.outI ox) _ 4)
                  rw [tk4 (by rw [HL.out]; omega), hv4.out] at this
                  exact this
                have CTb : Hid (∀ wx, Out w10 wx → Calls Tryz.prog 30 #[.slice (some ⟨g, go + (at' + 12), none⟩) 4 (c - (at' + 12))] wx fun e w' => e = .returned (.int .i64 (v12 : Nat)) ∧ wx = w') := hidOf fun wx ox => by
                  have := taken_any wx g (go + (at' + 12)) (c - (at' + 12)) 4 ((l.drop (at' + 12)).take 4) (by rw [List.length_take, List.length_drop, HL.out]; omega) (by omega) (bt_sub (Bt10.out.outI ox) _ 4)
                  rw [tk4 (by rw [HL.out]; omega), hv12.out] at this
                  exact this
                have CG : Hid (∀ wx, Calls Tryz.prog 59 #[.int .i64 (v12 : Nat), .int .i64 32] wx fun e w' => e = .returned (.int .i64 sg) ∧ wx = w') := hidOf fun wx => by
                  have := signed_any wx v12 32 (.inr rfl) (by omega)
                  rw [← hsg.out]; exact this
                obtain ⟨j0, j1, j2, j3, j4⟩ := BI.out w10 O10.out
                have IB10 := hidOf ((O10.out.block I (Array.getElem?_eq_some_iff.1 IB9.out).1).trans IB9.out)
                have fI := frozen_atL IB10.out 4
                have hcm1 := hcm.out
                have t1 : ¬ cm = 4 := by omega
                have t2 : ¬ (cm : Int) = 4 := by omega
                have t3 : (8 : Int) ≤ cm := by omega
                have t4 : (at' : Int) + 16 ≤ c := by omega
                have t5 : (at' : Int) + 12 ≤ at' + 16 := by omega
                have t6 : ((at' : Int) + 12).toNat = at' + 12 := by omega
                have t7 : ((at' : Int) + 16).toNat = at' + 16 := by omega
                have t8 : at' + 16 - (at' + 12) = 4 := by omega
                have t9 : ¬ c = at' + 12 := by omega
                have t10 : ¬ (c : Int) = (at' : Int) + 12 := by omega
                have t11 : (0 : Int) ≤ (at' : Int) + 12 := by omega
                have t12 : IntKind.i64.wrap ((at' : Int) + 12) = (at' : Int) + 12 := by rw [IntKind.wrap_i64]; omega
                have t13 : IntKind.i64.wrap ((at' : Int) + 16) = (at' : Int) + 16 := by rw [IntKind.wrap_i64]; omega
                clear hcm1
                go_region_held3 (fun wx => wx.cell? ⟨p, 0, none⟩ = some (.slice (some ⟨g, go, none⟩) n c)) (first | go_keep | assumption | exact c0) (first
                  | (go_at_call 30; with_reducible refine (CTa.out _ (by repeat first | with_reducible exact Out.refl _ | with_reducible apply Out.drew | with_reducible apply Out.alloc)).mono ?_; rintro e wy ⟨rfl, hy⟩; subst hy)
                  | (go_at_call 30; with_reducible refine (CTb.out _ (by repeat first | with_reducible exact Out.refl _ | with_reducible apply Out.drew | with_reducible apply Out.alloc)).mono ?_; rintro e wy ⟨rfl, hy⟩; subst hy)
                  | (go_at_call 59; refine (CG.out _).mono ?_; rintro e wy ⟨rfl, hy⟩; subst hy))
                obtain ⟨xw, hxw⟩ : ∃ y, Hid (IntKind.i64.wrap ((v4 : Int) + IntKind.i64.wrap (sg * 4294967296)) = y) := ⟨_, rfl⟩
                have hxw2 : Hid ((v4 : Int) + 4294967296 * sg = xw) := hidOf (by rw [← hxw.out, IntKind.wrap_i64, IntKind.wrap_i64]; omega)
                obtain ⟨w11, hw11⟩ : ∃ x, Hid (x = (w10.setCell ⟨I, 4, none⟩ (.int .i64 xw)).drew) := ⟨_, rfl⟩
                rw [hxw.out, ← hw11.out]
                have cI := Chg.drew (Chg.setCell (S := fun k => k = I) (Chg.refl _ w10) (p := ⟨I, 4, none⟩) rfl (.int .i64 xw))
                rw [← hw11.out] at cI
                have HOBb : Hid (∀ k, (Value.slice a9 (kk + 1) c9).ownBlock = some k → ¬ k = I) := hidOf fun k hk => own_not NC.out.ob IB10.out (by decide) hk
                have HOB2b : Hid (∀ k, (Value.slice a9 (kk + 1) c9).ownBlock = some k → w.heap.size ≤ k) := hidOf fun k hk => (NC.out.ob.lt k hk).1
                have ND := hidOf (NC.out.chg cI (fun h => hIp h.symm) (fun k hk h => by have := HOW.out k hk; omega) HOBb.out (fun k h hl => by omega))
                have IB11 : Hid (w11.heap[I]? = some (.cells #[.int .i64 (y0 : Nat), .int .i64 z1, .int .i64 z2, .int .i64 xf, .int .i64 xw] 67 (0, 0))) := hidOf (by
                  have := set_atL IB10.out 4 (.int .i64 xw)
                  rw [hz1'.out, hz2'.out] at this
                  rw [hw11.out, heap_drew']
                  exact this)
                have hIl2 : I < w11.heap.size := (Array.getElem?_eq_some_iff.1 IB11.out).1
                have TB : Hid (∀ O, TxS w (w11.alloc O) p (.slice (some ⟨g, go, none⟩) n c) S f d k A (stT A ++ [true]) ta a9 tn tc (kk + 1) c9) := hidOf fun O => ND.out.out (Out.alloc (Out.refl _) O)
                have OAl2 : Hid (∀ O, Out w11 (w11.alloc O)) := hidOf fun O => Out.alloc (Out.refl _) O
                have HXN2 : Hid (txR l S 28 = (txR l (S - (kk + 2)) (28 + 8 * (kk + 2))).map ((A ++ [⟨(y0 : Nat), z1, z2, xf, xw⟩]) ++ ·)) := hidOf (by
                  have := tx_two hk2 HX.out HWI.out (by rw [hat.out]; exact G0.out)
                  rw [hat.out] at this
                  have e : widR l at' = ⟨(y0 : Nat), z1, z2, xf, xw⟩ := by
                    unfold widR
                    rw [HIV.out, hv4.out, hv12.out, hsg.out, ← hxw2.out]
                  rw [e] at this
                  exact this)
                clear c0 j0 j1 j2 j3 j4 fI t1 t2 t3 t4 t5 t6 t7 t8 t9 t10 t11 t12 t13 cI sgb
                obtain ⟨c0, c1, c2, c3, c4, c5, c6, c7⟩ := ND.out.rg.at
                clear c0 c1 c2 c3 c4 c5 c7
                go_upto_region 19 with (at_builtin; refine app_Bo w _ rfl (.tmp 109) (.tmp 110) rfl a9 c9 (kk + 1) (stT A ++ [true]) false rfl (TB.out _).ob (TB.out _).ch.size ⟨w11.heap.size, 0, none⟩ 1 rfl (news_new w11 #[.bool false] _ _ rfl) (by omega) ?_; intro a12 c12 w12 own8 gr8; have NE := hidOf (TxS.pushB (TB.out _) hp own8 gr8); have cg8 := Chg.of_grown (S := fun k => (Value.slice a9 (kk + 1) c9).ownBlock = some k) gr8 (fun k hk => hk); have rg8 := (TB.out _).rg.chg cg8 (fun h => by have := HOB2b.out _ h; omega); obtain ⟨_, _, _, _, _, _, d6, _⟩ := rg8.at; have f6 := rg8.fr 6; have IB12 := hidOf ((cg8.block I (by rw [size_alloc]; omega) (fun h => HOBb.out _ h rfl)).trans (((OAl2.out _).block I hIl2).trans IB11.out)); clear own8 gr8 cg8 rg8)
                obtain ⟨w13, hw13⟩ : ∃ x, Hid (x = w12.setCell ⟨p, 6, none⟩ (.slice a12 (kk + 1 + 1) c12)) := ⟨_, rfl⟩
                rw [← hw13.out] at NE ⊢
                have cs9 := Chg.setCell (S := fun k => k = p) (Chg.refl _ w12) (p := ⟨p, 6, none⟩) rfl (.slice a12 (kk + 1 + 1) c12)
                rw [← hw13.out] at cs9
                have IB13 := hidOf ((cs9.block I (Array.getElem?_eq_some_iff.1 IB12.out).1 hIp).trans IB12.out)
                have j0 : w13.cell? ⟨I, 0, none⟩ = some (.int .i64 (y0 : Nat)) := by rw [cell_atL IB13.out]; rfl
                have j1 : w13.cell? ⟨I, 1, none⟩ = some (.int .i64 z1) := by rw [cell_atL IB13.out]; rfl
                have j2 : w13.cell? ⟨I, 2, none⟩ = some (.int .i64 z2) := by rw [cell_atL IB13.out]; rfl
                have j3 : w13.cell? ⟨I, 3, none⟩ = some (.int .i64 xf) := by rw [cell_atL IB13.out]; rfl
                have j4 : w13.cell? ⟨I, 4, none⟩ = some (.int .i64 xw) := by rw [cell_atL IB13.out]; rfl
                clear d6 f6 c6 cs9
                have hw1 : isW ((y0 : Nat) : Int) = true := hw
                have hXs : w.heap.size ≤ w13.heap.size := NE.out.ch.size
                obtain ⟨c0, c1, c2, c3, c4, c5, c6, c7⟩ := NE.out.rg.at
                clear c0 c1 c2 c3 c4 c6 c7
                have a5 : ∀ O, (World.alloc w13 O).cell? ⟨p, 5, none⟩ = some (.slice ta tn tc) := fun O => ((NE.out.out (Out.alloc (Out.refl _) O)).rg.at).2.2.2.2.2.1
                have TD : Hid (∀ O, TxS w (World.alloc w13 O).drew p (.slice (some ⟨g, go, none⟩) n c) S f d k A (stT A ++ [true] ++ [false]) ta a12 tn tc (kk + 1 + 1) c12) := hidOf fun O => NE.out.out (Out.drew (Out.alloc (Out.refl _) O))
                have SA : Hid (∀ O, ((World.alloc w13 O).cell? ⟨I, 0, none⟩ = some (.int .i64 (y0 : Nat)) ∧ (World.alloc w13 O).cell? ⟨I, 1, none⟩ = some (.int .i64 z1) ∧ (World.alloc w13 O).cell? ⟨I, 2, none⟩ = some (.int .i64 z2) ∧ (World.alloc w13 O).cell? ⟨I, 3, none⟩ = some (.int .i64 xf) ∧ (World.alloc w13 O).cell? ⟨I, 4, none⟩ = some (.int .i64 xw))) := hidOf fun O => ⟨cell_later (Out.alloc (Out.refl _) O) j0, cell_later (Out.alloc (Out.refl _) O) j1, cell_later (Out.alloc (Out.refl _) O) j2, cell_later (Out.alloc (Out.refl _) O) j3, cell_later (Out.alloc (Out.refl _) O) j4⟩
                have FAR : Hid (∀ O w', (World.alloc w13 O).drew.grownBy w' (Value.slice ta tn tc).ownBlock → RgA w' p (.slice (some ⟨g, go, none⟩) n c) S f d k (.slice ta tn tc) (.slice a12 (kk + 1 + 1) c12) 0 ∧ (w'.cell? ⟨I, 0, none⟩ = some (.int .i64 (y0 : Nat)) ∧ w'.cell? ⟨I, 1, none⟩ = some (.int .i64 z1) ∧ w'.cell? ⟨I, 2, none⟩ = some (.int .i64 z2) ∧ w'.cell? ⟨I, 3, none⟩ = some (.int .i64 xf) ∧ w'.cell? ⟨I, 4, none⟩ = some (.int .i64 xw))) := hidOf fun O w' hg => by
                  have hc := Chg.of_grown (S := fun k => (Value.slice ta tn tc).ownBlock = some k) hg (fun k hk => hk)
                  have hb : ¬ (Value.slice ta tn tc).ownBlock = some I := fun h => by have := HOW.out _ h; omega
                  have q := SA.out O
                  exact ⟨(TD.out O).rg.chg hc (fun h => by have := ((TD.out O).ot.lt _ h).1; omega), hc.cell q.1 hb, hc.cell q.2.1 hb, hc.cell q.2.2.1 hb, hc.cell q.2.2.2.1 hb, hc.cell q.2.2.2.2 hb⟩
                obtain ⟨t0, hi0, hz0, hz1, hz2⟩ := info_parts info5I
                refine wp_region_held_drew (S := (fun wx => wx.cell? ⟨I, 0, none⟩ = some (.int .i64 (y0 : Nat)) ∧ wx.cell? ⟨I, 1, none⟩ = some (.int .i64 z1) ∧ wx.cell? ⟨I, 2, none⟩ = some (.int .i64 z2) ∧ wx.cell? ⟨I, 3, none⟩ = some (.int .i64 xf) ∧ wx.cell? ⟨I, 4, none⟩ = some (.int .i64 xw))) (by kernel_rfl) ?_ (fun hHeld => ?_)
                · exact ⟨j0, j1, j2, j3, j4⟩
                refine tkLB [0,1,2,3,5] ?_
                iterate 5 (refine tkLC (v := ?_) rfl rfl (by kernel_rfl) (by kernel_rfl) (by kernel_rfl) (fun _ _ _ h => h) (by rfl) (by assumption) ?_ ?_; rotate_left; (· (intro w hSw; (try dsimp only at hSw); go_simp; (try with_reducible rfl))); simp only [Act.put, List.setIfInBounds_toArray, List.set_cons_zero, List.set_cons_succ])
                refine tkLE ?_
                refine wpAnyH_ready (rs := [4, 6]) (by kernel_rfl) (by simp) ?_
                refine AllReadyH.cons rfl (fun K1 hK1 => ?_) (AllReadyH.cons rfl (fun K1 hK1 => ?_) AllReadyH.nil)
                · rw [if_pos (by rfl)]
                  go_simp
                  refine hK1.out _ _ ⟨j0, j1, j2, j3, j4⟩ (fun hHeld1 => ?_)
                  refine wpAnyH_ready (rs := [6]) (by kernel_rfl) (by simp) ?_
                  refine AllReadyH.cons rfl (fun K2 hK2 => ?_) AllReadyH.nil
                  rw [if_pos (by rfl)]
                  go_simp
                  refine hK2.out _ _ (SA.out _) (fun hHeld2 => ?_)
                  refine wpAnyH_ready (rs := [7]) (by kernel_rfl) (by simp) ?_
                  refine AllReadyH.cons rfl (fun K3 hK3 => ?_) AllReadyH.nil
                  refine step_append_lies _ rfl (.tmp 120) (.tmp 122) 22 rfl w.heap.size 67 t0 _ 5 40 Tryz.underlying22 hi0 hz0 hz1 hz2 rfl (by decide) (.slice ta tn tc) tn (insV A) rfl (TD.out _).ot ⟨w13.heap.size, 0, none⟩ 1 1 (Ins.cs ⟨(y0 : Nat), z1, z2, xf, xw⟩) rfl rfl (news_drew17 _ _ _ _ rfl) (cs_one _) (by decide) (by unfold maxLen; omega) (by omega) ((TD.out _).ch.size) _ rfl ?_
                  intro g2 cap w4 hown' hgrow hg hlt
                  obtain ⟨hR4, hS4⟩ := FAR.out _ _ hgrow
                  have N4 := hidOf (TxS.pushT (x := ⟨(y0 : Nat), z1, z2, xf, xw⟩) (TD.out _) hp hown' hgrow)
                  obtain ⟨_, _, _, _, _, q10, _, _⟩ := hR4.at
                  have qf := hR4.fr 5
                  clear hown' hgrow hg hlt hR4
                  refine hK3.out _ _ hS4 (fun hHeld3 => ?_)
                  refine tkLB [8,9] ?_
                  iterate 2 (refine tkLC (v := ?_) rfl rfl (by kernel_rfl) (by kernel_rfl) (by kernel_rfl) (fun _ _ _ h => h) (by rfl) (by assumption) ?_ ?_; rotate_left; (· (intro w hSw; (try dsimp only at hSw); go_simp; (try with_reducible rfl))); simp only [Act.put, List.setIfInBounds_toArray, List.set_cons_zero, List.set_cons_succ])
                  refine tkLE ?_
                  refine wpAnyH_ready (rs := [10]) (by kernel_rfl) (by simp) ?_
                  refine AllReadyH.cons rfl (fun K4 hK4 => ?_) AllReadyH.nil
                  rw [if_pos (by rfl)]
                  go_simp
                  refine hK4.out _ _ (by
                    have cs := Chg.setCell (S := fun k => k = p) (Chg.refl _ w4) (p := ⟨p, 5, none⟩) rfl (.slice (some ⟨g2, 0, none⟩) (tn + 1) cap)
                    exact ⟨cs.cell hS4.1 hIp, cs.cell hS4.2.1 hIp, cs.cell hS4.2.2.1 hIp, cs.cell hS4.2.2.2.1 hIp, cs.cell hS4.2.2.2.2 hIp⟩) (fun hHeld4 => ?_)
                  refine wpAnyH_done (by kernel_rfl) ?_ _
                  go_wp2
                  go_roundw
                  case rel => exact ⟨kk + 2, tn + 1, cap, c12, A ++ [⟨(y0 : Nat), z1, z2, xf, xw⟩], some ⟨g2, 0, none⟩, a12, by omega, by first | rfl | (simp <;> omega), hidOf (by rw [slots_app, hsl.out]; simp [slotsP, hw1]), hidOf (by rw [List.length_append, htn.out]; rfl), hidOf (by
                    have := N4.out
                    rw [stT_app, show stT [⟨(y0 : Nat), z1, z2, xf, xw⟩] = [true] ++ [false] by simp [stT, hw1], ← List.append_assoc]
                    exact this), HXN2⟩
                  case measure => simp [intOf] <;> omega
                · rw [if_pos (by rfl)]
                  go_simp
                  refine hK1.out _ _ (SA.out _) (fun hHeld1 => ?_)
                  refine wpAnyH_ready (rs := [4]) (by kernel_rfl) (by simp) ?_
                  refine AllReadyH.cons rfl (fun K2 hK2 => ?_) AllReadyH.nil
                  rw [if_pos (by rfl)]
                  go_simp
                  refine hK2.out _ _ (SA.out _) (fun hHeld2 => ?_)
                  refine wpAnyH_ready (rs := [7]) (by kernel_rfl) (by simp) ?_
                  refine AllReadyH.cons rfl (fun K3 hK3 => ?_) AllReadyH.nil
                  refine step_append_lies _ rfl (.tmp 120) (.tmp 122) 22 rfl w.heap.size 67 t0 _ 5 40 Tryz.underlying22 hi0 hz0 hz1 hz2 rfl (by decide) (.slice ta tn tc) tn (insV A) rfl (TD.out _).ot ⟨w13.heap.size, 0, none⟩ 1 1 (Ins.cs ⟨(y0 : Nat), z1, z2, xf, xw⟩) rfl rfl (news_drew17 _ _ _ _ rfl) (cs_one _) (by decide) (by unfold maxLen; omega) (by omega) ((TD.out _).ch.size) _ rfl ?_
                  intro g2 cap w4 hown' hgrow hg hlt
                  obtain ⟨hR4, hS4⟩ := FAR.out _ _ hgrow
                  have N4 := hidOf (TxS.pushT (x := ⟨(y0 : Nat), z1, z2, xf, xw⟩) (TD.out _) hp hown' hgrow)
                  obtain ⟨_, _, _, _, _, q10, _, _⟩ := hR4.at
                  have qf := hR4.fr 5
                  clear hown' hgrow hg hlt hR4
                  refine hK3.out _ _ hS4 (fun hHeld3 => ?_)
                  refine tkLB [8,9] ?_
                  iterate 2 (refine tkLC (v := ?_) rfl rfl (by kernel_rfl) (by kernel_rfl) (by kernel_rfl) (fun _ _ _ h => h) (by rfl) (by assumption) ?_ ?_; rotate_left; (· (intro w hSw; (try dsimp only at hSw); go_simp; (try with_reducible rfl))); simp only [Act.put, List.setIfInBounds_toArray, List.set_cons_zero, List.set_cons_succ])
                  refine tkLE ?_
                  refine wpAnyH_ready (rs := [10]) (by kernel_rfl) (by simp) ?_
                  refine AllReadyH.cons rfl (fun K4 hK4 => ?_) AllReadyH.nil
                  rw [if_pos (by rfl)]
                  go_simp
                  refine hK4.out _ _ (by
                    have cs := Chg.setCell (S := fun k => k = p) (Chg.refl _ w4) (p := ⟨p, 5, none⟩) rfl (.slice (some ⟨g2, 0, none⟩) (tn + 1) cap)
                    exact ⟨cs.cell hS4.1 hIp, cs.cell hS4.2.1 hIp, cs.cell hS4.2.2.1 hIp, cs.cell hS4.2.2.2.1 hIp, cs.cell hS4.2.2.2.2 hIp⟩) (fun hHeld4 => ?_)
                  refine wpAnyH_done (by kernel_rfl) ?_ _
                  go_wp2
                  go_roundw
                  case rel => exact ⟨kk + 2, tn + 1, cap, c12, A ++ [⟨(y0 : Nat), z1, z2, xf, xw⟩], some ⟨g2, 0, none⟩, a12, by omega, by first | rfl | (simp <;> omega), hidOf (by rw [slots_app, hsl.out]; simp [slotsP, hw1]), hidOf (by rw [List.length_append, htn.out]; rfl), hidOf (by
                    have := N4.out
                    rw [stT_app, show stT [⟨(y0 : Nat), z1, z2, xf, xw⟩] = [true] ++ [false] by simp [stT, hw1], ← List.append_assoc]
                    exact this), HXN2⟩
                  case measure => simp [intOf] <;> omega
    · have hlt : ¬ (kk : Int) < S := by omega
      have hkS2 : Hid (kk = S) := hidOf (by omega)
      have HOB2 : Hid (∀ k, (Value.slice sa kk sc).ownBlock = some k → w.heap.size ≤ k) := hidOf fun k hk => (HS.out.ob.lt k hk).1
      have TA : Hid (∀ O, TxS w (wr.alloc O) p (.slice (some ⟨g, go, none⟩) n c) S f d k A (stT A) ta sa tn tc kk sc) := hidOf fun O => HS.out.out (Out.alloc (Out.refl _) O)
      clear c0 c2 c3 c4 c5 c7
      go_wp2_with (at_builtin; refine app_Bo w _ rfl (.tmp 130) (.tmp 131) rfl sa sc kk (stT A) true rfl (TA.out _).ob (TA.out _).ch.size ⟨wr.heap.size, 0, none⟩ 1 rfl (news_new wr #[.bool true] _ _ rfl) (by omega) ?_; intro a9 c9 w8 own8 gr8; have NB := hidOf (TxS.pushB (TA.out _) hp own8 gr8); have cg8 := Chg.of_grown (S := fun k => (Value.slice sa kk sc).ownBlock = some k) gr8 (fun k hk => hk); have rg8 := (TA.out _).rg.chg cg8 (fun h => by have := HOB2.out _ h; omega); obtain ⟨_, _, _, _, _, _, d6, _⟩ := rg8.at; have f6 := rg8.fr 6; clear own8 gr8 cg8 rg8)
      go_ret
      refine .inr ⟨A, ta, a9, tc, c9, ?_, by rw [hsl.out, hkS2.out], rfl, ?_⟩
      · rw [HX.out, hkS2.out, Nat.sub_self]; simp [txR, Except.map]
      · have := NB.out
        have h1 := hkS2.out
        have h2 := htn.out
        subst h1
        subst h2
        exact this
end Go.Proofs.YthififblejbleaaGreatDoor
