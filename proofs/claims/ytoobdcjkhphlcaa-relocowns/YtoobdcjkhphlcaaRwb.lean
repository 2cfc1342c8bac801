import Derived.Test.YtoobdcjkhphlcaaRwa
namespace Go.Proofs.Ytoobdcjkhphlcaa
open Go.RowKit
set_option linter.unusedVariables false
set_option linter.unusedSimpArgs false
theorem copyBytes_wide (w : World) (a : Option Addr) (cap : Nat) (l : List UInt8) (hr : RestAt w.heap.size w a l) (hll : l.length ≤ 140737488355328) : Calls Try.prog 15 #[.slice a l.length cap] w fun e w' => ∃ v, e = .returned v ∧ OwB w.heap.size v l w' ∧ Out w w' := by
  obtain ⟨i0, hi, hz0, hz1, hz2⟩ := info_parts infoB
  have H0 := hidOf (owns_void w w.heap.size 1 5 (Nat.le_refl _))
  cases a with
  | none =>
    obtain rfl : l = [] := by
      rcases hr with h | ⟨b, off, _, h, _⟩
      · exact h
      · cases h
    simp only [List.length_nil]
    go_enter Try.func15, Try.ntmps15
    go_wp2
    go_ret
    exact ⟨_, rfl, H0.out, Out.alloc (Out.refl _) _⟩
  | some ad =>
    have HC : Hid (∀ j u, (Lib.byteCells l)[j]? = some u → (w.alloc (.cells #[] 5)).cell? (ad.add j) = some u) := fun j u hu => by
      simp only [Lib.byteCells, List.getElem?_map, Option.map_eq_some_iff] at hu
      obtain ⟨x, hx, rfl⟩ := hu
      rcases hr with rfl | ⟨b, off, _, h, hc⟩
      · simp at hx
      · cases h
        rw [WideShapes.add_plain]
        exact cell_later ((Out.refl w).alloc _) (hc j x hx)
    clear hr
    go_enter Try.func15, Try.ntmps15
    go_wp2_with (at_builtin; refine wpList_append_own _ rfl (.tmp 3) (.tmp 4) 30 rfl w.heap.size 5 i0 _ 1 1 Try.underlying30 hi hz0 hz1 hz2 rfl (by decide) (.slice (some ⟨w.heap.size, 0, none⟩) 0 0) 0 [] rfl H0.out ad l.length cap (Lib.byteCells l) rfl (by rw [Lib.byteCells_length, Nat.mul_one]) HC.out (bc_one l) (by unfold maxLen; omega) (by omega) (by rw [size_alloc]; omega) ?_; intro v' w3 hown' hgrow _; have H3 := hidOf (out_row ((Out.refl w).alloc _) H0.out hgrow); have HN := hidOf hown'; clear hown' hgrow)
    go_ret
    refine ⟨_, rfl, ?_, H3.out⟩
    have := HN.out
    rw [Nat.zero_add, List.nil_append] at this
    exact this
theorem wrB_len (l : List Rl) : (wrB l).length ≤ 1048576 := by
  unfold wrB
  cases hT : wrP l with
  | mk o er =>
    cases o with
    | none => simp
    | some b =>
      obtain ⟨_, h1, h2, _⟩ := back_P hT
      show b.length ≤ _
      omega
set_option maxRecDepth 20000 in
set_option maxHeartbeats 4000000 in
theorem relocOwns_walk (CW : WriteC) (W : World) (a1 a2 : Option Addr) (c1 c2 : Nat) (rs : List Rl) (b : List UInt8) (hr : RlAt W.heap.size W a1 rs) (hc1 : rs.length ≤ c1) (hl1 : rs.length ≤ 140737488355328) (hb : RestAt W.heap.size W a2 b) (hc2 : b.length ≤ c2) (hl2 : b.length ≤ 140737488355328) :
    Calls Try.prog 5 #[.slice a1 rs.length c1, .slice a2 b.length c2] W fun e W' => e = .returned (.bool true) ∧ Out W W' := by
  have RX : ∀ wx, Out W wx → RlAt wx.heap.size wx a1 rs := fun wx ho => hr.out ho
  have BX : ∀ wx, Out W wx → RestAt wx.heap.size wx a2 b := fun wx ho => by
    rcases hb with h | ⟨b, o, hb, h, hc⟩
    · exact .inl h
    · exact .inr ⟨b, o, by have := ho.size; omega, h, fun k x hx => cell_later ho (hc k x hx)⟩
  have CRW : Hid (∀ wx, Out W wx → Calls Try.prog 12 #[.slice a1 rs.length c1] wx fun e w' => ∃ v, e = .returned (.tuple #[v, .int .i64 (wrN rs)]) ∧ OwB wx.heap.size v (wrB rs) w' ∧ Out wx w') := fun wx ho => (refWrite_any wx a1 c1 rs (RX wx ho) hc1 hl1).mono fun e w' h => h.flat
  have CUW : Hid (∀ wx, Out W wx → Calls Try.prog 13 #[.slice a1 rs.length c1] wx fun e w' => ∃ v, e = .returned (.tuple #[v, .int .i64 (wrN rs)]) ∧ OwB wx.heap.size v (wrB rs) w' ∧ Out wx w') := fun wx ho => (write_any wx a1 c1 rs (RX wx ho) hc1 hl1).mono fun e w' h => h.flat
  have CCp : Hid (∀ wx, Out W wx → Calls Try.prog 15 #[.slice a2 b.length c2] wx fun e w' => ∃ v, e = .returned v ∧ OwB wx.heap.size v b w' ∧ Out wx w') := fun wx ho => copyBytes_wide wx a2 c2 b (BX wx ho) hl2
  have CRR : Hid (∀ wx d cp, RestAt wx.heap.size wx d b → b.length ≤ cp → Calls Try.prog 14 #[.slice d b.length cp] wx fun e w' => ∃ v, e = .returned (.tuple #[v, .int .i64 (rdA b), .int .i64 (rdN b)]) ∧ OwR wx.heap.size v (rdL b) w' ∧ Out wx w') := fun wx d cp h1 h2 => (refRead_any wx d cp b h1 h2 hl2).mono fun e w' h => h.flat
  have CUR : Hid (∀ wx, Out W wx → Calls Try.prog 16 #[.slice a2 b.length c2] wx fun e w' => ∃ v, e = .returned (.tuple #[v, .int .i64 (rdA b), .int .i64 (rdN b)]) ∧ OwR wx.heap.size v (rdL b) w' ∧ Out wx w') := fun wx ho => (read_any wx a2 c2 b (BX wx ho) hc2 hl2).mono fun e w' h => h.flat
  have hTl := rdL_len b
  have hUl := wrB_len rs
  have CS : Hid (∀ wx b1 c1 b2 c2, RlAt wx.heap.size wx b1 (rdL b) → RlAt wx.heap.size wx b2 (rdL b) → Calls Try.prog 19 #[.slice b1 (rdL b).length c1, .slice b2 (rdL b).length c2] wx fun e w' => e = .returned (.bool true) ∧ Out wx w') := fun wx b1 c1 b2 c2 h1 h2 => sameRels_eq wx b1 b2 c1 c2 _ h1 h2 (by omega)
  have HUl := hidOf hUl
  have HTl := hidOf hTl
  have Hbc := hidOf hc2
  clear RX BX hr hb hTl hUl
  generalize wrN rs = EW at *
  generalize wrB rs = U at *
  generalize rdL b = T at *
  generalize rdA b = RA at *
  generalize rdN b = RN at *
  have HO : Hid (OP W ((W.alloc shelfO).alloc bookO) (W.heap.size + 1) W.heap.size W.heap.size 0) := OP.start W
  go_enter Try.func5, Try.ntmps5
  go_upto_region 3 with fail
  show Code.wp _ _ _ _ ((W.alloc shelfO).alloc bookO)
  have hsz : (W.alloc (Obj.cells #[.int .i64 0, .int .i64 0, .bool false, .slice none 0 0, .slice none 0 0, .slice none 0 0, .slice none 0 0] 41 (0, 0))).heap.size = W.heap.size + 1 := size_alloc _ _
  try rw [hsz]
  generalize (W.alloc shelfO).alloc bookO = w2 at *
  obtain ⟨ps, hps⟩ : ∃ ps, ps = W.heap.size := ⟨_, rfl⟩
  rw [← hps] at HO ⊢
  have Hps := hidOf hps
  clear hps hsz
  go_wp2
  go_loopw [7] (fun iv wr => ∃ i : Nat, iv = .int .i64 i ∧ i ≤ 9 ∧ Hid (OP W wr (ps + 1) ps ps i)) (fun iv _ => 9 - (intOf iv).toNat)
  case atStart => exact ⟨0, rfl, by omega, HO⟩
  case round =>
    clear HO
    obtain ⟨i, rfl, hi, HO⟩ := hrel
    by_cases hi9 : i < 9
    · have hlt : (i : Int) < 9 := by omega
      have h0 : (0 : Int) ≤ i := by omega
      have O0 := hidOf HO.out.out
      go_upto_region 10 with (first
        | (go_at_call 12; refine (CRW.out wr O0.out).mono ?_; rintro e w3 ⟨v3, rfl, hown, ho⟩; have W3 := hidOf hown; have P3 := hidOf ho; have O3 := hidOf (Out.trans O0.out ho); clear hown ho)
        | (go_at_call 13; refine (CUW.out w3 O3.out).mono ?_; rintro e w4 ⟨v4, rfl, hown, ho⟩; have W4 := hidOf hown; have P4 := hidOf ho; have O4 := hidOf (Out.trans O3.out ho); clear hown ho)
        | (go_at_call 15; refine (CCp.out w4 O4.out).mono ?_; rintro e w5 ⟨v5, rfl, hown, ho⟩; have P5 := hidOf ho; have O5 := hidOf (Out.trans O4.out ho); obtain ⟨b5, c5, rfl, hc5, hr5⟩ := OwB.rest hown; have R5 := hidOf hr5; clear hown ho hr5)
        | (go_at_call 14; refine (CRR.out w5 b5 c5 R5.out hc5).mono ?_; rintro e w6 ⟨v6, rfl, hown, ho⟩; have W6 := hidOf hown; have P6 := hidOf ho; have O6 := hidOf (Out.trans O5.out ho); clear hown ho)
        | (go_at_call 16; refine (CUR.out w6 O6.out).mono ?_; rintro e w7 ⟨v7, rfl, hown, ho⟩; have W7 := hidOf hown; have P7 := hidOf ho; have O7 := hidOf (Out.trans O6.out ho); clear hown ho))
      have X4 : Hid (OwB wr.heap.size v4 U w7) := own_base (((W4.out.out P5.out).out P6.out).out P7.out) P3.out.size
      have X3 : Hid (OwB wr.heap.size v3 U w7) := ((((W3.out.out P4.out).out P5.out).out P6.out).out P7.out)
      have X7 : Hid (OwR wr.heap.size v7 T w7) := own_base W7.out (by have := P3.out.size; have := P4.out.size; have := P5.out.size; have := P6.out.size; omega)
      have X6 : Hid (OwR w5.heap.size v6 T w7) := own_at W6.out P7.out
      have PP : Hid (Out wr w7) := Out.trans (Out.trans (Out.trans (Out.trans P3.out P4.out) P5.out) P6.out) P7.out
      obtain ⟨b4, d4, rfl, _, ht4⟩ := OwB.rest X4.out
      obtain ⟨b3, d3, rfl, _, ht3⟩ := OwB.rest X3.out
      obtain ⟨b7, d7, rfl, _, ht7⟩ := OwR.at X7.out
      obtain ⟨b6, d6, rfl, _, ht6⟩ := OwR.at X6.out
      have T4 := hidOf ht4
      have T3 := hidOf ht3
      have T7 := hidOf ht7
      have T6 := hidOf ht6
      clear ht4 ht3 ht7 ht6 W3 W4 W6 W7 P3 P4 P5 P6 P7 O3 O4 O5 O6 R5
      go_upto_region 12 with (first | (go_at_call 17; refine (sameBytes_any _ _ _ _ U _ T4.out T3.out).mono ?_; rintro e w8 ⟨rfl, hw⟩; subst hw) | (go_at_call 18; refine (num_any _ _).mono ?_; rintro e w8 ⟨rfl, hw⟩; subst hw) | (go_at_call 19; refine (CS.out _ _ _ _ _ T7.out T6.out).mono ?_; rintro e w9 ⟨rfl, ho⟩; have P9 := hidOf ho; clear ho))
      obtain ⟨s1, s2, g1, g2, j1, j2, j3, j4, hOQ, hcalls⟩ := HO.out.sums CW (w' := w9.drew) (Out.drew (Out.trans PP.out P9.out)) (by omega) (a1 := b4) (q1 := d4) (a2 := b7) (q2 := d7) (U := U) (T := T) ((X4.out.out P9.out).out (Out.refl w9).drew) rfl (by have := HUl.out; omega) (own_at (own_at X7.out P9.out) (Out.refl w9).drew) rfl HTl.out
      have hw : IntKind.i64.wrap (s2 + s1) = s2 + s1 := by rw [IntKind.wrap_i64]; omega
      have HOQ := hidOf hOQ
      have HC := hidOf hcalls
      clear hOQ hcalls
      by_cases hsum : s2 + s1 < 3000
      · have CB := hidOf (HC.out hsum (5 * i) (by omega) (by omega))
        go_region_law (fail)
        all_goals
          go_upto_region 15 with (first | (go_at_call 20; refine CB.out.mono ?_; rintro e w11 ⟨⟨r7, rfl⟩, hs7⟩; have H7 := hidOf hs7; clear hs7) | (go_at_call 21; refine H7.out.mono ?_; rintro e w12 ⟨⟨r8, rfl⟩, hq8⟩; have HQ8 := hidOf hq8; clear hq8))
          have CH := hidOf (HQ8.out.holdsS (by omega))
          go_wp2_with (first | (go_at_call 22; refine CH.out.mono ?_; rintro e w13 ⟨rfl, ho⟩; have H13 := hidOf (HQ8.out.more ho); have CK := hidOf (H13.out.holdsB (by omega)); clear ho) | (go_at_call 23; refine CK.out.mono ?_; rintro e w14 ⟨rfl, ho⟩; have H14 := hidOf (H13.out.more ho); clear ho))
          go_roundw
          case rel => exact ⟨i + 1, by simp, by omega, H14⟩
          case measure => simp [intOf]; omega
      · go_region_law (fail)
        all_goals
          go_upto_region 15 with fail
          have CH := hidOf (HOQ.out.holdsS (by omega))
          go_wp2_with (first | (go_at_call 22; refine CH.out.mono ?_; rintro e w13 ⟨rfl, ho⟩; have H13 := hidOf (HOQ.out.more ho); have CK := hidOf (H13.out.holdsB (by omega)); clear ho) | (go_at_call 23; refine CK.out.mono ?_; rintro e w14 ⟨rfl, ho⟩; have H14 := hidOf (H13.out.more ho); clear ho))
          go_roundw
          case rel => exact ⟨i + 1, by simp, by omega, H14⟩
          case measure => simp [intOf]; omega
    · have hlt : ¬ (i : Int) < 9 := by omega
      go_wp2_with (go_at_call 9; refine (awake11 _).mono ?_; rintro e w5 ⟨rfl, ho⟩; have HO5 := hidOf (HO.out.more ho); clear ho)
      go_ret
      exact ⟨rfl, HO5.out.out⟩
end Go.Proofs.Ytoobdcjkhphlcaa
