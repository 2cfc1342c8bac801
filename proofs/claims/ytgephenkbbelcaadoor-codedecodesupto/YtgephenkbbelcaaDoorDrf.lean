import Derived.Test.YtgephenkbbelcaaDoorDre
namespace Go.Proofs.YtgephenkbbelcaaDoor
open Go.RowKit
set_option linter.unusedVariables false
set_option linter.unusedSimpArgs false
/-- two lists are owned, one behind the other -/
theorem own_two (W w : World) (pl ps B : Nat) (mk tt : Int) (kn : Nat) (g m : Nat) (N5 : Int) (Lb : List UInt8) (r : Nat → Value) (L : Nat → List Value) (hq : QI B w ps mk tt r L) (hf : (L 0).length ≤ 2) (hk : (L 2).length ≤ kn) (hkn : kn ≤ 1000) (m0 : 0 ≤ mk) (m1 : mk ≤ 50000000000000) (t0 : 0 ≤ tt) (t1 : tt ≤ 400000000)
    (hle : LeB w pl g m N5 Lb) (hg : B ≤ g) (lB : B ≤ pl) (bW : W.heap.size ≤ B) (o : Out W w) (q : Nat) (a1 a2 : Option Addr) (c1 c2 : Nat) (T : List Ins) (hT : T.length = q) (hq8 : q ≤ 1100000) (h1 : OwI 0 (.slice a1 q c1) T w) (h2 : OwI 0 (.slice a2 q c2) T w) (n1 : New5 B L (.slice a1 q c1)) (n2 : New5 B L (.slice a2 q c2)) (hne : ∀ b, (Value.slice a2 q c2).ownBlock = some b → ¬ (Value.slice a1 q c1).ownBlock = some b) :
    Calls Tryd.prog 12 #[.pointer (some ⟨ps, 0, none⟩), .slice a1 q c1] w fun e w' => e = .returned (.bool true) ∧ Calls Tryd.prog 12 #[.pointer (some ⟨ps, 0, none⟩), .slice a2 q c2] w' fun e w'' => e = .returned (.bool true) ∧ ∃ mk2, mk ≤ mk2 ∧ mk2 ≤ mk + 8000000000 ∧ Rcd W w'' pl ps B mk2 (tt + q + q) (kn + 12) := by
  refine (ownQ_any B w ps mk tt r L hq hf (by omega) m0 (by omega) t0 (by omega) a1 q c1 T hT (by omega) h1 n1).mono ?_
  rintro e w' ⟨rfl, mk', r', L', x1, x2, hq', hf', hk', c, pv⟩
  have hle' := hq.lender h1 hle c
  have h2' : OwI 0 (.slice a2 q c2) T w' := h2.chg c (fun b hb hs => by
    rcases hs with (e | ⟨j, hj, e⟩ | ⟨y, hy, e⟩) | e
    · exact own_kind h2 hq.sh.st (by decide) (by rw [hb, e])
    · obtain ⟨_, cs, hc⟩ := own_blkQ h2 hb
      exact own_kind (hq.sh.row j hj) hc (by decide) e
    · obtain ⟨j, hj⟩ := List.getElem?_of_mem hy
      exact n2.f j y b hj hb e
    · exact hne b hb e)
  have n2' : New5 B L' (.slice a2 q c2) := New5.later (B2 := 0) (p := 0) (mk := 0) (tt := 0) (r := r) (w := w) n2 (fun b hb => (own_blkQ h2 hb).1) hne pv
  have o' : Out W w' := Chg.out c o (fun k hk => by
    rcases hk with e | e
    · have := hq.lb k e; omega
    · have := n1.lb k e; omega)
  refine ⟨rfl, (ownQ_any B w' ps mk' (tt + q) r' L' hq' hf' (by omega) (by omega) (by omega) (by omega) (by omega) a2 q c2 T hT (by omega) h2' n2').mono ?_⟩
  rintro e w'' ⟨rfl, mk2, r2, L2, y1, y2, hq2, hf2, hk2, d, pv2⟩
  refine ⟨rfl, mk2, by omega, by omega, ⟨r2, L2, hq2, hf2, by omega⟩, .inr ⟨g, m, N5, Lb, hq'.lender h2' hle' d, hg⟩, lB, bW, Chg.out d o' (fun k hk => ?_)⟩
  rcases hk with e | e
  · have := hq'.lb k e; omega
  · have := n2'.lb k e; omega
theorem dec_len {B : List Int} {l : List Ins} {k f : Int} (hB : Byts B) (h : DecIs may B l k f) : 8 * l.length ≤ B.length := by
  obtain ⟨n, _, h⟩ := h
  have hi := decN_inv may B hB n
  rcases h with ⟨rfl, _⟩ | ⟨rfl, _⟩
  · omega
  · simp
theorem LeB.bytA {w : World} {p g m : Nat} {N : Int} {B : List Int} {R : List UInt8} (h : LeB w p g m N (u8L B ++ R)) (hB : Byts B) : BytA w (some ⟨g, 0, none⟩) B := .inr ⟨g, 0, rfl, fun k hk => by
  obtain ⟨x, hx, e⟩ := u8_get hB hk
  rw [Nat.zero_add, ← e]
  exact h.cell (by rw [List.getElem?_append_left (by rw [u8L_len]; exact hk)]; exact hx)⟩
theorem OwB.adr {B n c : Nat} {a : Option Addr} {l : List UInt8} {w : World} (h : OwB B (.slice a n c) l w) (hn : l.length = n) : n ≤ c ∧ RestAt w.heap.size w a l ∧ ∀ ad, a = some ad → B ≤ ad.block := by
  subst hn
  obtain ⟨a', c', hv, hcap, hat⟩ := OwB.rest h
  simp only [Value.slice.injEq] at hv
  obtain ⟨rfl, _, rfl⟩ := hv
  exact ⟨hcap, hat, fun ad had => (World.ownsRow.lt h ad.block (by rw [had]; rfl)).1⟩
theorem num3 (w : World) (e : Int) : Calls Tryd.prog 9 #[.int .i64 e] w fun x w' => x = .returned (.int .i64 e) ∧ w = w' := (num_any _ _).mono fun x w' h => ⟨h.1, h.2⟩
set_option maxRecDepth 20000 in
set_option maxHeartbeats 1000000 in
theorem codeDecodes_walk (W : World) (ht : Tabs W) (a : Option Addr) (len cap : Nat) (B : List Int) (hlen : B.length = len) (hB : Byts B) (hA : BytA W a B) (hll : len ≤ 1048576) (hcap : len ≤ cap) :
    Calls Tryd.prog 3 #[.slice a len cap] W fun e W' => e = .returned (.bool true) ∧ Out W W' := by
  have Ht := hidOf ht
  have CT : Hid (∀ wx (t : Nat), Out W wx → t ≤ 3 → Calls Tryd.prog 5 #[.slice a len cap, .int .i64 t] wx (TbE wx len)) := hidOf (fun wx t o h => turnedBytes_any wx a len cap B hlen hB (hA.out o) (by omega) hcap t h)
  have CAw := hidOf (awake_any W ht)
  clear ht hB hA hlen
  go_enter Tryd.func3, Tryd.ntmps3
  go_upto_region 5 with (go_at_call 4; refine CAw.out.mono ?_; rintro e w1 ⟨rfl, ho⟩; have O1 := hidOf ho; clear ho)
  have HW0 := hidOf (Rcd.start O1.out)
  show Code.wp _ _ _ _ ((w1.alloc lendO).alloc shelfO)
  have hsz : (w1.alloc (Obj.cells #[.slice none 0 0, .int .i64 0] 25 (0, 0))).heap.size = w1.heap.size + 1 := size_alloc _ _
  try rw [hsz]
  generalize (w1.alloc lendO).alloc shelfO = w2 at *
  generalize w1.heap.size = d at *
  clear hsz O1 CAw
  go_wp2
  go_loopw [5] (fun tv wr => ∃ (t : Nat) (mk tt : Int), tv = .int .i64 t ∧ t ≤ 4 ∧ 0 ≤ mk ∧ mk ≤ 10000000000 * (t : Int) ∧ 0 ≤ tt ∧ tt ≤ 10000000 * (t : Int) ∧ Hid (Rcd W wr d (d + 1) d mk tt (12 * t))) (fun tv _ => 4 - (intOf tv).toNat)
  case atStart => exact ⟨0, 0, 0, rfl, by omega, by omega, by omega, by omega, by omega, HW0⟩
  case round =>
    clear HW0
    obtain ⟨t, mk, tt, rfl, ht4, m0, m1, t0, t1, HS⟩ := hrel
    by_cases hlt : t ≤ 3
    · have hltI : (t : Int) ≤ 3 := by omega
      go_upto_region 9 with (go_at_call 5; refine (CT.out wr t HS.out.out hlt).mono ?_; rintro e w4 ⟨a1, c1, B4, rfl, hl4, hB4, hown, ho⟩; have HL4 := hidOf hl4; have HB4 := hidOf hB4; have W4 := hidOf hown; have P4 := hidOf ho; clear hl4 hB4 hown ho)
      obtain ⟨l, hl⟩ : ∃ l, l = u8L B4 := ⟨_, rfl⟩
      have HLL : Hid (l.length = len) := hidOf (by rw [hl, u8L_len]; exact HL4.out)
      have hadr := OwB.adr (own_u8 W4.out HB4.out) (by rw [u8L_len]; exact HL4.out)
      rw [← hl] at hadr
      have Hl := hidOf hl
      have Hc1 := hidOf hadr.1
      have R4 := hidOf hadr.2.1
      have N4 := hidOf hadr.2.2
      have BA4 : Hid (BytA w4 a1 B4) := hidOf (by
        have h := W4.out
        rw [← HL4.out] at h
        obtain ⟨a', c', e, hb, _⟩ := owns_bytA h
        simp only [Value.slice.injEq] at e
        rw [e.1]; exact hb)
      clear hadr hl
      go_upto_region 10 with (go_at_call 6; refine (refDecode_any w4 a1 len c1 B4 HL4.out HB4.out BA4.out (by omega)).mono ?_; rintro e w5 ⟨v5, T, k, f, rfl, hdec, hown, ho⟩; obtain ⟨a5, c5, rfl⟩ := own_form hown; have D5 := hidOf hdec; have W5 := hidOf hown; have P5 := hidOf ho; clear hdec hown ho)
      obtain ⟨q, hq⟩ : ∃ q, q = T.length := ⟨_, rfl⟩
      rw [← hq]
      have HTq := hidOf hq.symm
      have Hq8 := hidOf (dec_len HB4.out D5.out)
      have hq1 : q ≤ 1048576 := by have := Hq8.out; have := HL4.out; omega
      clear hq
      have AP : Hid (Ap2 w5 d a1 l) := hidOf (fun _ ad had => by
        have h1 := N4.out ad had
        refine ⟨by have := HS.out.ls.lt; omega, fun g m N L hD => ?_⟩
        rcases HS.out.ls with hn | ⟨g1, m1, N1, L1, hD1, hg1⟩
        · have h2 := hD.hp
          rw [(((P4.out.trans P5.out).block d (Array.getElem?_eq_some_iff.1 hn).1)).trans hn] at h2; simp at h2
        · rw [hD.uniq2 (hD1.out (P4.out.trans P5.out))]
          have := hD1.ltg
          omega)
      have CL : Hid (Calls Tryd.prog 7 #[.pointer (some ⟨d, 0, none⟩), .slice a1 len c1] w5 fun e w' => ∃ g m R, e = .returned (.slice (some ⟨g, 0, none⟩) len (2 * len + 70)) ∧ LeB w' d g m l.length (l ++ (lmsB l.length (l.length + 70) ++ R)) ∧ Chg (SL d g) w5 w' ∧ LP2 w5 d g ∧ d ≤ g ∧ ((∃ m N L, LeB w5 d g m N L) ∨ w5.heap.size ≤ g) ∧ (¬ l = [] → ∀ ad, a1 = some ad → ¬ SL d g ad.block)) := hidOf (by
        have h := lend_any2 w5 d d a1 c1 l (HS.out.ls.out (P4.out.trans P5.out)) (by have := HS.out.ls.lt; have := (P4.out.trans P5.out).size; omega) (rest_out R4.out P5.out) AP.out (by rw [HLL.out]; omega)
        rw [HLL.out] at h
        rw [HLL.out]
        exact h)
      go_upto_region 11 with (go_at_call 7; refine CL.out.mono ?_; rintro e w6 ⟨g, m, R, rfl, hb, hc, hlp, hg, hgo, hne⟩; have B6 := hidOf hb; have C6 := hidOf hc; have LP := hidOf hlp; have Hg := hidOf hg; have NE := hidOf hne; clear hb hc hlp hg hgo hne)
      have O6 : Hid (Out W w6) := hidOf (Chg.out C6.out (HS.out.out.trans (P4.out.trans P5.out)) (fun k hk => by have := HS.out.bW; have := Hg.out; rcases hk with e | e <;> omega))
      have CD : Hid (∀ wx, Out w6 wx → Calls Tryd.prog 8 #[.slice (some ⟨g, 0, none⟩) len (2 * len + 70)] wx fun e w' => ∃ a7 c7, e = .returned (.tuple #[.slice a7 q c7, .int .i64 k, .int .i64 f]) ∧ OwI wx.heap.size (.slice a7 q c7) T w' ∧ Out wx w') := hidOf (fun wx o => by
        have hb := B6.out.out o
        rw [Hl.out] at hb
        refine (decode_any wx (Ht.out.out (O6.out.trans o)) (some ⟨g, 0, none⟩) len (2 * len + 70) B4 HL4.out HB4.out (hb.bytA HB4.out) (by omega) (by omega) (dec_small B4 HB4.out (by rw [HL4.out]; omega))).mono ?_
        rintro e w' ⟨v, l', k', f', rfl, hd, hv, ho⟩
        obtain ⟨rfl, rfl, rfl⟩ := hd.one D5.out
        obtain ⟨a7, c7, rfl⟩ := own_form hv
        refine ⟨a7, c7, by rw [HTq.out], ?_, ho⟩
        rw [← HTq.out]; exact hv)
      go_upto_region 12 with (go_at_call 8; refine (CD.out w6 (Out.refl _)).mono ?_; rintro e w7 ⟨a7, c7, rfl, hown, ho⟩; have W7 := hidOf hown; have P7 := hidOf ho; clear hown ho)
      go_upto_region 13 with (go_at_call 8; refine (CD.out w7 P7.out).mono ?_; rintro e w8 ⟨a8, c8, rfl, hown, ho⟩; have W8 := hidOf hown; have P8 := hidOf ho; clear hown ho)
      have V8 : Hid (OwI 0 (.slice a5 q c5) T w8) := hidOf (by
        have h : OwI 0 (.slice a5 q c5) T w5 := by
          have h := W5.out
          rw [HTq.out] at h
          exact OwI.low (B := w4.heap.size) h (Nat.zero_le _)
        exact (h.lp2 LP.out C6.out).out (P7.out.trans P8.out))
      have G7 : Hid (OwI 0 (.slice a7 q c7) T w8) := hidOf ((W7.out.low (Nat.zero_le _)).out P8.out)
      have G8 : Hid (OwI 0 (.slice a8 q c8) T w8) := hidOf (W8.out.low (Nat.zero_le _))
      have B8 := hidOf (B6.out.out (P7.out.trans P8.out))
      have R8 : Hid (RestAt w8.heap.size w8 a1 l) := hidOf (rest_out (((rest_out R4.out P5.out).keep2 C6.out NE.out).wide C6.out.size) (P7.out.trans P8.out))
      have CS1 : Hid (∀ wx, Out w8 wx → Calls Tryd.prog 10 #[.slice a7 q c7, .slice a5 q c5] wx fun e w' => e = .returned (.bool true) ∧ Out wx w') := hidOf (fun wx o => sameQ2 wx a7 a5 q c7 c5 T HTq.out (G7.out.out o) (V8.out.out o) (by omega))
      have CS2 : Hid (∀ wx, Out w8 wx → Calls Tryd.prog 10 #[.slice a8 q c8, .slice a5 q c5] wx fun e w' => e = .returned (.bool true) ∧ Out wx w') := hidOf (fun wx o => sameQ2 wx a8 a5 q c8 c5 T HTq.out (G8.out.out o) (V8.out.out o) (by omega))
      have CB : Hid (∀ wx, Out w8 wx → Calls Tryd.prog 11 #[.pointer (some ⟨d, 0, none⟩), .slice a1 len c1] wx fun e w' => e = .returned (.bool true) ∧ (∃ L', LeB w' d g m l.length L') ∧ Chg (SL d g) wx w') := hidOf (fun wx o => by
        have h := back_any wx d g m l R (B8.out.out o) _ a1 c1 (rest_out R8.out o) (by rw [HLL.out]; omega)
        rw [HLL.out] at h
        rw [HLL.out]
        exact h)
      go_upto_region 15 with (first | (go_at_call 9; refine (num3 _ _).mono ?_; rintro e w9 ⟨rfl, rfl⟩) | ((fail_if_success (have hh := P9)); go_at_call 10; refine (CS1.out w8 (Out.refl _)).mono ?_; rintro e w9 ⟨rfl, ho⟩; have P9 := hidOf ho; clear ho) | (go_at_call 10; refine (CS2.out w9 P9.out).mono ?_; rintro e w10 ⟨rfl, ho⟩; have P10 := hidOf (Out.trans P9.out ho); clear ho) | (go_at_call 11; refine (CB.out w10 P10.out).mono ?_; rintro e w11 ⟨rfl, ⟨L11, hb11⟩, hc11⟩; have B11 := hidOf hb11; have C11 := hidOf hc11; clear hb11 hc11))
      have KEY : Hid (Calls Tryd.prog 12 #[.pointer (some ⟨d + 1, 0, none⟩), .slice a7 q c7] w11 fun e w' => e = .returned (.bool true) ∧ Calls Tryd.prog 12 #[.pointer (some ⟨d + 1, 0, none⟩), .slice a8 q c8] w' fun e w'' => e = .returned (.bool true) ∧ ∃ mk2, mk ≤ mk2 ∧ mk2 ≤ mk + 8000000000 ∧ Rcd W w'' d (d + 1) d mk2 (tt + q + q) (12 * t + 12)) := hidOf (by
        obtain ⟨r, L, hq, hf, hk⟩ := HS.out.qi
        have q6 : QI d w6 (d + 1) mk tt r L := (hq.out (P4.out.trans P5.out)).away C6.out LP.out.kind
        have B10 := B8.out.out P10.out
        have q11 : QI d w11 (d + 1) mk tt r L := ((q6.out (P7.out.trans P8.out)).out P10.out).away C11.out B10.lp2.kind
        have g7 : OwI 0 (.slice a7 q c7) T w11 := (G7.out.out P10.out).lp2 B10.lp2 C11.out
        have g8 : OwI 0 (.slice a8 q c8) T w11 := (G8.out.out P10.out).lp2 B10.lp2 C11.out
        have n7 : New5 d L (.slice a7 q c7) := q6.newer (Nat.le_refl _) (fun b hb => (World.ownsRow.lt W7.out b hb).1)
        have n8 : New5 d L (.slice a8 q c8) := q6.newer (Nat.le_refl _) (fun b hb => Nat.le_trans P7.out.size (World.ownsRow.lt W8.out b hb).1)
        have hbW := HS.out.bW
        have hg := Hg.out
        have o11 : Out W w11 := Chg.out C11.out ((O6.out.trans (P7.out.trans P8.out)).trans P10.out) (fun k hk => by rcases hk with e | e <;> omega)
        exact own_two W w11 d (d + 1) d mk tt (12 * t) g m _ L11 r L q11 hf hk (by omega) m0 (by omega) t0 (by omega) B11.out hg (Nat.le_refl _) hbW o11 q a7 a8 c7 c8 T HTq.out (by omega) g7 g8 n7 n8 (fun b hb hs => by
          have h1 := (World.ownsRow.lt W8.out b hb).1
          have h2 := (World.ownsRow.lt W7.out b hs).2
          omega))
      go_wp2_with (first | ((fail_if_success (have hh := K2)); go_at_call 12; refine KEY.out.mono ?_; rintro e w12 ⟨rfl, hk2⟩; have K2 := hidOf hk2; clear hk2) | (go_at_call 12; refine K2.out.mono ?_; rintro e w13 ⟨rfl, mk2, hm1, hm2, hs⟩; have S13 := hidOf hs; clear hs))
      go_roundw
      case rel => exact ⟨t + 1, mk2, tt + q + q, by simp, by omega, by omega, by omega, by omega, by omega, S13⟩
      case measure => simp [intOf]; omega
    · have hltI : ¬ (t : Int) ≤ 3 := by omega
      go_wp2
      go_ret
      exact ⟨rfl, HS.out.out⟩
end Go.Proofs.YtgephenkbbelcaaDoor
