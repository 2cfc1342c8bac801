import Derived.Test.YteobjcghfdpfbaaDoorVc
namespace Go.Proofs.YteobjcghfdpfbaaDoor
open Go.RowKit
set_option linter.unusedVariables false
set_option linter.unusedSimpArgs false
theorem bytA_of {w : World} {B N c : Nat} {a : Option Addr} {Bs : List Int} (h : w.ownsRow B 5 1 (.slice a N c) N (bV Bs)) (hN : Bs.length = N) : BytA w a Bs := by
  subst hN
  obtain ⟨a', c', e, hb, _⟩ := owns_bytA h
  injection e with e1
  subst e1
  exact hb
set_option maxRecDepth 20000 in
set_option maxHeartbeats 2000000 in
theorem codeEncodes_walk (w : World) (ht : Tabs w) (a : Option Addr) (n cap : Nat) (l : List Ins) (hn : l.length = n) (hi : InsA w a l) (hm : n ≤ 3518437208780) (hI : ∀ x ∈ l, -9223372036854775808 ≤ x.i ∧ x.i ≤ 9223372036854775807) : Calls Tryd.prog 3 #[.slice a n cap] w fun e w' => e = .returned (.bool true) ∧ Out w w' := by
  have Ht := hidOf ht
  have Hn := hidOf hn
  have Hi := hidOf hi
  have HI := hidOf hI
  clear hn hi hI ht
  go_enter Tryd.func3, Tryd.ntmps3
  go_wp2_with (first | (go_at_call 8; refine (awake_any _ Ht.out).mono ?_; rintro e w1 ⟨rfl, ho1⟩; have Ho1 := hidOf ho1; have HBk := hidOf (Books.new w1); have Ho1b := hidOf (ho1.alloc (.cells #[.int .i64 0, .int .i64 0, .bool false, .slice none 0 0, .slice none 0 0, .slice none 0 0, .slice none 0 0, .slice none 0 0] 27)); clear ho1) | (go_at_call 9; refine (lend_any _ a n cap l Hn.out (Hi.out.out Ho1b.out) hm).mono ?_; rintro e w2 ⟨g, rfl, hL, ho2⟩; have HL := hidOf hL; have Ho2 := hidOf (Out.trans Ho1b.out ho2); have HB2 := hidOf (HBk.out.out ho2); clear hL ho2))
  have HBw : Hid (w.heap.size ≤ w1.heap.size) := hidOf Ho1.out.size
  have HobS : Hid (w.heap.size ≤ (w1.alloc (.cells #[.int .i64 0, .int .i64 0, .bool false, .slice none 0 0, .slice none 0 0, .slice none 0 0, .slice none 0 0, .slice none 0 0] 27)).heap.size) := hidOf Ho1b.out.size
  have HB0 : Hid (Books w1.heap.size w2 w1.heap.size (2 * ((0 : Nat) : Int)) [] 0) := HB2.out
  generalize w1.alloc (.cells #[.int .i64 0, .int .i64 0, .bool false, .slice none 0 0, .slice none 0 0, .slice none 0 0, .slice none 0 0, .slice none 0 0] 27) = wb at *
  clear HBk HB2 Ho1 Ho1b
  go_loopw [5] (fun i wr => ∃ (t : Nat) (l' : List Ins) (F : List (Value × List Int)) (m : Nat), t ≤ 4 ∧ i = .int .i64 t ∧ Hid (Lent wb wr g n l') ∧ Hid (Books w1.heap.size wr w1.heap.size (2 * (t : Int)) F m) ∧ Hid (F.length = m) ∧ Hid (Out w wr)) (fun i _ => 4 - (intOf i).toNat)
  case atStart => exact ⟨0, l, [], 0, by omega, rfl, HL, HB0, rfl, Ho2⟩
  case round =>
    obtain ⟨t, l', F, m, ht, rfl, HLr, HBr, HFm, Hor⟩ := hrel
    by_cases htl : t ≤ 3
    · have hle : (t : Int) ≤ 3 := by omega
      go_upto_region 9 with (go_at_call 10; refine (turned_any _ a n cap l Hn.out (Hi.out.out Hor.out) hm t).mono ?_; rintro e w3 ⟨a3, c3, rfl, hA3, hnew3, ho3⟩; have HA3 := hidOf hA3; have Hnew3 := hidOf hnew3; clear hnew3; have Ho3 := hidOf ho3; clear hA3 ho3)
      obtain ⟨L, HLt⟩ : ∃ L, Hid (turnedL l t = L) := ⟨_, hidOf rfl⟩
      have Htl : Hid (L.length = n) := by show _ = _; rw [← HLt.out, turnedL_len, Hn.out]
      have HIL : Hid (∀ x ∈ L, -9223372036854775808 ≤ x.i ∧ x.i ≤ 9223372036854775807) := by rw [← HLt.out]; exact turned_rng HI.out t
      rw [HLt.out] at HA3
      have HL3 := hidOf (HLr.out.out Ho3.out)
      obtain ⟨w4, hcp, hR4, hC4⟩ := run_copy_ins w3 3 g n (2 * n + 70) a3 n c3 _ L [] HL3.out.row Htl.out HA3.out (Nat.le_refl _) (by have := HL3.out.len_; simp; omega)
      have HL4 : Hid (Lent wb w4 g n L) := by
        refine ⟨?_, Htl.out, HL3.out.new⟩
        rw [List.drop_left' HL3.out.len_] at hR4
        exact hR4
      have HA4 : Hid (InsA w4 a3 L) := HA3.out.chg hC4 (fun ad had hk => by have := Hnew3.out ad had; have := HLr.out.row.lt; omega)
      have HB4 : Hid (Books w1.heap.size w4 w1.heap.size (2 * (t : Int)) F m) := (HBr.out.out Ho3.out).away hC4 (fun k hk => by subst hk; exact rowI_apart HL3.out.row)
      have Hwg : Hid (w.heap.size ≤ g) := Nat.le_trans HobS.out HL3.out.new
      have Ho4 : Hid (Out w w4) := Chg.out hC4 (Out.trans Hor.out Ho3.out) (fun k hk => by have := Hwg.out; omega)
      obtain ⟨Bs, kd, fd, hd⟩ := encD_ex L
      obtain ⟨N, HN⟩ : ∃ N, Hid (Bs.length = N) := ⟨_, hidOf rfl⟩
      have HN16 : Hid (N ≤ 60000000000000) := by show _ ≤ _; have h := encD_len hd; rw [HN.out, Htl.out] at h; omega
      have Hd := hidOf hd
      clear hR4 hC4 hd HL3 HLr HBr HA3 Ho3
      go_upto_region 13 with (first | (go_at_call 11; refine (refEncode_det _ a3 n c3 L Htl.out HA4.out hm HIL.out Bs kd fd Hd.out N HN.out).mono ?_; rintro e w5 ⟨a5, c5, rfl, hown5, ho5⟩; have Hown5 := hidOf hown5; have Ho5 := hidOf ho5; have Hw5 := hidOf (Out.trans Ho4.out ho5); have HB5 := hidOf (HB4.out.out ho5); clear hown5 ho5) | (go_at_call 12; refine (encode_det _ (Ht.out.out Hw6.out) (some ⟨g, 0, none⟩) n (2 * n + 70) L Htl.out (HL4.out.insA.out (Out.trans Ho5.out Ho6.out)) hm HIL.out Bs kd fd Hd.out N HN.out).mono ?_; rintro e w7 ⟨a7, c7, rfl, hown7, ho7⟩; have Hown7 := hidOf hown7; have Ho7 := hidOf ho7; have Hw7 := hidOf (Out.trans Hw6.out ho7); have HB7 := hidOf (HB6.out.take ho7 HN.out hown7 HN16.out); clear hown7 ho7) | (go_at_call 12; refine (encode_det _ (Ht.out.out Hw5.out) (some ⟨g, 0, none⟩) n (2 * n + 70) L Htl.out (HL4.out.insA.out Ho5.out) hm HIL.out Bs kd fd Hd.out N HN.out).mono ?_; rintro e w6 ⟨a6, c6, rfl, hown6, ho6⟩; have Hown6 := hidOf hown6; have Ho6 := hidOf ho6; have Hw6 := hidOf (Out.trans Hw5.out ho6); have HB6 := hidOf (HB5.out.take ho6 HN.out hown6 HN16.out); clear hown6 ho6))
      have HY5 := hidOf ((bytA_of Hown5.out HN.out).out (Out.trans Ho6.out Ho7.out))
      have HY6 := hidOf ((bytA_of Hown6.out HN.out).out Ho7.out)
      have HY7 := hidOf (bytA_of Hown7.out HN.out)
      have HL7 := hidOf (HL4.out.out (Out.trans Ho5.out (Out.trans Ho6.out Ho7.out)))
      have HA7 := hidOf (HA4.out.out (Out.trans Ho5.out (Out.trans Ho6.out Ho7.out)))
      clear hcp Hown5 Hown6 Hown7 Ho5 Ho6 Ho7 Hw5 Hw6 HB4 HB5 HB6 HL4 HA4 Ho4
      have Hx1 : Hid ((F ++ [(Value.slice a6 N c6, Bs)] ++ [(Value.slice a7 N c7, Bs)])[m]? = some (.slice a6 N c6, Bs)) := by
        show _ = _
        rw [List.append_assoc, List.getElem?_append_right (by have := HFm.out; omega), HFm.out, Nat.sub_self]; rfl
      have Hx2 : Hid ((F ++ [(Value.slice a6 N c6, Bs)] ++ [(Value.slice a7 N c7, Bs)])[m + 1]? = some (.slice a7 N c7, Bs)) := by
        show _ = _
        rw [List.append_assoc, List.getElem?_append_right (by have := HFm.out; omega), HFm.out, Nat.add_sub_cancel_left]; rfl
      have Hlen2 : Hid ((F ++ [(Value.slice a6 N c6, Bs)] ++ [(Value.slice a7 N c7, Bs)]).length = m + 1 + 1) := by
        show _ = _
        simp [HFm.out]
      go_upto_region 15 with (first | (go_at_call 13; refine (num_any _ _).mono ?_; rintro e wx ⟨rfl, rfl⟩) | (go_at_call 14; refine (sameB _ a6 a5 N c6 c5 Bs HN.out HY6.out HY5.out).mono ?_; rintro e wx ⟨rfl, rfl⟩) | (go_at_call 14; refine (sameB _ a7 a5 N c7 c5 Bs HN.out HY7.out HY5.out).mono ?_; rintro e wx ⟨rfl, rfl⟩) | (go_at_call 15; refine (back_any wb _ g n a3 c3 L HL7.out HA7.out hm).mono ?_; rintro e w8 ⟨rfl, ho8⟩; have Ho8 := hidOf (Out.trans Hw7.out ho8); have HL8 := hidOf (HL7.out.out ho8); have HB8 := hidOf (HB7.out.out ho8); clear ho8))
      clear HY5 HY6 HY7 HL7 HA7 HB7
      go_upto_region 16 with (go_at_call 16; refine (HB8.out.own Hx1.out HN.out Hlen2.out _ (by omega) (by omega) (by omega)).mono ?_; rintro e w9 ⟨⟨r9, rfl⟩, F9, m9, hb9, hl9, hx9, hc9⟩; have HB9 := hidOf hb9; have Hl9 := hidOf hl9; have Hx9 := hidOf (hx9 _ Hx2.out); have Hc9 := hidOf hc9; clear hb9 hl9 hx9 hc9)
      go_upto_region 17 with (go_at_call 16; refine (HB9.out.own (r := 0) Hx9.out HN.out (by have := Hl9.out; omega) _ (by omega) (by omega) (by omega)).mono ?_; rintro e w10 ⟨⟨r10, rfl⟩, F10, m10, hb10, hl10, hx10, hc10⟩; have HB10 := hidOf hb10; have Hl10 := hidOf hl10; have Hc10 := hidOf hc10; clear hb10 hl10 hx10 hc10)
      have HL9 : Hid (Lent wb w9 g n L) := ⟨HL8.out.row.chg Hc9.out (rowI_apart HL8.out.row), HL8.out.len_, HL8.out.new⟩
      have HL10 : Hid (Lent wb w10 g n L) := ⟨HL9.out.row.chg Hc10.out (rowI_apart HL9.out.row), HL9.out.len_, HL9.out.new⟩
      have Ho9 : Hid (Out w w9) := Chg.out Hc9.out Ho8.out (fun k hk => Nat.le_trans HBw.out hk.1)
      have Ho10 : Hid (Out w w10) := Chg.out Hc10.out Ho9.out (fun k hk => Nat.le_trans HBw.out hk.1)
      go_wp2_with (go_at_call 17; refine (HB10.out.holds (by omega)).mono ?_; rintro e w11 ⟨rfl, q11, rfl⟩)
      go_roundw
      case rel =>
        refine ⟨t + 1, L, F10, m10, by omega, by simp, hidOf (HL10.out.out ((Out.refl w10).drewN q11)), ?_, hidOf (by have := Hl10.out; omega), hidOf (Ho10.out.drewN q11)⟩
        have h := HB10.out.out ((Out.refl w10).drewN q11)
        rw [show (2 * (t : Int) + 1 + 1) = 2 * ((t + 1 : Nat) : Int) by omega] at h
        exact h
      case measure => simp [intOf]; omega
    · have hle : ¬ (t : Int) ≤ 3 := by omega
      go_wp2
      go_ret
      exact ⟨rfl, Hor.out⟩
end Go.Proofs.YteobjcghfdpfbaaDoor
