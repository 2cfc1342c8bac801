import Derived.Test.YtlfcjbeldnkkoaaGb51
import Derived.Test.YtlfcjbeldnkkoaaGb23
namespace Go.Proofs.Ytlfcjbeldnkkoaa
open Go.RowKit
set_option linter.unusedVariables false
set_option linter.unusedSimpArgs false
section
variable {W w w' : World} {pb B : Nat} {cb c1 : Int} {A Z E : List (Value × List Int)} {dv : Value} {K : List Ln}
/-- lists of others that nobody looks at any more -/
theorem Rt.drop (h : Rt W w pb B cb c1 A Z E dv K) : Rt W w pb B cb c1 A [] (Z ++ E) dv K := ⟨h.bq, h.own, fun i x g C hx hb => List.mem_append.2 (.inr (h.buf i x g C hx hb)), h.dis, h.bW, h.out⟩
end
section
variable {W w : World} {pt pb B : Nat} {cb c1 : Int} {A Z E : List (Value × List Int)}
/-- the one lender lends -/
theorem Rt.lend0 {x : Ln} (h : Rt W w pb B cb c1 A Z E (.slice (some ⟨pt, 0, none⟩) 1 1) [x]) (a : Option Addr) (cap : Nat) (l : List UInt8) (hr : RestAt W.heap.size W a l) (hll : l.length ≤ 10000000000000) :
    Calls Try.prog 12 #[.pointer (some ⟨pt, 0, none⟩), .slice a l.length cap] w fun e w' => ∃ g R E', e = .returned (.slice (some ⟨g, 0, none⟩) l.length (2 * l.length + 70)) ∧ Rt W w' pb B cb c1 A Z E' (.slice (some ⟨pt, 0, none⟩) 1 1) [⟨some (g, l ++ (lmsB l.length (l.length + 70) ++ R)), l.length⟩] ∧ Chg (KZ w) w w' := by
  obtain ⟨p, c, hdv, _, hC⟩ := h.lend1 (i := 0) rfl a cap l hr hll
  simp only [Value.slice.injEq, Option.some.injEq, Addr.mk.injEq, and_true] at hdv
  obtain ⟨rfl, _⟩ := hdv
  rw [Nat.zero_mul] at hC
  exact hC
theorem Rt.back0 {g : Nat} {l R : List UInt8} (h : Rt W w pb B cb c1 A Z E (.slice (some ⟨pt, 0, none⟩) 1 1) [⟨some (g, l ++ (lmsB l.length (l.length + 70) ++ R)), l.length⟩]) (a : Option Addr) (cap : Nat) (hr : RestAt W.heap.size W a l) (hll : l.length ≤ 10000000000000) :
    Calls Try.prog 13 #[.pointer (some ⟨pt, 0, none⟩), .slice a l.length cap] w fun e w' => e = .returned (.bool true) ∧ (∃ x E', Rt W w' pb B cb c1 A Z E' (.slice (some ⟨pt, 0, none⟩) 1 1) [x]) ∧ Chg (KZ w) w w' := by
  obtain ⟨p, c, hdv, _, hC⟩ := h.back1 (i := 0) rfl a cap hr hll
  simp only [Value.slice.injEq, Option.some.injEq, Addr.mk.injEq, and_true] at hdv
  obtain ⟨rfl, _⟩ := hdv
  rw [Nat.zero_mul] at hC
  refine hC.mono ?_
  rintro e w' ⟨he, ⟨C', E', h1⟩, h2⟩
  exact ⟨he, ⟨_, E', h1⟩, h2⟩
theorem Rt.lent {g : Nat} {l R : List UInt8} {n : Int} (h : Rt W w pb B cb c1 A Z E (.slice (some ⟨pt, 0, none⟩) 1 1) [⟨some (g, l ++ R), n⟩]) : RestAt w.heap.size w (some ⟨g, 0, none⟩) l := by
  obtain ⟨h1, _⟩ := h.buf_at (i := 0) rfl rfl
  refine .inr ⟨g, 0, (Array.getElem?_eq_some_iff.1 h1).1, rfl, fun k x hx => ?_⟩
  have hk := (List.getElem?_eq_some_iff.1 hx).1
  have hx2 : (l ++ R)[k]? = some x := by rw [List.getElem?_append_left hk]; exact hx
  rw [Nat.zero_add, cell_atL h1, List.getElem?_toArray]
  unfold bCells
  rw [List.getElem?_map, hx2]
  rfl
end
/-- amid ElfReads, between two texts -/
def Rz (W w : World) (pt ps pb B : Nat) (cb c1 ct tt : Int) : Prop := ∃ A E x r L, Rt W w pb B cb c1 A [] E (.slice (some ⟨pt, 0, none⟩) 1 1) [x] ∧ ZI B w ps ct tt r L ∧ (L 0).length ≤ 2 ∧ ((L 2).length : Int) ≤ 12 * ct
theorem same9_any (w : World) (a b : Option Addr) (n m c d : Nat) (L M : List SV) (hn : L.length = n) (hm : M.length = m) (hL : OwZ 0 (.slice a n c) (L.map SV.fs) w) (hM : OwZ 0 (.slice b m d) (M.map SV.fs) w) (dL : ∀ x ∈ L, DR w x) (dM : ∀ x ∈ M, DR w x) (he : secs L = secs M) (hl : n ≤ 1000) : Calls Try.prog 14 #[.slice a n c, .slice b m d] w fun e w' => e = .returned (.bool true) ∧ Out w w' := by
  have h1 := OwV.at (ow_vz hL)
  have h2 := OwV.at (ow_vz hM)
  have hlen : M.length = L.length := by rw [← secs_len M, ← he, secs_len]
  subst hn hm
  have := sameSections_any w a b c d L M h1.1 h2.1 dL dM h1.2.1 h2.2.1 (by omega) (by omega)
  rw [(sameL_iff _ _).2 he] at this
  exact this
set_option maxRecDepth 20000 in
set_option maxHeartbeats 4000000 in
theorem readL9_any (W w : World) (pt ps pb B : Nat) (cb c1 ct tt : Int) (h : Rz W w pt ps pb B cb c1 ct tt) (a : Option Addr) (cap : Nat) (l : List UInt8) (hr : RestAt W.heap.size W a l) (hcap : l.length ≤ cap) (hl : l.length ≤ 10000000) (cb1 : cb ≤ 9000000000) (c11 : c1 ≤ 700000000000000) (ct0 : 0 ≤ ct) (ct1 : ct ≤ 10000000000) (t0 : 0 ≤ tt) (t1 : tt ≤ 700000000000000) :
    Calls Try.prog 5 #[.slice a l.length cap, .pointer (some ⟨pt, 0, none⟩), .pointer (some ⟨ps, 0, none⟩), .pointer (some ⟨pb, 0, none⟩)] w fun e w' => e = .returned (.bool true) ∧ ∃ cb' c1' tt', Rz W w' pt ps pb B cb' c1' (ct + 1 + 1) tt' ∧ cb' ≤ cb + 32 ∧ c1' ≤ c1 + 320000000 ∧ 0 ≤ tt' ∧ tt' ≤ tt + 32 := by
  obtain ⟨A, E, x, r, L, hR, hZ, hF, hK⟩ := h
  have HR := hidOf hR
  have HZ := hidOf hZ
  have HF := hidOf hF
  have HK := hidOf hK
  have hsm := rdEl_small l
  have HA := hidOf hr
  have CR := hidOf (refRead9_in w W.heap.size a cap l (hr.chg (Chg.of_out (S := fun _ => False) hR.out) (fun _ _ h => h) (Nat.le_refl _)) hR.out.size hcap (by omega))
  have CE : Hid (∀ wx a cap, RestAt wx.heap.size wx a l → l.length ≤ cap → Calls Try.prog 6 #[.slice a l.length cap] wx fun e w' => RdF wx l e w') := hidOf (fun wx a cap h1 h2 => read9_in wx wx.heap.size a cap l h1 (Nat.le_refl _) h2 (by omega))
  unfold RdF at CR CE
  generalize (rdEl l).2.1 = PL at *
  generalize (rdEl l).2.2 = EC at *
  generalize (rdEl l).1.getD [] = SL0 at *
  obtain ⟨n, hn⟩ : ∃ n, n = l.length := ⟨_, rfl⟩
  have Hn := hidOf hn
  have HSm := hidOf hsm
  have CL : Hid (∀ wx cb c1 A Z E x, Rt W wx pb B cb c1 A Z E (.slice (some ⟨pt, 0, none⟩) 1 1) [x] → Calls Try.prog 12 #[.pointer (some ⟨pt, 0, none⟩), .slice a n cap] wx fun e w' => ∃ g R E', e = .returned (.slice (some ⟨g, 0, none⟩) n (2 * n + 70)) ∧ Rt W w' pb B cb c1 A Z E' (.slice (some ⟨pt, 0, none⟩) 1 1) [⟨some (g, l ++ (lmsB l.length (l.length + 70) ++ R)), l.length⟩] ∧ Chg (KZ wx) wx w') := hidOf (fun wx cb c1 A Z E x h => by rw [hn]; exact h.lend0 a cap l hr (by omega))
  have CB : Hid (∀ wx cb c1 A Z E g R, Rt W wx pb B cb c1 A Z E (.slice (some ⟨pt, 0, none⟩) 1 1) [⟨some (g, l ++ (lmsB l.length (l.length + 70) ++ R)), l.length⟩] → Calls Try.prog 13 #[.pointer (some ⟨pt, 0, none⟩), .slice a n cap] wx fun e w' => e = .returned (.bool true) ∧ (∃ x E', Rt W w' pb B cb c1 A Z E' (.slice (some ⟨pt, 0, none⟩) 1 1) [x]) ∧ Chg (KZ wx) wx w') := hidOf (fun wx cb c1 A Z E g R h => by rw [hn]; exact h.back0 a cap hr (by omega))
  rw [← hn] at CR CE hl hcap ⊢
  clear hR hZ hF hK hr hsm hn HA
  go_enter Try.func5, Try.ntmps5
  go_upto_region 2 with (go_at_call 11; refine CR.out.mono ?_; rintro e w1 ⟨a1, d1, L1, rfl, hS, hs⟩; have S1 := hidOf hS; have Q1 := hidOf hs; clear hS hs)
  obtain ⟨n1, hn1⟩ : ∃ n1, L1.length = n1 := ⟨_, rfl⟩
  rw [hn1] at S1 ⊢
  have N1 := hidOf hn1
  have h1 : n1 ≤ 16 := by rw [← hn1, ← secs_len, Q1.out]; exact HSm.out.1
  have hD : ∀ M : List SV, secs M = SL0 → ∀ y ∈ M, y.s.d.length ≤ 10000000 := fun M hM y hy => by
    have := HSm.out.2 y.s (by rw [← hM]; exact List.mem_map_of_mem hy)
    have := Hn.out
    omega
  have HD := hidOf hD
  clear hn1 hD CR
  have R1 := hidOf (HR.out.takeZs S1.out (fun y hy => by have := HD.out _ Q1.out y hy; omega))
  have Z1 := hidOf (HZ.out.out S1.out.out)
  have W1 : Hid (OwZ 0 (.slice a1 n1 d1) (L1.map SV.fs) w1) := hidOf (OwZ.low (ow_zv S1.out.own) (Nat.zero_le _))
  have B1 : Hid (∀ k, (Value.slice a1 n1 d1).ownBlock = some k → w.heap.size ≤ k ∧ k < w1.heap.size) := hidOf (fun k hk => World.ownsRow.lt S1.out.own k hk)
  have Y1 : Hid (∀ k, ZSZ ps r (L 0) k → k < w.heap.size) := hidOf (fun k hk => (HZ.out.blk hk).1)
  have T1 : Hid (w.heap.size ≤ w1.heap.size) := hidOf S1.out.out.size
  have C2 := hidOf (CL.out w1 _ _ _ _ _ _ R1.out)
  clear HR HZ S1
  go_upto_region 3 with (first | (go_at_call 12; refine C2.out.mono ?_; rintro e w2 ⟨g2, R2, E2, rfl, hR2, hc2⟩; have RR2 := hidOf hR2; have K2 := hidOf hc2; clear hR2 hc2) | (go_at_call 6; refine (CE.out w2 _ _ RR2.out.lent (by omega)).mono ?_; rintro e w3 ⟨a3, d3, L3, rfl, hS, hs⟩; have S3 := hidOf hS; have Q3 := hidOf hs; clear hS hs))
  obtain ⟨n3, hn3⟩ : ∃ n3, L3.length = n3 := ⟨_, rfl⟩
  rw [hn3] at S3 ⊢
  have N3 := hidOf hn3
  have h3 : n3 ≤ 16 := by rw [← hn3, ← secs_len, Q3.out]; exact HSm.out.1
  clear hn3 C2
  have R3 := hidOf (RR2.out.takeZs S3.out (fun y hy => by have := HD.out _ Q3.out y hy; omega))
  have K3 := hidOf (chg_kz K2.out (out_kz S3.out.out))
  have Z3 := hidOf (Z1.out.kz K3.out)
  have W3 := hidOf (W1.out.kz K3.out)
  have V3 : Hid (OwZ 0 (.slice a3 n3 d3) (L3.map SV.fs) w3) := hidOf (OwZ.low (ow_zv S3.out.own) (Nat.zero_le _))
  have T2 : Hid (w1.heap.size ≤ w2.heap.size) := hidOf K2.out.size
  have B3 : Hid (∀ k, (Value.slice a3 n3 d3).ownBlock = some k → w2.heap.size ≤ k ∧ k < w3.heap.size) := hidOf (fun k hk => World.ownsRow.lt S3.out.own k hk)
  have Y3 : Hid (New8 B L (.slice a3 n3 d3)) := hidOf ((Z1.out.kz K2.out).newer (fun k hk => (B3.out k hk).1))
  have C4 := hidOf (CB.out w3 _ _ _ _ _ _ _ R3.out)
  have CS4 : Hid (∀ wx A E x, Rt W wx pb B cb c1 A (zs L3 ++ (zs L1 ++ [])) E (.slice (some ⟨pt, 0, none⟩) 1 1) [x] → Chg (KZ w3) w3 wx → Calls Try.prog 14 #[.slice a3 n3 d3, .slice a1 n1 d1] wx fun e w' => e = .returned (.bool true) ∧ Out wx w') := hidOf (fun wx A E x hR hc => same9_any wx a3 a1 n3 n1 d3 d1 L3 L1 N3.out N1.out (V3.out.kz hc) (W3.out.kz hc) (fun y hy => hR.dr (List.mem_append.2 (.inl (zs_mem hy)))) (fun y hy => hR.dr (List.mem_append.2 (.inr (List.mem_append.2 (.inl (zs_mem hy)))))) (by rw [Q1.out, Q3.out]) (by omega))
  clear S3 RR2 K2 R1 Z1 W1
  go_upto_region 5 with (first | (go_at_call 13; refine C4.out.mono ?_; rintro e w4 ⟨rfl, ⟨x4, E4, hR4⟩, hc4⟩; have R4 := hidOf hR4; have K4 := hidOf hc4; clear hR4 hc4) | (go_at_call 7; refine (num_any _ _).mono ?_; rintro e w8 ⟨rfl, hw⟩; subst hw) | (go_at_call 14; refine (CS4.out w4 _ _ _ R4.out K4.out).mono ?_; rintro e w5 ⟨rfl, ho⟩; have O5 := hidOf ho; clear ho))
  have R5 := hidOf (R4.out.more O5.out)
  have K5 := hidOf (chg_kz K4.out (out_kz O5.out))
  have Z5 := hidOf (Z3.out.kz K5.out)
  have W5 := hidOf (W3.out.kz K5.out)
  have V5 := hidOf (V3.out.kz K5.out)
  have CO5 := hidOf (owned9_any W w5 pb ps B cb c1 ct tt _ _ _ _ _ r L a3 n3 d3 L3 N3.out R5.out Z5.out HF.out (by have := HK.out; omega) ct0 (by omega) t0 (by omega) (ow_vz V5.out) Y3.out h3 (HD.out _ Q3.out) (by omega) (by omega))
  clear C4 CS4 R3 Z3 W3 V3 K4 R4 O5 Y3
  go_upto_region 6 with (go_at_call 15; refine CO5.out.mono ?_; rintro e w6 ⟨⟨q6, rfl⟩, A6, b6, r6, L6, hR6, hb6, hZ6, hl6, hk6, hc6⟩; have R6 := hidOf hR6; have Z6 := hidOf hZ6; have LL6 := hidOf (And.intro hl6 hk6); have K6 := hidOf hc6; have Hb6 := hidOf hb6; clear hR6 hZ6 hc6 hl6 hk6 hb6)
  have W6 : Hid (OwZ 0 (.slice a1 n1 d1) (L1.map SV.fs) w6) := hidOf (W5.out.chg K6.out (fun k hk hs => by
    rcases hs with e | e | e
    · exact own_kz W5.out hk e
    · have := Y1.out k e; have := (B1.out k hk).1; omega
    · have := (B3.out k e).1; have := (B1.out k hk).2; have := T2.out; omega))
  have C7 := hidOf (CL.out w6 _ _ _ _ _ _ R6.out)
  clear CO5 Z5 W5 V5 R5 K5 Y1 B3
  go_upto_region 7 with (first | (go_at_call 12; refine C7.out.mono ?_; rintro e w7 ⟨g7, R7, E7, rfl, hR7, hc7⟩; have RR7 := hidOf hR7; have K7 := hidOf hc7; clear hR7 hc7) | (go_at_call 6; refine (CE.out w7 _ _ RR7.out.lent (by omega)).mono ?_; rintro e w8 ⟨a8, d8, L8, rfl, hS, hs⟩; have S8 := hidOf hS; have Q8 := hidOf hs; clear hS hs))
  obtain ⟨n8, hn8⟩ : ∃ n8, L8.length = n8 := ⟨_, rfl⟩
  rw [hn8] at S8 ⊢
  have N8 := hidOf hn8
  have h8 : n8 ≤ 16 := by rw [← hn8, ← secs_len, Q8.out]; exact HSm.out.1
  clear hn8 C7
  have R8 := hidOf (RR7.out.takeZs S8.out (fun y hy => by have := HD.out _ Q8.out y hy; omega))
  have K8 := hidOf (chg_kz K7.out (out_kz S8.out.out))
  have Z8 := hidOf (Z6.out.kz K8.out)
  have W8 := hidOf (W6.out.kz K8.out)
  have V8 : Hid (OwZ 0 (.slice a8 n8 d8) (L8.map SV.fs) w8) := hidOf (OwZ.low (ow_zv S8.out.own) (Nat.zero_le _))
  have Y8 : Hid (New8 B L6 (.slice a8 n8 d8)) := hidOf ((Z6.out.kz K7.out).newer (fun k hk => (World.ownsRow.lt S8.out.own k hk).1))
  have C9 := hidOf (CB.out w8 _ _ _ _ _ _ _ R8.out)
  have CS9 : Hid (∀ wx A E x, Rt W wx pb B (cb + n3) b6 A (zs L8 ++ (zs L1 ++ [])) E (.slice (some ⟨pt, 0, none⟩) 1 1) [x] → Chg (KZ w8) w8 wx → Calls Try.prog 14 #[.slice a8 n8 d8, .slice a1 n1 d1] wx fun e w' => e = .returned (.bool true) ∧ Out wx w') := hidOf (fun wx A E x hR hc => same9_any wx a8 a1 n8 n1 d8 d1 L8 L1 N8.out N1.out (V8.out.kz hc) (W8.out.kz hc) (fun y hy => hR.dr (List.mem_append.2 (.inl (zs_mem hy)))) (fun y hy => hR.dr (List.mem_append.2 (.inr (List.mem_append.2 (.inl (zs_mem hy)))))) (by rw [Q1.out, Q8.out]) (by omega))
  clear S8 RR7 K7 R6 Z6 W6
  go_upto_region 8 with (first | (go_at_call 13; refine C9.out.mono ?_; rintro e w9 ⟨rfl, ⟨x9, E9, hR9⟩, hc9⟩; have R9 := hidOf hR9; have K9 := hidOf hc9; clear hR9 hc9) | (go_at_call 7; refine (num_any _ _).mono ?_; rintro e w12 ⟨rfl, hw⟩; subst hw) | (go_at_call 14; refine (CS9.out w9 _ _ _ R9.out K9.out).mono ?_; rintro e w10 ⟨rfl, ho⟩; have O10 := hidOf ho; clear ho))
  have R10 := hidOf (R9.out.more O10.out)
  have K10 := hidOf (chg_kz K9.out (out_kz O10.out))
  have Z10 := hidOf (Z8.out.kz K10.out)
  have V10 := hidOf (V8.out.kz K10.out)
  have CO10 := hidOf (owned9_any W w10 pb ps B (cb + n3) b6 (ct + 1) (tt + n3) _ _ _ _ _ r6 L6 a8 n8 d8 L8 N8.out R10.out Z10.out LL6.out.1 (by have := HK.out; have := LL6.out.2; omega) (by omega) (by omega) (by omega) (by omega) (ow_vz V10.out) Y8.out h8 (HD.out _ Q8.out) (by have := Hb6.out; omega) (by omega))
  clear C9 CS9 R8 Z8 W8 V8 K9 R9 O10 Y8
  go_upto_region 9 with (go_at_call 15; refine CO10.out.mono ?_; rintro e w11 ⟨⟨q11, rfl⟩, A11, b11, r11, L11, hR11, hb11, hZ11, hl11, hk11, hc11⟩; have R11 := hidOf hR11; have Z11 := hidOf hZ11; have LL11 := hidOf (And.intro hl11 hk11); have Hb11 := hidOf hb11; clear hR11 hZ11 hc11 hl11 hk11 hb11)
  have CH1 := hidOf (holdsZ_any w11 ps _ _ r11 L11 Z11.out.sh Z11.out.wl Z11.out.pf (by have := LL11.out.1; omega) Z11.out.kl Z11.out.pk (by have := HK.out; have := LL6.out.2; have := LL11.out.2; omega))
  have CH2 : Hid (∀ wx, Out w11 wx → Calls Try.prog 17 #[.pointer (some ⟨pb, 0, none⟩)] wx fun e w' => e = .returned (.bool true) ∧ Out wx w') := hidOf (fun wx o => (R11.out.more o).bq.holds (by omega))
  clear CO10 Z10 V10 R10 K10
  go_wp2_with (first | (go_at_call 16; refine CH1.out.mono ?_; rintro e w12 ⟨rfl, ho⟩; have O12 := hidOf ho; clear ho) | (go_at_call 17; refine (CH2.out w12 O12.out).mono ?_; rintro e w13 ⟨rfl, ho⟩; have O13 := hidOf (O12.out.trans ho); clear ho))
  go_ret
  refine ⟨rfl, _, b11, _, ⟨A11, _, _, r11, L11, (R11.out.more O13.out).drop, Z11.out.out O13.out, LL11.out.1, ?_⟩, ?_, ?_, ?_, ?_⟩
  · have := HK.out; have := LL6.out.2; have := LL11.out.2; omega
  · omega
  · have := Hb6.out; have := Hb11.out; omega
  · omega
  · omega
end Go.Proofs.Ytlfcjbeldnkkoaa
namespace Go.Proofs.Ytlfcjbeldnkkoaa
open Go.RowKit
set_option linter.unusedVariables false
set_option linter.unusedSimpArgs false
/-- texts at an address -/
def LbAt (W : World) (a : Option Addr) (LL : List (List UInt8)) : Prop := LL = [] ∨ ∃ b off, a = some ⟨b, off, none⟩ ∧ ∀ (k : Nat) l, LL[k]? = some l → ∃ la lc, W.cell? ⟨b, off + k, none⟩ = some (.slice la l.length lc) ∧ RestAt W.heap.size W la l ∧ l.length ≤ lc
theorem Bk.new (w : World) (B : Nat) (hB : B ≤ w.heap.size) : Bk B (w.alloc bookO) w.heap.size 0 0 (.slice none 0 0) (.slice none 0 0) (.slice none 0 0) (.slice none 0 0) (.slice none 0 0) [] 0 [] [] [] [] := by
  have hd : ∀ y : Value, Dis (.slice none 0 0) y := fun y k hk => by simp [Value.ownBlock] at hk
  exact ⟨⟨heap_alloc_new w _, World.ownsRow_nil _ _ _ _, World.ownsRow_nil _ _ _ _, World.ownsRow_nil _ _ _ _, World.ownsRow_nil _ _ _ _, World.ownsRow_nil _ _ _ _, hd _, hd _, hd _, hd _, hd _, hd _, hB, by rw [size_alloc]; omega⟩,
    ⟨(fun x hx => by cases hx), List.Pairwise.nil⟩, ⟨rfl, fun j x y hx _ => by simp at hx⟩, (fun j x y hx _ => by simp at hx), rfl, rfl, Nat.le_refl _, (fun x hx => by cases hx), (fun m hm => by cases hm), by omega, by omega, by omega, by omega, by simp⟩
def lendO : Obj := .cells #[.slice none 0 0, .int .i64 0] 26 (0, 0)
def shelO : Obj := .cells #[.int .i64 0, .int .i64 0, .bool false, .slice none 0 0, .slice none 0 0, .slice none 0 0, .slice none 0 0] 29 (0, 0)
theorem ZI.new (w : World) (B : Nat) (hB : B ≤ w.heap.size) : ZI B (w.alloc shelO) w.heap.size 0 0 (fun _ => .slice none 0 0) (fun _ => []) := by
  refine ⟨⟨heap_alloc_new w _, fun j hj => World.ownsRow_nil _ _ _ _, fun i j b _ _ _ hb => by simp [Value.ownBlock] at hb⟩, rfl, rfl, (fun i x y hx => by simp at hx), (fun i x y hx => by simp at hx), (fun x hx => by simp at hx), (fun i j x y hx => by simp at hx), (fun l y b hy => by simp at hy), fun b hb => ?_⟩
  rcases hb with e | ⟨j, hj, e⟩ | ⟨x, hx, _⟩
  · rw [e]; exact hB
  · simp [Value.ownBlock] at e
  · simp at hx
theorem Rz.start {W w : World} (o : Out W w) : Rz W (((w.alloc lendO).alloc shelO).alloc bookO) w.heap.size (w.heap.size + 1) (w.heap.size + 2) w.heap.size 0 0 0 0 := by
  have s1 : (w.alloc lendO).heap.size = w.heap.size + 1 := size_alloc _ _
  have s2 : ((w.alloc lendO).alloc shelO).heap.size = w.heap.size + 2 := by rw [size_alloc, s1]
  have o2 : Out (w.alloc lendO) ((w.alloc lendO).alloc shelO) := (Out.refl _).alloc _
  have o3 : Out ((w.alloc lendO).alloc shelO) (((w.alloc lendO).alloc shelO).alloc bookO) := (Out.refl _).alloc _
  have hp : (((w.alloc lendO).alloc shelO).alloc bookO).heap[w.heap.size]? = some lendO := ((o2.trans o3).block _ (by omega)).trans (heap_alloc_new w _)
  refine ⟨[], [], ⟨none, 0⟩, _, _, ⟨⟨_, _, _, _, _, _, _, _, _, by rw [← s2]; exact Bk.new _ w.heap.size (by omega)⟩, ⟨rfl, .inr ⟨w.heap.size, 1, _, rfl, Nat.le_refl _, hp, Nat.le_refl _, by unfold maxLen; omega, rfl, rfl⟩⟩, ?_, ?_, o.size, ((o.alloc _).trans o2).trans o3⟩, (by rw [← s1]; exact (ZI.new (w.alloc lendO) w.heap.size (by omega)).out o3), by simp, by simp⟩
  · intro i x g C hx hb
    match i, hx with
    | 0, hx => simp at hx; subst hx; cases hb
    | i + 1, hx => simp at hx
  · intro i j x y g C C' hx hy hb
    match i, hx with
    | 0, hx => simp at hx; subst hx; cases hb
    | i + 1, hx => simp at hx
theorem Rz.out {W w : World} {pt ps pb B : Nat} {cb c1 ct tt : Int} (h : Rz W w pt ps pb B cb c1 ct tt) : Out W w := by
  obtain ⟨A, E, x, r, L, hR, _⟩ := h
  exact hR.out
set_option maxRecDepth 20000 in
set_option maxHeartbeats 4000000 in
theorem elfReads_walk (W : World) (a : Option Addr) (cap : Nat) (LL : List (List UInt8)) (hr : LbAt W a LL) (hcap : LL.length ≤ cap) (hll : LL.length ≤ 1048576) (hl : ∀ l ∈ LL, l.length ≤ 1048576) :
    Calls Try.prog 3 #[.slice a LL.length cap] W fun e W' => e = .returned (.bool true) ∧ Out W W' := by
  have HR := hidOf hr
  have Hl := hidOf hl
  have hcI : (LL.length : Int) ≤ cap := by omega
  clear hr hl
  go_enter Try.func3, Try.ntmps3
  go_upto_region 6 with (go_at_call 4; refine (awake9 _).mono ?_; rintro e w1 ⟨rfl, ho⟩; have O1 := hidOf ho; clear ho)
  have HW0 := hidOf (Rz.start O1.out)
  show Code.wp _ _ _ _ (((w1.alloc lendO).alloc shelO).alloc bookO)
  have hs1 : (w1.alloc (Obj.cells #[.slice none 0 0, .int .i64 0] 26 (0, 0))).heap.size = w1.heap.size + 1 := size_alloc _ _
  have hs2 : ((w1.alloc (Obj.cells #[.slice none 0 0, .int .i64 0] 26 (0, 0))).alloc (Obj.cells #[.int .i64 0, .int .i64 0, .bool false, .slice none 0 0, .slice none 0 0, .slice none 0 0, .slice none 0 0] 29 (0, 0))).heap.size = w1.heap.size + 2 := by rw [size_alloc, hs1]
  try rw [hs2]
  try rw [hs1]
  generalize ((w1.alloc lendO).alloc shelO).alloc bookO = w2 at *
  generalize w1.heap.size = d at *
  clear hs1 hs2 O1
  go_wp2
  go_loopw [6] (fun iv wr => ∃ (i : Nat) (cb c1 ct tt : Int), iv = .int .i64 i ∧ i ≤ LL.length ∧ cb ≤ 32 * (i : Int) ∧ c1 ≤ 320000000 * (i : Int) ∧ ct = 2 * (i : Int) ∧ 0 ≤ tt ∧ tt ≤ 32 * (i : Int) ∧ Hid (Rz W wr d (d + 1) (d + 2) d cb c1 ct tt)) (fun iv _ => LL.length - (intOf iv).toNat)
  case atStart => exact ⟨0, 0, 0, 0, 0, rfl, by omega, by omega, by omega, by omega, by omega, by omega, HW0⟩
  case round =>
    clear HW0
    obtain ⟨i, cb, c1, ct, tt, rfl, hi, hcb, hc1, hct, ht0, ht1, HS⟩ := hrel
    by_cases hiN : i < LL.length
    · have hlt : (i : Int) < LL.length := by omega
      have h0 : (0 : Int) ≤ i := by omega
      obtain ⟨l, hx⟩ : ∃ l, LL[i]? = some l := ⟨_, List.getElem?_eq_getElem hiN⟩
      obtain ⟨b, off, rfl, hcell⟩ := HR.out.resolve_left (fun e => by rw [e] at hiN; simp at hiN)
      obtain ⟨la, lc, q0, hin, hlc⟩ := hcell i l hx
      have hle := Hl.out l (List.mem_of_getElem? hx)
      have CI := hidOf (readL9_any W wr d (d + 1) (d + 2) d cb c1 ct tt HS.out la lc l hin hlc (by omega) (by omega) (by omega) (by omega) (by omega) (by omega) (by omega))
      have q1 := cell_later HS.out.out q0
      have Hct := hidOf hct
      clear hx hcell q0 hin hct
      go_wp2_with (go_at_call 5; refine CI.out.mono ?_; rintro e w3 ⟨rfl, cb', c1', tt', hs, k1, k2, k3, k4⟩; have S3 := hidOf hs; clear hs)
      go_roundw
      case rel => exact ⟨i + 1, cb', c1', ct + 1 + 1, tt', by simp, by omega, by omega, by omega, by have := Hct.out; omega, by omega, by omega, S3⟩
      case measure => simp [intOf]; omega
    · have hlt : ¬ (i : Int) < LL.length := by omega
      go_wp2
      go_ret
      exact ⟨rfl, HS.out.out⟩
end Go.Proofs.Ytlfcjbeldnkkoaa
