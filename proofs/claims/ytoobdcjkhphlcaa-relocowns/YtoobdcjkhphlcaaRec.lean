import Derived.Test.YtoobdcjkhphlcaaReb
namespace Go.Proofs.Ytoobdcjkhphlcaa
open Go.RowKit
set_option linter.unusedVariables false
set_option linter.unusedSimpArgs false
/-- blocks of other kinds than bytes are as they were -/
def Keep (w w' : World) : Prop := ∀ (p : Nat) (cs : Array Value) (t : TypeId), w.heap[p]? = some (.cells cs t (0, 0)) → t ≠ 5 → w'.heap[p]? = some (.cells cs t (0, 0))
theorem Keep.refl (w : World) : Keep w w := fun _ _ _ h _ => h
theorem Keep.trans {a b c : World} (h : Keep a b) (k : Keep b c) : Keep a c := fun p cs t h1 h2 => k p cs t (h p cs t h1 h2) h2
theorem Keep.of_out {w w' : World} (o : Out w w') : Keep w w' := fun p cs t h _ => (o.block p (Array.getElem?_eq_some_iff.1 h).1).trans h
theorem Keep.grown {N : Nat} {X w' : World} {v : Value} {O : List UInt8} (ho : OwB N v O X) (hg : X.grownBy w' v.ownBlock) : Keep X w' := fun p cs t h ht => by
  have hc : Chg (fun k => v.ownBlock = some k) X w' := Chg.of_grown hg (fun k hk => hk)
  exact (hc.block p (Array.getElem?_eq_some_iff.1 h).1 (own_type ho h ht.symm)).trans h
theorem shr_i64 (n k : Nat) (hk : k < 8) : IntKind.u8.wrap ((n : Int) / 2 ^ (8 * k)) = ((UInt8.ofNat (n / 256 ^ k % 256)).toNat : Int) := shr_byte n k hk
set_option maxRecDepth 8000 in
set_option maxHeartbeats 1000000 in
theorem lay_any (N : Nat) (w : World) (ba : Option Addr) (bc : Nat) (O R : List UInt8) (n wd : Nat) (hR : R = O ++ leB n wd) (hb : OwB N (.slice ba O.length bc) O w) (hN : N ≤ w.heap.size) (hw : wd ≤ 8) (hl : O.length + wd ≤ 1000000000000) (hn : n ≤ 9223372036854775807) :
    Calls Try.prog 43 #[.slice ba O.length bc, .int .i64 (n : Int), .int .i64 (wd : Int)] w fun e w' => ∃ a c, e = .returned (.slice a R.length c) ∧ OwB N (.slice a R.length c) R w' ∧ Below N w w' ∧ Keep w w' := by
  have HR := hidOf hR
  clear hR
  obtain ⟨i0, hi, hz0, hz1, hz2⟩ := info_parts infoB
  have HB := hidOf hb
  have hn0 : (0 : Int) ≤ n := by omega
  have hnI : (n : Int) ≤ 9223372036854775807 := by omega
  clear hb
  go_enter Try.func43, Try.ntmps43
  go_wp2
  go_loopw [9, 0] (fun kv bv wr => ∃ (k : Nat) (P : List UInt8) (a : Option Addr) (c : Nat), kv = .int .i64 k ∧ bv = .slice a P.length c ∧ k ≤ wd ∧ Hid (P = O ++ leB n k) ∧ Hid (OwB N (.slice a P.length c) P wr) ∧ Hid (Below N w wr) ∧ Hid (Keep w wr)) (fun kv _ _ => wd - (intOf kv).toNat)
  case atStart => exact ⟨0, O, ba, bc, rfl, rfl, by omega, hidOf (by simp [leB]), HB.out, Below.refl _ _, Keep.refl _⟩
  case round =>
    obtain ⟨k, P, a, c, rfl, rfl, hk, HP, HO, Hbel, HKp⟩ := hrel
    by_cases hkw : k < wd
    · have hklt : (k : Int) < wd := by omega
      have hk0 : (0 : Int) ≤ k := by omega
      have hk8 : (k : Int) ≤ 7 := by omega
      have hPl : P.length + 1 ≤ 1000000000000 := by rw [HP.out, List.length_append, leB_len]; omega
      have Hby := hidOf (shr_i64 n k (by omega))
      have hNk : N ≤ wr.heap.size := Nat.le_trans hN Hbel.out.size
      go_wp2_with (at_builtin; refine wpList_append_own _ rfl (.tmp 12) (.tmp 18) 30 rfl N 5 i0 _ 1 1 Try.underlying30 hi hz0 hz1 hz2 rfl (by decide) (.slice a P.length c) P.length (Lib.byteCells P) rfl (World.ownsRow.alloc HO.out _) ⟨wr.heap.size, 0, none⟩ 1 1 [.int .u8 (IntKind.u8.wrap ((n : Int) / 2 ^ (8 * k)))] rfl rfl (news_new wr _ _ _ rfl) (fun u hu => by rw [List.mem_singleton.1 hu]; rfl) (by unfold maxLen; omega) (by omega) (by rw [size_alloc]; omega) ?_; intro v4 w4 hown4 hgrow4 _; have HO4 := hidOf hown4; have Hg4 := hidOf hgrow4; clear hgrow4; obtain ⟨a4, c4, rfl⟩ := own_form hown4; clear hown4)
      have e2 : O ++ leB n (k + 1) = P ++ [UInt8.ofNat (n / 256 ^ k % 256)] := by rw [leB_snoc, ← List.append_assoc, ← HP.out]
      have e3 : (O ++ leB n (k + 1)).length = P.length + 1 := by rw [e2]; simp
      refine ⟨⟨k + 1, O ++ leB n (k + 1), a4, c4, by simp, by rw [e3], by omega, rfl, ?_, ?_, ?_⟩, by simp [intOf]; omega⟩
      · show World.ownsRow _ _ _ _ _ _ _
        rw [e3, e2, bc_app]
        have h4 := HO4.out
        rw [Hby.out] at h4
        exact h4
      · exact Below.grownB (Hbel.out.alloc hNk _) hN (World.ownsRow.alloc HO.out _) Hg4.out
      · exact (HKp.out.trans (Keep.of_out ((Out.refl wr).alloc _))).trans (Keep.grown (World.ownsRow.alloc HO.out _) Hg4.out)
    · have hklt : ¬ (k : Int) < wd := by omega
      obtain rfl : k = wd := by omega
      go_wp2
      go_ret
      have e : R = P := HR.out.trans HP.out.symm
      rw [e]
      exact ⟨a, c, rfl, HO.out, Hbel.out, HKp.out⟩
/-- a relocation's bytes -/
def enR (r : Rl) (ty : Nat) : List UInt8 := leB (8 * r.sl).toNat 8 ++ leB ty 4 ++ leB r.sy.toNat 4
theorem enR_len (r : Rl) (ty : Nat) : (enR r ty).length = 16 := by simp [enR, leB_len]
set_option maxRecDepth 8000 in
set_option maxHeartbeats 1000000 in
theorem layEntry_any (N : Nat) (w : World) (ba : Option Addr) (bc : Nat) (O R : List UInt8) (sl sy : Nat) (ki : Int) (ty : Nat) (hR : R = O ++ enR ⟨sl, ki, sy⟩ ty) (hb : OwB N (.slice ba O.length bc) O w) (hN : N ≤ w.heap.size) (hl : O.length + 16 ≤ 1000000000000) (h1 : sl ≤ 65536) (h2 : sy ≤ 4294967295) (h3 : ty ≤ 10) :
    Calls Try.prog 31 #[.slice ba O.length bc, .agg #[.int .i64 sl, .int .i64 ki, .int .i64 sy], .int .i64 (ty : Int)] w fun e w' => ∃ a c, e = .returned (.slice a R.length c) ∧ OwB N (.slice a R.length c) R w' ∧ Below N w w' ∧ Keep w w' := by
  obtain ⟨n1, hn1⟩ : ∃ n : Nat, n = 8 * sl := ⟨_, rfl⟩
  have hs8 : (8 : Int) * sl = n1 := by omega
  obtain ⟨R1, hR1⟩ : ∃ R, R = O ++ leB n1 8 := ⟨_, rfl⟩
  obtain ⟨R2, hR2⟩ : ∃ R, R = R1 ++ leB ty 4 := ⟨_, rfl⟩
  have hR3 : R = R2 ++ leB sy 4 := by
    rw [hR, enR, hR2, hR1]
    simp only [hs8, Int.toNat_natCast, List.append_assoc]
  have l1 : R1.length = O.length + 8 := by rw [hR1, List.length_append, leB_len]
  have l2 : R2.length = R1.length + 4 := by rw [hR2, List.length_append, leB_len]
  have C1 := hidOf (fun wx a c (h : OwB N (.slice a O.length c) O wx) (hx : N ≤ wx.heap.size) => lay_any N wx a c O R1 n1 8 hR1 h hx (by omega) (by omega) (by omega))
  have C2 := hidOf (fun wx a c (h : OwB N (.slice a R1.length c) R1 wx) (hx : N ≤ wx.heap.size) => lay_any N wx a c R1 R2 ty 4 hR2 h hx (by omega) (by omega) (by omega))
  have C3 := hidOf (fun wx a c (h : OwB N (.slice a R2.length c) R2 wx) (hx : N ≤ wx.heap.size) => lay_any N wx a c R2 R sy 4 hR3 h hx (by omega) (by omega) (by omega))
  have HB := hidOf hb
  have hsI : (sl : Int) ≤ 65536 := by omega
  clear hR hR1 hR2 hR3 l1 l2 hb hl hn1 h1 h2 h3
  go_enter Try.func31, Try.ntmps31
  obtain ⟨W, hW⟩ : ∃ W, W = w.alloc (.cells #[.int .i64 (sl : Int), .int .i64 ki, .int .i64 (sy : Int)] 27) := ⟨_, rfl⟩
  have HX : Hid (W.heap[w.heap.size]? = some (.cells #[.int .i64 (sl : Int), .int .i64 ki, .int .i64 (sy : Int)] 27 (0, 0))) := hidOf (by rw [hW]; exact heap_alloc_new w _)
  have OW : Hid (Out w W) := hidOf (by rw [hW]; exact (Out.refl w).alloc _)
  have HBW : Hid (OwB N (.slice ba O.length bc) O W) := hidOf (own_at HB.out OW.out)
  have HK : Hid (∀ wx, Keep W wx → wx.cell? ⟨w.heap.size, 0, none⟩ = some (.int .i64 (sl : Int)) ∧ wx.cell? ⟨w.heap.size, 1, none⟩ = some (.int .i64 ki) ∧ wx.cell? ⟨w.heap.size, 2, none⟩ = some (.int .i64 (sy : Int))) := fun wx k => by
    have h := k _ _ _ HX.out (by decide)
    exact ⟨box_cell h 0, box_cell h 1, box_cell h 2⟩
  have HN := hidOf hN
  go_upto_region 1 with fail
  rw [← hW]
  clear hW hN
  obtain ⟨c0, c1, c2⟩ := HK.out W (Keep.refl W)
  go_upto_region 2 with (first | (go_at_call 43; refine (C1.out _ _ _ HBW.out (Nat.le_trans HN.out OW.out.size)).mono ?_; rintro e w1 ⟨a1, b1, rfl, ho, hb, hk⟩; have HO1 := hidOf ho; have HL1 := hidOf (Below.trans (Below.mono OW.out HN.out) hb); have HP1 := hidOf hk; clear ho hb hk))
  clear c0 c1 c2
  obtain ⟨c0, c1, c2⟩ := HK.out w1 HP1.out
  go_upto_region 3 with (first | (go_at_call 43; refine (C2.out _ _ _ HO1.out (Nat.le_trans HN.out HL1.out.size)).mono ?_; rintro e w3 ⟨a3, b3, rfl, ho, hb, hk⟩; have HO3 := hidOf ho; have HL3 := hidOf (Below.trans HL1.out hb); have HP3 := hidOf (HP1.out.trans hk); clear ho hb hk))
  clear c0 c1 c2
  obtain ⟨c0, c1, c2⟩ := HK.out w3 HP3.out
  go_wp2_with (first | (go_at_call 43; refine (C3.out _ _ _ HO3.out (Nat.le_trans HN.out HL3.out.size)).mono ?_; rintro e w7 ⟨a7, b7, rfl, ho, hb, hk⟩; have HO7 := hidOf ho; have HL7 := hidOf (Below.trans HL3.out hb); have HP7 := hidOf (HP3.out.trans hk); clear ho hb hk))
  go_ret
  exact ⟨a7, b7, rfl, HO7.out, HL7.out, (Keep.of_out OW.out).trans HP7.out⟩
end Go.Proofs.Ytoobdcjkhphlcaa
