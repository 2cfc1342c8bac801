import Derived.Test.YtgakmbeooobhjaaVl
namespace Go.Proofs.Ytgakmbeooobhjaa
open Go.RowKit
open Go.Maps (Keyed)
set_option linter.unusedVariables false
set_option linter.unusedSimpArgs false
theorem load_act {P : Program} {w : World} (x : Ac) : x.cs = #[.int .i64 x.w, .int .i64 x.k, .string ⟨x.s.toArray⟩, .int .i64 x.p] := rfl
def lastCs : Array Value := #[.int .i64 0, .int .i64 1, .string ⟨#[116, 104, 105, 114, 100]⟩, .int .i64 0, .int .i64 0, .int .i64 3, .string ⟨#[]⟩, .int .i64 0, .int .i64 0, .int .i64 4, .string ⟨#[]⟩, .int .i64 0]
def lastO : Obj := .cells lastCs 29 (0, 0)
/-- three desks apart, and the last acts -/
structure D3 (W wr : World) (d1 d2 d3 : Nat) (T1 T2 T3 : Option (List (List UInt8))) (G1 G2 G3 : Nat → Prop) (L : Nat) : Prop where
  a : DS d1 wr T1 G1
  b : DS d2 wr T2 G2
  c : DS d3 wr T3 G3
  d12 : ∀ k, G1 k → ¬ G2 k
  d13 : ∀ k, G1 k → ¬ G3 k
  d23 : ∀ k, G2 k → ¬ G3 k
  l : ∀ k, G1 k ∨ G2 k ∨ G3 k → W.heap.size ≤ k ∧ k < wr.heap.size ∧ ¬ k = L
  lk : wr.heap[L]? = some lastO
  out : Out W wr
theorem D3.rot {W wr : World} {d1 d2 d3 : Nat} {T1 T2 T3 : Option (List (List UInt8))} {G1 G2 G3 : Nat → Prop} {L : Nat} (h : D3 W wr d1 d2 d3 T1 T2 T3 G1 G2 G3 L) : D3 W wr d2 d3 d1 T2 T3 T1 G2 G3 G1 L :=
  ⟨h.b, h.c, h.a, h.d23, fun k h2 h1 => h.d12 k h1 h2, fun k h3 h1 => h.d13 k h1 h3, fun k hk => h.l k (by rcases hk with hk | hk | hk; exact .inr (.inl hk); exact .inr (.inr hk); exact .inl hk), h.lk, h.out⟩
theorem D3.cell {W wr : World} {d1 d2 d3 : Nat} {T1 T2 T3 : Option (List (List UInt8))} {G1 G2 G3 : Nat → Prop} {L : Nat} (h : D3 W wr d1 d2 d3 T1 T2 T3 G1 G2 G3 L) (j : Nat) : wr.cell? ⟨L, j, none⟩ = lastCs[j]? := by
  have h' : wr.heap[L]? = some (.cells lastCs 29 (0, 0)) := h.lk
  simp [World.cell?, h']
theorem D3.act {W wr w' : World} {d1 d2 d3 : Nat} {T1 T2 T3 T1' : Option (List (List UInt8))} {G1 G2 G3 : Nat → Prop} {L : Nat} (h : D3 W wr d1 d2 d3 T1 T2 T3 G1 G2 G3 L) (ha : DS d1 w' T1' (FN G1 wr w')) (hc : Chg G1 wr w') : D3 W w' d1 d2 d3 T1' T2 T3 (FN G1 wr w') G2 G3 L := by
  have hL : L < wr.heap.size := (Array.getElem?_eq_some_iff.1 h.lk).1
  have hs := hc.size
  refine ⟨ha, h.b.chg hc (fun k h2 h1 => h.d12 k h1 h2), h.c.chg hc (fun k h3 h1 => h.d13 k h1 h3), fun k h1 h2 => ?_, fun k h1 h3 => ?_, h.d23, fun k hk => ?_, (hc.block L hL (fun h1 => (h.l L (.inl h1)).2.2 rfl)).trans h.lk, Chg.out hc h.out (fun k hk => (h.l k (.inl hk)).1)⟩
  · rcases h1 with h1 | h1
    · exact h.d12 k h1 h2
    · have := h.l k (.inr (.inl h2)); omega
  · rcases h1 with h1 | h1
    · exact h.d13 k h1 h3
    · have := h.l k (.inr (.inr h3)); omega
  · have hw := h.out.size
    rcases hk with (hk | hk) | hk | hk
    · have := h.l k (.inl hk); omega
    · omega
    · have := h.l k (.inr (.inl hk)); omega
    · have := h.l k (.inr (.inr hk)); omega
set_option maxRecDepth 20000 in
set_option maxHeartbeats 4000000 in
theorem strsAll_walk (W : World) (a1 a2 a3 : Option Addr) (c1 c2 c3 : Nat) (l1 l2 : List UInt8) (sc : List Ac) (hr1 : RestAt W.heap.size W a1 l1) (hc1 : l1.length ≤ c1) (hl1 : l1.length ≤ 1048576) (hr2 : RestAt W.heap.size W a2 l2) (hc2 : l2.length ≤ c2) (hl2 : l2.length ≤ 1048576)
    (hs : ActsAt W.heap.size W a3 sc) (hc3 : sc.length ≤ c3) (hl3 : sc.length ≤ 1048576) (hok : ActsOk sc 1048576) :
    Calls Try.prog 3 #[.slice a1 l1.length c1, .slice a2 l2.length c2, .slice a3 sc.length c3] W fun e W' => e = .returned (.bool true) ∧ Out W W' := by
  have CO1 := hidOf (fun wx (o : Out W wx) => open_any a1 c1 l1 wx (hr1.more o) hc1 (by omega))
  have CO2 := hidOf (fun wx (o : Out W wx) => open_any a2 c2 l2 wx (hr2.more o) hc2 (by omega))
  have HS := hidOf hs
  have Hok := hidOf hok
  have hc3I : (sc.length : Int) ≤ c3 := by omega
  clear hr1 hr2 hs hok
  go_enter Try.func3, Try.ntmps3
  go_upto_region 2 with (go_at_call 7; refine (CO1.out W (Out.refl W)).mono ?_; rintro e w1 ⟨d1, S1, rfl, hd, hz, ho⟩; have E1 := hidOf hd; have Z1 := hidOf hz; have P1 := hidOf ho; clear hd hz ho)
  go_upto_region 3 with (go_at_call 7; refine (CO2.out w1 P1.out).mono ?_; rintro e w2 ⟨d2, S2, rfl, hd, hz, ho⟩; have E2 := hidOf hd; have Z2 := hidOf hz; have P2 := hidOf ho; clear hd hz ho)
  go_wp2_with (go_at_call 8; refine (nils_any w2).mono ?_; rintro e w3 ⟨rfl, ho⟩; have P3 := hidOf ho; clear ho)
  have HD : Hid (D2 W w3 d1 d2 S1 S2 (FN (fun _ => False) W w1) (FN (fun _ => False) w1 w2)) := hidOf (by
    have s2 := P2.out.size
    have s3 := P3.out.size
    have s1 := P1.out.size
    refine ⟨(E1.out.out P2.out).out P3.out, E2.out.out P3.out, fun k h1 h2 => ?_, fun k hk => ?_, fun k hk => ?_, (P1.out.trans P2.out).trans P3.out⟩
    · have h1 := (h1.resolve_left id).2
      have h2 := (h2.resolve_left id).1
      omega
    · have h1 := hk.resolve_left id
      omega
    · have h1 := hk.resolve_left id
      omega)
  go_loopw [11] (fun iv wr => ∃ (k : Nat) (T1 T2 : Option (List (List UInt8))) (G1 G2 : Nat → Prop), iv = .int .i64 k ∧ k ≤ sc.length ∧ Hid (szS T1 ≤ l1.length + 1 + 65 * k) ∧ Hid (szS T2 ≤ l2.length + 1 + 65 * k) ∧ Hid (D2 W wr d1 d2 T1 T2 G1 G2)) (fun iv _ => sc.length - (intOf iv).toNat)
  case atStart => exact ⟨0, S1, S2, _, _, rfl, by omega, Z1.out, Z2.out, HD.out⟩
  case round =>
    obtain ⟨k, T1, T2, G1, G2, rfl, hk, ZA, ZB, HDr⟩ := hrel
    by_cases hkN : k < sc.length
    · have hlt : (k : Int) < sc.length := by omega
      have h0 : (0 : Int) ≤ k := by omega
      obtain ⟨x, hx⟩ : ∃ x, sc[k]? = some x := ⟨_, List.getElem?_eq_getElem hkN⟩
      have hxl : x.s.length ≤ 1048576 := Hok.out x (List.mem_of_getElem? hx)
      obtain ⟨b, off, rfl, q0, q1, q2, q3⟩ := HS.out.get (Nat.le_refl _) HDr.out.out hx
      have CA := hidOf (act_any d1 x wr T1 G1 HDr.out.a (by have := ZA.out; omega) (by omega))
      have CB := hidOf (act_any d2 x wr T2 G2 HDr.out.b (by have := ZB.out; omega) (by omega))
      have ZA' := hidOf (szS_add T1 x)
      have ZB' := hidOf (szS_add T2 x)
      simp only [Ac.cs] at CA CB
      clear hx hxl
      obtain ⟨xw, xk, xs, xp⟩ := x
      simp only at q0 q1 q2 q3 CA CB
      go_upto_region 11 with fail
      · go_wp2_with (go_at_call 9; first | (refine (CB.out).mono ?_; rintro e w4 ⟨⟨_, _, _, _, _, _, rfl⟩, hd, hc⟩; have HN := hidOf (HDr.out.swap.act hd hc).swap; clear hd hc) | (refine (CA.out).mono ?_; rintro e w4 ⟨⟨_, _, _, _, _, _, rfl⟩, hd, hc⟩; have HN := hidOf (HDr.out.act hd hc); clear hd hc))
        go_roundw
        case rel => exact ⟨k + 1, _, _, _, _, by simp, by omega, hidOf (by have := ZA.out; have := ZA'.out; omega), hidOf (by have := ZB.out; have := ZB'.out; omega), HN.out⟩
        case measure => simp [intOf]; omega
      · go_wp2_with (go_at_call 9; first | (refine (CA.out).mono ?_; rintro e w4 ⟨⟨_, _, _, _, _, _, rfl⟩, hd, hc⟩; have HN := hidOf (HDr.out.act hd hc); clear hd hc) | (refine (CB.out).mono ?_; rintro e w4 ⟨⟨_, _, _, _, _, _, rfl⟩, hd, hc⟩; have HN := hidOf (HDr.out.swap.act hd hc).swap; clear hd hc))
        go_roundw
        case rel => exact ⟨k + 1, _, _, _, _, by simp, by omega, hidOf (by have := ZA.out; have := ZA'.out; omega), hidOf (by have := ZB.out; have := ZB'.out; omega), HN.out⟩
        case measure => simp [intOf]; omega
    · have hlt : ¬ (k : Int) < sc.length := by omega
      clear HS Hok CO2
      go_upto_region 15 with (go_at_call 7; refine (CO1.out wr HDr.out.out).mono ?_; rintro e w5 ⟨d3, S3, rfl, hd, hz, ho⟩; have E5 := hidOf hd; have Z5 := hidOf hz; have P5 := hidOf ho; clear hd hz ho)
      go_upto_region 18 with fail
      have HE0 : Hid (D3 W (w5.alloc lastO) d1 d2 d3 T1 T2 S3 G1 G2 (FN (fun _ => False) wr w5) w5.heap.size) := hidOf (by
        have s5 := P5.out.size
        have sW := HDr.out.out.size
        have o := (Out.refl w5).alloc lastO
        have hs := size_alloc w5 lastO
        refine ⟨(HDr.out.a.out P5.out).out o, (HDr.out.b.out P5.out).out o, E5.out.out o, HDr.out.dj, fun k h1 h2 => ?_, fun k h1 h2 => ?_, fun k hk => ?_, heap_alloc_new _ _, (HDr.out.out.trans P5.out).trans o⟩
        · have := (HDr.out.l1 k h1).2; have := (h2.resolve_left id).1; omega
        · have := (HDr.out.l2 k h1).2; have := (h2.resolve_left id).1; omega
        · rcases hk with hk | hk | hk
          · have := HDr.out.l1 k hk; omega
          · have := HDr.out.l2 k hk; omega
          · have := hk.resolve_left id; omega)
      have hk9 : k ≤ 1048576 := by omega
      show Code.wp _ _ _ _ (w5.alloc lastO)
      generalize w5.alloc lastO = w6 at *
      generalize w5.heap.size = L at *
      generalize FN (fun _ => False) wr w5 = G3 at *
      have ZT1 : Hid (szS T1 ≤ 100000000) := hidOf (by have := ZA.out; omega)
      have ZT2 : Hid (szS T2 ≤ 100000000) := hidOf (by have := ZB.out; omega)
      have ZT3 : Hid (szS S3 ≤ 100000000) := hidOf (by have := Z5.out; omega)
      go_wp2
      go_loopw [18] (fun iv wr => ∃ (i : Nat) (T1 T2 T3 : Option (List (List UInt8))) (G1 G2 G3 : Nat → Prop), iv = .int .i64 i ∧ i ≤ 3 ∧ Hid (szS T1 ≤ 100000000 + 65 * i) ∧ Hid (szS T2 ≤ 100000000 + 65 * i) ∧ Hid (szS T3 ≤ 100000000 + 65 * i) ∧ Hid (D3 W wr d1 d2 d3 T1 T2 T3 G1 G2 G3 L)) (fun iv _ => 3 - (intOf iv).toNat)
      case atStart => exact ⟨0, T1, T2, S3, G1, G2, G3, rfl, by omega, ZT1.out, ZT2.out, ZT3.out, HE0.out⟩
      case round =>
        clear HE0 ZT1 ZT2 ZT3 ZA ZB E5 Z5 P5 HDr
        obtain ⟨i, T1, T2, T3, G1, G2, G3, rfl, hi, ZT1, ZT2, ZT3, HE⟩ := hrel
        obtain rfl | rfl | rfl | rfl : i = 0 ∨ i = 1 ∨ i = 2 ∨ i = 3 := by omega
        · have wr00 : wr.cell? ⟨L, 0, none⟩ = some (.int .i64 0) := HE.out.cell 0
          have wr01 : wr.cell? ⟨L, 1, none⟩ = some (.int .i64 1) := HE.out.cell 1
          have wr02 : wr.cell? ⟨L, 2, none⟩ = some (.string ⟨[116, 104, 105, 114, 100].toArray⟩) := HE.out.cell 2
          have wr03 : wr.cell? ⟨L, 3, none⟩ = some (.int .i64 0) := HE.out.cell 3
          go_upto_region 22 with (go_at_call 9; refine (act_any d3 ⟨0, 1, [116, 104, 105, 114, 100], 0⟩ wr T3 G3 HE.out.c (by have := ZT3.out; omega) (by decide)).mono ?_; rintro e w6 ⟨⟨_, _, _, _, _, _, rfl⟩, hd, hc⟩; have H6 := hidOf (HE.out.rot.rot.act hd hc); clear hd hc)
          have w620 : w6.cell? ⟨L, 8, none⟩ = some (.int .i64 0) := H6.out.cell 8
          have w621 : w6.cell? ⟨L, 9, none⟩ = some (.int .i64 4) := H6.out.cell 9
          have w622 : w6.cell? ⟨L, 10, none⟩ = some (.string ⟨[].toArray⟩) := H6.out.cell 10
          have w623 : w6.cell? ⟨L, 11, none⟩ = some (.int .i64 0) := H6.out.cell 11
          go_upto_region 23 with (go_at_call 9; refine (act_any d1 ⟨0, 4, [], 0⟩ w6 T1 G1 H6.out.b (by have := ZT1.out; omega) (by decide)).mono ?_; rintro e w7 ⟨⟨_, _, _, _, _, _, rfl⟩, hd, hc⟩; have H7 := hidOf (H6.out.rot.act hd hc); clear hd hc)
          have w720 : w7.cell? ⟨L, 8, none⟩ = some (.int .i64 0) := H7.out.cell 8
          have w721 : w7.cell? ⟨L, 9, none⟩ = some (.int .i64 4) := H7.out.cell 9
          have w722 : w7.cell? ⟨L, 10, none⟩ = some (.string ⟨[].toArray⟩) := H7.out.cell 10
          have w723 : w7.cell? ⟨L, 11, none⟩ = some (.int .i64 0) := H7.out.cell 11
          go_upto_region 24 with (go_at_call 9; refine (act_any d2 ⟨0, 4, [], 0⟩ w7 T2 G2 H7.out.b (by have := ZT2.out; omega) (by decide)).mono ?_; rintro e w8 ⟨⟨_, _, _, _, _, _, rfl⟩, hd, hc⟩; have H8 := hidOf (H7.out.rot.act hd hc); clear hd hc)
          go_wp2
          go_roundw
          case rel => exact ⟨1, _, _, _, _, _, _, rfl, by omega, hidOf (by have := ZT1.out; have := szS_add T1 ⟨0, 4, [], 0⟩; omega), hidOf (by have := ZT2.out; have := szS_add T2 ⟨0, 4, [], 0⟩; omega), hidOf (by have := ZT3.out; have := szS_add T3 ⟨0, 1, [116, 104, 105, 114, 100], 0⟩; omega), H8.out.rot.rot⟩
          case measure => simp [intOf]
        · have wr10 : wr.cell? ⟨L, 4, none⟩ = some (.int .i64 0) := HE.out.cell 4
          have wr11 : wr.cell? ⟨L, 5, none⟩ = some (.int .i64 3) := HE.out.cell 5
          have wr12 : wr.cell? ⟨L, 6, none⟩ = some (.string ⟨[].toArray⟩) := HE.out.cell 6
          have wr13 : wr.cell? ⟨L, 7, none⟩ = some (.int .i64 0) := HE.out.cell 7
          go_upto_region 22 with (go_at_call 9; refine (act_any d3 ⟨0, 3, [], 0⟩ wr T3 G3 HE.out.c (by have := ZT3.out; omega) (by decide)).mono ?_; rintro e w6 ⟨⟨_, _, _, _, _, _, rfl⟩, hd, hc⟩; have H6 := hidOf (HE.out.rot.rot.act hd hc); clear hd hc)
          have w610 : w6.cell? ⟨L, 4, none⟩ = some (.int .i64 0) := H6.out.cell 4
          have w611 : w6.cell? ⟨L, 5, none⟩ = some (.int .i64 3) := H6.out.cell 5
          have w612 : w6.cell? ⟨L, 6, none⟩ = some (.string ⟨[].toArray⟩) := H6.out.cell 6
          have w613 : w6.cell? ⟨L, 7, none⟩ = some (.int .i64 0) := H6.out.cell 7
          go_upto_region 23 with (go_at_call 9; refine (act_any d1 ⟨0, 3, [], 0⟩ w6 T1 G1 H6.out.b (by have := ZT1.out; omega) (by decide)).mono ?_; rintro e w7 ⟨⟨_, _, _, _, _, _, rfl⟩, hd, hc⟩; have H7 := hidOf (H6.out.rot.act hd hc); clear hd hc)
          have w710 : w7.cell? ⟨L, 4, none⟩ = some (.int .i64 0) := H7.out.cell 4
          have w711 : w7.cell? ⟨L, 5, none⟩ = some (.int .i64 3) := H7.out.cell 5
          have w712 : w7.cell? ⟨L, 6, none⟩ = some (.string ⟨[].toArray⟩) := H7.out.cell 6
          have w713 : w7.cell? ⟨L, 7, none⟩ = some (.int .i64 0) := H7.out.cell 7
          go_upto_region 24 with (go_at_call 9; refine (act_any d2 ⟨0, 3, [], 0⟩ w7 T2 G2 H7.out.b (by have := ZT2.out; omega) (by decide)).mono ?_; rintro e w8 ⟨⟨_, _, _, _, _, _, rfl⟩, hd, hc⟩; have H8 := hidOf (H7.out.rot.act hd hc); clear hd hc)
          go_wp2
          go_roundw
          case rel => exact ⟨2, _, _, _, _, _, _, rfl, by omega, hidOf (by have := ZT1.out; have := szS_add T1 ⟨0, 3, [], 0⟩; omega), hidOf (by have := ZT2.out; have := szS_add T2 ⟨0, 3, [], 0⟩; omega), hidOf (by have := ZT3.out; have := szS_add T3 ⟨0, 3, [], 0⟩; omega), H8.out.rot.rot⟩
          case measure => simp [intOf]
        · have wr20 : wr.cell? ⟨L, 8, none⟩ = some (.int .i64 0) := HE.out.cell 8
          have wr21 : wr.cell? ⟨L, 9, none⟩ = some (.int .i64 4) := HE.out.cell 9
          have wr22 : wr.cell? ⟨L, 10, none⟩ = some (.string ⟨[].toArray⟩) := HE.out.cell 10
          have wr23 : wr.cell? ⟨L, 11, none⟩ = some (.int .i64 0) := HE.out.cell 11
          go_upto_region 22 with (go_at_call 9; refine (act_any d3 ⟨0, 4, [], 0⟩ wr T3 G3 HE.out.c (by have := ZT3.out; omega) (by decide)).mono ?_; rintro e w6 ⟨⟨_, _, _, _, _, _, rfl⟩, hd, hc⟩; have H6 := hidOf (HE.out.rot.rot.act hd hc); clear hd hc)
          have w600 : w6.cell? ⟨L, 0, none⟩ = some (.int .i64 0) := H6.out.cell 0
          have w601 : w6.cell? ⟨L, 1, none⟩ = some (.int .i64 1) := H6.out.cell 1
          have w602 : w6.cell? ⟨L, 2, none⟩ = some (.string ⟨[116, 104, 105, 114, 100].toArray⟩) := H6.out.cell 2
          have w603 : w6.cell? ⟨L, 3, none⟩ = some (.int .i64 0) := H6.out.cell 3
          go_upto_region 23 with (go_at_call 9; refine (act_any d1 ⟨0, 1, [116, 104, 105, 114, 100], 0⟩ w6 T1 G1 H6.out.b (by have := ZT1.out; omega) (by decide)).mono ?_; rintro e w7 ⟨⟨_, _, _, _, _, _, rfl⟩, hd, hc⟩; have H7 := hidOf (H6.out.rot.act hd hc); clear hd hc)
          have w700 : w7.cell? ⟨L, 0, none⟩ = some (.int .i64 0) := H7.out.cell 0
          have w701 : w7.cell? ⟨L, 1, none⟩ = some (.int .i64 1) := H7.out.cell 1
          have w702 : w7.cell? ⟨L, 2, none⟩ = some (.string ⟨[116, 104, 105, 114, 100].toArray⟩) := H7.out.cell 2
          have w703 : w7.cell? ⟨L, 3, none⟩ = some (.int .i64 0) := H7.out.cell 3
          go_upto_region 24 with (go_at_call 9; refine (act_any d2 ⟨0, 1, [116, 104, 105, 114, 100], 0⟩ w7 T2 G2 H7.out.b (by have := ZT2.out; omega) (by decide)).mono ?_; rintro e w8 ⟨⟨_, _, _, _, _, _, rfl⟩, hd, hc⟩; have H8 := hidOf (H7.out.rot.act hd hc); clear hd hc)
          go_wp2
          go_roundw
          case rel => exact ⟨3, _, _, _, _, _, _, rfl, by omega, hidOf (by have := ZT1.out; have := szS_add T1 ⟨0, 1, [116, 104, 105, 114, 100], 0⟩; omega), hidOf (by have := ZT2.out; have := szS_add T2 ⟨0, 1, [116, 104, 105, 114, 100], 0⟩; omega), hidOf (by have := ZT3.out; have := szS_add T3 ⟨0, 4, [], 0⟩; omega), H8.out.rot.rot⟩
          case measure => simp [intOf]
        · go_wp2_with (go_at_call 10; refine (awake_any wr).mono ?_; rintro e w9 ⟨rfl, ho⟩; have P9 := hidOf ho; clear ho)
          go_ret
          exact ⟨rfl, HE.out.out.trans P9.out⟩
end Go.Proofs.Ytgakmbeooobhjaa
