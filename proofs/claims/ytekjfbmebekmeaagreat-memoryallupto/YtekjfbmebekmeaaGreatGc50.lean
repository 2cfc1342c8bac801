import Derived.Test.YtekjfbmebekmeaaGreatGc49
namespace Go.Proofs.YtekjfbmebekmeaaGreat
open Go.RowKit
set_option linter.unusedVariables false
set_option linter.unusedSimpArgs false
/-- acts that came in -/
def AcR (w : World) (a : Option Addr) (A : List AcI) : Prop := A = [] ∨ ∃ g o, a = some ⟨g, o, none⟩ ∧ ∀ (i : Nat) (z : AcI), A[i]? = some z → (w.cell? ⟨g, o + i * 6, none⟩ = some (.int .i64 z.which) ∧ w.cell? ⟨g, o + i * 6 + 1, none⟩ = some (.int .i64 z.kind) ∧ w.cell? ⟨g, o + i * 6 + 2, none⟩ = some (.int .u64 z.at_) ∧ w.cell? ⟨g, o + i * 6 + 3, none⟩ = some (.int .i64 z.N) ∧ w.cell? ⟨g, o + i * 6 + 4, none⟩ = some (.int .u64 z.x) ∧ w.cell? ⟨g, o + i * 6 + 5, none⟩ = some (.slice z.a z.d.length z.c)) ∧ RestAt w.heap.size w z.a z.d
theorem RestAt.out {N : Nat} {w w' : World} {a : Option Addr} {l : List UInt8} (h : RestAt N w a l) (o : Out w w') : RestAt N w' a l := h.imp id (fun ⟨b, o1, h1, h2, h3⟩ => ⟨b, o1, h1, h2, fun j x hx => cell_later o (h3 j x hx)⟩)
/-- desks beside one another, and other blocks that stay -/
def AllD (w wr : World) (ds : List Nat) (m : Nat) (KP : Nat → Obj → Prop) : Prop := ∃ Fs : Nat → Nat → Prop, (∀ i d, ds[i]? = some d → DkA w.heap.size wr d m (Fs i)) ∧ (∀ i j, i < ds.length → j < ds.length → i ≠ j → ∀ k, Fs i k → ¬ Fs j k) ∧ (∀ b X, KP b X → wr.heap[b]? = some X ∧ ∀ i, i < ds.length → ¬ Fs i b) ∧ Out w wr
section
variable {w wr w' : World} {ds : List Nat} {m : Nat} {KP : Nat → Obj → Prop}
theorem AllD.o (h : AllD w wr ds m KP) : Out w wr := h.choose_spec.2.2.2
theorem AllD.kp (h : AllD w wr ds m KP) {b : Nat} {X : Obj} (hk : KP b X) : wr.heap[b]? = some X := (h.choose_spec.2.2.1 b X hk).1
theorem AllD.act (h : AllD w wr ds m KP) {i d : Nat} (hi : ds[i]? = some d) (hm : m + 1 ≤ 1000000000) (z : AcI) (hz : AcOk z) (hr : RestAt w.heap.size w z.a z.d) :
    Calls Tryz.prog 8 #[.pointer (some ⟨d, 0, none⟩), z.v] wr fun e w' => ∃ u v, e = .returned (.tuple #[.bool true, u, v]) ∧ AllD w w' ds (m + 1) KP := by
  obtain ⟨Fs, h1, h2, h3, ho⟩ := h
  have hil : i < ds.length := (List.getElem?_eq_some_iff.1 hi).1
  refine (actA_any (h1 i d hi) hm z hz (hr.out ho)).mono ?_
  rintro e w' ⟨u, v, F', he, hd, hc, hn⟩
  refine ⟨u, v, he, fun j k => if j = i then F' k else Fs j k, fun j dj hj => ?_, fun j j' hj hj' hne k hk hk' => ?_, fun b X hb => ?_, Chg.out hc ho (fun k hk => ((h1 i d hi).1 k hk).1)⟩
  · by_cases hji : j = i
    · subst hji
      rw [hi] at hj
      cases hj
      simp only [if_true]
      exact hd
    · simp only [if_neg hji]
      exact ((h1 j dj hj).keep hc (fun k hk hk2 => h2 j i (List.getElem?_eq_some_iff.1 hj).1 hil hji k hk hk2)).mono (Nat.le_succ m)
  · by_cases hji : j = i
    · have hj'i : ¬ j' = i := fun e => hne (by rw [hji, e])
      simp only [if_pos hji] at hk
      simp only [if_neg hj'i] at hk'
      rcases hn k hk with e | e
      · exact h2 i j' hil hj' (fun e => hj'i e.symm) k e hk'
      · have := ((h1 j' _ (List.getElem?_eq_getElem hj')).1 k hk').2; omega
    · simp only [if_neg hji] at hk
      by_cases hj'i : j' = i
      · simp only [if_pos hj'i] at hk'
        rcases hn k hk' with e | e
        · exact h2 j i hj hil hji k hk e
        · have := ((h1 j _ (List.getElem?_eq_getElem hj)).1 k hk).2; omega
      · simp only [if_neg hj'i] at hk'
        exact h2 j j' hj hj' hne k hk hk'
  · obtain ⟨hX, hF⟩ := h3 b X hb
    have hbl : b < wr.heap.size := (Array.getElem?_eq_some_iff.1 hX).1
    refine ⟨blk_chg hX hc (hF i hil), fun j hj => ?_⟩
    by_cases hji : j = i
    · simp only [if_pos hji]
      intro hk
      rcases hn b hk with e | e
      · exact hF i hil e
      · omega
    · simp only [if_neg hji]
      exact hF j hj
theorem AllD.out (h : AllD w wr ds m KP) (o : Out wr w') : AllD w w' ds m KP := by
  obtain ⟨Fs, h1, h2, h3, ho⟩ := h
  exact ⟨Fs, fun i d hi => (h1 i d hi).out o, h2, fun b X hb => ⟨blk_out (h3 b X hb).1 o, (h3 b X hb).2⟩, ho.trans o⟩
theorem AllD.mono {m' : Nat} (h : AllD w wr ds m KP) (hm : m ≤ m') : AllD w wr ds m' KP := by
  obtain ⟨Fs, h1, h2, h3, ho⟩ := h
  exact ⟨Fs, fun i d hi => (h1 i d hi).mono hm, h2, h3, ho⟩
/-- a desk more -/
theorem AllD.push (h : AllD w wr ds m KP) {L : List RI} {n : Nat} {e : Ending} (he : OpenE L n wr e w') (hl : L.length = n) (hn : n ≤ m) : ∃ d, e = .returned (.tuple #[.pointer (some ⟨d, 0, none⟩), .bool true]) ∧ AllD w w' (ds ++ [d]) m KP := by
  obtain ⟨d, he, o, hd⟩ := he.dkA hl h.o.size
  obtain ⟨Fs, h1, h2, h3, ho⟩ := h.out o
  obtain ⟨Gs, g1, _, g3, _⟩ := h
  refine ⟨d, he, fun j k => if j = ds.length then (wr.heap.size ≤ k ∧ k < w'.heap.size) else Gs j k, fun j dj hj => ?_, fun j j' hj hj' hne k hk hk' => ?_, fun b X hb => ?_, ho⟩
  · by_cases hjl : j = ds.length
    · simp only [if_pos hjl]
      rw [hjl, List.getElem?_append_right (Nat.le_refl _), Nat.sub_self] at hj
      cases hj
      exact hd.mono hn
    · simp only [if_neg hjl]
      have hjl2 : j < ds.length := by have := (List.getElem?_eq_some_iff.1 hj).1; rw [List.length_append] at this; simp at this; omega
      rw [List.getElem?_append_left hjl2] at hj
      exact (g1 j dj hj).out o
  · rw [List.length_append] at hj hj'
    simp only [List.length_cons, List.length_nil] at hj hj'
    by_cases hjl : j = ds.length
    · have hj'l : ¬ j' = ds.length := fun e => hne (by rw [hjl, e])
      simp only [if_pos hjl] at hk
      simp only [if_neg hj'l] at hk'
      have := ((g1 j' _ (List.getElem?_eq_getElem (by omega))).1 k hk').2; omega
    · simp only [if_neg hjl] at hk
      by_cases hj'l : j' = ds.length
      · simp only [if_pos hj'l] at hk'
        have := ((g1 j _ (List.getElem?_eq_getElem (by omega))).1 k hk).2; omega
      · simp only [if_neg hj'l] at hk'
        rename_i dsj
        exact (‹∀ i j, i < ds.length → j < ds.length → i ≠ j → ∀ k, Gs i k → ¬ Gs j k› j j' (by omega) (by omega) hne k hk hk')
  · obtain ⟨hX, hF⟩ := g3 b X hb
    refine ⟨blk_out hX o, fun j hj => ?_⟩
    have hbl : b < wr.heap.size := (Array.getElem?_eq_some_iff.1 hX).1
    rw [List.length_append] at hj
    simp only [List.length_cons, List.length_nil] at hj
    by_cases hjl : j = ds.length
    · simp only [if_pos hjl]; omega
    · simp only [if_neg hjl]; exact hF j (by omega)
/-- a block more that stays -/
theorem AllD.add (h : AllD w wr ds m KP) (o : Out wr w') {b : Nat} {X : Obj} (hb : wr.heap.size ≤ b) (hX : w'.heap[b]? = some X) : AllD w w' ds m (fun k Y => k = b ∧ Y = X) := by
  obtain ⟨Gs, g1, _, _, _⟩ := id h
  obtain ⟨Fs, h1, h2, h3, ho⟩ := h
  refine ⟨Fs, fun i d hi => (h1 i d hi).out o, h2, fun k Y hk => ?_, ho.trans o⟩
  obtain ⟨rfl, rfl⟩ := hk
  refine ⟨hX, fun i hi hF => ?_⟩
  have := ((h1 i _ (List.getElem?_eq_getElem hi)).1 k hF).2; omega
end
set_option maxHeartbeats 16000000 in
set_option maxRecDepth 100000 in
theorem memoryAll_walk (w : World) (a1 a2 a3 : Option Addr) (c1 c2 c3 : Nat) (L1 L2 : List RI) (A : List AcI) (h1 : InR w a1 L1) (hL1 : ∀ x ∈ L1, x.f < 18446744073709551616 ∧ x.d.length ≤ 1000000000) (h2 : InR w a2 L2) (hL2 : ∀ x ∈ L2, x.f < 18446744073709551616 ∧ x.d.length ≤ 1000000000) (h3 : AcR w a3 A) (hA : ∀ z ∈ A, AcOk z) (ht : L1.length + L2.length + A.length ≤ 100000000) :
    Calls Tryz.prog 3 #[.slice a1 L1.length c1, .slice a2 L2.length c2, .slice a3 A.length c3] w fun e w' => e = .returned (.bool true) ∧ Out w w' := by
  have OC1 : Hid (∀ W, Out w W → Calls Tryz.prog 6 #[.slice a1 L1.length c1] W fun e w' => OpenE L1 L1.length W e w') := hidOf (fun W o => open_any W a1 c1 L1 (h1.out o) hL1 (by omega))
  have OC2 : Hid (∀ W, Out w W → Calls Tryz.prog 6 #[.slice a2 L2.length c2] W fun e w' => OpenE L2 L2.length W e w') := hidOf (fun W o => open_any W a2 c2 L2 (h2.out o) hL2 (by omega))
  have AWC := hidOf (fun W => awake_any W)
  have NIC := hidOf (fun W => nils_any W)
  obtain ⟨n1, hN1⟩ : ∃ n, Hid (n = L1.length) := ⟨_, rfl⟩
  obtain ⟨n2, hN2⟩ : ∃ n, Hid (n = L2.length) := ⟨_, rfl⟩
  obtain ⟨n3, hN3⟩ : ∃ n, Hid (n = A.length) := ⟨_, rfl⟩
  obtain ⟨M, hM⟩ : ∃ M, Hid (M = n1 + n2) := ⟨_, rfl⟩
  rw [← hN1.out, ← hN2.out, ← hN3.out] at ht
  rw [← hN1.out] at OC1
  rw [← hN2.out] at OC2
  rw [← hN1.out, ← hN2.out, ← hN3.out]
  have HT := hidOf ht
  have HA := hidOf hA
  have H3 := hidOf h3
  have A0 : Hid (AllD w w [] M (fun _ _ => False)) := hidOf ⟨fun _ _ => False, fun i d hi => by simp at hi, fun i j hi => by simp at hi, fun b X hb => hb.elim, Out.refl _⟩
  clear h1 hL1 h2 hL2 h3 hA ht
  go_enter Tryz.func3, Tryz.ntmps3
  go_upto_region 2 with (go_at_call 6; refine (OC1.out _ (Out.refl _)).mono ?_; intro e w1 hoe; obtain ⟨d1, rfl, hal⟩ := A0.out.push hoe hN1.out.symm (by have := hM.out; omega); have A1 := hidOf hal; clear hoe hal)
  go_upto_region 3 with (go_at_call 6; refine (OC2.out _ A1.out.o).mono ?_; intro e w2 hoe; obtain ⟨d2, rfl, hal⟩ := A1.out.push hoe hN2.out.symm (by have := hM.out; omega); have A2 := hidOf hal; clear hoe hal)
  go_upto_region 5 with (go_at_call 7; refine (NIC.out _).mono ?_; rintro e w3 ⟨rfl, ho3⟩; have A3 := hidOf (A2.out.out ho3); clear ho3)
  go_wp2
  go_loopw [11] (fun iv wr => ∃ k : Nat, iv = .int .i64 k ∧ k ≤ n3 ∧ Hid (AllD w wr ([d1, d2]) (M + k) (fun _ _ => False))) (fun iv _ => n3 - (intOf iv).toNat)
  case atStart => exact ⟨0, rfl, Nat.zero_le _, A3⟩
  case round =>
    clear A0 A1 A2 A3
    obtain ⟨k, rfl, hk, AR⟩ := hrel
    by_cases hkn : k < n3
    · have hlt : (k : Int) < n3 := by omega
      have hn3 : n3 ≤ 100000000 := by have := HT.out; omega
      obtain ⟨z, hz⟩ : ∃ z, A[k]? = some z := ⟨_, List.getElem?_eq_getElem (by rw [← hN3.out]; exact hkn)⟩
      obtain ⟨g, o, rfl, hcs⟩ : ∃ g o, a3 = some ⟨g, o, none⟩ ∧ _ := H3.out.resolve_left (fun e => by rw [e] at hz; simp at hz)
      obtain ⟨⟨q0, q1, q2, q3, q4, q5⟩, qr⟩ := hcs k z hz
      have hzo := HA.out z (List.mem_of_getElem? hz)
      obtain ⟨zw, zk, za, zN, zx, zp, zc, zd⟩ := z
      obtain ⟨zn, hzn⟩ : ∃ zn, Hid (zn = zd.length) := ⟨_, rfl⟩
      simp only at q0 q1 q2 q3 q4 q5 qr
      rw [← hzn.out] at q5
      have ho := AR.out.o
      have p0 := cell_later ho q0
      have p1 := cell_later ho q1
      have p2 := cell_later ho q2
      have p3 := cell_later ho q3
      have p4 := cell_later ho q4
      have p5 := cell_later ho q5
      have CA : Hid (∀ i d, [d1, d2][i]? = some d → Calls Tryz.prog 8 #[.pointer (some ⟨d, 0, none⟩), .agg #[.int .i64 zw, .int .i64 zk, .int .u64 za, .int .i64 zN, .int .u64 zx, .slice zp zn zc]] wr fun e w' => ∃ u v, e = .returned (.tuple #[.bool true, u, v]) ∧ AllD w w' ([d1, d2]) (M + k + 1) (fun _ _ => False)) := hidOf (fun i d hi => by
        have h9 := AR.out.act hi (by have := HT.out; have := hM.out; omega) ⟨zw, zk, za, zN, zx, zp, zc, zd⟩ hzo qr
        unfold AcI.v actV at h9
        simp only at h9
        rw [← hzn.out] at h9
        exact h9)
      clear hcs q0 q1 q2 q3 q4 q5 qr hzo ho hz
      cases hxb : (bits BinOp.and IntKind.i64 zw 1 == 1) with
      | true =>
        have C := hidOf (CA.out 1 d2 rfl)
        clear CA
        go_wp2_with (go_at_call 8; refine C.out.mono ?_; rintro e w4 ⟨u4, v4, rfl, hal⟩; have A4 := hidOf hal; clear hal)
        go_roundw
        case rel => exact ⟨k + 1, by first | rfl | simp, by omega, A4⟩
        case measure => simp [intOf]; omega
      | false =>
        have C := hidOf (CA.out 0 d1 rfl)
        clear CA
        go_wp2_with (go_at_call 8; refine C.out.mono ?_; rintro e w4 ⟨u4, v4, rfl, hal⟩; have A4 := hidOf hal; clear hal)
        go_roundw
        case rel => exact ⟨k + 1, by first | rfl | simp, by omega, A4⟩
        case measure => simp [intOf]; omega
    · have hlt : ¬ (k : Int) < n3 := by omega
      obtain rfl : k = n3 := by omega
      go_upto_region 15 with (go_at_call 6; refine (OC1.out _ AR.out.o).mono ?_; intro e w5 hoe; obtain ⟨d3, rfl, hal⟩ := AR.out.push hoe hN1.out.symm (by have := hM.out; omega); have A5 := hidOf hal; clear hoe hal)
      obtain ⟨b, hb⟩ : ∃ b, Hid (b = w5.heap.size) := ⟨_, rfl⟩
      obtain ⟨w6, H6, b6, o6⟩ : ∃ w6, Hid (w6 = w5.alloc (.cells #[.int .i64 0, .int .i64 4, .int .u64 16, .int .i64 8, .int .u64 9, .slice none 0 0, .int .i64 0, .int .i64 7, .int .u64 0, .int .i64 0, .int .u64 0, .slice none 0 0] 31)) ∧ w6.heap[b]? = some (.cells #[.int .i64 0, .int .i64 4, .int .u64 16, .int .i64 8, .int .u64 9, .slice none 0 0, .int .i64 0, .int .i64 7, .int .u64 0, .int .i64 0, .int .u64 0, .slice none 0 0] 31 (0, 0)) ∧ Out w5 w6 := ⟨_, rfl, by rw [hb.out]; exact heap_alloc_new w5 _, (Out.refl w5).alloc _⟩
      have A6 : Hid (AllD w w6 ([d1, d2, d3]) (M + k) (fun q Y => q = b ∧ Y = (.cells #[.int .i64 0, .int .i64 4, .int .u64 16, .int .i64 8, .int .u64 9, .slice none 0 0, .int .i64 0, .int .i64 7, .int .u64 0, .int .i64 0, .int .u64 0, .slice none 0 0] 31 (0, 0)))) := hidOf (A5.out.add o6 (by rw [hb.out]; exact Nat.le_refl _) b6)
      clear b6 o6 A5
      go_upto_region 18 with fail
      rw [← hb.out]
      rw [← H6.out]
      go_wp2
      go_loopw [18] (fun iv wr => ∃ j : Nat, iv = .int .i64 j ∧ j ≤ 2 ∧ Hid (AllD w wr ([d1, d2, d3]) (M + k + 3 * j) (fun q Y => q = b ∧ Y = (.cells #[.int .i64 0, .int .i64 4, .int .u64 16, .int .i64 8, .int .u64 9, .slice none 0 0, .int .i64 0, .int .i64 7, .int .u64 0, .int .i64 0, .int .u64 0, .slice none 0 0] 31 (0, 0))))) (fun iv _ => 2 - (intOf iv).toNat)
      case atStart => exact ⟨0, rfl, Nat.zero_le _, A6⟩
      case round =>
        clear A6 AR H6
        obtain ⟨j, rfl, hj, AJ⟩ := hrel
        have CA : Hid (∀ W m i d z, AllD w W ([d1, d2, d3]) m (fun q Y => q = b ∧ Y = (.cells #[.int .i64 0, .int .i64 4, .int .u64 16, .int .i64 8, .int .u64 9, .slice none 0 0, .int .i64 0, .int .i64 7, .int .u64 0, .int .i64 0, .int .u64 0, .slice none 0 0] 31 (0, 0))) → [d1, d2, d3][i]? = some d → m ≤ 100000100 → AcOk z → z.d = [] → Calls Tryz.prog 8 #[.pointer (some ⟨d, 0, none⟩), AcI.v z] W fun e w' => ∃ u v, e = .returned (.tuple #[.bool true, u, v]) ∧ AllD w w' ([d1, d2, d3]) (m + 1) (fun q Y => q = b ∧ Y = (.cells #[.int .i64 0, .int .i64 4, .int .u64 16, .int .i64 8, .int .u64 9, .slice none 0 0, .int .i64 0, .int .i64 7, .int .u64 0, .int .i64 0, .int .u64 0, .slice none 0 0] 31 (0, 0)))) := hidOf (fun W m i d z h hi hm hz hd => h.act hi (by omega) z hz (.inl hd))
        have hbd := HT.out
        have hMM := hM.out
        have CE := hidOf (fun (W : World) (hh : W.heap[b]? = some (.cells #[.int .i64 0, .int .i64 4, .int .u64 16, .int .i64 8, .int .u64 9, .slice none 0 0, .int .i64 0, .int .i64 7, .int .u64 0, .int .i64 0, .int .u64 0, .slice none 0 0] 31 (0, 0))) (q : Nat) => cell_B hh q)
        by_cases hj2 : j < 2
        · obtain rfl | rfl : j = 0 ∨ j = 1 := by omega
          · have r0 : wr.cell? ⟨b, 0, none⟩ = some (.int .i64 0) := (CE.out wr (AJ.out.kp ⟨rfl, rfl⟩) 0).trans rfl
            have r1 : wr.cell? ⟨b, 1, none⟩ = some (.int .i64 4) := (CE.out wr (AJ.out.kp ⟨rfl, rfl⟩) 1).trans rfl
            have r2 : wr.cell? ⟨b, 2, none⟩ = some (.int .u64 16) := (CE.out wr (AJ.out.kp ⟨rfl, rfl⟩) 2).trans rfl
            have r3 : wr.cell? ⟨b, 3, none⟩ = some (.int .i64 8) := (CE.out wr (AJ.out.kp ⟨rfl, rfl⟩) 3).trans rfl
            have r4 : wr.cell? ⟨b, 4, none⟩ = some (.int .u64 9) := (CE.out wr (AJ.out.kp ⟨rfl, rfl⟩) 4).trans rfl
            have r5 : wr.cell? ⟨b, 5, none⟩ = some (.slice none 0 0) := (CE.out wr (AJ.out.kp ⟨rfl, rfl⟩) 5).trans rfl
            have C1 : Hid (Calls Tryz.prog 8 #[.pointer (some ⟨d3, 0, none⟩), .agg #[.int .i64 0, .int .i64 4, .int .u64 16, .int .i64 8, .int .u64 9, .slice none 0 0]] wr fun e w' => ∃ u v, e = .returned (.tuple #[.bool true, u, v]) ∧ AllD w w' ([d1, d2, d3]) (M + k + 3 * 0 + 1) (fun q Y => q = b ∧ Y = (.cells #[.int .i64 0, .int .i64 4, .int .u64 16, .int .i64 8, .int .u64 9, .slice none 0 0, .int .i64 0, .int .i64 7, .int .u64 0, .int .i64 0, .int .u64 0, .slice none 0 0] 31 (0, 0)))) := hidOf (CA.out wr (M + k + 3 * 0) 2 d3 ⟨0, 4, 16, 8, 9, none, 0, []⟩ AJ.out rfl (by omega) ⟨by decide, by decide, by decide, by decide⟩ rfl)
            go_upto_region 22 with (go_at_call 8; refine C1.out.mono ?_; rintro e w6 ⟨u6, v6, rfl, hal⟩; have A6 := hidOf hal; clear hal)
            have s6 : w6.cell? ⟨b, 6, none⟩ = some (.int .i64 0) := (CE.out w6 (A6.out.kp ⟨rfl, rfl⟩) 6).trans rfl
            have s7 : w6.cell? ⟨b, 7, none⟩ = some (.int .i64 7) := (CE.out w6 (A6.out.kp ⟨rfl, rfl⟩) 7).trans rfl
            have s8 : w6.cell? ⟨b, 8, none⟩ = some (.int .u64 0) := (CE.out w6 (A6.out.kp ⟨rfl, rfl⟩) 8).trans rfl
            have s9 : w6.cell? ⟨b, 9, none⟩ = some (.int .i64 0) := (CE.out w6 (A6.out.kp ⟨rfl, rfl⟩) 9).trans rfl
            have s10 : w6.cell? ⟨b, 10, none⟩ = some (.int .u64 0) := (CE.out w6 (A6.out.kp ⟨rfl, rfl⟩) 10).trans rfl
            have s11 : w6.cell? ⟨b, 11, none⟩ = some (.slice none 0 0) := (CE.out w6 (A6.out.kp ⟨rfl, rfl⟩) 11).trans rfl
            have C2 : Hid (Calls Tryz.prog 8 #[.pointer (some ⟨d1, 0, none⟩), .agg #[.int .i64 0, .int .i64 7, .int .u64 0, .int .i64 0, .int .u64 0, .slice none 0 0]] w6 fun e w' => ∃ u v, e = .returned (.tuple #[.bool true, u, v]) ∧ AllD w w' ([d1, d2, d3]) (M + k + 3 * 0 + 1 + 1) (fun q Y => q = b ∧ Y = (.cells #[.int .i64 0, .int .i64 4, .int .u64 16, .int .i64 8, .int .u64 9, .slice none 0 0, .int .i64 0, .int .i64 7, .int .u64 0, .int .i64 0, .int .u64 0, .slice none 0 0] 31 (0, 0)))) := hidOf (CA.out w6 (M + k + 3 * 0 + 1) 0 d1 ⟨0, 7, 0, 0, 0, none, 0, []⟩ A6.out rfl (by omega) ⟨by decide, by decide, by decide, by decide⟩ rfl)
            go_upto_region 23 with (go_at_call 8; refine C2.out.mono ?_; rintro e w7 ⟨u7, v7, rfl, hal⟩; have A7 := hidOf hal; clear hal)
            have t6 : w7.cell? ⟨b, 6, none⟩ = some (.int .i64 0) := (CE.out w7 (A7.out.kp ⟨rfl, rfl⟩) 6).trans rfl
            have t7 : w7.cell? ⟨b, 7, none⟩ = some (.int .i64 7) := (CE.out w7 (A7.out.kp ⟨rfl, rfl⟩) 7).trans rfl
            have t8 : w7.cell? ⟨b, 8, none⟩ = some (.int .u64 0) := (CE.out w7 (A7.out.kp ⟨rfl, rfl⟩) 8).trans rfl
            have t9 : w7.cell? ⟨b, 9, none⟩ = some (.int .i64 0) := (CE.out w7 (A7.out.kp ⟨rfl, rfl⟩) 9).trans rfl
            have t10 : w7.cell? ⟨b, 10, none⟩ = some (.int .u64 0) := (CE.out w7 (A7.out.kp ⟨rfl, rfl⟩) 10).trans rfl
            have t11 : w7.cell? ⟨b, 11, none⟩ = some (.slice none 0 0) := (CE.out w7 (A7.out.kp ⟨rfl, rfl⟩) 11).trans rfl
            have C3 : Hid (Calls Tryz.prog 8 #[.pointer (some ⟨d2, 0, none⟩), .agg #[.int .i64 0, .int .i64 7, .int .u64 0, .int .i64 0, .int .u64 0, .slice none 0 0]] w7 fun e w' => ∃ u v, e = .returned (.tuple #[.bool true, u, v]) ∧ AllD w w' ([d1, d2, d3]) (M + k + 3 * 0 + 1 + 1 + 1) (fun q Y => q = b ∧ Y = (.cells #[.int .i64 0, .int .i64 4, .int .u64 16, .int .i64 8, .int .u64 9, .slice none 0 0, .int .i64 0, .int .i64 7, .int .u64 0, .int .i64 0, .int .u64 0, .slice none 0 0] 31 (0, 0)))) := hidOf (CA.out w7 (M + k + 3 * 0 + 1 + 1) 1 d2 ⟨0, 7, 0, 0, 0, none, 0, []⟩ A7.out rfl (by omega) ⟨by decide, by decide, by decide, by decide⟩ rfl)
            go_wp2_with (go_at_call 8; refine C3.out.mono ?_; rintro e w8 ⟨u8, v8, rfl, hal⟩; have A8 := hidOf hal; clear hal)
            go_roundw
            case rel => exact ⟨1, by first | rfl | simp, by omega, A8⟩
            case measure => simp [intOf]
          · have r6 : wr.cell? ⟨b, 6, none⟩ = some (.int .i64 0) := (CE.out wr (AJ.out.kp ⟨rfl, rfl⟩) 6).trans rfl
            have r7 : wr.cell? ⟨b, 7, none⟩ = some (.int .i64 7) := (CE.out wr (AJ.out.kp ⟨rfl, rfl⟩) 7).trans rfl
            have r8 : wr.cell? ⟨b, 8, none⟩ = some (.int .u64 0) := (CE.out wr (AJ.out.kp ⟨rfl, rfl⟩) 8).trans rfl
            have r9 : wr.cell? ⟨b, 9, none⟩ = some (.int .i64 0) := (CE.out wr (AJ.out.kp ⟨rfl, rfl⟩) 9).trans rfl
            have r10 : wr.cell? ⟨b, 10, none⟩ = some (.int .u64 0) := (CE.out wr (AJ.out.kp ⟨rfl, rfl⟩) 10).trans rfl
            have r11 : wr.cell? ⟨b, 11, none⟩ = some (.slice none 0 0) := (CE.out wr (AJ.out.kp ⟨rfl, rfl⟩) 11).trans rfl
            have C1 : Hid (Calls Tryz.prog 8 #[.pointer (some ⟨d3, 0, none⟩), .agg #[.int .i64 0, .int .i64 7, .int .u64 0, .int .i64 0, .int .u64 0, .slice none 0 0]] wr fun e w' => ∃ u v, e = .returned (.tuple #[.bool true, u, v]) ∧ AllD w w' ([d1, d2, d3]) (M + k + 3 * 1 + 1) (fun q Y => q = b ∧ Y = (.cells #[.int .i64 0, .int .i64 4, .int .u64 16, .int .i64 8, .int .u64 9, .slice none 0 0, .int .i64 0, .int .i64 7, .int .u64 0, .int .i64 0, .int .u64 0, .slice none 0 0] 31 (0, 0)))) := hidOf (CA.out wr (M + k + 3 * 1) 2 d3 ⟨0, 7, 0, 0, 0, none, 0, []⟩ AJ.out rfl (by omega) ⟨by decide, by decide, by decide, by decide⟩ rfl)
            go_upto_region 22 with (go_at_call 8; refine C1.out.mono ?_; rintro e w6 ⟨u6, v6, rfl, hal⟩; have A6 := hidOf hal; clear hal)
            have s0 : w6.cell? ⟨b, 0, none⟩ = some (.int .i64 0) := (CE.out w6 (A6.out.kp ⟨rfl, rfl⟩) 0).trans rfl
            have s1 : w6.cell? ⟨b, 1, none⟩ = some (.int .i64 4) := (CE.out w6 (A6.out.kp ⟨rfl, rfl⟩) 1).trans rfl
            have s2 : w6.cell? ⟨b, 2, none⟩ = some (.int .u64 16) := (CE.out w6 (A6.out.kp ⟨rfl, rfl⟩) 2).trans rfl
            have s3 : w6.cell? ⟨b, 3, none⟩ = some (.int .i64 8) := (CE.out w6 (A6.out.kp ⟨rfl, rfl⟩) 3).trans rfl
            have s4 : w6.cell? ⟨b, 4, none⟩ = some (.int .u64 9) := (CE.out w6 (A6.out.kp ⟨rfl, rfl⟩) 4).trans rfl
            have s5 : w6.cell? ⟨b, 5, none⟩ = some (.slice none 0 0) := (CE.out w6 (A6.out.kp ⟨rfl, rfl⟩) 5).trans rfl
            have C2 : Hid (Calls Tryz.prog 8 #[.pointer (some ⟨d1, 0, none⟩), .agg #[.int .i64 0, .int .i64 4, .int .u64 16, .int .i64 8, .int .u64 9, .slice none 0 0]] w6 fun e w' => ∃ u v, e = .returned (.tuple #[.bool true, u, v]) ∧ AllD w w' ([d1, d2, d3]) (M + k + 3 * 1 + 1 + 1) (fun q Y => q = b ∧ Y = (.cells #[.int .i64 0, .int .i64 4, .int .u64 16, .int .i64 8, .int .u64 9, .slice none 0 0, .int .i64 0, .int .i64 7, .int .u64 0, .int .i64 0, .int .u64 0, .slice none 0 0] 31 (0, 0)))) := hidOf (CA.out w6 (M + k + 3 * 1 + 1) 0 d1 ⟨0, 4, 16, 8, 9, none, 0, []⟩ A6.out rfl (by omega) ⟨by decide, by decide, by decide, by decide⟩ rfl)
            go_upto_region 23 with (go_at_call 8; refine C2.out.mono ?_; rintro e w7 ⟨u7, v7, rfl, hal⟩; have A7 := hidOf hal; clear hal)
            have t0 : w7.cell? ⟨b, 0, none⟩ = some (.int .i64 0) := (CE.out w7 (A7.out.kp ⟨rfl, rfl⟩) 0).trans rfl
            have t1 : w7.cell? ⟨b, 1, none⟩ = some (.int .i64 4) := (CE.out w7 (A7.out.kp ⟨rfl, rfl⟩) 1).trans rfl
            have t2 : w7.cell? ⟨b, 2, none⟩ = some (.int .u64 16) := (CE.out w7 (A7.out.kp ⟨rfl, rfl⟩) 2).trans rfl
            have t3 : w7.cell? ⟨b, 3, none⟩ = some (.int .i64 8) := (CE.out w7 (A7.out.kp ⟨rfl, rfl⟩) 3).trans rfl
            have t4 : w7.cell? ⟨b, 4, none⟩ = some (.int .u64 9) := (CE.out w7 (A7.out.kp ⟨rfl, rfl⟩) 4).trans rfl
            have t5 : w7.cell? ⟨b, 5, none⟩ = some (.slice none 0 0) := (CE.out w7 (A7.out.kp ⟨rfl, rfl⟩) 5).trans rfl
            have C3 : Hid (Calls Tryz.prog 8 #[.pointer (some ⟨d2, 0, none⟩), .agg #[.int .i64 0, .int .i64 4, .int .u64 16, .int .i64 8, .int .u64 9, .slice none 0 0]] w7 fun e w' => ∃ u v, e = .returned (.tuple #[.bool true, u, v]) ∧ AllD w w' ([d1, d2, d3]) (M + k + 3 * 1 + 1 + 1 + 1) (fun q Y => q = b ∧ Y = (.cells #[.int .i64 0, .int .i64 4, .int .u64 16, .int .i64 8, .int .u64 9, .slice none 0 0, .int .i64 0, .int .i64 7, .int .u64 0, .int .i64 0, .int .u64 0, .slice none 0 0] 31 (0, 0)))) := hidOf (CA.out w7 (M + k + 3 * 1 + 1 + 1) 1 d2 ⟨0, 4, 16, 8, 9, none, 0, []⟩ A7.out rfl (by omega) ⟨by decide, by decide, by decide, by decide⟩ rfl)
            go_wp2_with (go_at_call 8; refine C3.out.mono ?_; rintro e w8 ⟨u8, v8, rfl, hal⟩; have A8 := hidOf hal; clear hal)
            go_roundw
            case rel => exact ⟨2, by first | rfl | simp, by omega, A8⟩
            case measure => simp [intOf]
        · obtain rfl : j = 2 := by omega
          go_wp2_with (go_at_call 9; refine (AWC.out _).mono ?_; rintro e w9 ⟨rfl, ho9⟩; have O9 := hidOf (AJ.out.o.trans ho9); clear ho9)
          go_ret
          exact ⟨rfl, O9.out⟩
end Go.Proofs.YtekjfbmebekmeaaGreat
