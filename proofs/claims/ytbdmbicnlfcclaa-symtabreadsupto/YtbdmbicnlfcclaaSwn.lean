import Derived.Test.YtbdmbicnlfcclaaSwm
namespace Go.Proofs.Ytbdmbicnlfcclaa
open Go.RowKit
set_option linter.unusedVariables false
set_option linter.unusedSimpArgs false
theorem results_row_tmp1 {P : Program} {fn : Func} {p u : Tmp} {ty : TypeId} (h : fn.results = #[.cell p ty, .tmp u]) (tmps : Array Value) (w : World) (g : Nat) (t : TypeId) (cs : Array Value) (fr : Nat × Nat) (d : TypeDesc)
    (hp : tmps.getD p undef = .pointer (some ⟨g, 0, none⟩)) (hg : w.heap[g]? = some (.cells cs t fr))
    (hu : P.underlying ty = some d) (hd : (match d with | .struct _ | .array _ _ => true | _ => false) = true) (hi : (P.info? ty).map (·.size) = some cs.size) :
    (results fn tmps).run P w = .ok (.tuple #[.agg cs, tmps.getD u undef]) w := by
  have hp' : tmps[p]?.getD undef = .pointer (some ⟨g, 0, none⟩) := by simpa using hp
  simp [results, h, hp', asAddr, run_loadVar_row w g t ty cs fr d hg hu hd hi]
/-- behind the first region of entry: the result's box at q, the symbol's at q + 1 -/
structure Er (w wx : World) (q : Nat) (s : Sy) : Prop where
  out : Out w wx
  zb : Zb wx q
  bx : wx.heap[q + 1]? = some (.cells (Sy.ar s) 57 (0, 0))
  ge : w.heap.size ≤ q
theorem Er.more {w wx wy : World} {q : Nat} {s : Sy} (h : Er w wx q s) (o : Out wx wy) : Er w wy q s :=
  ⟨h.out.trans o, h.zb.later o, (o.block _ (Array.getElem?_eq_some_iff.1 h.bx).1).trans h.bx, h.ge⟩
theorem Er.fin {w wx : World} {q : Nat} {s : Sy} (h : Er w wx q s) : Out w (set6 wx q s) := by
  have h3 : Chg (fun k => k = q) w (set6 wx q s) := set6_chg s (Chg.of_out h.out) h.ge
  exact Chg.out h3 (Out.refl w) (fun k hk => by rw [hk]; exact h.ge)
theorem Er.start (w : World) (s : Sy) : Er w (((w.alloc (.cells #[.int .i64 0, .int .i64 0, .int .i64 0, .int .i64 0, .int .i64 0, .int .i64 0] 57)).alloc (.cells (Sy.ar s) 57)).drew) w.heap.size s := by
  have hs : (w.alloc (.cells #[.int .i64 0, .int .i64 0, .int .i64 0, .int .i64 0, .int .i64 0, .int .i64 0] 57)).heap.size = w.heap.size + 1 := size_alloc _ _
  refine ⟨(((Out.refl w).alloc _).alloc _).drew, ?_, ?_, Nat.le_refl _⟩
  · exact Zb.later (w := w.alloc (.cells #[.int .i64 0, .int .i64 0, .int .i64 0, .int .i64 0, .int .i64 0, .int .i64 0] 57)) (heap_alloc_new w _) (((Out.refl _).alloc _).drew)
  · rw [← hs]
    exact heap_alloc_new _ _
set_option maxRecDepth 8000 in
set_option maxHeartbeats 8000000 in
theorem entry_any (w : World) (g off c : Nat) (l : List UInt8) (hg : g < w.heap.size) (h : BAt w g off l) (hl : l.length = 24) (hc : 24 ≤ c) (x4 x5 : UInt8) (h4 : l[4]? = some x4) (h5 : l[5]? = some x5) :
    Calls Try.prog 41 #[.slice (some ⟨g, off, none⟩) 24 c] w fun e w' => e = .returned (.tuple #[.agg (syT l x4).ar, .int .i64 (enW l x4 x5)]) ∧ Out w w' := by
  have NN : ∀ i n, n ≤ 8 → i + n ≤ 24 → ∀ wx, Out w wx → ∀ c', Calls Try.prog 52 #[.slice (some ⟨g, off + i, none⟩) n c'] wx fun e w' => e = .returned (.int .i64 (tdB l i n)) ∧ w' = wx := fun i n hn hi wx o c' => told_cut (Nat.lt_of_lt_of_le hg o.size) (h.out hg o) i n c' hn (by omega)
  have N0 := hidOf (NN 0 4 (by omega) (by omega))
  rw [Nat.add_zero] at N0
  have N6 := hidOf (NN 6 2 (by omega) (by omega))
  have N8 := hidOf (NN 8 8 (by omega) (by omega))
  have N16 := hidOf (NN 16 8 (by omega) (by omega))
  have HQ4 : Hid (∀ wx, Out w wx → wx.cell? ⟨g, off + 4, none⟩ = some (.int .u8 (x4.toNat : Int))) := fun wx o => h.out hg o 4 x4 h4
  have HQ5 : Hid (∀ wx, Out w wx → wx.cell? ⟨g, off + 5, none⟩ = some (.int .u8 (x5.toNat : Int))) := fun wx o => h.out hg o 5 x5 h5
  have hn0 : 0 ≤ tdB l 0 4 ∧ tdB l 0 4 ≤ 4294967295 := by
    rw [td_small l 0 4 (by omega), nu_small l 0 4 (by omega)]
    have h1 := nmB_lt ((l.drop 0).take 4)
    have h2 : 256 ^ ((l.drop 0).take 4).length ≤ 256 ^ 4 := Nat.pow_le_pow_right (by omega) (by rw [List.length_take]; omega)
    omega
  have hSo := fun se va si => so_of (se := se) (va := va) (si := si) (x4 := x4) hn0.1 hn0.2
  have HSo := hidOf hSo
  have HR : Hid (enW l x4 x5 = if fifP x4.toNat = 0 then 4 else if ¬ x5 = 0 then 5 else match ffP (fifP x4.toNat) (syT l x4) with
    | some a => ((a : Nat) : Int)
    | none => -1) := hidOf rfl
  have hcI : (24 : Int) ≤ c := by omega
  have hc4 : (4 : Int) ≤ c := by omega
  have hc8 : (8 : Int) ≤ c := by omega
  have hc16 : (16 : Int) ≤ c := by omega
  have hne4 : ¬ c = 4 := by omega
  have hne6 : ¬ c = 6 := by omega
  have hne8 : ¬ c = 8 := by omega
  have hne16 : ¬ c = 16 := by omega
  have hne0 : ¬ c = 0 := by omega
  have hb := x4.toNat_lt
  have hx5 : Hid (x5 = 0 ↔ (x5.toNat : Int) = 0) := hidOf ⟨fun e => by rw [e]; rfl, fun e => by
    have e2 : x5.toNat = 0 := by omega
    exact UInt8.toNat_inj.1 (by rw [e2]; rfl)⟩
  unfold syT Sy.ar at *
  simp only at HR ⊢
  generalize tdB l 0 4 = n0 at *
  generalize tdB l 6 2 = n6 at *
  generalize tdB l 8 8 = n8 at *
  generalize tdB l 16 8 = n16 at *
  obtain ⟨R, hR⟩ : ∃ R, R = enW l x4 x5 := ⟨_, rfl⟩
  rw [← hR] at HR ⊢
  clear hR hSo hn0
  have hb0 : (0 : Int) ≤ x4.toNat := by omega
  have hb1 : (x4.toNat : Int) < 256 := by omega
  clear hb
  generalize (x4.toNat : Int) = n4 at *
  generalize (x5.toNat : Int) = n5 at *
  have hd1 : n4.tdiv 16 = n4 / 16 := Int.tdiv_eq_ediv_of_nonneg hb0
  have hd2 : n4.tmod 16 = n4 % 16 := Int.tmod_eq_emod_of_nonneg hb0
  have HO := hidOf ((Out.refl w).alloc (.cells #[.int .i64 0, .int .i64 0, .int .i64 0, .int .i64 0, .int .i64 0, .int .i64 0] 57))
  have qA := HQ4.out _ HO.out
  have qA' : ∀ n, ((w.alloc (.cells #[.int .i64 0, .int .i64 0, .int .i64 0, .int .i64 0, .int .i64 0, .int .i64 0] 57)).drewN n).cell? ⟨g, off + 4, none⟩ = some (.int .u8 n4) := fun n => HQ4.out _ (HO.out.drewN n)
  clear h hg hl NN h4 h5
  go_enter Try.func41, Try.ntmps41
  go_upto_region 1 with fail
  go_cut [0, 2, 4] (fun s0 s2 s4 wx => s0 = .slice (some ⟨g, off, none⟩) 24 c ∧ ∃ q, s2 = .pointer (some ⟨q, 0, none⟩) ∧ s4 = .pointer (some ⟨q + 1, 0, none⟩) ∧ Er w wx q ⟨n0, n4 / 16, n4 % 16, n6, n8, n16⟩)
  case first =>
    go_region_held3 (fun wx => wx.cell? ⟨g, off + 4, none⟩ = some (.int .u8 n4)) (first | with_reducible exact qA | with_reducible exact qA' _ | exact HQ4.out _ (by repeat (first | exact HO.out | apply Out.drew | apply Out.alloc | apply Out.drewN)) | go_keep) (first | (go_at_call 52; (first | with_reducible refine (N0.out _ (by repeat (first | exact HO.out | apply Out.drew | apply Out.alloc | apply Out.drewN)) _).mono ?_ | with_reducible refine (N6.out _ (by repeat (first | exact HO.out | apply Out.drew | apply Out.alloc | apply Out.drewN)) _).mono ?_ | with_reducible refine (N8.out _ (by repeat (first | exact HO.out | apply Out.drew | apply Out.alloc | apply Out.drewN)) _).mono ?_ | with_reducible refine (N16.out _ (by repeat (first | exact HO.out | apply Out.drew | apply Out.alloc | apply Out.drewN)) _).mono ?_); rintro e w1 ⟨rfl, hw⟩; subst hw) | fail)
    all_goals
      go_wp2
      go_meet
      rw [show IntKind.i64.wrap (IntKind.u8.wrap (n4 / 16)) = n4 / 16 by rw [IntKind.wrap_i64, IntKind.wrap_u8]; omega, show IntKind.i64.wrap (n4 % 16) = n4 % 16 by rw [IntKind.wrap_i64]; omega]
      exact ⟨rfl, w.heap.size, rfl, rfl, Er.start w ⟨n0, n4 / 16, n4 % 16, n6, n8, n16⟩⟩
  case rest =>
    obtain ⟨rfl, q, rfl, rfl, hE⟩ := hcut
    have HE := hidOf hE
    have q4 := HQ4.out wc hE.out
    have q5 := HQ5.out wc hE.out
    obtain ⟨z0, z1, z2, z3, z4, z5⟩ := hE.zb.cells
    obtain ⟨f0, f1, f2, f3, f4, f5⟩ := hE.zb.frozen
    have b0 : wc.cell? ⟨q + 1, 0, none⟩ = some (.int .i64 n0) := box_cell hE.bx 0
    have b1 : wc.cell? ⟨q + 1, 1, none⟩ = some (.int .i64 (n4 / 16)) := box_cell hE.bx 1
    have b2 : wc.cell? ⟨q + 1, 2, none⟩ = some (.int .i64 (n4 % 16)) := box_cell hE.bx 2
    have b3 : wc.cell? ⟨q + 1, 3, none⟩ = some (.int .i64 n6) := box_cell hE.bx 3
    have b4 : wc.cell? ⟨q + 1, 4, none⟩ = some (.int .i64 n8) := box_cell hE.bx 4
    have b5 : wc.cell? ⟨q + 1, 5, none⟩ = some (.int .i64 n16) := box_cell hE.bx 5
    clear hE qA qA' N0 N6 N8 N16 hd1 hd2
    by_cases hA : fifP n4 = 0
    · have hR := HR.out
      rw [if_pos hA] at hR
      subst hR
      have c2 : ¬ n4 = 2 := fun e => by rw [e] at hA; cases hA
      have c1 : ¬ n4 = 1 := fun e => by rw [e] at hA; cases hA
      have c18 : ¬ n4 = 18 := fun e => by rw [e] at hA; cases hA
      have c16 : ¬ n4 = 16 := fun e => by rw [e] at hA; cases hA
      have d2 : (n4 != 2) = true := by simp [c2]
      have d1 : (n4 != 1) = true := by simp [c1]
      have d18 : (n4 != 18) = true := by simp [c18]
      have d16 : (n4 != 16) = true := by simp [c16]
      clear hA c2 c1 c18 c16 HR
      go_wp2
      refine bodyPost_ret (results_row_tmp1 rfl _ _ q 57 _ (0, 0) _ rfl (set6_heap ⟨n0, n4 / 16, n4 % 16, n6, n8, n16⟩ HE.out.zb) Try.underlying57 rfl sizeSm) rfl ?_
      exact ⟨rfl, HE.out.fin⟩
    · obtain rfl | rfl | rfl | rfl : n4 = 2 ∨ n4 = 1 ∨ n4 = 18 ∨ n4 = 16 := by
        unfold fifP at hA
        by_cases e2 : n4 = 2
        · exact .inl e2
        by_cases e1 : n4 = 1
        · exact .inr (.inl e1)
        by_cases e18 : n4 = 18
        · exact .inr (.inr (.inl e18))
        by_cases e16 : n4 = 16
        · exact .inr (.inr (.inr e16))
        rw [if_neg e2, if_neg e1, if_neg e18, if_neg e16] at hA; exact absurd rfl hA
      · clear b0 b1 b2 b3 b4 b5 z0 z1 z2 z3 z4 z5 f0 f1 f2 f3 f4 f5
        have hE : Er w wc q ⟨n0, 0, 2, n6, n8, n16⟩ := HE.out
        have HE := hidOf hE
        have hR := HR.out
        rw [if_neg hA] at hR
        clear HR hA
        by_cases h5 : n5 = 0
        · subst h5
          rw [if_neg (fun h => h (hx5.out.2 rfl))] at hR
          have hs0 : soP ⟨n0, 0, 2, n6, 0, 8⟩ = if ffP 1 ⟨n0, 0, 2, n6, 0, 8⟩ = none then 1 else 0 := HSo.out (n6) (0) (8)
          have hs1 : soP ⟨n0, 0, 2, n6, n8, 8⟩ = if ffP 1 ⟨n0, 0, 2, n6, n8, 8⟩ = none then 1 else 0 := HSo.out (n6) (n8) (8)
          have hs2 : soP ⟨n0, 0, 2, n6, n8, n16⟩ = if ffP 1 ⟨n0, 0, 2, n6, n8, n16⟩ = none then 1 else 0 := HSo.out (n6) (n8) (n16)
          have hff : ffP (fifP 2) ⟨n0, 2 / 16, 2 % 16, n6, n8, n16⟩ = ffP 1 ⟨n0, 0, 2, n6, n8, n16⟩ := rfl
          rw [hff] at hR
          clear hff
          by_cases hse : n6 = 1
          · cases hva : vaP 1 n8
            · skip
              have hf0 : ffP 1 ⟨n0, 0, 2, n6, 0, 8⟩ = none := by
                show (if n6 ≠ (1 : Int) then some 6 else if vaP 1 (0) = false then some 8 else if siP 1 (8) = false then some 16 else none) = _
                rw [if_neg (fun h => h hse), if_neg (by decide), if_neg (by decide)]
              rw [if_pos hf0] at hs0
              have hf1 : ffP 1 ⟨n0, 0, 2, n6, n8, 8⟩ = some 8 := by
                show (if n6 ≠ (1 : Int) then some 6 else if vaP 1 (n8) = false then some 8 else if siP 1 (8) = false then some 16 else none) = _
                rw [if_neg (fun h => h hse), if_pos hva]
              rw [if_neg (by rw [hf1]; decide)] at hs1
              have hf2 : ffP 1 ⟨n0, 0, 2, n6, n8, n16⟩ = some 8 := by
                show (if n6 ≠ (1 : Int) then some 6 else if vaP 1 (n8) = false then some 8 else if siP 1 (n16) = false then some 16 else none) = _
                rw [if_neg (fun h => h hse), if_pos hva]
              rw [hf2] at hR
              simp only at hR
              subst hR
              have C0 : Hid (∀ wx, Calls Try.prog 37 #[.agg #[.int .i64 n0, .int .i64 0, .int .i64 2, .int .i64 n6, .int .i64 0, .int .i64 8]] wx fun e w' => e = .returned (.int .i64 1) ∧ Out wx w') := fun wx => by
                have := refSort_any n0 0 2 (n6) (0) (8) wx
                rw [hs0] at this
                exact this
              have C1 : Hid (∀ wx, Calls Try.prog 37 #[.agg #[.int .i64 n0, .int .i64 0, .int .i64 2, .int .i64 n6, .int .i64 n8, .int .i64 8]] wx fun e w' => e = .returned (.int .i64 0) ∧ Out wx w') := fun wx => by
                have := refSort_any n0 0 2 (n6) (n8) (8) wx
                rw [hs1] at this
                exact this
              clear hs0 hs1 hs2 hf0 hf2 hf1
              obtain ⟨z0, z1, z2, z3, z4, z5⟩ := hE.zb.cells
              obtain ⟨f0, f1, f2, f3, f4, f5⟩ := hE.zb.frozen
              have b0 : wc.cell? ⟨q + 1, 0, none⟩ = some (.int .i64 n0) := box_cell hE.bx 0
              have b1 : wc.cell? ⟨q + 1, 1, none⟩ = some (.int .i64 0) := box_cell hE.bx 1
              have b2 : wc.cell? ⟨q + 1, 2, none⟩ = some (.int .i64 2) := box_cell hE.bx 2
              have b3 : wc.cell? ⟨q + 1, 3, none⟩ = some (.int .i64 n6) := box_cell hE.bx 3
              have b4 : wc.cell? ⟨q + 1, 4, none⟩ = some (.int .i64 n8) := box_cell hE.bx 4
              have b5 : wc.cell? ⟨q + 1, 5, none⟩ = some (.int .i64 n16) := box_cell hE.bx 5
              have b2a : ∀ O, (wc.alloc O).cell? ⟨q + 1, 2, none⟩ = some (.int .i64 2) := fun O => cell_later ((Out.refl wc).alloc O) b2
              clear hE hse hva
              go_upto_region 13 with (go_at_call 37; refine (C0.out _).mono ?_; rintro e w1 ⟨rfl, ho⟩; have P1 := hidOf ho; clear ho)
              clear b0 b1 b2 b3 b4 b5 z0 z1 z2 z3 z4 z5 f0 f1 f2 f3 f4 f5 b2a
              have O1 : Hid (Out wc w1) := hidOf (((Out.refl wc).alloc (.cells #[.int .i64 n0, .int .i64 0, .int .i64 2, .int .i64 n6, .int .i64 0, .int .i64 8] 57)).trans P1.out)
              have gb : w1.heap[wc.heap.size]? = some (.cells #[.int .i64 n0, .int .i64 0, .int .i64 2, .int .i64 n6, .int .i64 0, .int .i64 8] 57 (0, 0)) := (P1.out.block _ (by rw [size_alloc]; omega)).trans (heap_alloc_new wc _)
              have g0 : w1.cell? ⟨wc.heap.size, 0, none⟩ = some (.int .i64 n0) := box_cell gb 0
              have g1 : w1.cell? ⟨wc.heap.size, 1, none⟩ = some (.int .i64 0) := box_cell gb 1
              have g2 : w1.cell? ⟨wc.heap.size, 2, none⟩ = some (.int .i64 2) := box_cell gb 2
              have g3 : w1.cell? ⟨wc.heap.size, 3, none⟩ = some (.int .i64 n6) := box_cell gb 3
              have g4 : w1.cell? ⟨wc.heap.size, 4, none⟩ = some (.int .i64 0) := box_cell gb 4
              have g5 : w1.cell? ⟨wc.heap.size, 5, none⟩ = some (.int .i64 8) := box_cell gb 5
              have gf : w1.frozen? ⟨wc.heap.size, 4, none⟩ = false := by rw [World.frozen?, gb]; rfl
              have b4 : w1.cell? ⟨q + 1, 4, none⟩ = some (.int .i64 n8) := box_cell (HE.out.more O1.out).bx 4
              clear gb
              go_upto_region 15 with (go_at_call 37; refine (C1.out _).mono ?_; rintro e w2 ⟨rfl, ho⟩; have P2 := hidOf ho; clear ho)
              clear g0 g1 g2 g3 g4 g5 gf b4
              have O2 : Hid (Out wc w2) := hidOf ((Out.setCell O1.out (a := ⟨wc.heap.size, 4, none⟩) (Nat.le_refl _) _).trans P2.out)
              have E2 := HE.out.more O2.out
              obtain ⟨z0, z1, z2, z3, z4, z5⟩ := E2.zb.cells
              obtain ⟨f0, f1, f2, f3, f4, f5⟩ := E2.zb.frozen
              have b0 : w2.cell? ⟨q + 1, 0, none⟩ = some (.int .i64 n0) := box_cell E2.bx 0
              have b1 : w2.cell? ⟨q + 1, 1, none⟩ = some (.int .i64 0) := box_cell E2.bx 1
              have b2 : w2.cell? ⟨q + 1, 2, none⟩ = some (.int .i64 2) := box_cell E2.bx 2
              have b3 : w2.cell? ⟨q + 1, 3, none⟩ = some (.int .i64 n6) := box_cell E2.bx 3
              have b4 : w2.cell? ⟨q + 1, 4, none⟩ = some (.int .i64 n8) := box_cell E2.bx 4
              have b5 : w2.cell? ⟨q + 1, 5, none⟩ = some (.int .i64 n16) := box_cell E2.bx 5
              have HE2 := hidOf E2
              clear E2
              go_wp2
              refine bodyPost_ret (results_row_tmp1 rfl _ _ q 57 _ (0, 0) _ rfl (set6_heap ⟨n0, 0, 2, n6, n8, n16⟩ HE2.out.zb) Try.underlying57 rfl sizeSm) rfl ?_
              exact ⟨rfl, HE2.out.fin⟩
            · cases hsi : siP 1 n16
              · skip
                have hf0 : ffP 1 ⟨n0, 0, 2, n6, 0, 8⟩ = none := by
                  show (if n6 ≠ (1 : Int) then some 6 else if vaP 1 (0) = false then some 8 else if siP 1 (8) = false then some 16 else none) = _
                  rw [if_neg (fun h => h hse), if_neg (by decide), if_neg (by decide)]
                rw [if_pos hf0] at hs0
                have hf1 : ffP 1 ⟨n0, 0, 2, n6, n8, 8⟩ = none := by
                  show (if n6 ≠ (1 : Int) then some 6 else if vaP 1 (n8) = false then some 8 else if siP 1 (8) = false then some 16 else none) = _
                  rw [if_neg (fun h => h hse), if_neg (by rw [hva]; decide), if_neg (by decide)]
                rw [if_pos hf1] at hs1
                have hf2 : ffP 1 ⟨n0, 0, 2, n6, n8, n16⟩ = some 16 := by
                  show (if n6 ≠ (1 : Int) then some 6 else if vaP 1 (n8) = false then some 8 else if siP 1 (n16) = false then some 16 else none) = _
                  rw [if_neg (fun h => h hse), if_neg (by rw [hva]; decide), if_pos hsi]
                rw [if_neg (by rw [hf2]; decide)] at hs2
                rw [hf2] at hR
                simp only at hR
                subst hR
                have C0 : Hid (∀ wx, Calls Try.prog 37 #[.agg #[.int .i64 n0, .int .i64 0, .int .i64 2, .int .i64 n6, .int .i64 0, .int .i64 8]] wx fun e w' => e = .returned (.int .i64 1) ∧ Out wx w') := fun wx => by
                  have := refSort_any n0 0 2 (n6) (0) (8) wx
                  rw [hs0] at this
                  exact this
                have C1 : Hid (∀ wx, Calls Try.prog 37 #[.agg #[.int .i64 n0, .int .i64 0, .int .i64 2, .int .i64 n6, .int .i64 n8, .int .i64 8]] wx fun e w' => e = .returned (.int .i64 1) ∧ Out wx w') := fun wx => by
                  have := refSort_any n0 0 2 (n6) (n8) (8) wx
                  rw [hs1] at this
                  exact this
                have C2 : Hid (∀ wx, Calls Try.prog 37 #[.agg #[.int .i64 n0, .int .i64 0, .int .i64 2, .int .i64 n6, .int .i64 n8, .int .i64 n16]] wx fun e w' => e = .returned (.int .i64 0) ∧ Out wx w') := fun wx => by
                  have := refSort_any n0 0 2 (n6) (n8) (n16) wx
                  rw [hs2] at this
                  exact this
                clear hs0 hs1 hs2 hf0 hf2 hf1
                obtain ⟨z0, z1, z2, z3, z4, z5⟩ := hE.zb.cells
                obtain ⟨f0, f1, f2, f3, f4, f5⟩ := hE.zb.frozen
                have b0 : wc.cell? ⟨q + 1, 0, none⟩ = some (.int .i64 n0) := box_cell hE.bx 0
                have b1 : wc.cell? ⟨q + 1, 1, none⟩ = some (.int .i64 0) := box_cell hE.bx 1
                have b2 : wc.cell? ⟨q + 1, 2, none⟩ = some (.int .i64 2) := box_cell hE.bx 2
                have b3 : wc.cell? ⟨q + 1, 3, none⟩ = some (.int .i64 n6) := box_cell hE.bx 3
                have b4 : wc.cell? ⟨q + 1, 4, none⟩ = some (.int .i64 n8) := box_cell hE.bx 4
                have b5 : wc.cell? ⟨q + 1, 5, none⟩ = some (.int .i64 n16) := box_cell hE.bx 5
                have b2a : ∀ O, (wc.alloc O).cell? ⟨q + 1, 2, none⟩ = some (.int .i64 2) := fun O => cell_later ((Out.refl wc).alloc O) b2
                clear hE hse hva hsi
                go_upto_region 13 with (go_at_call 37; refine (C0.out _).mono ?_; rintro e w1 ⟨rfl, ho⟩; have P1 := hidOf ho; clear ho)
                clear b0 b1 b2 b3 b4 b5 z0 z1 z2 z3 z4 z5 f0 f1 f2 f3 f4 f5 b2a
                have O1 : Hid (Out wc w1) := hidOf (((Out.refl wc).alloc (.cells #[.int .i64 n0, .int .i64 0, .int .i64 2, .int .i64 n6, .int .i64 0, .int .i64 8] 57)).trans P1.out)
                have gb : w1.heap[wc.heap.size]? = some (.cells #[.int .i64 n0, .int .i64 0, .int .i64 2, .int .i64 n6, .int .i64 0, .int .i64 8] 57 (0, 0)) := (P1.out.block _ (by rw [size_alloc]; omega)).trans (heap_alloc_new wc _)
                have g0 : w1.cell? ⟨wc.heap.size, 0, none⟩ = some (.int .i64 n0) := box_cell gb 0
                have g1 : w1.cell? ⟨wc.heap.size, 1, none⟩ = some (.int .i64 0) := box_cell gb 1
                have g2 : w1.cell? ⟨wc.heap.size, 2, none⟩ = some (.int .i64 2) := box_cell gb 2
                have g3 : w1.cell? ⟨wc.heap.size, 3, none⟩ = some (.int .i64 n6) := box_cell gb 3
                have g4 : w1.cell? ⟨wc.heap.size, 4, none⟩ = some (.int .i64 0) := box_cell gb 4
                have g5 : w1.cell? ⟨wc.heap.size, 5, none⟩ = some (.int .i64 8) := box_cell gb 5
                have gf : w1.frozen? ⟨wc.heap.size, 4, none⟩ = false := by rw [World.frozen?, gb]; rfl
                have b4 : w1.cell? ⟨q + 1, 4, none⟩ = some (.int .i64 n8) := box_cell (HE.out.more O1.out).bx 4
                clear gb
                go_upto_region 16 with (go_at_call 37; refine (C1.out _).mono ?_; rintro e w2 ⟨rfl, ho⟩; have P2 := hidOf ho; clear ho)
                clear g0 g1 g2 g3 g4 g5 gf b4
                have O2 : Hid (Out wc w2) := hidOf ((Out.setCell O1.out (a := ⟨wc.heap.size, 4, none⟩) (Nat.le_refl _) _).trans P2.out)
                have E2 := HE.out.more O2.out
                obtain ⟨z0, z1, z2, z3, z4, z5⟩ := E2.zb.cells
                obtain ⟨f0, f1, f2, f3, f4, f5⟩ := E2.zb.frozen
                have b0 : w2.cell? ⟨q + 1, 0, none⟩ = some (.int .i64 n0) := box_cell E2.bx 0
                have b1 : w2.cell? ⟨q + 1, 1, none⟩ = some (.int .i64 0) := box_cell E2.bx 1
                have b2 : w2.cell? ⟨q + 1, 2, none⟩ = some (.int .i64 2) := box_cell E2.bx 2
                have b3 : w2.cell? ⟨q + 1, 3, none⟩ = some (.int .i64 n6) := box_cell E2.bx 3
                have b4 : w2.cell? ⟨q + 1, 4, none⟩ = some (.int .i64 n8) := box_cell E2.bx 4
                have b5 : w2.cell? ⟨q + 1, 5, none⟩ = some (.int .i64 n16) := box_cell E2.bx 5
                have HE2 := hidOf E2
                clear E2
                go_upto_region 17 with (go_at_call 37; refine (C2.out _).mono ?_; rintro e w3 ⟨rfl, ho⟩; have P3 := hidOf ho; clear ho)
                clear b0 b1 b2 b3 b4 b5 z0 z1 z2 z3 z4 z5 f0 f1 f2 f3 f4 f5
                have E3 := HE2.out.more P3.out
                obtain ⟨z0, z1, z2, z3, z4, z5⟩ := E3.zb.cells
                obtain ⟨f0, f1, f2, f3, f4, f5⟩ := E3.zb.frozen
                have b0 : w3.cell? ⟨q + 1, 0, none⟩ = some (.int .i64 n0) := box_cell E3.bx 0
                have b1 : w3.cell? ⟨q + 1, 1, none⟩ = some (.int .i64 0) := box_cell E3.bx 1
                have b2 : w3.cell? ⟨q + 1, 2, none⟩ = some (.int .i64 2) := box_cell E3.bx 2
                have b3 : w3.cell? ⟨q + 1, 3, none⟩ = some (.int .i64 n6) := box_cell E3.bx 3
                have b4 : w3.cell? ⟨q + 1, 4, none⟩ = some (.int .i64 n8) := box_cell E3.bx 4
                have b5 : w3.cell? ⟨q + 1, 5, none⟩ = some (.int .i64 n16) := box_cell E3.bx 5
                have HE3 := hidOf E3
                clear E3
                go_wp2
                refine bodyPost_ret (results_row_tmp1 rfl _ _ q 57 _ (0, 0) _ rfl (set6_heap ⟨n0, 0, 2, n6, n8, n16⟩ HE3.out.zb) Try.underlying57 rfl sizeSm) rfl ?_
                exact ⟨rfl, HE3.out.fin⟩
              · skip
                have hf0 : ffP 1 ⟨n0, 0, 2, n6, 0, 8⟩ = none := by
                  show (if n6 ≠ (1 : Int) then some 6 else if vaP 1 (0) = false then some 8 else if siP 1 (8) = false then some 16 else none) = _
                  rw [if_neg (fun h => h hse), if_neg (by decide), if_neg (by decide)]
                rw [if_pos hf0] at hs0
                have hf1 : ffP 1 ⟨n0, 0, 2, n6, n8, 8⟩ = none := by
                  show (if n6 ≠ (1 : Int) then some 6 else if vaP 1 (n8) = false then some 8 else if siP 1 (8) = false then some 16 else none) = _
                  rw [if_neg (fun h => h hse), if_neg (by rw [hva]; decide), if_neg (by decide)]
                rw [if_pos hf1] at hs1
                have hf2 : ffP 1 ⟨n0, 0, 2, n6, n8, n16⟩ = none := by
                  show (if n6 ≠ (1 : Int) then some 6 else if vaP 1 (n8) = false then some 8 else if siP 1 (n16) = false then some 16 else none) = _
                  rw [if_neg (fun h => h hse), if_neg (by rw [hva]; decide), if_neg (by rw [hsi]; decide)]
                rw [if_pos hf2] at hs2
                rw [hf2] at hR
                simp only at hR
                subst hR
                have C0 : Hid (∀ wx, Calls Try.prog 37 #[.agg #[.int .i64 n0, .int .i64 0, .int .i64 2, .int .i64 n6, .int .i64 0, .int .i64 8]] wx fun e w' => e = .returned (.int .i64 1) ∧ Out wx w') := fun wx => by
                  have := refSort_any n0 0 2 (n6) (0) (8) wx
                  rw [hs0] at this
                  exact this
                have C1 : Hid (∀ wx, Calls Try.prog 37 #[.agg #[.int .i64 n0, .int .i64 0, .int .i64 2, .int .i64 n6, .int .i64 n8, .int .i64 8]] wx fun e w' => e = .returned (.int .i64 1) ∧ Out wx w') := fun wx => by
                  have := refSort_any n0 0 2 (n6) (n8) (8) wx
                  rw [hs1] at this
                  exact this
                have C2 : Hid (∀ wx, Calls Try.prog 37 #[.agg #[.int .i64 n0, .int .i64 0, .int .i64 2, .int .i64 n6, .int .i64 n8, .int .i64 n16]] wx fun e w' => e = .returned (.int .i64 1) ∧ Out wx w') := fun wx => by
                  have := refSort_any n0 0 2 (n6) (n8) (n16) wx
                  rw [hs2] at this
                  exact this
                clear hs0 hs1 hs2 hf0 hf2 hf1
                obtain ⟨z0, z1, z2, z3, z4, z5⟩ := hE.zb.cells
                obtain ⟨f0, f1, f2, f3, f4, f5⟩ := hE.zb.frozen
                have b0 : wc.cell? ⟨q + 1, 0, none⟩ = some (.int .i64 n0) := box_cell hE.bx 0
                have b1 : wc.cell? ⟨q + 1, 1, none⟩ = some (.int .i64 0) := box_cell hE.bx 1
                have b2 : wc.cell? ⟨q + 1, 2, none⟩ = some (.int .i64 2) := box_cell hE.bx 2
                have b3 : wc.cell? ⟨q + 1, 3, none⟩ = some (.int .i64 n6) := box_cell hE.bx 3
                have b4 : wc.cell? ⟨q + 1, 4, none⟩ = some (.int .i64 n8) := box_cell hE.bx 4
                have b5 : wc.cell? ⟨q + 1, 5, none⟩ = some (.int .i64 n16) := box_cell hE.bx 5
                have b2a : ∀ O, (wc.alloc O).cell? ⟨q + 1, 2, none⟩ = some (.int .i64 2) := fun O => cell_later ((Out.refl wc).alloc O) b2
                clear hE hse hva hsi
                go_upto_region 13 with (go_at_call 37; refine (C0.out _).mono ?_; rintro e w1 ⟨rfl, ho⟩; have P1 := hidOf ho; clear ho)
                clear b0 b1 b2 b3 b4 b5 z0 z1 z2 z3 z4 z5 f0 f1 f2 f3 f4 f5 b2a
                have O1 : Hid (Out wc w1) := hidOf (((Out.refl wc).alloc (.cells #[.int .i64 n0, .int .i64 0, .int .i64 2, .int .i64 n6, .int .i64 0, .int .i64 8] 57)).trans P1.out)
                have gb : w1.heap[wc.heap.size]? = some (.cells #[.int .i64 n0, .int .i64 0, .int .i64 2, .int .i64 n6, .int .i64 0, .int .i64 8] 57 (0, 0)) := (P1.out.block _ (by rw [size_alloc]; omega)).trans (heap_alloc_new wc _)
                have g0 : w1.cell? ⟨wc.heap.size, 0, none⟩ = some (.int .i64 n0) := box_cell gb 0
                have g1 : w1.cell? ⟨wc.heap.size, 1, none⟩ = some (.int .i64 0) := box_cell gb 1
                have g2 : w1.cell? ⟨wc.heap.size, 2, none⟩ = some (.int .i64 2) := box_cell gb 2
                have g3 : w1.cell? ⟨wc.heap.size, 3, none⟩ = some (.int .i64 n6) := box_cell gb 3
                have g4 : w1.cell? ⟨wc.heap.size, 4, none⟩ = some (.int .i64 0) := box_cell gb 4
                have g5 : w1.cell? ⟨wc.heap.size, 5, none⟩ = some (.int .i64 8) := box_cell gb 5
                have gf : w1.frozen? ⟨wc.heap.size, 4, none⟩ = false := by rw [World.frozen?, gb]; rfl
                have b4 : w1.cell? ⟨q + 1, 4, none⟩ = some (.int .i64 n8) := box_cell (HE.out.more O1.out).bx 4
                clear gb
                go_upto_region 16 with (go_at_call 37; refine (C1.out _).mono ?_; rintro e w2 ⟨rfl, ho⟩; have P2 := hidOf ho; clear ho)
                clear g0 g1 g2 g3 g4 g5 gf b4
                have O2 : Hid (Out wc w2) := hidOf ((Out.setCell O1.out (a := ⟨wc.heap.size, 4, none⟩) (Nat.le_refl _) _).trans P2.out)
                have E2 := HE.out.more O2.out
                obtain ⟨z0, z1, z2, z3, z4, z5⟩ := E2.zb.cells
                obtain ⟨f0, f1, f2, f3, f4, f5⟩ := E2.zb.frozen
                have b0 : w2.cell? ⟨q + 1, 0, none⟩ = some (.int .i64 n0) := box_cell E2.bx 0
                have b1 : w2.cell? ⟨q + 1, 1, none⟩ = some (.int .i64 0) := box_cell E2.bx 1
                have b2 : w2.cell? ⟨q + 1, 2, none⟩ = some (.int .i64 2) := box_cell E2.bx 2
                have b3 : w2.cell? ⟨q + 1, 3, none⟩ = some (.int .i64 n6) := box_cell E2.bx 3
                have b4 : w2.cell? ⟨q + 1, 4, none⟩ = some (.int .i64 n8) := box_cell E2.bx 4
                have b5 : w2.cell? ⟨q + 1, 5, none⟩ = some (.int .i64 n16) := box_cell E2.bx 5
                have HE2 := hidOf E2
                clear E2
                go_upto_region 18 with (go_at_call 37; refine (C2.out _).mono ?_; rintro e w3 ⟨rfl, ho⟩; have P3 := hidOf ho; clear ho)
                clear b0 b1 b2 b3 b4 b5 z0 z1 z2 z3 z4 z5 f0 f1 f2 f3 f4 f5
                have E3 := HE2.out.more P3.out
                obtain ⟨z0, z1, z2, z3, z4, z5⟩ := E3.zb.cells
                obtain ⟨f0, f1, f2, f3, f4, f5⟩ := E3.zb.frozen
                have b0 : w3.cell? ⟨q + 1, 0, none⟩ = some (.int .i64 n0) := box_cell E3.bx 0
                have b1 : w3.cell? ⟨q + 1, 1, none⟩ = some (.int .i64 0) := box_cell E3.bx 1
                have b2 : w3.cell? ⟨q + 1, 2, none⟩ = some (.int .i64 2) := box_cell E3.bx 2
                have b3 : w3.cell? ⟨q + 1, 3, none⟩ = some (.int .i64 n6) := box_cell E3.bx 3
                have b4 : w3.cell? ⟨q + 1, 4, none⟩ = some (.int .i64 n8) := box_cell E3.bx 4
                have b5 : w3.cell? ⟨q + 1, 5, none⟩ = some (.int .i64 n16) := box_cell E3.bx 5
                have HE3 := hidOf E3
                clear E3
                go_wp2
                refine bodyPost_ret (results_row_tmp1 rfl _ _ q 57 _ (0, 0) _ rfl (set6_heap ⟨n0, 0, 2, n6, n8, n16⟩ HE3.out.zb) Try.underlying57 rfl sizeSm) rfl ?_
                exact ⟨rfl, HE3.out.fin⟩
          · skip
            have hf0 : ffP 1 ⟨n0, 0, 2, n6, 0, 8⟩ = some 6 := by
              show (if n6 ≠ (1 : Int) then some 6 else if vaP 1 (0) = false then some 8 else if siP 1 (8) = false then some 16 else none) = _
              rw [if_pos hse]
            rw [if_neg (by rw [hf0]; decide)] at hs0
            have hf2 : ffP 1 ⟨n0, 0, 2, n6, n8, n16⟩ = some 6 := by
              show (if n6 ≠ (1 : Int) then some 6 else if vaP 1 (n8) = false then some 8 else if siP 1 (n16) = false then some 16 else none) = _
              rw [if_pos hse]
            rw [hf2] at hR
            simp only at hR
            subst hR
            have C0 : Hid (∀ wx, Calls Try.prog 37 #[.agg #[.int .i64 n0, .int .i64 0, .int .i64 2, .int .i64 n6, .int .i64 0, .int .i64 8]] wx fun e w' => e = .returned (.int .i64 0) ∧ Out wx w') := fun wx => by
              have := refSort_any n0 0 2 (n6) (0) (8) wx
              rw [hs0] at this
              exact this
            clear hs0 hs1 hs2 hf0 hf2
            obtain ⟨z0, z1, z2, z3, z4, z5⟩ := hE.zb.cells
            obtain ⟨f0, f1, f2, f3, f4, f5⟩ := hE.zb.frozen
            have b0 : wc.cell? ⟨q + 1, 0, none⟩ = some (.int .i64 n0) := box_cell hE.bx 0
            have b1 : wc.cell? ⟨q + 1, 1, none⟩ = some (.int .i64 0) := box_cell hE.bx 1
            have b2 : wc.cell? ⟨q + 1, 2, none⟩ = some (.int .i64 2) := box_cell hE.bx 2
            have b3 : wc.cell? ⟨q + 1, 3, none⟩ = some (.int .i64 n6) := box_cell hE.bx 3
            have b4 : wc.cell? ⟨q + 1, 4, none⟩ = some (.int .i64 n8) := box_cell hE.bx 4
            have b5 : wc.cell? ⟨q + 1, 5, none⟩ = some (.int .i64 n16) := box_cell hE.bx 5
            have b2a : ∀ O, (wc.alloc O).cell? ⟨q + 1, 2, none⟩ = some (.int .i64 2) := fun O => cell_later ((Out.refl wc).alloc O) b2
            clear hE hse
            go_upto_region 12 with (go_at_call 37; refine (C0.out _).mono ?_; rintro e w1 ⟨rfl, ho⟩; have P1 := hidOf ho; clear ho)
            clear b0 b1 b2 b3 b4 b5 z0 z1 z2 z3 z4 z5 f0 f1 f2 f3 f4 f5 b2a
            have O1 : Hid (Out wc w1) := hidOf (((Out.refl wc).alloc (.cells #[.int .i64 n0, .int .i64 0, .int .i64 2, .int .i64 n6, .int .i64 0, .int .i64 8] 57)).trans P1.out)
            have E1 := HE.out.more O1.out
            obtain ⟨z0, z1, z2, z3, z4, z5⟩ := E1.zb.cells
            obtain ⟨f0, f1, f2, f3, f4, f5⟩ := E1.zb.frozen
            have b0 : w1.cell? ⟨q + 1, 0, none⟩ = some (.int .i64 n0) := box_cell E1.bx 0
            have b1 : w1.cell? ⟨q + 1, 1, none⟩ = some (.int .i64 0) := box_cell E1.bx 1
            have b2 : w1.cell? ⟨q + 1, 2, none⟩ = some (.int .i64 2) := box_cell E1.bx 2
            have b3 : w1.cell? ⟨q + 1, 3, none⟩ = some (.int .i64 n6) := box_cell E1.bx 3
            have b4 : w1.cell? ⟨q + 1, 4, none⟩ = some (.int .i64 n8) := box_cell E1.bx 4
            have b5 : w1.cell? ⟨q + 1, 5, none⟩ = some (.int .i64 n16) := box_cell E1.bx 5
            have HE1 := hidOf E1
            clear E1
            go_wp2
            refine bodyPost_ret (results_row_tmp1 rfl _ _ q 57 _ (0, 0) _ rfl (set6_heap ⟨n0, 0, 2, n6, n8, n16⟩ HE1.out.zb) Try.underlying57 rfl sizeSm) rfl ?_
            exact ⟨rfl, HE1.out.fin⟩
        · rw [if_pos (fun h => h5 (hx5.out.1 h))] at hR
          subst hR
          have d5 : (n5 != 0) = true := by simp [h5]
          obtain ⟨z0, z1, z2, z3, z4, z5⟩ := hE.zb.cells
          obtain ⟨f0, f1, f2, f3, f4, f5⟩ := hE.zb.frozen
          have b0 : wc.cell? ⟨q + 1, 0, none⟩ = some (.int .i64 n0) := box_cell hE.bx 0
          have b1 : wc.cell? ⟨q + 1, 1, none⟩ = some (.int .i64 0) := box_cell hE.bx 1
          have b2 : wc.cell? ⟨q + 1, 2, none⟩ = some (.int .i64 2) := box_cell hE.bx 2
          have b3 : wc.cell? ⟨q + 1, 3, none⟩ = some (.int .i64 n6) := box_cell hE.bx 3
          have b4 : wc.cell? ⟨q + 1, 4, none⟩ = some (.int .i64 n8) := box_cell hE.bx 4
          have b5 : wc.cell? ⟨q + 1, 5, none⟩ = some (.int .i64 n16) := box_cell hE.bx 5
          clear hE h5
          go_wp2
          refine bodyPost_ret (results_row_tmp1 rfl _ _ q 57 _ (0, 0) _ rfl (set6_heap ⟨n0, 0, 2, n6, n8, n16⟩ HE.out.zb) Try.underlying57 rfl sizeSm) rfl ?_
          exact ⟨rfl, HE.out.fin⟩
      · clear b0 b1 b2 b3 b4 b5 z0 z1 z2 z3 z4 z5 f0 f1 f2 f3 f4 f5
        have hE : Er w wc q ⟨n0, 0, 1, n6, n8, n16⟩ := HE.out
        have HE := hidOf hE
        have hR := HR.out
        rw [if_neg hA] at hR
        clear HR hA
        by_cases h5 : n5 = 0
        · subst h5
          rw [if_neg (fun h => h (hx5.out.2 rfl))] at hR
          have hs0 : soP ⟨n0, 0, 1, n6, 0, 16⟩ = if ffP 2 ⟨n0, 0, 1, n6, 0, 16⟩ = none then 2 else 0 := HSo.out (n6) (0) (16)
          have hs1 : soP ⟨n0, 0, 1, n6, n8, 16⟩ = if ffP 2 ⟨n0, 0, 1, n6, n8, 16⟩ = none then 2 else 0 := HSo.out (n6) (n8) (16)
          have hs2 : soP ⟨n0, 0, 1, n6, n8, n16⟩ = if ffP 2 ⟨n0, 0, 1, n6, n8, n16⟩ = none then 2 else 0 := HSo.out (n6) (n8) (n16)
          have hff : ffP (fifP 1) ⟨n0, 1 / 16, 1 % 16, n6, n8, n16⟩ = ffP 2 ⟨n0, 0, 1, n6, n8, n16⟩ := rfl
          rw [hff] at hR
          clear hff
          by_cases hse : n6 = 2
          · cases hva : vaP 2 n8
            · skip
              have hf0 : ffP 2 ⟨n0, 0, 1, n6, 0, 16⟩ = none := by
                show (if n6 ≠ (2 : Int) then some 6 else if vaP 2 (0) = false then some 8 else if siP 2 (16) = false then some 16 else none) = _
                rw [if_neg (fun h => h hse), if_neg (by decide), if_neg (by decide)]
              rw [if_pos hf0] at hs0
              have hf1 : ffP 2 ⟨n0, 0, 1, n6, n8, 16⟩ = some 8 := by
                show (if n6 ≠ (2 : Int) then some 6 else if vaP 2 (n8) = false then some 8 else if siP 2 (16) = false then some 16 else none) = _
                rw [if_neg (fun h => h hse), if_pos hva]
              rw [if_neg (by rw [hf1]; decide)] at hs1
              have hf2 : ffP 2 ⟨n0, 0, 1, n6, n8, n16⟩ = some 8 := by
                show (if n6 ≠ (2 : Int) then some 6 else if vaP 2 (n8) = false then some 8 else if siP 2 (n16) = false then some 16 else none) = _
                rw [if_neg (fun h => h hse), if_pos hva]
              rw [hf2] at hR
              simp only at hR
              subst hR
              have C0 : Hid (∀ wx, Calls Try.prog 37 #[.agg #[.int .i64 n0, .int .i64 0, .int .i64 1, .int .i64 n6, .int .i64 0, .int .i64 16]] wx fun e w' => e = .returned (.int .i64 2) ∧ Out wx w') := fun wx => by
                have := refSort_any n0 0 1 (n6) (0) (16) wx
                rw [hs0] at this
                exact this
              have C1 : Hid (∀ wx, Calls Try.prog 37 #[.agg #[.int .i64 n0, .int .i64 0, .int .i64 1, .int .i64 n6, .int .i64 n8, .int .i64 16]] wx fun e w' => e = .returned (.int .i64 0) ∧ Out wx w') := fun wx => by
                have := refSort_any n0 0 1 (n6) (n8) (16) wx
                rw [hs1] at this
                exact this
              clear hs0 hs1 hs2 hf0 hf2 hf1
              obtain ⟨z0, z1, z2, z3, z4, z5⟩ := hE.zb.cells
              obtain ⟨f0, f1, f2, f3, f4, f5⟩ := hE.zb.frozen
              have b0 : wc.cell? ⟨q + 1, 0, none⟩ = some (.int .i64 n0) := box_cell hE.bx 0
              have b1 : wc.cell? ⟨q + 1, 1, none⟩ = some (.int .i64 0) := box_cell hE.bx 1
              have b2 : wc.cell? ⟨q + 1, 2, none⟩ = some (.int .i64 1) := box_cell hE.bx 2
              have b3 : wc.cell? ⟨q + 1, 3, none⟩ = some (.int .i64 n6) := box_cell hE.bx 3
              have b4 : wc.cell? ⟨q + 1, 4, none⟩ = some (.int .i64 n8) := box_cell hE.bx 4
              have b5 : wc.cell? ⟨q + 1, 5, none⟩ = some (.int .i64 n16) := box_cell hE.bx 5
              have b2a : ∀ O, (wc.alloc O).cell? ⟨q + 1, 2, none⟩ = some (.int .i64 1) := fun O => cell_later ((Out.refl wc).alloc O) b2
              clear hE hse hva
              go_upto_region 13 with (go_at_call 37; refine (C0.out _).mono ?_; rintro e w1 ⟨rfl, ho⟩; have P1 := hidOf ho; clear ho)
              clear b0 b1 b2 b3 b4 b5 z0 z1 z2 z3 z4 z5 f0 f1 f2 f3 f4 f5 b2a
              have O1 : Hid (Out wc w1) := hidOf (((Out.refl wc).alloc (.cells #[.int .i64 n0, .int .i64 0, .int .i64 1, .int .i64 n6, .int .i64 0, .int .i64 16] 57)).trans P1.out)
              have gb : w1.heap[wc.heap.size]? = some (.cells #[.int .i64 n0, .int .i64 0, .int .i64 1, .int .i64 n6, .int .i64 0, .int .i64 16] 57 (0, 0)) := (P1.out.block _ (by rw [size_alloc]; omega)).trans (heap_alloc_new wc _)
              have g0 : w1.cell? ⟨wc.heap.size, 0, none⟩ = some (.int .i64 n0) := box_cell gb 0
              have g1 : w1.cell? ⟨wc.heap.size, 1, none⟩ = some (.int .i64 0) := box_cell gb 1
              have g2 : w1.cell? ⟨wc.heap.size, 2, none⟩ = some (.int .i64 1) := box_cell gb 2
              have g3 : w1.cell? ⟨wc.heap.size, 3, none⟩ = some (.int .i64 n6) := box_cell gb 3
              have g4 : w1.cell? ⟨wc.heap.size, 4, none⟩ = some (.int .i64 0) := box_cell gb 4
              have g5 : w1.cell? ⟨wc.heap.size, 5, none⟩ = some (.int .i64 16) := box_cell gb 5
              have gf : w1.frozen? ⟨wc.heap.size, 4, none⟩ = false := by rw [World.frozen?, gb]; rfl
              have b4 : w1.cell? ⟨q + 1, 4, none⟩ = some (.int .i64 n8) := box_cell (HE.out.more O1.out).bx 4
              clear gb
              go_upto_region 15 with (go_at_call 37; refine (C1.out _).mono ?_; rintro e w2 ⟨rfl, ho⟩; have P2 := hidOf ho; clear ho)
              clear g0 g1 g2 g3 g4 g5 gf b4
              have O2 : Hid (Out wc w2) := hidOf ((Out.setCell O1.out (a := ⟨wc.heap.size, 4, none⟩) (Nat.le_refl _) _).trans P2.out)
              have E2 := HE.out.more O2.out
              obtain ⟨z0, z1, z2, z3, z4, z5⟩ := E2.zb.cells
              obtain ⟨f0, f1, f2, f3, f4, f5⟩ := E2.zb.frozen
              have b0 : w2.cell? ⟨q + 1, 0, none⟩ = some (.int .i64 n0) := box_cell E2.bx 0
              have b1 : w2.cell? ⟨q + 1, 1, none⟩ = some (.int .i64 0) := box_cell E2.bx 1
              have b2 : w2.cell? ⟨q + 1, 2, none⟩ = some (.int .i64 1) := box_cell E2.bx 2
              have b3 : w2.cell? ⟨q + 1, 3, none⟩ = some (.int .i64 n6) := box_cell E2.bx 3
              have b4 : w2.cell? ⟨q + 1, 4, none⟩ = some (.int .i64 n8) := box_cell E2.bx 4
              have b5 : w2.cell? ⟨q + 1, 5, none⟩ = some (.int .i64 n16) := box_cell E2.bx 5
              have HE2 := hidOf E2
              clear E2
              go_wp2
              refine bodyPost_ret (results_row_tmp1 rfl _ _ q 57 _ (0, 0) _ rfl (set6_heap ⟨n0, 0, 1, n6, n8, n16⟩ HE2.out.zb) Try.underlying57 rfl sizeSm) rfl ?_
              exact ⟨rfl, HE2.out.fin⟩
            · cases hsi : siP 2 n16
              · skip
                have hf0 : ffP 2 ⟨n0, 0, 1, n6, 0, 16⟩ = none := by
                  show (if n6 ≠ (2 : Int) then some 6 else if vaP 2 (0) = false then some 8 else if siP 2 (16) = false then some 16 else none) = _
                  rw [if_neg (fun h => h hse), if_neg (by decide), if_neg (by decide)]
                rw [if_pos hf0] at hs0
                have hf1 : ffP 2 ⟨n0, 0, 1, n6, n8, 16⟩ = none := by
                  show (if n6 ≠ (2 : Int) then some 6 else if vaP 2 (n8) = false then some 8 else if siP 2 (16) = false then some 16 else none) = _
                  rw [if_neg (fun h => h hse), if_neg (by rw [hva]; decide), if_neg (by decide)]
                rw [if_pos hf1] at hs1
                have hf2 : ffP 2 ⟨n0, 0, 1, n6, n8, n16⟩ = some 16 := by
                  show (if n6 ≠ (2 : Int) then some 6 else if vaP 2 (n8) = false then some 8 else if siP 2 (n16) = false then some 16 else none) = _
                  rw [if_neg (fun h => h hse), if_neg (by rw [hva]; decide), if_pos hsi]
                rw [if_neg (by rw [hf2]; decide)] at hs2
                rw [hf2] at hR
                simp only at hR
                subst hR
                have C0 : Hid (∀ wx, Calls Try.prog 37 #[.agg #[.int .i64 n0, .int .i64 0, .int .i64 1, .int .i64 n6, .int .i64 0, .int .i64 16]] wx fun e w' => e = .returned (.int .i64 2) ∧ Out wx w') := fun wx => by
                  have := refSort_any n0 0 1 (n6) (0) (16) wx
                  rw [hs0] at this
                  exact this
                have C1 : Hid (∀ wx, Calls Try.prog 37 #[.agg #[.int .i64 n0, .int .i64 0, .int .i64 1, .int .i64 n6, .int .i64 n8, .int .i64 16]] wx fun e w' => e = .returned (.int .i64 2) ∧ Out wx w') := fun wx => by
                  have := refSort_any n0 0 1 (n6) (n8) (16) wx
                  rw [hs1] at this
                  exact this
                have C2 : Hid (∀ wx, Calls Try.prog 37 #[.agg #[.int .i64 n0, .int .i64 0, .int .i64 1, .int .i64 n6, .int .i64 n8, .int .i64 n16]] wx fun e w' => e = .returned (.int .i64 0) ∧ Out wx w') := fun wx => by
                  have := refSort_any n0 0 1 (n6) (n8) (n16) wx
                  rw [hs2] at this
                  exact this
                clear hs0 hs1 hs2 hf0 hf2 hf1
                obtain ⟨z0, z1, z2, z3, z4, z5⟩ := hE.zb.cells
                obtain ⟨f0, f1, f2, f3, f4, f5⟩ := hE.zb.frozen
                have b0 : wc.cell? ⟨q + 1, 0, none⟩ = some (.int .i64 n0) := box_cell hE.bx 0
                have b1 : wc.cell? ⟨q + 1, 1, none⟩ = some (.int .i64 0) := box_cell hE.bx 1
                have b2 : wc.cell? ⟨q + 1, 2, none⟩ = some (.int .i64 1) := box_cell hE.bx 2
                have b3 : wc.cell? ⟨q + 1, 3, none⟩ = some (.int .i64 n6) := box_cell hE.bx 3
                have b4 : wc.cell? ⟨q + 1, 4, none⟩ = some (.int .i64 n8) := box_cell hE.bx 4
                have b5 : wc.cell? ⟨q + 1, 5, none⟩ = some (.int .i64 n16) := box_cell hE.bx 5
                have b2a : ∀ O, (wc.alloc O).cell? ⟨q + 1, 2, none⟩ = some (.int .i64 1) := fun O => cell_later ((Out.refl wc).alloc O) b2
                clear hE hse hva hsi
                go_upto_region 13 with (go_at_call 37; refine (C0.out _).mono ?_; rintro e w1 ⟨rfl, ho⟩; have P1 := hidOf ho; clear ho)
                clear b0 b1 b2 b3 b4 b5 z0 z1 z2 z3 z4 z5 f0 f1 f2 f3 f4 f5 b2a
                have O1 : Hid (Out wc w1) := hidOf (((Out.refl wc).alloc (.cells #[.int .i64 n0, .int .i64 0, .int .i64 1, .int .i64 n6, .int .i64 0, .int .i64 16] 57)).trans P1.out)
                have gb : w1.heap[wc.heap.size]? = some (.cells #[.int .i64 n0, .int .i64 0, .int .i64 1, .int .i64 n6, .int .i64 0, .int .i64 16] 57 (0, 0)) := (P1.out.block _ (by rw [size_alloc]; omega)).trans (heap_alloc_new wc _)
                have g0 : w1.cell? ⟨wc.heap.size, 0, none⟩ = some (.int .i64 n0) := box_cell gb 0
                have g1 : w1.cell? ⟨wc.heap.size, 1, none⟩ = some (.int .i64 0) := box_cell gb 1
                have g2 : w1.cell? ⟨wc.heap.size, 2, none⟩ = some (.int .i64 1) := box_cell gb 2
                have g3 : w1.cell? ⟨wc.heap.size, 3, none⟩ = some (.int .i64 n6) := box_cell gb 3
                have g4 : w1.cell? ⟨wc.heap.size, 4, none⟩ = some (.int .i64 0) := box_cell gb 4
                have g5 : w1.cell? ⟨wc.heap.size, 5, none⟩ = some (.int .i64 16) := box_cell gb 5
                have gf : w1.frozen? ⟨wc.heap.size, 4, none⟩ = false := by rw [World.frozen?, gb]; rfl
                have b4 : w1.cell? ⟨q + 1, 4, none⟩ = some (.int .i64 n8) := box_cell (HE.out.more O1.out).bx 4
                clear gb
                go_upto_region 16 with (go_at_call 37; refine (C1.out _).mono ?_; rintro e w2 ⟨rfl, ho⟩; have P2 := hidOf ho; clear ho)
                clear g0 g1 g2 g3 g4 g5 gf b4
                have O2 : Hid (Out wc w2) := hidOf ((Out.setCell O1.out (a := ⟨wc.heap.size, 4, none⟩) (Nat.le_refl _) _).trans P2.out)
                have E2 := HE.out.more O2.out
                obtain ⟨z0, z1, z2, z3, z4, z5⟩ := E2.zb.cells
                obtain ⟨f0, f1, f2, f3, f4, f5⟩ := E2.zb.frozen
                have b0 : w2.cell? ⟨q + 1, 0, none⟩ = some (.int .i64 n0) := box_cell E2.bx 0
                have b1 : w2.cell? ⟨q + 1, 1, none⟩ = some (.int .i64 0) := box_cell E2.bx 1
                have b2 : w2.cell? ⟨q + 1, 2, none⟩ = some (.int .i64 1) := box_cell E2.bx 2
                have b3 : w2.cell? ⟨q + 1, 3, none⟩ = some (.int .i64 n6) := box_cell E2.bx 3
                have b4 : w2.cell? ⟨q + 1, 4, none⟩ = some (.int .i64 n8) := box_cell E2.bx 4
                have b5 : w2.cell? ⟨q + 1, 5, none⟩ = some (.int .i64 n16) := box_cell E2.bx 5
                have HE2 := hidOf E2
                clear E2
                go_upto_region 17 with (go_at_call 37; refine (C2.out _).mono ?_; rintro e w3 ⟨rfl, ho⟩; have P3 := hidOf ho; clear ho)
                clear b0 b1 b2 b3 b4 b5 z0 z1 z2 z3 z4 z5 f0 f1 f2 f3 f4 f5
                have E3 := HE2.out.more P3.out
                obtain ⟨z0, z1, z2, z3, z4, z5⟩ := E3.zb.cells
                obtain ⟨f0, f1, f2, f3, f4, f5⟩ := E3.zb.frozen
                have b0 : w3.cell? ⟨q + 1, 0, none⟩ = some (.int .i64 n0) := box_cell E3.bx 0
                have b1 : w3.cell? ⟨q + 1, 1, none⟩ = some (.int .i64 0) := box_cell E3.bx 1
                have b2 : w3.cell? ⟨q + 1, 2, none⟩ = some (.int .i64 1) := box_cell E3.bx 2
                have b3 : w3.cell? ⟨q + 1, 3, none⟩ = some (.int .i64 n6) := box_cell E3.bx 3
                have b4 : w3.cell? ⟨q + 1, 4, none⟩ = some (.int .i64 n8) := box_cell E3.bx 4
                have b5 : w3.cell? ⟨q + 1, 5, none⟩ = some (.int .i64 n16) := box_cell E3.bx 5
                have HE3 := hidOf E3
                clear E3
                go_wp2
                refine bodyPost_ret (results_row_tmp1 rfl _ _ q 57 _ (0, 0) _ rfl (set6_heap ⟨n0, 0, 1, n6, n8, n16⟩ HE3.out.zb) Try.underlying57 rfl sizeSm) rfl ?_
                exact ⟨rfl, HE3.out.fin⟩
              · skip
                have hf0 : ffP 2 ⟨n0, 0, 1, n6, 0, 16⟩ = none := by
                  show (if n6 ≠ (2 : Int) then some 6 else if vaP 2 (0) = false then some 8 else if siP 2 (16) = false then some 16 else none) = _
                  rw [if_neg (fun h => h hse), if_neg (by decide), if_neg (by decide)]
                rw [if_pos hf0] at hs0
                have hf1 : ffP 2 ⟨n0, 0, 1, n6, n8, 16⟩ = none := by
                  show (if n6 ≠ (2 : Int) then some 6 else if vaP 2 (n8) = false then some 8 else if siP 2 (16) = false then some 16 else none) = _
                  rw [if_neg (fun h => h hse), if_neg (by rw [hva]; decide), if_neg (by decide)]
                rw [if_pos hf1] at hs1
                have hf2 : ffP 2 ⟨n0, 0, 1, n6, n8, n16⟩ = none := by
                  show (if n6 ≠ (2 : Int) then some 6 else if vaP 2 (n8) = false then some 8 else if siP 2 (n16) = false then some 16 else none) = _
                  rw [if_neg (fun h => h hse), if_neg (by rw [hva]; decide), if_neg (by rw [hsi]; decide)]
                rw [if_pos hf2] at hs2
                rw [hf2] at hR
                simp only at hR
                subst hR
                have C0 : Hid (∀ wx, Calls Try.prog 37 #[.agg #[.int .i64 n0, .int .i64 0, .int .i64 1, .int .i64 n6, .int .i64 0, .int .i64 16]] wx fun e w' => e = .returned (.int .i64 2) ∧ Out wx w') := fun wx => by
                  have := refSort_any n0 0 1 (n6) (0) (16) wx
                  rw [hs0] at this
                  exact this
                have C1 : Hid (∀ wx, Calls Try.prog 37 #[.agg #[.int .i64 n0, .int .i64 0, .int .i64 1, .int .i64 n6, .int .i64 n8, .int .i64 16]] wx fun e w' => e = .returned (.int .i64 2) ∧ Out wx w') := fun wx => by
                  have := refSort_any n0 0 1 (n6) (n8) (16) wx
                  rw [hs1] at this
                  exact this
                have C2 : Hid (∀ wx, Calls Try.prog 37 #[.agg #[.int .i64 n0, .int .i64 0, .int .i64 1, .int .i64 n6, .int .i64 n8, .int .i64 n16]] wx fun e w' => e = .returned (.int .i64 2) ∧ Out wx w') := fun wx => by
                  have := refSort_any n0 0 1 (n6) (n8) (n16) wx
                  rw [hs2] at this
                  exact this
                clear hs0 hs1 hs2 hf0 hf2 hf1
                obtain ⟨z0, z1, z2, z3, z4, z5⟩ := hE.zb.cells
                obtain ⟨f0, f1, f2, f3, f4, f5⟩ := hE.zb.frozen
                have b0 : wc.cell? ⟨q + 1, 0, none⟩ = some (.int .i64 n0) := box_cell hE.bx 0
                have b1 : wc.cell? ⟨q + 1, 1, none⟩ = some (.int .i64 0) := box_cell hE.bx 1
                have b2 : wc.cell? ⟨q + 1, 2, none⟩ = some (.int .i64 1) := box_cell hE.bx 2
                have b3 : wc.cell? ⟨q + 1, 3, none⟩ = some (.int .i64 n6) := box_cell hE.bx 3
                have b4 : wc.cell? ⟨q + 1, 4, none⟩ = some (.int .i64 n8) := box_cell hE.bx 4
                have b5 : wc.cell? ⟨q + 1, 5, none⟩ = some (.int .i64 n16) := box_cell hE.bx 5
                have b2a : ∀ O, (wc.alloc O).cell? ⟨q + 1, 2, none⟩ = some (.int .i64 1) := fun O => cell_later ((Out.refl wc).alloc O) b2
                clear hE hse hva hsi
                go_upto_region 13 with (go_at_call 37; refine (C0.out _).mono ?_; rintro e w1 ⟨rfl, ho⟩; have P1 := hidOf ho; clear ho)
                clear b0 b1 b2 b3 b4 b5 z0 z1 z2 z3 z4 z5 f0 f1 f2 f3 f4 f5 b2a
                have O1 : Hid (Out wc w1) := hidOf (((Out.refl wc).alloc (.cells #[.int .i64 n0, .int .i64 0, .int .i64 1, .int .i64 n6, .int .i64 0, .int .i64 16] 57)).trans P1.out)
                have gb : w1.heap[wc.heap.size]? = some (.cells #[.int .i64 n0, .int .i64 0, .int .i64 1, .int .i64 n6, .int .i64 0, .int .i64 16] 57 (0, 0)) := (P1.out.block _ (by rw [size_alloc]; omega)).trans (heap_alloc_new wc _)
                have g0 : w1.cell? ⟨wc.heap.size, 0, none⟩ = some (.int .i64 n0) := box_cell gb 0
                have g1 : w1.cell? ⟨wc.heap.size, 1, none⟩ = some (.int .i64 0) := box_cell gb 1
                have g2 : w1.cell? ⟨wc.heap.size, 2, none⟩ = some (.int .i64 1) := box_cell gb 2
                have g3 : w1.cell? ⟨wc.heap.size, 3, none⟩ = some (.int .i64 n6) := box_cell gb 3
                have g4 : w1.cell? ⟨wc.heap.size, 4, none⟩ = some (.int .i64 0) := box_cell gb 4
                have g5 : w1.cell? ⟨wc.heap.size, 5, none⟩ = some (.int .i64 16) := box_cell gb 5
                have gf : w1.frozen? ⟨wc.heap.size, 4, none⟩ = false := by rw [World.frozen?, gb]; rfl
                have b4 : w1.cell? ⟨q + 1, 4, none⟩ = some (.int .i64 n8) := box_cell (HE.out.more O1.out).bx 4
                clear gb
                go_upto_region 16 with (go_at_call 37; refine (C1.out _).mono ?_; rintro e w2 ⟨rfl, ho⟩; have P2 := hidOf ho; clear ho)
                clear g0 g1 g2 g3 g4 g5 gf b4
                have O2 : Hid (Out wc w2) := hidOf ((Out.setCell O1.out (a := ⟨wc.heap.size, 4, none⟩) (Nat.le_refl _) _).trans P2.out)
                have E2 := HE.out.more O2.out
                obtain ⟨z0, z1, z2, z3, z4, z5⟩ := E2.zb.cells
                obtain ⟨f0, f1, f2, f3, f4, f5⟩ := E2.zb.frozen
                have b0 : w2.cell? ⟨q + 1, 0, none⟩ = some (.int .i64 n0) := box_cell E2.bx 0
                have b1 : w2.cell? ⟨q + 1, 1, none⟩ = some (.int .i64 0) := box_cell E2.bx 1
                have b2 : w2.cell? ⟨q + 1, 2, none⟩ = some (.int .i64 1) := box_cell E2.bx 2
                have b3 : w2.cell? ⟨q + 1, 3, none⟩ = some (.int .i64 n6) := box_cell E2.bx 3
                have b4 : w2.cell? ⟨q + 1, 4, none⟩ = some (.int .i64 n8) := box_cell E2.bx 4
                have b5 : w2.cell? ⟨q + 1, 5, none⟩ = some (.int .i64 n16) := box_cell E2.bx 5
                have HE2 := hidOf E2
                clear E2
                go_upto_region 18 with (go_at_call 37; refine (C2.out _).mono ?_; rintro e w3 ⟨rfl, ho⟩; have P3 := hidOf ho; clear ho)
                clear b0 b1 b2 b3 b4 b5 z0 z1 z2 z3 z4 z5 f0 f1 f2 f3 f4 f5
                have E3 := HE2.out.more P3.out
                obtain ⟨z0, z1, z2, z3, z4, z5⟩ := E3.zb.cells
                obtain ⟨f0, f1, f2, f3, f4, f5⟩ := E3.zb.frozen
                have b0 : w3.cell? ⟨q + 1, 0, none⟩ = some (.int .i64 n0) := box_cell E3.bx 0
                have b1 : w3.cell? ⟨q + 1, 1, none⟩ = some (.int .i64 0) := box_cell E3.bx 1
                have b2 : w3.cell? ⟨q + 1, 2, none⟩ = some (.int .i64 1) := box_cell E3.bx 2
                have b3 : w3.cell? ⟨q + 1, 3, none⟩ = some (.int .i64 n6) := box_cell E3.bx 3
                have b4 : w3.cell? ⟨q + 1, 4, none⟩ = some (.int .i64 n8) := box_cell E3.bx 4
                have b5 : w3.cell? ⟨q + 1, 5, none⟩ = some (.int .i64 n16) := box_cell E3.bx 5
                have HE3 := hidOf E3
                clear E3
                go_wp2
                refine bodyPost_ret (results_row_tmp1 rfl _ _ q 57 _ (0, 0) _ rfl (set6_heap ⟨n0, 0, 1, n6, n8, n16⟩ HE3.out.zb) Try.underlying57 rfl sizeSm) rfl ?_
                exact ⟨rfl, HE3.out.fin⟩
          · skip
            have hf0 : ffP 2 ⟨n0, 0, 1, n6, 0, 16⟩ = some 6 := by
              show (if n6 ≠ (2 : Int) then some 6 else if vaP 2 (0) = false then some 8 else if siP 2 (16) = false then some 16 else none) = _
              rw [if_pos hse]
            rw [if_neg (by rw [hf0]; decide)] at hs0
            have hf2 : ffP 2 ⟨n0, 0, 1, n6, n8, n16⟩ = some 6 := by
              show (if n6 ≠ (2 : Int) then some 6 else if vaP 2 (n8) = false then some 8 else if siP 2 (n16) = false then some 16 else none) = _
              rw [if_pos hse]
            rw [hf2] at hR
            simp only at hR
            subst hR
            have C0 : Hid (∀ wx, Calls Try.prog 37 #[.agg #[.int .i64 n0, .int .i64 0, .int .i64 1, .int .i64 n6, .int .i64 0, .int .i64 16]] wx fun e w' => e = .returned (.int .i64 0) ∧ Out wx w') := fun wx => by
              have := refSort_any n0 0 1 (n6) (0) (16) wx
              rw [hs0] at this
              exact this
            clear hs0 hs1 hs2 hf0 hf2
            obtain ⟨z0, z1, z2, z3, z4, z5⟩ := hE.zb.cells
            obtain ⟨f0, f1, f2, f3, f4, f5⟩ := hE.zb.frozen
            have b0 : wc.cell? ⟨q + 1, 0, none⟩ = some (.int .i64 n0) := box_cell hE.bx 0
            have b1 : wc.cell? ⟨q + 1, 1, none⟩ = some (.int .i64 0) := box_cell hE.bx 1
            have b2 : wc.cell? ⟨q + 1, 2, none⟩ = some (.int .i64 1) := box_cell hE.bx 2
            have b3 : wc.cell? ⟨q + 1, 3, none⟩ = some (.int .i64 n6) := box_cell hE.bx 3
            have b4 : wc.cell? ⟨q + 1, 4, none⟩ = some (.int .i64 n8) := box_cell hE.bx 4
            have b5 : wc.cell? ⟨q + 1, 5, none⟩ = some (.int .i64 n16) := box_cell hE.bx 5
            have b2a : ∀ O, (wc.alloc O).cell? ⟨q + 1, 2, none⟩ = some (.int .i64 1) := fun O => cell_later ((Out.refl wc).alloc O) b2
            clear hE hse
            go_upto_region 12 with (go_at_call 37; refine (C0.out _).mono ?_; rintro e w1 ⟨rfl, ho⟩; have P1 := hidOf ho; clear ho)
            clear b0 b1 b2 b3 b4 b5 z0 z1 z2 z3 z4 z5 f0 f1 f2 f3 f4 f5 b2a
            have O1 : Hid (Out wc w1) := hidOf (((Out.refl wc).alloc (.cells #[.int .i64 n0, .int .i64 0, .int .i64 1, .int .i64 n6, .int .i64 0, .int .i64 16] 57)).trans P1.out)
            have E1 := HE.out.more O1.out
            obtain ⟨z0, z1, z2, z3, z4, z5⟩ := E1.zb.cells
            obtain ⟨f0, f1, f2, f3, f4, f5⟩ := E1.zb.frozen
            have b0 : w1.cell? ⟨q + 1, 0, none⟩ = some (.int .i64 n0) := box_cell E1.bx 0
            have b1 : w1.cell? ⟨q + 1, 1, none⟩ = some (.int .i64 0) := box_cell E1.bx 1
            have b2 : w1.cell? ⟨q + 1, 2, none⟩ = some (.int .i64 1) := box_cell E1.bx 2
            have b3 : w1.cell? ⟨q + 1, 3, none⟩ = some (.int .i64 n6) := box_cell E1.bx 3
            have b4 : w1.cell? ⟨q + 1, 4, none⟩ = some (.int .i64 n8) := box_cell E1.bx 4
            have b5 : w1.cell? ⟨q + 1, 5, none⟩ = some (.int .i64 n16) := box_cell E1.bx 5
            have HE1 := hidOf E1
            clear E1
            go_wp2
            refine bodyPost_ret (results_row_tmp1 rfl _ _ q 57 _ (0, 0) _ rfl (set6_heap ⟨n0, 0, 1, n6, n8, n16⟩ HE1.out.zb) Try.underlying57 rfl sizeSm) rfl ?_
            exact ⟨rfl, HE1.out.fin⟩
        · rw [if_pos (fun h => h5 (hx5.out.1 h))] at hR
          subst hR
          have d5 : (n5 != 0) = true := by simp [h5]
          obtain ⟨z0, z1, z2, z3, z4, z5⟩ := hE.zb.cells
          obtain ⟨f0, f1, f2, f3, f4, f5⟩ := hE.zb.frozen
          have b0 : wc.cell? ⟨q + 1, 0, none⟩ = some (.int .i64 n0) := box_cell hE.bx 0
          have b1 : wc.cell? ⟨q + 1, 1, none⟩ = some (.int .i64 0) := box_cell hE.bx 1
          have b2 : wc.cell? ⟨q + 1, 2, none⟩ = some (.int .i64 1) := box_cell hE.bx 2
          have b3 : wc.cell? ⟨q + 1, 3, none⟩ = some (.int .i64 n6) := box_cell hE.bx 3
          have b4 : wc.cell? ⟨q + 1, 4, none⟩ = some (.int .i64 n8) := box_cell hE.bx 4
          have b5 : wc.cell? ⟨q + 1, 5, none⟩ = some (.int .i64 n16) := box_cell hE.bx 5
          clear hE h5
          go_wp2
          refine bodyPost_ret (results_row_tmp1 rfl _ _ q 57 _ (0, 0) _ rfl (set6_heap ⟨n0, 0, 1, n6, n8, n16⟩ HE.out.zb) Try.underlying57 rfl sizeSm) rfl ?_
          exact ⟨rfl, HE.out.fin⟩
      · clear b0 b1 b2 b3 b4 b5 z0 z1 z2 z3 z4 z5 f0 f1 f2 f3 f4 f5
        have hE : Er w wc q ⟨n0, 1, 2, n6, n8, n16⟩ := HE.out
        have HE := hidOf hE
        have hR := HR.out
        rw [if_neg hA] at hR
        clear HR hA
        by_cases h5 : n5 = 0
        · subst h5
          rw [if_neg (fun h => h (hx5.out.2 rfl))] at hR
          have hs0 : soP ⟨n0, 1, 2, n6, 0, 8⟩ = if ffP 3 ⟨n0, 1, 2, n6, 0, 8⟩ = none then 3 else 0 := HSo.out (n6) (0) (8)
          have hs1 : soP ⟨n0, 1, 2, n6, n8, 8⟩ = if ffP 3 ⟨n0, 1, 2, n6, n8, 8⟩ = none then 3 else 0 := HSo.out (n6) (n8) (8)
          have hs2 : soP ⟨n0, 1, 2, n6, n8, n16⟩ = if ffP 3 ⟨n0, 1, 2, n6, n8, n16⟩ = none then 3 else 0 := HSo.out (n6) (n8) (n16)
          have hff : ffP (fifP 18) ⟨n0, 18 / 16, 18 % 16, n6, n8, n16⟩ = ffP 3 ⟨n0, 1, 2, n6, n8, n16⟩ := rfl
          rw [hff] at hR
          clear hff
          by_cases hse : n6 = 1
          · cases hva : vaP 3 n8
            · skip
              have hf0 : ffP 3 ⟨n0, 1, 2, n6, 0, 8⟩ = none := by
                show (if n6 ≠ (1 : Int) then some 6 else if vaP 3 (0) = false then some 8 else if siP 3 (8) = false then some 16 else none) = _
                rw [if_neg (fun h => h hse), if_neg (by decide), if_neg (by decide)]
              rw [if_pos hf0] at hs0
              have hf1 : ffP 3 ⟨n0, 1, 2, n6, n8, 8⟩ = some 8 := by
                show (if n6 ≠ (1 : Int) then some 6 else if vaP 3 (n8) = false then some 8 else if siP 3 (8) = false then some 16 else none) = _
                rw [if_neg (fun h => h hse), if_pos hva]
              rw [if_neg (by rw [hf1]; decide)] at hs1
              have hf2 : ffP 3 ⟨n0, 1, 2, n6, n8, n16⟩ = some 8 := by
                show (if n6 ≠ (1 : Int) then some 6 else if vaP 3 (n8) = false then some 8 else if siP 3 (n16) = false then some 16 else none) = _
                rw [if_neg (fun h => h hse), if_pos hva]
              rw [hf2] at hR
              simp only at hR
              subst hR
              have C0 : Hid (∀ wx, Calls Try.prog 37 #[.agg #[.int .i64 n0, .int .i64 1, .int .i64 2, .int .i64 n6, .int .i64 0, .int .i64 8]] wx fun e w' => e = .returned (.int .i64 3) ∧ Out wx w') := fun wx => by
                have := refSort_any n0 1 2 (n6) (0) (8) wx
                rw [hs0] at this
                exact this
              have C1 : Hid (∀ wx, Calls Try.prog 37 #[.agg #[.int .i64 n0, .int .i64 1, .int .i64 2, .int .i64 n6, .int .i64 n8, .int .i64 8]] wx fun e w' => e = .returned (.int .i64 0) ∧ Out wx w') := fun wx => by
                have := refSort_any n0 1 2 (n6) (n8) (8) wx
                rw [hs1] at this
                exact this
              clear hs0 hs1 hs2 hf0 hf2 hf1
              obtain ⟨z0, z1, z2, z3, z4, z5⟩ := hE.zb.cells
              obtain ⟨f0, f1, f2, f3, f4, f5⟩ := hE.zb.frozen
              have b0 : wc.cell? ⟨q + 1, 0, none⟩ = some (.int .i64 n0) := box_cell hE.bx 0
              have b1 : wc.cell? ⟨q + 1, 1, none⟩ = some (.int .i64 1) := box_cell hE.bx 1
              have b2 : wc.cell? ⟨q + 1, 2, none⟩ = some (.int .i64 2) := box_cell hE.bx 2
              have b3 : wc.cell? ⟨q + 1, 3, none⟩ = some (.int .i64 n6) := box_cell hE.bx 3
              have b4 : wc.cell? ⟨q + 1, 4, none⟩ = some (.int .i64 n8) := box_cell hE.bx 4
              have b5 : wc.cell? ⟨q + 1, 5, none⟩ = some (.int .i64 n16) := box_cell hE.bx 5
              have b2a : ∀ O, (wc.alloc O).cell? ⟨q + 1, 2, none⟩ = some (.int .i64 2) := fun O => cell_later ((Out.refl wc).alloc O) b2
              clear hE hse hva
              go_upto_region 13 with (go_at_call 37; refine (C0.out _).mono ?_; rintro e w1 ⟨rfl, ho⟩; have P1 := hidOf ho; clear ho)
              clear b0 b1 b2 b3 b4 b5 z0 z1 z2 z3 z4 z5 f0 f1 f2 f3 f4 f5 b2a
              have O1 : Hid (Out wc w1) := hidOf (((Out.refl wc).alloc (.cells #[.int .i64 n0, .int .i64 1, .int .i64 2, .int .i64 n6, .int .i64 0, .int .i64 8] 57)).trans P1.out)
              have gb : w1.heap[wc.heap.size]? = some (.cells #[.int .i64 n0, .int .i64 1, .int .i64 2, .int .i64 n6, .int .i64 0, .int .i64 8] 57 (0, 0)) := (P1.out.block _ (by rw [size_alloc]; omega)).trans (heap_alloc_new wc _)
              have g0 : w1.cell? ⟨wc.heap.size, 0, none⟩ = some (.int .i64 n0) := box_cell gb 0
              have g1 : w1.cell? ⟨wc.heap.size, 1, none⟩ = some (.int .i64 1) := box_cell gb 1
              have g2 : w1.cell? ⟨wc.heap.size, 2, none⟩ = some (.int .i64 2) := box_cell gb 2
              have g3 : w1.cell? ⟨wc.heap.size, 3, none⟩ = some (.int .i64 n6) := box_cell gb 3
              have g4 : w1.cell? ⟨wc.heap.size, 4, none⟩ = some (.int .i64 0) := box_cell gb 4
              have g5 : w1.cell? ⟨wc.heap.size, 5, none⟩ = some (.int .i64 8) := box_cell gb 5
              have gf : w1.frozen? ⟨wc.heap.size, 4, none⟩ = false := by rw [World.frozen?, gb]; rfl
              have b4 : w1.cell? ⟨q + 1, 4, none⟩ = some (.int .i64 n8) := box_cell (HE.out.more O1.out).bx 4
              clear gb
              go_upto_region 15 with (go_at_call 37; refine (C1.out _).mono ?_; rintro e w2 ⟨rfl, ho⟩; have P2 := hidOf ho; clear ho)
              clear g0 g1 g2 g3 g4 g5 gf b4
              have O2 : Hid (Out wc w2) := hidOf ((Out.setCell O1.out (a := ⟨wc.heap.size, 4, none⟩) (Nat.le_refl _) _).trans P2.out)
              have E2 := HE.out.more O2.out
              obtain ⟨z0, z1, z2, z3, z4, z5⟩ := E2.zb.cells
              obtain ⟨f0, f1, f2, f3, f4, f5⟩ := E2.zb.frozen
              have b0 : w2.cell? ⟨q + 1, 0, none⟩ = some (.int .i64 n0) := box_cell E2.bx 0
              have b1 : w2.cell? ⟨q + 1, 1, none⟩ = some (.int .i64 1) := box_cell E2.bx 1
              have b2 : w2.cell? ⟨q + 1, 2, none⟩ = some (.int .i64 2) := box_cell E2.bx 2
              have b3 : w2.cell? ⟨q + 1, 3, none⟩ = some (.int .i64 n6) := box_cell E2.bx 3
              have b4 : w2.cell? ⟨q + 1, 4, none⟩ = some (.int .i64 n8) := box_cell E2.bx 4
              have b5 : w2.cell? ⟨q + 1, 5, none⟩ = some (.int .i64 n16) := box_cell E2.bx 5
              have HE2 := hidOf E2
              clear E2
              go_wp2
              refine bodyPost_ret (results_row_tmp1 rfl _ _ q 57 _ (0, 0) _ rfl (set6_heap ⟨n0, 1, 2, n6, n8, n16⟩ HE2.out.zb) Try.underlying57 rfl sizeSm) rfl ?_
              exact ⟨rfl, HE2.out.fin⟩
            · cases hsi : siP 3 n16
              · skip
                have hf0 : ffP 3 ⟨n0, 1, 2, n6, 0, 8⟩ = none := by
                  show (if n6 ≠ (1 : Int) then some 6 else if vaP 3 (0) = false then some 8 else if siP 3 (8) = false then some 16 else none) = _
                  rw [if_neg (fun h => h hse), if_neg (by decide), if_neg (by decide)]
                rw [if_pos hf0] at hs0
                have hf1 : ffP 3 ⟨n0, 1, 2, n6, n8, 8⟩ = none := by
                  show (if n6 ≠ (1 : Int) then some 6 else if vaP 3 (n8) = false then some 8 else if siP 3 (8) = false then some 16 else none) = _
                  rw [if_neg (fun h => h hse), if_neg (by rw [hva]; decide), if_neg (by decide)]
                rw [if_pos hf1] at hs1
                have hf2 : ffP 3 ⟨n0, 1, 2, n6, n8, n16⟩ = some 16 := by
                  show (if n6 ≠ (1 : Int) then some 6 else if vaP 3 (n8) = false then some 8 else if siP 3 (n16) = false then some 16 else none) = _
                  rw [if_neg (fun h => h hse), if_neg (by rw [hva]; decide), if_pos hsi]
                rw [if_neg (by rw [hf2]; decide)] at hs2
                rw [hf2] at hR
                simp only at hR
                subst hR
                have C0 : Hid (∀ wx, Calls Try.prog 37 #[.agg #[.int .i64 n0, .int .i64 1, .int .i64 2, .int .i64 n6, .int .i64 0, .int .i64 8]] wx fun e w' => e = .returned (.int .i64 3) ∧ Out wx w') := fun wx => by
                  have := refSort_any n0 1 2 (n6) (0) (8) wx
                  rw [hs0] at this
                  exact this
                have C1 : Hid (∀ wx, Calls Try.prog 37 #[.agg #[.int .i64 n0, .int .i64 1, .int .i64 2, .int .i64 n6, .int .i64 n8, .int .i64 8]] wx fun e w' => e = .returned (.int .i64 3) ∧ Out wx w') := fun wx => by
                  have := refSort_any n0 1 2 (n6) (n8) (8) wx
                  rw [hs1] at this
                  exact this
                have C2 : Hid (∀ wx, Calls Try.prog 37 #[.agg #[.int .i64 n0, .int .i64 1, .int .i64 2, .int .i64 n6, .int .i64 n8, .int .i64 n16]] wx fun e w' => e = .returned (.int .i64 0) ∧ Out wx w') := fun wx => by
                  have := refSort_any n0 1 2 (n6) (n8) (n16) wx
                  rw [hs2] at this
                  exact this
                clear hs0 hs1 hs2 hf0 hf2 hf1
                obtain ⟨z0, z1, z2, z3, z4, z5⟩ := hE.zb.cells
                obtain ⟨f0, f1, f2, f3, f4, f5⟩ := hE.zb.frozen
                have b0 : wc.cell? ⟨q + 1, 0, none⟩ = some (.int .i64 n0) := box_cell hE.bx 0
                have b1 : wc.cell? ⟨q + 1, 1, none⟩ = some (.int .i64 1) := box_cell hE.bx 1
                have b2 : wc.cell? ⟨q + 1, 2, none⟩ = some (.int .i64 2) := box_cell hE.bx 2
                have b3 : wc.cell? ⟨q + 1, 3, none⟩ = some (.int .i64 n6) := box_cell hE.bx 3
                have b4 : wc.cell? ⟨q + 1, 4, none⟩ = some (.int .i64 n8) := box_cell hE.bx 4
                have b5 : wc.cell? ⟨q + 1, 5, none⟩ = some (.int .i64 n16) := box_cell hE.bx 5
                have b2a : ∀ O, (wc.alloc O).cell? ⟨q + 1, 2, none⟩ = some (.int .i64 2) := fun O => cell_later ((Out.refl wc).alloc O) b2
                clear hE hse hva hsi
                go_upto_region 13 with (go_at_call 37; refine (C0.out _).mono ?_; rintro e w1 ⟨rfl, ho⟩; have P1 := hidOf ho; clear ho)
                clear b0 b1 b2 b3 b4 b5 z0 z1 z2 z3 z4 z5 f0 f1 f2 f3 f4 f5 b2a
                have O1 : Hid (Out wc w1) := hidOf (((Out.refl wc).alloc (.cells #[.int .i64 n0, .int .i64 1, .int .i64 2, .int .i64 n6, .int .i64 0, .int .i64 8] 57)).trans P1.out)
                have gb : w1.heap[wc.heap.size]? = some (.cells #[.int .i64 n0, .int .i64 1, .int .i64 2, .int .i64 n6, .int .i64 0, .int .i64 8] 57 (0, 0)) := (P1.out.block _ (by rw [size_alloc]; omega)).trans (heap_alloc_new wc _)
                have g0 : w1.cell? ⟨wc.heap.size, 0, none⟩ = some (.int .i64 n0) := box_cell gb 0
                have g1 : w1.cell? ⟨wc.heap.size, 1, none⟩ = some (.int .i64 1) := box_cell gb 1
                have g2 : w1.cell? ⟨wc.heap.size, 2, none⟩ = some (.int .i64 2) := box_cell gb 2
                have g3 : w1.cell? ⟨wc.heap.size, 3, none⟩ = some (.int .i64 n6) := box_cell gb 3
                have g4 : w1.cell? ⟨wc.heap.size, 4, none⟩ = some (.int .i64 0) := box_cell gb 4
                have g5 : w1.cell? ⟨wc.heap.size, 5, none⟩ = some (.int .i64 8) := box_cell gb 5
                have gf : w1.frozen? ⟨wc.heap.size, 4, none⟩ = false := by rw [World.frozen?, gb]; rfl
                have b4 : w1.cell? ⟨q + 1, 4, none⟩ = some (.int .i64 n8) := box_cell (HE.out.more O1.out).bx 4
                clear gb
                go_upto_region 16 with (go_at_call 37; refine (C1.out _).mono ?_; rintro e w2 ⟨rfl, ho⟩; have P2 := hidOf ho; clear ho)
                clear g0 g1 g2 g3 g4 g5 gf b4
                have O2 : Hid (Out wc w2) := hidOf ((Out.setCell O1.out (a := ⟨wc.heap.size, 4, none⟩) (Nat.le_refl _) _).trans P2.out)
                have E2 := HE.out.more O2.out
                obtain ⟨z0, z1, z2, z3, z4, z5⟩ := E2.zb.cells
                obtain ⟨f0, f1, f2, f3, f4, f5⟩ := E2.zb.frozen
                have b0 : w2.cell? ⟨q + 1, 0, none⟩ = some (.int .i64 n0) := box_cell E2.bx 0
                have b1 : w2.cell? ⟨q + 1, 1, none⟩ = some (.int .i64 1) := box_cell E2.bx 1
                have b2 : w2.cell? ⟨q + 1, 2, none⟩ = some (.int .i64 2) := box_cell E2.bx 2
                have b3 : w2.cell? ⟨q + 1, 3, none⟩ = some (.int .i64 n6) := box_cell E2.bx 3
                have b4 : w2.cell? ⟨q + 1, 4, none⟩ = some (.int .i64 n8) := box_cell E2.bx 4
                have b5 : w2.cell? ⟨q + 1, 5, none⟩ = some (.int .i64 n16) := box_cell E2.bx 5
                have HE2 := hidOf E2
                clear E2
                go_upto_region 17 with (go_at_call 37; refine (C2.out _).mono ?_; rintro e w3 ⟨rfl, ho⟩; have P3 := hidOf ho; clear ho)
                clear b0 b1 b2 b3 b4 b5 z0 z1 z2 z3 z4 z5 f0 f1 f2 f3 f4 f5
                have E3 := HE2.out.more P3.out
                obtain ⟨z0, z1, z2, z3, z4, z5⟩ := E3.zb.cells
                obtain ⟨f0, f1, f2, f3, f4, f5⟩ := E3.zb.frozen
                have b0 : w3.cell? ⟨q + 1, 0, none⟩ = some (.int .i64 n0) := box_cell E3.bx 0
                have b1 : w3.cell? ⟨q + 1, 1, none⟩ = some (.int .i64 1) := box_cell E3.bx 1
                have b2 : w3.cell? ⟨q + 1, 2, none⟩ = some (.int .i64 2) := box_cell E3.bx 2
                have b3 : w3.cell? ⟨q + 1, 3, none⟩ = some (.int .i64 n6) := box_cell E3.bx 3
                have b4 : w3.cell? ⟨q + 1, 4, none⟩ = some (.int .i64 n8) := box_cell E3.bx 4
                have b5 : w3.cell? ⟨q + 1, 5, none⟩ = some (.int .i64 n16) := box_cell E3.bx 5
                have HE3 := hidOf E3
                clear E3
                go_wp2
                refine bodyPost_ret (results_row_tmp1 rfl _ _ q 57 _ (0, 0) _ rfl (set6_heap ⟨n0, 1, 2, n6, n8, n16⟩ HE3.out.zb) Try.underlying57 rfl sizeSm) rfl ?_
                exact ⟨rfl, HE3.out.fin⟩
              · skip
                have hf0 : ffP 3 ⟨n0, 1, 2, n6, 0, 8⟩ = none := by
                  show (if n6 ≠ (1 : Int) then some 6 else if vaP 3 (0) = false then some 8 else if siP 3 (8) = false then some 16 else none) = _
                  rw [if_neg (fun h => h hse), if_neg (by decide), if_neg (by decide)]
                rw [if_pos hf0] at hs0
                have hf1 : ffP 3 ⟨n0, 1, 2, n6, n8, 8⟩ = none := by
                  show (if n6 ≠ (1 : Int) then some 6 else if vaP 3 (n8) = false then some 8 else if siP 3 (8) = false then some 16 else none) = _
                  rw [if_neg (fun h => h hse), if_neg (by rw [hva]; decide), if_neg (by decide)]
                rw [if_pos hf1] at hs1
                have hf2 : ffP 3 ⟨n0, 1, 2, n6, n8, n16⟩ = none := by
                  show (if n6 ≠ (1 : Int) then some 6 else if vaP 3 (n8) = false then some 8 else if siP 3 (n16) = false then some 16 else none) = _
                  rw [if_neg (fun h => h hse), if_neg (by rw [hva]; decide), if_neg (by rw [hsi]; decide)]
                rw [if_pos hf2] at hs2
                rw [hf2] at hR
                simp only at hR
                subst hR
                have C0 : Hid (∀ wx, Calls Try.prog 37 #[.agg #[.int .i64 n0, .int .i64 1, .int .i64 2, .int .i64 n6, .int .i64 0, .int .i64 8]] wx fun e w' => e = .returned (.int .i64 3) ∧ Out wx w') := fun wx => by
                  have := refSort_any n0 1 2 (n6) (0) (8) wx
                  rw [hs0] at this
                  exact this
                have C1 : Hid (∀ wx, Calls Try.prog 37 #[.agg #[.int .i64 n0, .int .i64 1, .int .i64 2, .int .i64 n6, .int .i64 n8, .int .i64 8]] wx fun e w' => e = .returned (.int .i64 3) ∧ Out wx w') := fun wx => by
                  have := refSort_any n0 1 2 (n6) (n8) (8) wx
                  rw [hs1] at this
                  exact this
                have C2 : Hid (∀ wx, Calls Try.prog 37 #[.agg #[.int .i64 n0, .int .i64 1, .int .i64 2, .int .i64 n6, .int .i64 n8, .int .i64 n16]] wx fun e w' => e = .returned (.int .i64 3) ∧ Out wx w') := fun wx => by
                  have := refSort_any n0 1 2 (n6) (n8) (n16) wx
                  rw [hs2] at this
                  exact this
                clear hs0 hs1 hs2 hf0 hf2 hf1
                obtain ⟨z0, z1, z2, z3, z4, z5⟩ := hE.zb.cells
                obtain ⟨f0, f1, f2, f3, f4, f5⟩ := hE.zb.frozen
                have b0 : wc.cell? ⟨q + 1, 0, none⟩ = some (.int .i64 n0) := box_cell hE.bx 0
                have b1 : wc.cell? ⟨q + 1, 1, none⟩ = some (.int .i64 1) := box_cell hE.bx 1
                have b2 : wc.cell? ⟨q + 1, 2, none⟩ = some (.int .i64 2) := box_cell hE.bx 2
                have b3 : wc.cell? ⟨q + 1, 3, none⟩ = some (.int .i64 n6) := box_cell hE.bx 3
                have b4 : wc.cell? ⟨q + 1, 4, none⟩ = some (.int .i64 n8) := box_cell hE.bx 4
                have b5 : wc.cell? ⟨q + 1, 5, none⟩ = some (.int .i64 n16) := box_cell hE.bx 5
                have b2a : ∀ O, (wc.alloc O).cell? ⟨q + 1, 2, none⟩ = some (.int .i64 2) := fun O => cell_later ((Out.refl wc).alloc O) b2
                clear hE hse hva hsi
                go_upto_region 13 with (go_at_call 37; refine (C0.out _).mono ?_; rintro e w1 ⟨rfl, ho⟩; have P1 := hidOf ho; clear ho)
                clear b0 b1 b2 b3 b4 b5 z0 z1 z2 z3 z4 z5 f0 f1 f2 f3 f4 f5 b2a
                have O1 : Hid (Out wc w1) := hidOf (((Out.refl wc).alloc (.cells #[.int .i64 n0, .int .i64 1, .int .i64 2, .int .i64 n6, .int .i64 0, .int .i64 8] 57)).trans P1.out)
                have gb : w1.heap[wc.heap.size]? = some (.cells #[.int .i64 n0, .int .i64 1, .int .i64 2, .int .i64 n6, .int .i64 0, .int .i64 8] 57 (0, 0)) := (P1.out.block _ (by rw [size_alloc]; omega)).trans (heap_alloc_new wc _)
                have g0 : w1.cell? ⟨wc.heap.size, 0, none⟩ = some (.int .i64 n0) := box_cell gb 0
                have g1 : w1.cell? ⟨wc.heap.size, 1, none⟩ = some (.int .i64 1) := box_cell gb 1
                have g2 : w1.cell? ⟨wc.heap.size, 2, none⟩ = some (.int .i64 2) := box_cell gb 2
                have g3 : w1.cell? ⟨wc.heap.size, 3, none⟩ = some (.int .i64 n6) := box_cell gb 3
                have g4 : w1.cell? ⟨wc.heap.size, 4, none⟩ = some (.int .i64 0) := box_cell gb 4
                have g5 : w1.cell? ⟨wc.heap.size, 5, none⟩ = some (.int .i64 8) := box_cell gb 5
                have gf : w1.frozen? ⟨wc.heap.size, 4, none⟩ = false := by rw [World.frozen?, gb]; rfl
                have b4 : w1.cell? ⟨q + 1, 4, none⟩ = some (.int .i64 n8) := box_cell (HE.out.more O1.out).bx 4
                clear gb
                go_upto_region 16 with (go_at_call 37; refine (C1.out _).mono ?_; rintro e w2 ⟨rfl, ho⟩; have P2 := hidOf ho; clear ho)
                clear g0 g1 g2 g3 g4 g5 gf b4
                have O2 : Hid (Out wc w2) := hidOf ((Out.setCell O1.out (a := ⟨wc.heap.size, 4, none⟩) (Nat.le_refl _) _).trans P2.out)
                have E2 := HE.out.more O2.out
                obtain ⟨z0, z1, z2, z3, z4, z5⟩ := E2.zb.cells
                obtain ⟨f0, f1, f2, f3, f4, f5⟩ := E2.zb.frozen
                have b0 : w2.cell? ⟨q + 1, 0, none⟩ = some (.int .i64 n0) := box_cell E2.bx 0
                have b1 : w2.cell? ⟨q + 1, 1, none⟩ = some (.int .i64 1) := box_cell E2.bx 1
                have b2 : w2.cell? ⟨q + 1, 2, none⟩ = some (.int .i64 2) := box_cell E2.bx 2
                have b3 : w2.cell? ⟨q + 1, 3, none⟩ = some (.int .i64 n6) := box_cell E2.bx 3
                have b4 : w2.cell? ⟨q + 1, 4, none⟩ = some (.int .i64 n8) := box_cell E2.bx 4
                have b5 : w2.cell? ⟨q + 1, 5, none⟩ = some (.int .i64 n16) := box_cell E2.bx 5
                have HE2 := hidOf E2
                clear E2
                go_upto_region 18 with (go_at_call 37; refine (C2.out _).mono ?_; rintro e w3 ⟨rfl, ho⟩; have P3 := hidOf ho; clear ho)
                clear b0 b1 b2 b3 b4 b5 z0 z1 z2 z3 z4 z5 f0 f1 f2 f3 f4 f5
                have E3 := HE2.out.more P3.out
                obtain ⟨z0, z1, z2, z3, z4, z5⟩ := E3.zb.cells
                obtain ⟨f0, f1, f2, f3, f4, f5⟩ := E3.zb.frozen
                have b0 : w3.cell? ⟨q + 1, 0, none⟩ = some (.int .i64 n0) := box_cell E3.bx 0
                have b1 : w3.cell? ⟨q + 1, 1, none⟩ = some (.int .i64 1) := box_cell E3.bx 1
                have b2 : w3.cell? ⟨q + 1, 2, none⟩ = some (.int .i64 2) := box_cell E3.bx 2
                have b3 : w3.cell? ⟨q + 1, 3, none⟩ = some (.int .i64 n6) := box_cell E3.bx 3
                have b4 : w3.cell? ⟨q + 1, 4, none⟩ = some (.int .i64 n8) := box_cell E3.bx 4
                have b5 : w3.cell? ⟨q + 1, 5, none⟩ = some (.int .i64 n16) := box_cell E3.bx 5
                have HE3 := hidOf E3
                clear E3
                go_wp2
                refine bodyPost_ret (results_row_tmp1 rfl _ _ q 57 _ (0, 0) _ rfl (set6_heap ⟨n0, 1, 2, n6, n8, n16⟩ HE3.out.zb) Try.underlying57 rfl sizeSm) rfl ?_
                exact ⟨rfl, HE3.out.fin⟩
          · skip
            have hf0 : ffP 3 ⟨n0, 1, 2, n6, 0, 8⟩ = some 6 := by
              show (if n6 ≠ (1 : Int) then some 6 else if vaP 3 (0) = false then some 8 else if siP 3 (8) = false then some 16 else none) = _
              rw [if_pos hse]
            rw [if_neg (by rw [hf0]; decide)] at hs0
            have hf2 : ffP 3 ⟨n0, 1, 2, n6, n8, n16⟩ = some 6 := by
              show (if n6 ≠ (1 : Int) then some 6 else if vaP 3 (n8) = false then some 8 else if siP 3 (n16) = false then some 16 else none) = _
              rw [if_pos hse]
            rw [hf2] at hR
            simp only at hR
            subst hR
            have C0 : Hid (∀ wx, Calls Try.prog 37 #[.agg #[.int .i64 n0, .int .i64 1, .int .i64 2, .int .i64 n6, .int .i64 0, .int .i64 8]] wx fun e w' => e = .returned (.int .i64 0) ∧ Out wx w') := fun wx => by
              have := refSort_any n0 1 2 (n6) (0) (8) wx
              rw [hs0] at this
              exact this
            clear hs0 hs1 hs2 hf0 hf2
            obtain ⟨z0, z1, z2, z3, z4, z5⟩ := hE.zb.cells
            obtain ⟨f0, f1, f2, f3, f4, f5⟩ := hE.zb.frozen
            have b0 : wc.cell? ⟨q + 1, 0, none⟩ = some (.int .i64 n0) := box_cell hE.bx 0
            have b1 : wc.cell? ⟨q + 1, 1, none⟩ = some (.int .i64 1) := box_cell hE.bx 1
            have b2 : wc.cell? ⟨q + 1, 2, none⟩ = some (.int .i64 2) := box_cell hE.bx 2
            have b3 : wc.cell? ⟨q + 1, 3, none⟩ = some (.int .i64 n6) := box_cell hE.bx 3
            have b4 : wc.cell? ⟨q + 1, 4, none⟩ = some (.int .i64 n8) := box_cell hE.bx 4
            have b5 : wc.cell? ⟨q + 1, 5, none⟩ = some (.int .i64 n16) := box_cell hE.bx 5
            have b2a : ∀ O, (wc.alloc O).cell? ⟨q + 1, 2, none⟩ = some (.int .i64 2) := fun O => cell_later ((Out.refl wc).alloc O) b2
            clear hE hse
            go_upto_region 12 with (go_at_call 37; refine (C0.out _).mono ?_; rintro e w1 ⟨rfl, ho⟩; have P1 := hidOf ho; clear ho)
            clear b0 b1 b2 b3 b4 b5 z0 z1 z2 z3 z4 z5 f0 f1 f2 f3 f4 f5 b2a
            have O1 : Hid (Out wc w1) := hidOf (((Out.refl wc).alloc (.cells #[.int .i64 n0, .int .i64 1, .int .i64 2, .int .i64 n6, .int .i64 0, .int .i64 8] 57)).trans P1.out)
            have E1 := HE.out.more O1.out
            obtain ⟨z0, z1, z2, z3, z4, z5⟩ := E1.zb.cells
            obtain ⟨f0, f1, f2, f3, f4, f5⟩ := E1.zb.frozen
            have b0 : w1.cell? ⟨q + 1, 0, none⟩ = some (.int .i64 n0) := box_cell E1.bx 0
            have b1 : w1.cell? ⟨q + 1, 1, none⟩ = some (.int .i64 1) := box_cell E1.bx 1
            have b2 : w1.cell? ⟨q + 1, 2, none⟩ = some (.int .i64 2) := box_cell E1.bx 2
            have b3 : w1.cell? ⟨q + 1, 3, none⟩ = some (.int .i64 n6) := box_cell E1.bx 3
            have b4 : w1.cell? ⟨q + 1, 4, none⟩ = some (.int .i64 n8) := box_cell E1.bx 4
            have b5 : w1.cell? ⟨q + 1, 5, none⟩ = some (.int .i64 n16) := box_cell E1.bx 5
            have HE1 := hidOf E1
            clear E1
            go_wp2
            refine bodyPost_ret (results_row_tmp1 rfl _ _ q 57 _ (0, 0) _ rfl (set6_heap ⟨n0, 1, 2, n6, n8, n16⟩ HE1.out.zb) Try.underlying57 rfl sizeSm) rfl ?_
            exact ⟨rfl, HE1.out.fin⟩
        · rw [if_pos (fun h => h5 (hx5.out.1 h))] at hR
          subst hR
          have d5 : (n5 != 0) = true := by simp [h5]
          obtain ⟨z0, z1, z2, z3, z4, z5⟩ := hE.zb.cells
          obtain ⟨f0, f1, f2, f3, f4, f5⟩ := hE.zb.frozen
          have b0 : wc.cell? ⟨q + 1, 0, none⟩ = some (.int .i64 n0) := box_cell hE.bx 0
          have b1 : wc.cell? ⟨q + 1, 1, none⟩ = some (.int .i64 1) := box_cell hE.bx 1
          have b2 : wc.cell? ⟨q + 1, 2, none⟩ = some (.int .i64 2) := box_cell hE.bx 2
          have b3 : wc.cell? ⟨q + 1, 3, none⟩ = some (.int .i64 n6) := box_cell hE.bx 3
          have b4 : wc.cell? ⟨q + 1, 4, none⟩ = some (.int .i64 n8) := box_cell hE.bx 4
          have b5 : wc.cell? ⟨q + 1, 5, none⟩ = some (.int .i64 n16) := box_cell hE.bx 5
          clear hE h5
          go_wp2
          refine bodyPost_ret (results_row_tmp1 rfl _ _ q 57 _ (0, 0) _ rfl (set6_heap ⟨n0, 1, 2, n6, n8, n16⟩ HE.out.zb) Try.underlying57 rfl sizeSm) rfl ?_
          exact ⟨rfl, HE.out.fin⟩
      · clear b0 b1 b2 b3 b4 b5 z0 z1 z2 z3 z4 z5 f0 f1 f2 f3 f4 f5
        have hE : Er w wc q ⟨n0, 1, 0, n6, n8, n16⟩ := HE.out
        have HE := hidOf hE
        have hR := HR.out
        rw [if_neg hA] at hR
        clear HR hA
        by_cases h5 : n5 = 0
        · subst h5
          rw [if_neg (fun h => h (hx5.out.2 rfl))] at hR
          have hs0 : soP ⟨n0, 1, 0, n6, 0, 0⟩ = if ffP 4 ⟨n0, 1, 0, n6, 0, 0⟩ = none then 4 else 0 := HSo.out (n6) (0) (0)
          have hs1 : soP ⟨n0, 1, 0, n6, n8, 0⟩ = if ffP 4 ⟨n0, 1, 0, n6, n8, 0⟩ = none then 4 else 0 := HSo.out (n6) (n8) (0)
          have hs2 : soP ⟨n0, 1, 0, n6, n8, n16⟩ = if ffP 4 ⟨n0, 1, 0, n6, n8, n16⟩ = none then 4 else 0 := HSo.out (n6) (n8) (n16)
          have hff : ffP (fifP 16) ⟨n0, 16 / 16, 16 % 16, n6, n8, n16⟩ = ffP 4 ⟨n0, 1, 0, n6, n8, n16⟩ := rfl
          rw [hff] at hR
          clear hff
          by_cases hse : n6 = 0
          · cases hva : vaP 4 n8
            · skip
              have hf0 : ffP 4 ⟨n0, 1, 0, n6, 0, 0⟩ = none := by
                show (if n6 ≠ (0 : Int) then some 6 else if vaP 4 (0) = false then some 8 else if siP 4 (0) = false then some 16 else none) = _
                rw [if_neg (fun h => h hse), if_neg (by decide), if_neg (by decide)]
              rw [if_pos hf0] at hs0
              have hf1 : ffP 4 ⟨n0, 1, 0, n6, n8, 0⟩ = some 8 := by
                show (if n6 ≠ (0 : Int) then some 6 else if vaP 4 (n8) = false then some 8 else if siP 4 (0) = false then some 16 else none) = _
                rw [if_neg (fun h => h hse), if_pos hva]
              rw [if_neg (by rw [hf1]; decide)] at hs1
              have hf2 : ffP 4 ⟨n0, 1, 0, n6, n8, n16⟩ = some 8 := by
                show (if n6 ≠ (0 : Int) then some 6 else if vaP 4 (n8) = false then some 8 else if siP 4 (n16) = false then some 16 else none) = _
                rw [if_neg (fun h => h hse), if_pos hva]
              rw [hf2] at hR
              simp only at hR
              subst hR
              have C0 : Hid (∀ wx, Calls Try.prog 37 #[.agg #[.int .i64 n0, .int .i64 1, .int .i64 0, .int .i64 n6, .int .i64 0, .int .i64 0]] wx fun e w' => e = .returned (.int .i64 4) ∧ Out wx w') := fun wx => by
                have := refSort_any n0 1 0 (n6) (0) (0) wx
                rw [hs0] at this
                exact this
              have C1 : Hid (∀ wx, Calls Try.prog 37 #[.agg #[.int .i64 n0, .int .i64 1, .int .i64 0, .int .i64 n6, .int .i64 n8, .int .i64 0]] wx fun e w' => e = .returned (.int .i64 0) ∧ Out wx w') := fun wx => by
                have := refSort_any n0 1 0 (n6) (n8) (0) wx
                rw [hs1] at this
                exact this
              clear hs0 hs1 hs2 hf0 hf2 hf1
              obtain ⟨z0, z1, z2, z3, z4, z5⟩ := hE.zb.cells
              obtain ⟨f0, f1, f2, f3, f4, f5⟩ := hE.zb.frozen
              have b0 : wc.cell? ⟨q + 1, 0, none⟩ = some (.int .i64 n0) := box_cell hE.bx 0
              have b1 : wc.cell? ⟨q + 1, 1, none⟩ = some (.int .i64 1) := box_cell hE.bx 1
              have b2 : wc.cell? ⟨q + 1, 2, none⟩ = some (.int .i64 0) := box_cell hE.bx 2
              have b3 : wc.cell? ⟨q + 1, 3, none⟩ = some (.int .i64 n6) := box_cell hE.bx 3
              have b4 : wc.cell? ⟨q + 1, 4, none⟩ = some (.int .i64 n8) := box_cell hE.bx 4
              have b5 : wc.cell? ⟨q + 1, 5, none⟩ = some (.int .i64 n16) := box_cell hE.bx 5
              have b2a : ∀ O, (wc.alloc O).cell? ⟨q + 1, 2, none⟩ = some (.int .i64 0) := fun O => cell_later ((Out.refl wc).alloc O) b2
              clear hE hse hva
              go_upto_region 13 with (go_at_call 37; refine (C0.out _).mono ?_; rintro e w1 ⟨rfl, ho⟩; have P1 := hidOf ho; clear ho)
              clear b0 b1 b2 b3 b4 b5 z0 z1 z2 z3 z4 z5 f0 f1 f2 f3 f4 f5 b2a
              have O1 : Hid (Out wc w1) := hidOf (((Out.refl wc).alloc (.cells #[.int .i64 n0, .int .i64 1, .int .i64 0, .int .i64 n6, .int .i64 0, .int .i64 0] 57)).trans P1.out)
              have gb : w1.heap[wc.heap.size]? = some (.cells #[.int .i64 n0, .int .i64 1, .int .i64 0, .int .i64 n6, .int .i64 0, .int .i64 0] 57 (0, 0)) := (P1.out.block _ (by rw [size_alloc]; omega)).trans (heap_alloc_new wc _)
              have g0 : w1.cell? ⟨wc.heap.size, 0, none⟩ = some (.int .i64 n0) := box_cell gb 0
              have g1 : w1.cell? ⟨wc.heap.size, 1, none⟩ = some (.int .i64 1) := box_cell gb 1
              have g2 : w1.cell? ⟨wc.heap.size, 2, none⟩ = some (.int .i64 0) := box_cell gb 2
              have g3 : w1.cell? ⟨wc.heap.size, 3, none⟩ = some (.int .i64 n6) := box_cell gb 3
              have g4 : w1.cell? ⟨wc.heap.size, 4, none⟩ = some (.int .i64 0) := box_cell gb 4
              have g5 : w1.cell? ⟨wc.heap.size, 5, none⟩ = some (.int .i64 0) := box_cell gb 5
              have gf : w1.frozen? ⟨wc.heap.size, 4, none⟩ = false := by rw [World.frozen?, gb]; rfl
              have b4 : w1.cell? ⟨q + 1, 4, none⟩ = some (.int .i64 n8) := box_cell (HE.out.more O1.out).bx 4
              clear gb
              go_upto_region 15 with (go_at_call 37; refine (C1.out _).mono ?_; rintro e w2 ⟨rfl, ho⟩; have P2 := hidOf ho; clear ho)
              clear g0 g1 g2 g3 g4 g5 gf b4
              have O2 : Hid (Out wc w2) := hidOf ((Out.setCell O1.out (a := ⟨wc.heap.size, 4, none⟩) (Nat.le_refl _) _).trans P2.out)
              have E2 := HE.out.more O2.out
              obtain ⟨z0, z1, z2, z3, z4, z5⟩ := E2.zb.cells
              obtain ⟨f0, f1, f2, f3, f4, f5⟩ := E2.zb.frozen
              have b0 : w2.cell? ⟨q + 1, 0, none⟩ = some (.int .i64 n0) := box_cell E2.bx 0
              have b1 : w2.cell? ⟨q + 1, 1, none⟩ = some (.int .i64 1) := box_cell E2.bx 1
              have b2 : w2.cell? ⟨q + 1, 2, none⟩ = some (.int .i64 0) := box_cell E2.bx 2
              have b3 : w2.cell? ⟨q + 1, 3, none⟩ = some (.int .i64 n6) := box_cell E2.bx 3
              have b4 : w2.cell? ⟨q + 1, 4, none⟩ = some (.int .i64 n8) := box_cell E2.bx 4
              have b5 : w2.cell? ⟨q + 1, 5, none⟩ = some (.int .i64 n16) := box_cell E2.bx 5
              have HE2 := hidOf E2
              clear E2
              go_wp2
              refine bodyPost_ret (results_row_tmp1 rfl _ _ q 57 _ (0, 0) _ rfl (set6_heap ⟨n0, 1, 0, n6, n8, n16⟩ HE2.out.zb) Try.underlying57 rfl sizeSm) rfl ?_
              exact ⟨rfl, HE2.out.fin⟩
            · cases hsi : siP 4 n16
              · skip
                have hf0 : ffP 4 ⟨n0, 1, 0, n6, 0, 0⟩ = none := by
                  show (if n6 ≠ (0 : Int) then some 6 else if vaP 4 (0) = false then some 8 else if siP 4 (0) = false then some 16 else none) = _
                  rw [if_neg (fun h => h hse), if_neg (by decide), if_neg (by decide)]
                rw [if_pos hf0] at hs0
                have hf1 : ffP 4 ⟨n0, 1, 0, n6, n8, 0⟩ = none := by
                  show (if n6 ≠ (0 : Int) then some 6 else if vaP 4 (n8) = false then some 8 else if siP 4 (0) = false then some 16 else none) = _
                  rw [if_neg (fun h => h hse), if_neg (by rw [hva]; decide), if_neg (by decide)]
                rw [if_pos hf1] at hs1
                have hf2 : ffP 4 ⟨n0, 1, 0, n6, n8, n16⟩ = some 16 := by
                  show (if n6 ≠ (0 : Int) then some 6 else if vaP 4 (n8) = false then some 8 else if siP 4 (n16) = false then some 16 else none) = _
                  rw [if_neg (fun h => h hse), if_neg (by rw [hva]; decide), if_pos hsi]
                rw [if_neg (by rw [hf2]; decide)] at hs2
                rw [hf2] at hR
                simp only at hR
                subst hR
                have C0 : Hid (∀ wx, Calls Try.prog 37 #[.agg #[.int .i64 n0, .int .i64 1, .int .i64 0, .int .i64 n6, .int .i64 0, .int .i64 0]] wx fun e w' => e = .returned (.int .i64 4) ∧ Out wx w') := fun wx => by
                  have := refSort_any n0 1 0 (n6) (0) (0) wx
                  rw [hs0] at this
                  exact this
                have C1 : Hid (∀ wx, Calls Try.prog 37 #[.agg #[.int .i64 n0, .int .i64 1, .int .i64 0, .int .i64 n6, .int .i64 n8, .int .i64 0]] wx fun e w' => e = .returned (.int .i64 4) ∧ Out wx w') := fun wx => by
                  have := refSort_any n0 1 0 (n6) (n8) (0) wx
                  rw [hs1] at this
                  exact this
                have C2 : Hid (∀ wx, Calls Try.prog 37 #[.agg #[.int .i64 n0, .int .i64 1, .int .i64 0, .int .i64 n6, .int .i64 n8, .int .i64 n16]] wx fun e w' => e = .returned (.int .i64 0) ∧ Out wx w') := fun wx => by
                  have := refSort_any n0 1 0 (n6) (n8) (n16) wx
                  rw [hs2] at this
                  exact this
                clear hs0 hs1 hs2 hf0 hf2 hf1
                obtain ⟨z0, z1, z2, z3, z4, z5⟩ := hE.zb.cells
                obtain ⟨f0, f1, f2, f3, f4, f5⟩ := hE.zb.frozen
                have b0 : wc.cell? ⟨q + 1, 0, none⟩ = some (.int .i64 n0) := box_cell hE.bx 0
                have b1 : wc.cell? ⟨q + 1, 1, none⟩ = some (.int .i64 1) := box_cell hE.bx 1
                have b2 : wc.cell? ⟨q + 1, 2, none⟩ = some (.int .i64 0) := box_cell hE.bx 2
                have b3 : wc.cell? ⟨q + 1, 3, none⟩ = some (.int .i64 n6) := box_cell hE.bx 3
                have b4 : wc.cell? ⟨q + 1, 4, none⟩ = some (.int .i64 n8) := box_cell hE.bx 4
                have b5 : wc.cell? ⟨q + 1, 5, none⟩ = some (.int .i64 n16) := box_cell hE.bx 5
                have b2a : ∀ O, (wc.alloc O).cell? ⟨q + 1, 2, none⟩ = some (.int .i64 0) := fun O => cell_later ((Out.refl wc).alloc O) b2
                clear hE hse hva hsi
                go_upto_region 13 with (go_at_call 37; refine (C0.out _).mono ?_; rintro e w1 ⟨rfl, ho⟩; have P1 := hidOf ho; clear ho)
                clear b0 b1 b2 b3 b4 b5 z0 z1 z2 z3 z4 z5 f0 f1 f2 f3 f4 f5 b2a
                have O1 : Hid (Out wc w1) := hidOf (((Out.refl wc).alloc (.cells #[.int .i64 n0, .int .i64 1, .int .i64 0, .int .i64 n6, .int .i64 0, .int .i64 0] 57)).trans P1.out)
                have gb : w1.heap[wc.heap.size]? = some (.cells #[.int .i64 n0, .int .i64 1, .int .i64 0, .int .i64 n6, .int .i64 0, .int .i64 0] 57 (0, 0)) := (P1.out.block _ (by rw [size_alloc]; omega)).trans (heap_alloc_new wc _)
                have g0 : w1.cell? ⟨wc.heap.size, 0, none⟩ = some (.int .i64 n0) := box_cell gb 0
                have g1 : w1.cell? ⟨wc.heap.size, 1, none⟩ = some (.int .i64 1) := box_cell gb 1
                have g2 : w1.cell? ⟨wc.heap.size, 2, none⟩ = some (.int .i64 0) := box_cell gb 2
                have g3 : w1.cell? ⟨wc.heap.size, 3, none⟩ = some (.int .i64 n6) := box_cell gb 3
                have g4 : w1.cell? ⟨wc.heap.size, 4, none⟩ = some (.int .i64 0) := box_cell gb 4
                have g5 : w1.cell? ⟨wc.heap.size, 5, none⟩ = some (.int .i64 0) := box_cell gb 5
                have gf : w1.frozen? ⟨wc.heap.size, 4, none⟩ = false := by rw [World.frozen?, gb]; rfl
                have b4 : w1.cell? ⟨q + 1, 4, none⟩ = some (.int .i64 n8) := box_cell (HE.out.more O1.out).bx 4
                clear gb
                go_upto_region 16 with (go_at_call 37; refine (C1.out _).mono ?_; rintro e w2 ⟨rfl, ho⟩; have P2 := hidOf ho; clear ho)
                clear g0 g1 g2 g3 g4 g5 gf b4
                have O2 : Hid (Out wc w2) := hidOf ((Out.setCell O1.out (a := ⟨wc.heap.size, 4, none⟩) (Nat.le_refl _) _).trans P2.out)
                have E2 := HE.out.more O2.out
                obtain ⟨z0, z1, z2, z3, z4, z5⟩ := E2.zb.cells
                obtain ⟨f0, f1, f2, f3, f4, f5⟩ := E2.zb.frozen
                have b0 : w2.cell? ⟨q + 1, 0, none⟩ = some (.int .i64 n0) := box_cell E2.bx 0
                have b1 : w2.cell? ⟨q + 1, 1, none⟩ = some (.int .i64 1) := box_cell E2.bx 1
                have b2 : w2.cell? ⟨q + 1, 2, none⟩ = some (.int .i64 0) := box_cell E2.bx 2
                have b3 : w2.cell? ⟨q + 1, 3, none⟩ = some (.int .i64 n6) := box_cell E2.bx 3
                have b4 : w2.cell? ⟨q + 1, 4, none⟩ = some (.int .i64 n8) := box_cell E2.bx 4
                have b5 : w2.cell? ⟨q + 1, 5, none⟩ = some (.int .i64 n16) := box_cell E2.bx 5
                have HE2 := hidOf E2
                clear E2
                go_upto_region 17 with (go_at_call 37; refine (C2.out _).mono ?_; rintro e w3 ⟨rfl, ho⟩; have P3 := hidOf ho; clear ho)
                clear b0 b1 b2 b3 b4 b5 z0 z1 z2 z3 z4 z5 f0 f1 f2 f3 f4 f5
                have E3 := HE2.out.more P3.out
                obtain ⟨z0, z1, z2, z3, z4, z5⟩ := E3.zb.cells
                obtain ⟨f0, f1, f2, f3, f4, f5⟩ := E3.zb.frozen
                have b0 : w3.cell? ⟨q + 1, 0, none⟩ = some (.int .i64 n0) := box_cell E3.bx 0
                have b1 : w3.cell? ⟨q + 1, 1, none⟩ = some (.int .i64 1) := box_cell E3.bx 1
                have b2 : w3.cell? ⟨q + 1, 2, none⟩ = some (.int .i64 0) := box_cell E3.bx 2
                have b3 : w3.cell? ⟨q + 1, 3, none⟩ = some (.int .i64 n6) := box_cell E3.bx 3
                have b4 : w3.cell? ⟨q + 1, 4, none⟩ = some (.int .i64 n8) := box_cell E3.bx 4
                have b5 : w3.cell? ⟨q + 1, 5, none⟩ = some (.int .i64 n16) := box_cell E3.bx 5
                have HE3 := hidOf E3
                clear E3
                go_wp2
                refine bodyPost_ret (results_row_tmp1 rfl _ _ q 57 _ (0, 0) _ rfl (set6_heap ⟨n0, 1, 0, n6, n8, n16⟩ HE3.out.zb) Try.underlying57 rfl sizeSm) rfl ?_
                exact ⟨rfl, HE3.out.fin⟩
              · skip
                have hf0 : ffP 4 ⟨n0, 1, 0, n6, 0, 0⟩ = none := by
                  show (if n6 ≠ (0 : Int) then some 6 else if vaP 4 (0) = false then some 8 else if siP 4 (0) = false then some 16 else none) = _
                  rw [if_neg (fun h => h hse), if_neg (by decide), if_neg (by decide)]
                rw [if_pos hf0] at hs0
                have hf1 : ffP 4 ⟨n0, 1, 0, n6, n8, 0⟩ = none := by
                  show (if n6 ≠ (0 : Int) then some 6 else if vaP 4 (n8) = false then some 8 else if siP 4 (0) = false then some 16 else none) = _
                  rw [if_neg (fun h => h hse), if_neg (by rw [hva]; decide), if_neg (by decide)]
                rw [if_pos hf1] at hs1
                have hf2 : ffP 4 ⟨n0, 1, 0, n6, n8, n16⟩ = none := by
                  show (if n6 ≠ (0 : Int) then some 6 else if vaP 4 (n8) = false then some 8 else if siP 4 (n16) = false then some 16 else none) = _
                  rw [if_neg (fun h => h hse), if_neg (by rw [hva]; decide), if_neg (by rw [hsi]; decide)]
                rw [if_pos hf2] at hs2
                rw [hf2] at hR
                simp only at hR
                subst hR
                have C0 : Hid (∀ wx, Calls Try.prog 37 #[.agg #[.int .i64 n0, .int .i64 1, .int .i64 0, .int .i64 n6, .int .i64 0, .int .i64 0]] wx fun e w' => e = .returned (.int .i64 4) ∧ Out wx w') := fun wx => by
                  have := refSort_any n0 1 0 (n6) (0) (0) wx
                  rw [hs0] at this
                  exact this
                have C1 : Hid (∀ wx, Calls Try.prog 37 #[.agg #[.int .i64 n0, .int .i64 1, .int .i64 0, .int .i64 n6, .int .i64 n8, .int .i64 0]] wx fun e w' => e = .returned (.int .i64 4) ∧ Out wx w') := fun wx => by
                  have := refSort_any n0 1 0 (n6) (n8) (0) wx
                  rw [hs1] at this
                  exact this
                have C2 : Hid (∀ wx, Calls Try.prog 37 #[.agg #[.int .i64 n0, .int .i64 1, .int .i64 0, .int .i64 n6, .int .i64 n8, .int .i64 n16]] wx fun e w' => e = .returned (.int .i64 4) ∧ Out wx w') := fun wx => by
                  have := refSort_any n0 1 0 (n6) (n8) (n16) wx
                  rw [hs2] at this
                  exact this
                clear hs0 hs1 hs2 hf0 hf2 hf1
                obtain ⟨z0, z1, z2, z3, z4, z5⟩ := hE.zb.cells
                obtain ⟨f0, f1, f2, f3, f4, f5⟩ := hE.zb.frozen
                have b0 : wc.cell? ⟨q + 1, 0, none⟩ = some (.int .i64 n0) := box_cell hE.bx 0
                have b1 : wc.cell? ⟨q + 1, 1, none⟩ = some (.int .i64 1) := box_cell hE.bx 1
                have b2 : wc.cell? ⟨q + 1, 2, none⟩ = some (.int .i64 0) := box_cell hE.bx 2
                have b3 : wc.cell? ⟨q + 1, 3, none⟩ = some (.int .i64 n6) := box_cell hE.bx 3
                have b4 : wc.cell? ⟨q + 1, 4, none⟩ = some (.int .i64 n8) := box_cell hE.bx 4
                have b5 : wc.cell? ⟨q + 1, 5, none⟩ = some (.int .i64 n16) := box_cell hE.bx 5
                have b2a : ∀ O, (wc.alloc O).cell? ⟨q + 1, 2, none⟩ = some (.int .i64 0) := fun O => cell_later ((Out.refl wc).alloc O) b2
                clear hE hse hva hsi
                go_upto_region 13 with (go_at_call 37; refine (C0.out _).mono ?_; rintro e w1 ⟨rfl, ho⟩; have P1 := hidOf ho; clear ho)
                clear b0 b1 b2 b3 b4 b5 z0 z1 z2 z3 z4 z5 f0 f1 f2 f3 f4 f5 b2a
                have O1 : Hid (Out wc w1) := hidOf (((Out.refl wc).alloc (.cells #[.int .i64 n0, .int .i64 1, .int .i64 0, .int .i64 n6, .int .i64 0, .int .i64 0] 57)).trans P1.out)
                have gb : w1.heap[wc.heap.size]? = some (.cells #[.int .i64 n0, .int .i64 1, .int .i64 0, .int .i64 n6, .int .i64 0, .int .i64 0] 57 (0, 0)) := (P1.out.block _ (by rw [size_alloc]; omega)).trans (heap_alloc_new wc _)
                have g0 : w1.cell? ⟨wc.heap.size, 0, none⟩ = some (.int .i64 n0) := box_cell gb 0
                have g1 : w1.cell? ⟨wc.heap.size, 1, none⟩ = some (.int .i64 1) := box_cell gb 1
                have g2 : w1.cell? ⟨wc.heap.size, 2, none⟩ = some (.int .i64 0) := box_cell gb 2
                have g3 : w1.cell? ⟨wc.heap.size, 3, none⟩ = some (.int .i64 n6) := box_cell gb 3
                have g4 : w1.cell? ⟨wc.heap.size, 4, none⟩ = some (.int .i64 0) := box_cell gb 4
                have g5 : w1.cell? ⟨wc.heap.size, 5, none⟩ = some (.int .i64 0) := box_cell gb 5
                have gf : w1.frozen? ⟨wc.heap.size, 4, none⟩ = false := by rw [World.frozen?, gb]; rfl
                have b4 : w1.cell? ⟨q + 1, 4, none⟩ = some (.int .i64 n8) := box_cell (HE.out.more O1.out).bx 4
                clear gb
                go_upto_region 16 with (go_at_call 37; refine (C1.out _).mono ?_; rintro e w2 ⟨rfl, ho⟩; have P2 := hidOf ho; clear ho)
                clear g0 g1 g2 g3 g4 g5 gf b4
                have O2 : Hid (Out wc w2) := hidOf ((Out.setCell O1.out (a := ⟨wc.heap.size, 4, none⟩) (Nat.le_refl _) _).trans P2.out)
                have E2 := HE.out.more O2.out
                obtain ⟨z0, z1, z2, z3, z4, z5⟩ := E2.zb.cells
                obtain ⟨f0, f1, f2, f3, f4, f5⟩ := E2.zb.frozen
                have b0 : w2.cell? ⟨q + 1, 0, none⟩ = some (.int .i64 n0) := box_cell E2.bx 0
                have b1 : w2.cell? ⟨q + 1, 1, none⟩ = some (.int .i64 1) := box_cell E2.bx 1
                have b2 : w2.cell? ⟨q + 1, 2, none⟩ = some (.int .i64 0) := box_cell E2.bx 2
                have b3 : w2.cell? ⟨q + 1, 3, none⟩ = some (.int .i64 n6) := box_cell E2.bx 3
                have b4 : w2.cell? ⟨q + 1, 4, none⟩ = some (.int .i64 n8) := box_cell E2.bx 4
                have b5 : w2.cell? ⟨q + 1, 5, none⟩ = some (.int .i64 n16) := box_cell E2.bx 5
                have HE2 := hidOf E2
                clear E2
                go_upto_region 18 with (go_at_call 37; refine (C2.out _).mono ?_; rintro e w3 ⟨rfl, ho⟩; have P3 := hidOf ho; clear ho)
                clear b0 b1 b2 b3 b4 b5 z0 z1 z2 z3 z4 z5 f0 f1 f2 f3 f4 f5
                have E3 := HE2.out.more P3.out
                obtain ⟨z0, z1, z2, z3, z4, z5⟩ := E3.zb.cells
                obtain ⟨f0, f1, f2, f3, f4, f5⟩ := E3.zb.frozen
                have b0 : w3.cell? ⟨q + 1, 0, none⟩ = some (.int .i64 n0) := box_cell E3.bx 0
                have b1 : w3.cell? ⟨q + 1, 1, none⟩ = some (.int .i64 1) := box_cell E3.bx 1
                have b2 : w3.cell? ⟨q + 1, 2, none⟩ = some (.int .i64 0) := box_cell E3.bx 2
                have b3 : w3.cell? ⟨q + 1, 3, none⟩ = some (.int .i64 n6) := box_cell E3.bx 3
                have b4 : w3.cell? ⟨q + 1, 4, none⟩ = some (.int .i64 n8) := box_cell E3.bx 4
                have b5 : w3.cell? ⟨q + 1, 5, none⟩ = some (.int .i64 n16) := box_cell E3.bx 5
                have HE3 := hidOf E3
                clear E3
                go_wp2
                refine bodyPost_ret (results_row_tmp1 rfl _ _ q 57 _ (0, 0) _ rfl (set6_heap ⟨n0, 1, 0, n6, n8, n16⟩ HE3.out.zb) Try.underlying57 rfl sizeSm) rfl ?_
                exact ⟨rfl, HE3.out.fin⟩
          · skip
            have hf0 : ffP 4 ⟨n0, 1, 0, n6, 0, 0⟩ = some 6 := by
              show (if n6 ≠ (0 : Int) then some 6 else if vaP 4 (0) = false then some 8 else if siP 4 (0) = false then some 16 else none) = _
              rw [if_pos hse]
            rw [if_neg (by rw [hf0]; decide)] at hs0
            have hf2 : ffP 4 ⟨n0, 1, 0, n6, n8, n16⟩ = some 6 := by
              show (if n6 ≠ (0 : Int) then some 6 else if vaP 4 (n8) = false then some 8 else if siP 4 (n16) = false then some 16 else none) = _
              rw [if_pos hse]
            rw [hf2] at hR
            simp only at hR
            subst hR
            have C0 : Hid (∀ wx, Calls Try.prog 37 #[.agg #[.int .i64 n0, .int .i64 1, .int .i64 0, .int .i64 n6, .int .i64 0, .int .i64 0]] wx fun e w' => e = .returned (.int .i64 0) ∧ Out wx w') := fun wx => by
              have := refSort_any n0 1 0 (n6) (0) (0) wx
              rw [hs0] at this
              exact this
            clear hs0 hs1 hs2 hf0 hf2
            obtain ⟨z0, z1, z2, z3, z4, z5⟩ := hE.zb.cells
            obtain ⟨f0, f1, f2, f3, f4, f5⟩ := hE.zb.frozen
            have b0 : wc.cell? ⟨q + 1, 0, none⟩ = some (.int .i64 n0) := box_cell hE.bx 0
            have b1 : wc.cell? ⟨q + 1, 1, none⟩ = some (.int .i64 1) := box_cell hE.bx 1
            have b2 : wc.cell? ⟨q + 1, 2, none⟩ = some (.int .i64 0) := box_cell hE.bx 2
            have b3 : wc.cell? ⟨q + 1, 3, none⟩ = some (.int .i64 n6) := box_cell hE.bx 3
            have b4 : wc.cell? ⟨q + 1, 4, none⟩ = some (.int .i64 n8) := box_cell hE.bx 4
            have b5 : wc.cell? ⟨q + 1, 5, none⟩ = some (.int .i64 n16) := box_cell hE.bx 5
            have b2a : ∀ O, (wc.alloc O).cell? ⟨q + 1, 2, none⟩ = some (.int .i64 0) := fun O => cell_later ((Out.refl wc).alloc O) b2
            clear hE hse
            go_upto_region 12 with (go_at_call 37; refine (C0.out _).mono ?_; rintro e w1 ⟨rfl, ho⟩; have P1 := hidOf ho; clear ho)
            clear b0 b1 b2 b3 b4 b5 z0 z1 z2 z3 z4 z5 f0 f1 f2 f3 f4 f5 b2a
            have O1 : Hid (Out wc w1) := hidOf (((Out.refl wc).alloc (.cells #[.int .i64 n0, .int .i64 1, .int .i64 0, .int .i64 n6, .int .i64 0, .int .i64 0] 57)).trans P1.out)
            have E1 := HE.out.more O1.out
            obtain ⟨z0, z1, z2, z3, z4, z5⟩ := E1.zb.cells
            obtain ⟨f0, f1, f2, f3, f4, f5⟩ := E1.zb.frozen
            have b0 : w1.cell? ⟨q + 1, 0, none⟩ = some (.int .i64 n0) := box_cell E1.bx 0
            have b1 : w1.cell? ⟨q + 1, 1, none⟩ = some (.int .i64 1) := box_cell E1.bx 1
            have b2 : w1.cell? ⟨q + 1, 2, none⟩ = some (.int .i64 0) := box_cell E1.bx 2
            have b3 : w1.cell? ⟨q + 1, 3, none⟩ = some (.int .i64 n6) := box_cell E1.bx 3
            have b4 : w1.cell? ⟨q + 1, 4, none⟩ = some (.int .i64 n8) := box_cell E1.bx 4
            have b5 : w1.cell? ⟨q + 1, 5, none⟩ = some (.int .i64 n16) := box_cell E1.bx 5
            have HE1 := hidOf E1
            clear E1
            go_wp2
            refine bodyPost_ret (results_row_tmp1 rfl _ _ q 57 _ (0, 0) _ rfl (set6_heap ⟨n0, 1, 0, n6, n8, n16⟩ HE1.out.zb) Try.underlying57 rfl sizeSm) rfl ?_
            exact ⟨rfl, HE1.out.fin⟩
        · rw [if_pos (fun h => h5 (hx5.out.1 h))] at hR
          subst hR
          have d5 : (n5 != 0) = true := by simp [h5]
          obtain ⟨z0, z1, z2, z3, z4, z5⟩ := hE.zb.cells
          obtain ⟨f0, f1, f2, f3, f4, f5⟩ := hE.zb.frozen
          have b0 : wc.cell? ⟨q + 1, 0, none⟩ = some (.int .i64 n0) := box_cell hE.bx 0
          have b1 : wc.cell? ⟨q + 1, 1, none⟩ = some (.int .i64 1) := box_cell hE.bx 1
          have b2 : wc.cell? ⟨q + 1, 2, none⟩ = some (.int .i64 0) := box_cell hE.bx 2
          have b3 : wc.cell? ⟨q + 1, 3, none⟩ = some (.int .i64 n6) := box_cell hE.bx 3
          have b4 : wc.cell? ⟨q + 1, 4, none⟩ = some (.int .i64 n8) := box_cell hE.bx 4
          have b5 : wc.cell? ⟨q + 1, 5, none⟩ = some (.int .i64 n16) := box_cell hE.bx 5
          clear hE h5
          go_wp2
          refine bodyPost_ret (results_row_tmp1 rfl _ _ q 57 _ (0, 0) _ rfl (set6_heap ⟨n0, 1, 0, n6, n8, n16⟩ HE.out.zb) Try.underlying57 rfl sizeSm) rfl ?_
          exact ⟨rfl, HE.out.fin⟩
end Go.Proofs.Ytbdmbicnlfcclaa
