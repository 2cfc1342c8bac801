import Derived.Test.YtfmcoffmgdcciaaDoorIke
namespace Go.Proofs.YtfmcoffmgdcciaaDoor
open Go.RowKit
set_option linter.unusedVariables false
set_option linter.unusedSimpArgs false
def miI : Ins := ⟨-8, 0, 0, 0, 0⟩
def miF : Fn := ⟨[109, 105, 110, 101], 0, 0, 0⟩
def miD : Td := ⟨[109, 105, 110, 101], 0, 0, 0, 0⟩
/-- a Lent's rows, the image's box -/
structure LbS (w w1 : World) (b gt gf gd q : Nat) (LT : List Ins) (LF : List Fn) (LD : List Td) (X : Array Value) : Prop where
  ln : LnR w1 b gt gf gd LT LF LD
  bx : w1.heap[q]? = some (.cells X 26 (0, 0))
  ch : Chg (LnS b gt gf gd) w w1
  qn : ¬ LnS b gt gf gd q
theorem LbS.dr {w w1 : World} {b gt gf gd q : Nat} {LT : List Ins} {LF : List Fn} {LD : List Td} {X : Array Value} (h : LbS w w1 b gt gf gd q LT LF LD X) (n : Nat) : LbS w (w1.drewN n) b gt gf gd q LT LF LD X :=
  ⟨h.ln.out (Out.drewN (Out.refl _) n), h.bx, h.ch.of_drewN n, h.qn⟩
theorem beh_at {α : Type} (f : Nat → α) (L : List α) (n N j : Nat) (hL : L.length = n) (h1 : n ≤ j) (h2 : j < N) : (L ++ beh f n (N - n))[j]? = some (f j) := by
  rw [List.getElem?_append_right (by omega), hL]
  simp only [beh, List.getElem?_map, List.getElem?_range' (show j - n < N - n by omega), Option.map_some, Nat.one_mul]
  congr 2; omega
theorem LbS.t' {w w1 w' : World} {b gt gf gd q : Nat} {LT : List Ins} {LF : List Fn} {LD : List Td} {X : Array Value} {L' : List Ins} (h : LbS w w1 b gt gf gd q LT LF LD X) (c : Chg (fun k => k = gt) w1 w') (r : RowI w' gt L' []) (hl : L'.length = LT.length) : LbS w w' b gt gf gd q L' LF LD X :=
  have hs : LnS b gt gf gd gt := .inr (.inl rfl)
  ⟨h.ln.t' c r hl, (c.block q (Array.getElem?_eq_some_iff.1 h.bx).1 (fun e => h.qn (e ▸ hs))).trans h.bx, h.ch.trans c (fun x hx _ => hx ▸ hs), h.qn⟩
theorem LbS.f' {w w1 w' : World} {b gt gf gd q : Nat} {LT : List Ins} {LF : List Fn} {LD : List Td} {X : Array Value} {L' : List Fn} (h : LbS w w1 b gt gf gd q LT LF LD X) (c : Chg (fun k => k = gf) w1 w') (r : RowF w' gf L' []) (hl : L'.length = LF.length) : LbS w w' b gt gf gd q LT L' LD X :=
  have hs : LnS b gt gf gd gf := .inr (.inr (.inl rfl))
  ⟨h.ln.f' c r hl, (c.block q (Array.getElem?_eq_some_iff.1 h.bx).1 (fun e => h.qn (e ▸ hs))).trans h.bx, h.ch.trans c (fun x hx _ => hx ▸ hs), h.qn⟩
theorem LbS.d' {w w1 w' : World} {b gt gf gd q : Nat} {LT : List Ins} {LF : List Fn} {LD : List Td} {X : Array Value} {L' : List Td} (h : LbS w w1 b gt gf gd q LT LF LD X) (c : Chg (fun k => k = gd) w1 w') (r : RowD w' gd L' []) (hl : L'.length = LD.length) : LbS w w' b gt gf gd q LT LF L' X :=
  have hs : LnS b gt gf gd gd := .inr (.inr (.inr rfl))
  ⟨h.ln.d' c r hl, (c.block q (Array.getElem?_eq_some_iff.1 h.bx).1 (fun e => h.qn (e ▸ hs))).trans h.bx, h.ch.trans c (fun x hx _ => hx ▸ hs), h.qn⟩
set_option maxRecDepth 20000 in
set_option maxHeartbeats 4000000 in
theorem back_any (w : World) (b gt gf gd : Nat) (m : Img) (ta fa da : Option Addr) (tc fc dc : Nat) (hb : LnR w b gt gf gd (m.T ++ beh beI m.T.length (3 * m.T.length + 140)) (m.F ++ beh beF m.F.length (3 * m.F.length + 140)) (m.D ++ beh beD m.D.length (3 * m.D.length + 140))) (hM : ∀ wx, Chg (LnS b gt gf gd) w wx → ImS wx ta fa da m) (hT : m.T.length ≤ 1048576) (hF : m.F.length ≤ 1048576) (hD : m.D.length ≤ 1048576) :
    Calls Tryd.prog 12 #[.pointer (some ⟨b, 0, none⟩), .agg #[.slice ta m.T.length tc, .slice fa m.F.length fc, .slice da m.D.length dc, .int .i64 m.en]] w fun e w' => e = .returned (.bool true) ∧ (∃ LT LF LD, LnR w' b gt gf gd LT LF LD ∧ LT.length = 4 * m.T.length + 140 ∧ LF.length = 4 * m.F.length + 140 ∧ LD.length = 4 * m.D.length + 140) ∧ Chg (LnS b gt gf gd) w w' := by
  obtain ⟨T, F, D, en⟩ := m
  simp only at *
  obtain ⟨nt, hnt⟩ : ∃ n, Hid (n = T.length) := ⟨_, rfl⟩
  obtain ⟨nf, hnf⟩ : ∃ n, Hid (n = F.length) := ⟨_, rfl⟩
  obtain ⟨nd, hnd⟩ : ∃ n, Hid (n = D.length) := ⟨_, rfl⟩
  rw [← hnt.out, ← hnf.out, ← hnd.out] at hb ⊢
  rw [← hnt.out] at hT
  rw [← hnf.out] at hF
  rw [← hnd.out] at hD
  obtain ⟨NT, hNT⟩ : ∃ n, Hid (n = 4 * nt + 140) := ⟨_, rfl⟩
  obtain ⟨NF, hNF⟩ : ∃ n, Hid (n = 4 * nf + 140) := ⟨_, rfl⟩
  obtain ⟨ND, hND⟩ : ∃ n, Hid (n = 4 * nd + 140) := ⟨_, rfl⟩
  rw [← hNT.out, ← hNF.out, ← hND.out]
  rw [show 3 * nt + 140 = NT - nt by rw [hNT.out]; omega, show 3 * nf + 140 = NF - nf by rw [hNF.out]; omega, show 3 * nd + 140 = ND - nd by rw [hND.out]; omega] at hb
  have kT : nt ≤ NT := by rw [hNT.out]; omega
  have kF : nf ≤ NF := by rw [hNF.out]; omega
  have kD : nd ≤ ND := by rw [hND.out]; omega
  have kT' : (nt : Int) ≤ NT := by omega
  have kF' : (nf : Int) ≤ NF := by omega
  have kD' : (nd : Int) ≤ ND := by omega
  have mT : NT ≤ 5000000 := by rw [hNT.out]; omega
  have mF : NF ≤ 5000000 := by rw [hNF.out]; omega
  have mD : ND ≤ 5000000 := by rw [hND.out]; omega
  have HM := hidOf hM
  clear hM
  obtain ⟨q, hq⟩ : ∃ q, Hid (q = w.heap.size) := ⟨_, rfl⟩
  obtain ⟨X, hX⟩ : ∃ X : Array Value, Hid (X = #[.slice ta nt tc, .slice fa nf fc, .slice da nd dc, .int .i64 en]) := ⟨_, rfl⟩
  obtain ⟨wA, hwA⟩ : ∃ wA, Hid (wA = w.alloc (.cells #[.slice ta nt tc, .slice fa nf fc, .slice da nd dc, .int .i64 en] 26)) := ⟨_, rfl⟩
  have OA : Hid (Out w wA) := hidOf (by rw [hwA.out]; exact Out.alloc (Out.refl _) _)
  have qS : ∀ k, LnS b gt gf gd k → k < q := fun k hk => by
    rw [hq.out]
    rcases hk with rfl | rfl | rfl | rfl
    · exact (Array.getElem?_eq_some_iff.1 hb.box).1
    · exact hb.t.lt
    · exact hb.f.lt
    · exact hb.d.lt
  obtain ⟨LT, hLT⟩ : ∃ L, Hid (L = T ++ beh beI nt (NT - nt)) := ⟨_, rfl⟩
  have lT : LT.length = NT := by rw [hLT.out, List.length_append, beh_len, ← hnt.out]; omega
  rw [← hLT.out] at hb
  obtain ⟨LF, hLF⟩ : ∃ L, Hid (L = F ++ beh beF nf (NF - nf)) := ⟨_, rfl⟩
  have lF : LF.length = NF := by rw [hLF.out, List.length_append, beh_len, ← hnf.out]; omega
  rw [← hLF.out] at hb
  obtain ⟨LD, hLD⟩ : ∃ L, Hid (L = D ++ beh beD nd (ND - nd)) := ⟨_, rfl⟩
  have lD : LD.length = ND := by rw [hLD.out, List.length_append, beh_len, ← hnd.out]; omega
  rw [← hLD.out] at hb
  have SA : Hid (LbS w wA b gt gf gd q LT LF LD X) := hidOf ⟨hb.out OA.out, by rw [hwA.out, hq.out, hX.out]; exact heap_alloc_new w _, Chg.of_out OA.out, fun h => by have := qS q h; omega⟩
  clear hb
  have C0 : Hid (∀ k, Calls Tryd.prog 25 #[.slice (some ⟨gt, 0, none⟩) nt NT, .slice ta nt tc] (wA.drewN k) fun e w' => e = .returned (.bool true) ∧ ∃ m, w' = (wA.drewN k).drewN m) := hidOf (fun k => sameI17 (wA.drewN k) _ _ _ _ _ T hnt.out.symm (by have := (SA.out.dr k).ln.t; rw [hLT.out] at this; exact this.a) (HM.out _ (SA.out.dr k).ch).t (by omega))
  have a0 : wA.cell? ⟨b, 0, none⟩ = some (.slice (some ⟨gt, 0, none⟩) NT NT) := by
    have hh := cell_atL SA.out.ln.box 0
    rw [lT] at hh
    exact hh
  have q0 : wA.cell? ⟨q, 0, none⟩ = some (.slice ta nt tc) := by rw [cell_atL SA.out.bx, hX.out]; rfl
  have C1 : Hid (∀ k, Calls Tryd.prog 26 #[.slice (some ⟨gf, 0, none⟩) nf NF, .slice fa nf fc] (wA.drewN k) fun e w' => e = .returned (.bool true) ∧ ∃ m, w' = (wA.drewN k).drewN m) := hidOf (fun k => sameF17 (wA.drewN k) _ _ _ _ _ F hnf.out.symm (by have := (SA.out.dr k).ln.f; rw [hLF.out] at this; exact this.a) (HM.out _ (SA.out.dr k).ch).f (by omega))
  have a1 : wA.cell? ⟨b, 1, none⟩ = some (.slice (some ⟨gf, 0, none⟩) NF NF) := by
    have hh := cell_atL SA.out.ln.box 1
    rw [lF] at hh
    exact hh
  have q1 : wA.cell? ⟨q, 1, none⟩ = some (.slice fa nf fc) := by rw [cell_atL SA.out.bx, hX.out]; rfl
  have C2 : Hid (∀ k, Calls Tryd.prog 27 #[.slice (some ⟨gd, 0, none⟩) nd ND, .slice da nd dc] (wA.drewN k) fun e w' => e = .returned (.bool true) ∧ ∃ m, w' = (wA.drewN k).drewN m) := hidOf (fun k => sameD17 (wA.drewN k) _ _ _ _ _ D hnd.out.symm (by have := (SA.out.dr k).ln.d; rw [hLD.out] at this; exact this.a) (HM.out _ (SA.out.dr k).ch).d (by omega))
  have a2 : wA.cell? ⟨b, 2, none⟩ = some (.slice (some ⟨gd, 0, none⟩) ND ND) := by
    have hh := cell_atL SA.out.ln.box 2
    rw [lD] at hh
    exact hh
  have q2 : wA.cell? ⟨q, 2, none⟩ = some (.slice da nd dc) := by rw [cell_atL SA.out.bx, hX.out]; rfl
  go_enter Tryd.func12, Tryd.ntmps12
  go_upto_region 1 with fail
  rw [← hwA.out, ← hq.out]
  go_quiet (first | (go_at_call 25; exact Calls.quiet_of (C0.out _)) | (go_at_call 26; exact Calls.quiet_of (C1.out _)) | (go_at_call 27; exact Calls.quiet_of (C2.out _)))
  obtain ⟨wB, hwB⟩ : ∃ wx, Hid (wx = wA.drewN nq) := ⟨_, rfl⟩
  rw [← hwB.out]
  replace SA : Hid (LbS w wB b gt gf gd q LT LF LD X) := hidOf (by rw [hwB.out]; exact SA.out.dr nq)
  clear C0 C1 C2 a0 a1 a2 q0 q1 q2
  have a0 : wB.cell? ⟨b, 0, none⟩ = some (.slice (some ⟨gt, 0, none⟩) NT NT) := by
    have hh := cell_atL SA.out.ln.box 0
    rw [lT] at hh
    exact hh
  have q0 : wB.cell? ⟨q, 0, none⟩ = some (.slice ta nt tc) := by rw [cell_atL SA.out.bx, hX.out]; rfl
  have a1 : wB.cell? ⟨b, 1, none⟩ = some (.slice (some ⟨gf, 0, none⟩) NF NF) := by
    have hh := cell_atL SA.out.ln.box 1
    rw [lF] at hh
    exact hh
  have q1 : wB.cell? ⟨q, 1, none⟩ = some (.slice fa nf fc) := by rw [cell_atL SA.out.bx, hX.out]; rfl
  have a2 : wB.cell? ⟨b, 2, none⟩ = some (.slice (some ⟨gd, 0, none⟩) ND ND) := by
    have hh := cell_atL SA.out.ln.box 2
    rw [lD] at hh
    exact hh
  have q2 : wB.cell? ⟨q, 2, none⟩ = some (.slice da nd dc) := by rw [cell_atL SA.out.bx, hX.out]; rfl
  go_wp2
  go_loopw [5, 6] (fun o v wr => ∃ j : Nat, nt ≤ j ∧ j ≤ NT ∧ o = .bool true ∧ v = .int .i64 j ∧ wr = wB) (fun _ v _ => NT - (intOf v).toNat)
  case atStart => exact ⟨nt, Nat.le_refl _, by omega, rfl, rfl, rfl⟩
  case round =>
    obtain ⟨j, hj0, hj, rfl, rfl, hw⟩ := hrel
    have hw := hw.symm
    subst hw
    by_cases hjn : j < NT
    · have hlt : (j : Int) < NT := by omega
      obtain ⟨e0, e1, e2, e3, e4⟩ := SA.out.ln.t.cells (i := j) (x := beI j) (by rw [hLT.out]; exact beh_at beI T nt NT j hnt.out.symm hj0 hjn)
      simp only [beI] at e0 e1 e2 e3 e4
      go_wp2
      go_roundw
      case rel => exact ⟨j + 1, by omega, by omega, by simp, by simp, by first | rfl | trivial⟩
      case measure => simp [intOf]; omega
    · have hlt : ¬ (j : Int) < NT := by omega
      go_wp2
      go_loopw [5, 7] (fun o v wr => ∃ j : Nat, nf ≤ j ∧ j ≤ NF ∧ o = .bool true ∧ v = .int .i64 j ∧ wr = wB) (fun _ v _ => NF - (intOf v).toNat)
      case atStart => exact ⟨nf, Nat.le_refl _, by omega, rfl, rfl, rfl⟩
      case round =>
        obtain ⟨j, hj0, hj, rfl, rfl, hw⟩ := hrel
        have hw := hw.symm
        subst hw
        by_cases hjn : j < NF
        · have hlt : (j : Int) < NF := by omega
          obtain ⟨e0, e1, e2, e3⟩ := SA.out.ln.f.cells (i := j) (x := beF j) (by rw [hLF.out]; exact beh_at beF F nf NF j hnf.out.symm hj0 hjn)
          simp only [beF] at e0 e1 e2 e3
          go_wp2
          go_roundw
          case rel => exact ⟨j + 1, by omega, by omega, by simp, by simp, by first | rfl | trivial⟩
          case measure => simp [intOf]; omega
        · have hlt : ¬ (j : Int) < NF := by omega
          go_wp2
          go_loopw [5, 8] (fun o v wr => ∃ j : Nat, nd ≤ j ∧ j ≤ ND ∧ o = .bool true ∧ v = .int .i64 j ∧ wr = wB) (fun _ v _ => ND - (intOf v).toNat)
          case atStart => exact ⟨nd, Nat.le_refl _, by omega, rfl, rfl, rfl⟩
          case round =>
            obtain ⟨j, hj0, hj, rfl, rfl, hw⟩ := hrel
            have hw := hw.symm
            subst hw
            by_cases hjn : j < ND
            · have hlt : (j : Int) < ND := by omega
              obtain ⟨e0, e1, e2, e3, e4⟩ := SA.out.ln.d.cells (i := j) (x := beD j) (by rw [hLD.out]; exact beh_at beD D nd ND j hnd.out.symm hj0 hjn)
              simp only [beD] at e0 e1 e2 e3 e4
              go_wp2
              go_roundw
              case rel => exact ⟨j + 1, by omega, by omega, by simp, by simp, by first | rfl | trivial⟩
              case measure => simp [intOf]; omega
            · have hlt : ¬ (j : Int) < ND := by omega
              clear a0 a1
              go_wp2
              clear a2
              go_loopw [9] (fun v wr => ∃ j : Nat, j ≤ nt ∧ v = .int .i64 j ∧ Hid (LbS w wr b gt gf gd q (beh (fun _ => miI) 0 j ++ LT.drop j) LF LD X)) (fun v _ => nt - (intOf v).toNat)
              case atStart => exact ⟨0, by omega, rfl, hidOf (by simpa [beh] using SA.out)⟩
              case round =>
                obtain ⟨j, hj, rfl, HJ⟩ := hrel
                have hlen : (beh (fun _ => miI) 0 j ++ LT.drop j).length = NT := by rw [List.length_append, beh_len, List.length_drop, lT]; omega
                have z0 : wr.cell? ⟨b, 0, none⟩ = some (.slice (some ⟨gt, 0, none⟩) NT NT) := by
                  have hh := cell_atL HJ.out.ln.box 0
                  rw [hlen] at hh
                  exact hh
                have zq : wr.cell? ⟨q, 0, none⟩ = some (.slice ta nt tc) := by rw [cell_atL HJ.out.bx, hX.out]; rfl
                by_cases hjn : j < nt
                · have hlt : (j : Int) < nt := by omega
                  have hltN : (j : Int) < NT := by omega
                  obtain ⟨x, hx⟩ := beh_get (fun _ => miI) LT j (by omega)
                  obtain ⟨e0, e1, e2, e3, e4⟩ := HJ.out.ln.t.cells hx
                  have g0 := HJ.out.ln.t.frozen (j * 5)
                  have g1 := HJ.out.ln.t.frozen (j * 5 + 1)
                  have g2 := HJ.out.ln.t.frozen (j * 5 + 2)
                  have g3 := HJ.out.ln.t.frozen (j * 5 + 3)
                  have g4 := HJ.out.ln.t.frozen (j * 5 + 4)
                  clear hx
                  go_wp2
                  go_roundw
                  case rel =>
                    refine ⟨j + 1, by omega, by simp, hidOf ?_⟩
                    refine HJ.out.t' (Chg.put5 (S := fun k => k = gt) (Chg.refl _ _) rfl _ _ _ _ _ _ _ _ _ _) ?_ (by rw [hlen, List.length_append, beh_len, List.length_drop, lT]; omega)
                    have := HJ.out.ln.t.set (i := j) (by rw [hlen]; omega) miI
                    rw [beh_set (fun _ => miI) LT j (by omega)] at this
                    exact this
                  case measure => simp [intOf]; omega
                · have hlt : ¬ (j : Int) < nt := by omega
                  have S0 : Hid (LbS w wr b gt gf gd q (beh (fun _ => miI) 0 nt ++ LT.drop nt) LF LD X) := hidOf (by
                    have := HJ.out
                    rw [show j = nt by omega] at this
                    exact this)
                  obtain ⟨wb0, hwb0⟩ : ∃ wb, wb = wr := ⟨_, rfl⟩
                  subst hwb0
                  clear HJ hlen
                  go_wp2
                  clear z0 zq
                  go_loopw [10] (fun v wr => ∃ j : Nat, j ≤ nf ∧ v = .int .i64 j ∧ Hid (LbS w wr b gt gf gd q (beh (fun _ => miI) 0 nt ++ LT.drop nt) (beh (fun _ => miF) 0 j ++ LF.drop j) LD X)) (fun v _ => nf - (intOf v).toNat)
                  case atStart => exact ⟨0, by omega, rfl, hidOf (by simpa [beh] using S0.out)⟩
                  case round =>
                    obtain ⟨j, hj, rfl, HJ⟩ := hrel
                    have hlen : (beh (fun _ => miF) 0 j ++ LF.drop j).length = NF := by rw [List.length_append, beh_len, List.length_drop, lF]; omega
                    have z0 : wr.cell? ⟨b, 1, none⟩ = some (.slice (some ⟨gf, 0, none⟩) NF NF) := by
                      have hh := cell_atL HJ.out.ln.box 1
                      rw [hlen] at hh
                      exact hh
                    have zq : wr.cell? ⟨q, 1, none⟩ = some (.slice fa nf fc) := by rw [cell_atL HJ.out.bx, hX.out]; rfl
                    by_cases hjn : j < nf
                    · have hlt : (j : Int) < nf := by omega
                      have hltN : (j : Int) < NF := by omega
                      obtain ⟨x, hx⟩ := beh_get (fun _ => miF) LF j (by omega)
                      obtain ⟨e0, e1, e2, e3⟩ := HJ.out.ln.f.cells hx
                      have g0 := HJ.out.ln.f.frozen (j * 4)
                      have g1 := HJ.out.ln.f.frozen (j * 4 + 1)
                      have g2 := HJ.out.ln.f.frozen (j * 4 + 2)
                      have g3 := HJ.out.ln.f.frozen (j * 4 + 3)
                      clear hx
                      go_wp2
                      go_roundw
                      case rel =>
                        refine ⟨j + 1, by omega, by simp, hidOf ?_⟩
                        refine HJ.out.f' (Chg.put4 (S := fun k => k = gf) (Chg.refl _ _) rfl _ _ _ _ _ _ _ _) ?_ (by rw [hlen, List.length_append, beh_len, List.length_drop, lF]; omega)
                        have := HJ.out.ln.f.set (i := j) (by rw [hlen]; omega) miF
                        rw [beh_set (fun _ => miF) LF j (by omega)] at this
                        exact this
                      case measure => simp [intOf]; omega
                    · have hlt : ¬ (j : Int) < nf := by omega
                      have S1 : Hid (LbS w wr b gt gf gd q (beh (fun _ => miI) 0 nt ++ LT.drop nt) (beh (fun _ => miF) 0 nf ++ LF.drop nf) LD X) := hidOf (by
                        have := HJ.out
                        rw [show j = nf by omega] at this
                        exact this)
                      obtain ⟨wb1, hwb1⟩ : ∃ wb, wb = wr := ⟨_, rfl⟩
                      subst hwb1
                      clear HJ hlen
                      go_wp2
                      clear z0 zq
                      go_loopw [11] (fun v wr => ∃ j : Nat, j ≤ nd ∧ v = .int .i64 j ∧ Hid (LbS w wr b gt gf gd q (beh (fun _ => miI) 0 nt ++ LT.drop nt) (beh (fun _ => miF) 0 nf ++ LF.drop nf) (beh (fun _ => miD) 0 j ++ LD.drop j) X)) (fun v _ => nd - (intOf v).toNat)
                      case atStart => exact ⟨0, by omega, rfl, hidOf (by simpa [beh] using S1.out)⟩
                      case round =>
                        obtain ⟨j, hj, rfl, HJ⟩ := hrel
                        have hlen : (beh (fun _ => miD) 0 j ++ LD.drop j).length = ND := by rw [List.length_append, beh_len, List.length_drop, lD]; omega
                        have z0 : wr.cell? ⟨b, 2, none⟩ = some (.slice (some ⟨gd, 0, none⟩) ND ND) := by
                          have hh := cell_atL HJ.out.ln.box 2
                          rw [hlen] at hh
                          exact hh
                        have zq : wr.cell? ⟨q, 2, none⟩ = some (.slice da nd dc) := by rw [cell_atL HJ.out.bx, hX.out]; rfl
                        by_cases hjn : j < nd
                        · have hlt : (j : Int) < nd := by omega
                          have hltN : (j : Int) < ND := by omega
                          obtain ⟨x, hx⟩ := beh_get (fun _ => miD) LD j (by omega)
                          obtain ⟨e0, e1, e2, e3, e4⟩ := HJ.out.ln.d.cells hx
                          have g0 := HJ.out.ln.d.frozen (j * 5)
                          have g1 := HJ.out.ln.d.frozen (j * 5 + 1)
                          have g2 := HJ.out.ln.d.frozen (j * 5 + 2)
                          have g3 := HJ.out.ln.d.frozen (j * 5 + 3)
                          have g4 := HJ.out.ln.d.frozen (j * 5 + 4)
                          clear hx
                          go_wp2
                          go_roundw
                          case rel =>
                            refine ⟨j + 1, by omega, by simp, hidOf ?_⟩
                            refine HJ.out.d' (Chg.put5 (S := fun k => k = gd) (Chg.refl _ _) rfl _ _ _ _ _ _ _ _ _ _) ?_ (by rw [hlen, List.length_append, beh_len, List.length_drop, lD]; omega)
                            have := HJ.out.ln.d.set (i := j) (by rw [hlen]; omega) miD
                            rw [beh_set (fun _ => miD) LD j (by omega)] at this
                            exact this
                          case measure => simp [intOf]; omega
                        · have hlt : ¬ (j : Int) < nd := by omega
                          have S2 : Hid (LbS w wr b gt gf gd q (beh (fun _ => miI) 0 nt ++ LT.drop nt) (beh (fun _ => miF) 0 nf ++ LF.drop nf) (beh (fun _ => miD) 0 nd ++ LD.drop nd) X) := hidOf (by
                            have := HJ.out
                            rw [show j = nd by omega] at this
                            exact this)
                          go_wp2
                          go_ret
                          refine ⟨rfl, ⟨_, _, _, S2.out.ln, ?_, ?_, ?_⟩, S2.out.ch⟩
                          · rw [List.length_append, beh_len, List.length_drop, lT]; omega
                          · rw [List.length_append, beh_len, List.length_drop, lF]; omega
                          · rw [List.length_append, beh_len, List.length_drop, lD]; omega
end Go.Proofs.YtfmcoffmgdcciaaDoor
