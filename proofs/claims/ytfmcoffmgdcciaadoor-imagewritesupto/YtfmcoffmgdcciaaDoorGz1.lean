import Derived.Test.YtfmcoffmgdcciaaDoorIke
import Derived.Test.YtfmcoffmgdcciaaDoorImo
namespace Go.Proofs.YtfmcoffmgdcciaaDoor
open Go.RowKit
set_option linter.unusedVariables false
set_option linter.unusedSimpArgs false
def miI : Ins := ⟨-8, 0, 0, 0, 0⟩
def miF : Fn := ⟨[109, 105, 110, 101], 0, 0, 0⟩
def miD : Td := ⟨[109, 105, 110, 101], 0, 0, 0, 0⟩
/-- a Lent's rows, the image's box -/
structure LbS (w w1 : World) (b gt gf gd q : Nat) (LT : List Ins) (LF : List Fn) (LD : List Td) (X : Array Value) : Prop where
  ln : LnR w1 b gt gf gd LT LF LD
  bx : w1.heap[q]? = some (.cells X 26 (0, 0))
  ch : Chg (LnS b gt gf gd) w w1
  qn : ¬ LnS b gt gf gd q
theorem LbS.dr {w w1 : World} {b gt gf gd q : Nat} {LT : List Ins} {LF : List Fn} {LD : List Td} {X : Array Value} (h : LbS w w1 b gt gf gd q LT LF LD X) (n : Nat) : LbS w (w1.drewN n) b gt gf gd q LT LF LD X :=
  ⟨h.ln.out (Out.drewN (Out.refl _) n), h.bx, h.ch.of_drewN n, h.qn⟩
theorem beh_at {α : Type} (f : Nat → α) (L : List α) (n N j : Nat) (hL : L.length = n) (h1 : n ≤ j) (h2 : j < N) : (L ++ beh f n (N - n))[j]? = some (f j) := by
  rw [List.getElem?_append_right (by omega), hL]
  simp only [beh, List.getElem?_map, List.getElem?_range' (show j - n < N - n by omega), Option.map_some, Nat.one_mul]
  congr 2; omega
theorem LbS.t' {w w1 w' : World} {b gt gf gd q : Nat} {LT : List Ins} {LF : List Fn} {LD : List Td} {X : Array Value} {L' : List Ins} (h : LbS w w1 b gt gf gd q LT LF LD X) (c : Chg (fun k => k = gt) w1 w') (r : RowI w' gt L' []) (hl : L'.length = LT.length) : LbS w w' b gt gf gd q L' LF LD X :=
  have hs : LnS b gt gf gd gt := .inr (.inl rfl)
  ⟨h.ln.t' c r hl, (c.block q (Array.getElem?_eq_some_iff.1 h.bx).1 (fun e => h.qn (e ▸ hs))).trans h.bx, h.ch.trans c (fun x hx _ => hx ▸ hs), h.qn⟩
theorem LbS.f' {w w1 w' : World} {b gt gf gd q : Nat} {LT : List Ins} {LF : List Fn} {LD : List Td} {X : Array Value} {L' : List Fn} (h : LbS w w1 b gt gf gd q LT LF LD X) (c : Chg (fun k => k = gf) w1 w') (r : RowF w' gf L' []) (hl : L'.length = LF.length) : LbS w w' b gt gf gd q LT L' LD X :=
  have hs : LnS b gt gf gd gf := .inr (.inr (.inl rfl))
  ⟨h.ln.f' c r hl, (c.block q (Array.getElem?_eq_some_iff.1 h.bx).1 (fun e => h.qn (e ▸ hs))).trans h.bx, h.ch.trans c (fun x hx _ => hx ▸ hs), h.qn⟩
theorem LbS.d' {w w1 w' : World} {b gt gf gd q : Nat} {LT : List Ins} {LF : List Fn} {LD : List Td} {X : Array Value} {L' : List Td} (h : LbS w w1 b gt gf gd q LT LF LD X) (c : Chg (fun k => k = gd) w1 w') (r : RowD w' gd L' []) (hl : L'.length = LD.length) : LbS w w' b gt gf gd q LT LF L' X :=
  have hs : LnS b gt gf gd gd := .inr (.inr (.inr rfl))
  ⟨h.ln.d' c r hl, (c.block q (Array.getElem?_eq_some_iff.1 h.bx).1 (fun e => h.qn (e ▸ hs))).trans h.bx, h.ch.trans c (fun x hx _ => hx ▸ hs), h.qn⟩
set_option maxRecDepth 20000 in
set_option maxHeartbeats 4000000 in
theorem back_any (w : World) (b gt gf gd : Nat) (m : Img) (ta fa da : Option Addr) (tc fc dc : Nat) (hb : LnR w b gt gf gd (m.T ++ beh beI m.T.length (3 * m.T.length + 140)) (m.F ++ beh beF m.F.length (3 * m.F.length + 140)) (m.D ++ beh beD m.D.length (3 * m.D.length + 140))) (hM : ∀ wx, Chg (LnS b gt gf gd) w wx → ImS wx ta fa da m) (hT : m.T.length ≤ 1048576) (hF : m.F.length ≤ 1048576) (hD : m.D.length ≤ 1048576) :
    Calls Tryd.prog 12 #[.pointer (some ⟨b, 0, none⟩), .agg #[.slice ta m.T.length tc, .slice fa m.F.length fc, .slice da m.D.length dc, .int .i64 m.en]] w fun e w' => e = .returned (.bool true) ∧ (∃ LT LF LD, LnR w' b gt gf gd LT LF LD ∧ LT.length = 4 * m.T.length + 140 ∧ LF.length = 4 * m.F.length + 140 ∧ LD.length = 4 * m.D.length + 140) ∧ Chg (LnS b gt gf gd) w w' := by
  obtain ⟨T, F, D, en⟩ := m
  simp only at *
  obtain ⟨nt, hnt⟩ : ∃ n, Hid (n = T.length) := ⟨_, rfl⟩
  obtain ⟨nf, hnf⟩ : ∃ n, Hid (n = F.length) := ⟨_, rfl⟩
  obtain ⟨nd, hnd⟩ : ∃ n, Hid (n = D.length) := ⟨_, rfl⟩
  rw [← hnt.out, ← hnf.out, ← hnd.out] at hb ⊢
  rw [← hnt.out] at hT
  rw [← hnf.out] at hF
  rw [← hnd.out] at hD
  obtain ⟨NT, hNT⟩ : ∃ n, Hid (n = 4 * nt + 140) := ⟨_, rfl⟩
  obtain ⟨NF, hNF⟩ : ∃ n, Hid (n = 4 * nf + 140) := ⟨_, rfl⟩
  obtain ⟨ND, hND⟩ : ∃ n, Hid (n = 4 * nd + 140) := ⟨_, rfl⟩
  rw [← hNT.out, ← hNF.out, ← hND.out]
  rw [show 3 * nt + 140 = NT - nt by rw [hNT.out]; omega, show 3 * nf + 140 = NF - nf by rw [hNF.out]; omega, show 3 * nd + 140 = ND - nd by rw [hND.out]; omega] at hb
  have kT : nt ≤ NT := by rw [hNT.out]; omega
  have kF : nf ≤ NF := by rw [hNF.out]; omega
  have kD : nd ≤ ND := by rw [hND.out]; omega
  have kT' : (nt : Int) ≤ NT := by omega
  have kF' : (nf : Int) ≤ NF := by omega
  have kD' : (nd : Int) ≤ ND := by omega
  have mT : NT ≤ 5000000 := by rw [hNT.out]; omega
  have mF : NF ≤ 5000000 := by rw [hNF.out]; omega
  have mD : ND ≤ 5000000 := by rw [hND.out]; omega
  have HM := hidOf hM
  clear hM
  obtain ⟨q, hq⟩ : ∃ q, Hid (q = w.heap.size) := ⟨_, rfl⟩
  obtain ⟨X, hX⟩ : ∃ X : Array Value, Hid (X = #[.slice ta nt tc, .slice fa nf fc, .slice da nd dc, .int .i64 en]) := ⟨_, rfl⟩
  obtain ⟨wA, hwA⟩ : ∃ wA, Hid (wA = w.alloc (.cells #[.slice ta nt tc, .slice fa nf fc, .slice da nd dc, .int .i64 en] 26)) := ⟨_, rfl⟩
  have OA : Hid (Out w wA) := hidOf (by rw [hwA.out]; exact Out.alloc (Out.refl _) _)
  have qS : ∀ k, LnS b gt gf gd k → k < q := fun k hk => by
    rw [hq.out]
    rcases hk with rfl | rfl | rfl | rfl
    · exact (Array.getElem?_eq_some_iff.1 hb.box).1
    · exact hb.t.lt
    · exact hb.f.lt
    · exact hb.d.lt
  obtain ⟨LT, hLT⟩ : ∃ L, Hid (L = T ++ beh beI nt (NT - nt)) := ⟨_, rfl⟩
  have lT : LT.length = NT := by rw [hLT.out, List.length_append, beh_len, ← hnt.out]; omega
  rw [← hLT.out] at hb
  obtain ⟨LF, hLF⟩ : ∃ L, Hid (L = F ++ beh beF nf (NF - nf)) := ⟨_, rfl⟩
  have lF : LF.length = NF := by rw [hLF.out, List.length_append, beh_len, ← hnf.out]; omega
  rw [← hLF.out] at hb
  obtain ⟨LD, hLD⟩ : ∃ L, Hid (L = D ++ beh beD nd (ND - nd)) := ⟨_, rfl⟩
  have lD : LD.length = ND := by rw [hLD.out, List.length_append, beh_len, ← hnd.out]; omega
  rw [← hLD.out] at hb
  have SA : Hid (LbS w wA b gt gf gd q LT LF LD X) := hidOf ⟨hb.out OA.out, by rw [hwA.out, hq.out, hX.out]; exact heap_alloc_new w _, Chg.of_out OA.out, fun h => by have := qS q h; omega⟩
  clear hb
  have C0 : Hid (∀ k, Calls Tryd.prog 25 #[.slice (some ⟨gt, 0, none⟩) nt NT, .slice ta nt tc] (wA.drewN k) fun e w' => e = .returned (.bool true) ∧ ∃ m, w' = (wA.drewN k).drewN m) := hidOf (fun k => sameI17 (wA.drewN k) _ _ _ _ _ T hnt.out.symm (by have := (SA.out.dr k).ln.t; rw [hLT.out] at this; exact this.a) (HM.out _ (SA.out.dr k).ch).t (by omega))
  have a0 : wA.cell? ⟨b, 0, none⟩ = some (.slice (some ⟨gt, 0, none⟩) NT NT) := by
    have hh := cell_atL SA.out.ln.box 0
    rw [lT] at hh
    exact hh
  have q0 : wA.cell? ⟨q, 0, none⟩ = some (.slice ta nt tc) := by rw [cell_atL SA.out.bx, hX.out]; rfl
  have C1 : Hid (∀ k, Calls Tryd.prog 26 #[.slice (some ⟨gf, 0, none⟩) nf NF, .slice fa nf fc] (wA.drewN k) fun e w' => e = .returned (.bool true) ∧ ∃ m, w' = (wA.drewN k).drewN m) := hidOf (fun k => sameF17 (wA.drewN k) _ _ _ _ _ F hnf.out.symm (by have := (SA.out.dr k).ln.f; rw [hLF.out] at this; exact this.a) (HM.out _ (SA.out.dr k).ch).f (by omega))
  have a1 : wA.cell? ⟨b, 1, none⟩ = some (.slice (some ⟨gf, 0, none⟩) NF NF) := by
    have hh := cell_atL SA.out.ln.box 1
    rw [lF] at hh
    exact hh
  have q1 : wA.cell? ⟨q, 1, none⟩ = some (.slice fa nf fc) := by rw [cell_atL SA.out.bx, hX.out]; rfl
  have C2 : Hid (∀ k, Calls Tryd.prog 27 #[.slice (some ⟨gd, 0, none⟩) nd ND, .slice da nd dc] (wA.drewN k) fun e w' => e = .returned (.bool true) ∧ ∃ m, w' = (wA.drewN k).drewN m) := hidOf (fun k => sameD17 (wA.drewN k) _ _ _ _ _ D hnd.out.symm (by have := (SA.out.dr k).ln.d; rw [hLD.out] at this; exact this.a) (HM.out _ (SA.out.dr k).ch).d (by omega))
  have a2 : wA.cell? ⟨b, 2, none⟩ = some (.slice (some ⟨gd, 0, none⟩) ND ND) := by
    have hh := cell_atL SA.out.ln.box 2
    rw [lD] at hh
    exact hh
  have q2 : wA.cell? ⟨q, 2, none⟩ = some (.slice da nd dc) := by rw [cell_atL SA.out.bx, hX.out]; rfl
  go_enter Tryd.func12, Tryd.ntmps12
  go_upto_region 1 with fail
  rw [← hwA.out, ← hq.out]
  go_quiet (first | (go_at_call 25; exact Calls.quiet_of (C0.out _)) | (go_at_call 26; exact Calls.quiet_of (C1.out _)) | (go_at_call 27; exact Calls.quiet_of (C2.out _)))
  obtain ⟨wB, hwB⟩ : ∃ wx, Hid (wx = wA.drewN nq) := ⟨_, rfl⟩
  rw [← hwB.out]
  replace SA : Hid (LbS w wB b gt gf gd q LT LF LD X) := hidOf (by rw [hwB.out]; exact SA.out.dr nq)
  clear C0 C1 C2 a0 a1 a2 q0 q1 q2
  have a0 : wB.cell? ⟨b, 0, none⟩ = some (.slice (some ⟨gt, 0, none⟩) NT NT) := by
    have hh := cell_atL SA.out.ln.box 0
    rw [lT] at hh
    exact hh
  have q0 : wB.cell? ⟨q, 0, none⟩ = some (.slice ta nt tc) := by rw [cell_atL SA.out.bx, hX.out]; rfl
  have a1 : wB.cell? ⟨b, 1, none⟩ = some (.slice (some ⟨gf, 0, none⟩) NF NF) := by
    have hh := cell_atL SA.out.ln.box 1
    rw [lF] at hh
    exact hh
  have q1 : wB.cell? ⟨q, 1, none⟩ = some (.slice fa nf fc) := by rw [cell_atL SA.out.bx, hX.out]; rfl
  have a2 : wB.cell? ⟨b, 2, none⟩ = some (.slice (some ⟨gd, 0, none⟩) ND ND) := by
    have hh := cell_atL SA.out.ln.box 2
    rw [lD] at hh
    exact hh
  have q2 : wB.cell? ⟨q, 2, none⟩ = some (.slice da nd dc) := by rw [cell_atL SA.out.bx, hX.out]; rfl
  go_wp2
  go_loopw [5, 6] (fun o v wr => ∃ j : Nat, nt ≤ j ∧ j ≤ NT ∧ o = .bool true ∧ v = .int .i64 j ∧ wr = wB) (fun _ v _ => NT - (intOf v).toNat)
  case atStart => exact ⟨nt, Nat.le_refl _, by omega, rfl, rfl, rfl⟩
  case round =>
    obtain ⟨j, hj0, hj, rfl, rfl, hw⟩ := hrel
    have hw := hw.symm
    subst hw
    by_cases hjn : j < NT
    · have hlt : (j : Int) < NT := by omega
      obtain ⟨e0, e1, e2, e3, e4⟩ := SA.out.ln.t.cells (i := j) (x := beI j) (by rw [hLT.out]; exact beh_at beI T nt NT j hnt.out.symm hj0 hjn)
      simp only [beI] at e0 e1 e2 e3 e4
      go_wp2
      go_roundw
      case rel => exact ⟨j + 1, by omega, by omega, by simp, by simp, by first | rfl | trivial⟩
      case measure => simp [intOf]; omega
    · have hlt : ¬ (j : Int) < NT := by omega
      go_wp2
      go_loopw [5, 7] (fun o v wr => ∃ j : Nat, nf ≤ j ∧ j ≤ NF ∧ o = .bool true ∧ v = .int .i64 j ∧ wr = wB) (fun _ v _ => NF - (intOf v).toNat)
      case atStart => exact ⟨nf, Nat.le_refl _, by omega, rfl, rfl, rfl⟩
      case round =>
        obtain ⟨j, hj0, hj, rfl, rfl, hw⟩ := hrel
        have hw := hw.symm
        subst hw
        by_cases hjn : j < NF
        · have hlt : (j : Int) < NF := by omega
          obtain ⟨e0, e1, e2, e3⟩ := SA.out.ln.f.cells (i := j) (x := beF j) (by rw [hLF.out]; exact beh_at beF F nf NF j hnf.out.symm hj0 hjn)
          simp only [beF] at e0 e1 e2 e3
          go_wp2
          go_roundw
          case rel => exact ⟨j + 1, by omega, by omega, by simp, by simp, by first | rfl | trivial⟩
          case measure => simp [intOf]; omega
        · have hlt : ¬ (j : Int) < NF := by omega
          go_wp2
          go_loopw [5, 8] (fun o v wr => ∃ j : Nat, nd ≤ j ∧ j ≤ ND ∧ o = .bool true ∧ v = .int .i64 j ∧ wr = wB) (fun _ v _ => ND - (intOf v).toNat)
          case atStart => exact ⟨nd, Nat.le_refl _, by omega, rfl, rfl, rfl⟩
          case round =>
            obtain ⟨j, hj0, hj, rfl, rfl, hw⟩ := hrel
            have hw := hw.symm
            subst hw
            by_cases hjn : j < ND
            · have hlt : (j : Int) < ND := by omega
              obtain ⟨e0, e1, e2, e3, e4⟩ := SA.out.ln.d.cells (i := j) (x := beD j) (by rw [hLD.out]; exact beh_at beD D nd ND j hnd.out.symm hj0 hjn)
              simp only [beD] at e0 e1 e2 e3 e4
              go_wp2
              go_roundw
              case rel => exact ⟨j + 1, by omega, by omega, by simp, by simp, by first | rfl | trivial⟩
              case measure => simp [intOf]; omega
            · have hlt : ¬ (j : Int) < ND := by omega
              clear a0 a1
              go_wp2
              clear a2
              go_loopw [9] (fun v wr => ∃ j : Nat, j ≤ nt ∧ v = .int .i64 j ∧ Hid (LbS w wr b gt gf gd q (beh (fun _ => miI) 0 j ++ LT.drop j) LF LD X)) (fun v _ => nt - (intOf v).toNat)
              case atStart => exact ⟨0, by omega, rfl, hidOf (by simpa [beh] using SA.out)⟩
              case round =>
                obtain ⟨j, hj, rfl, HJ⟩ := hrel
                have hlen : (beh (fun _ => miI) 0 j ++ LT.drop j).length = NT := by rw [List.length_append, beh_len, List.length_drop, lT]; omega
                have z0 : wr.cell? ⟨b, 0, none⟩ = some (.slice (some ⟨gt, 0, none⟩) NT NT) := by
                  have hh := cell_atL HJ.out.ln.box 0
                  rw [hlen] at hh
                  exact hh
                have zq : wr.cell? ⟨q, 0, none⟩ = some (.slice ta nt tc) := by rw [cell_atL HJ.out.bx, hX.out]; rfl
                by_cases hjn : j < nt
                · have hlt : (j : Int) < nt := by omega
                  have hltN : (j : Int) < NT := by omega
                  obtain ⟨x, hx⟩ := beh_get (fun _ => miI) LT j (by omega)
                  obtain ⟨e0, e1, e2, e3, e4⟩ := HJ.out.ln.t.cells hx
                  have g0 := HJ.out.ln.t.frozen (j * 5)
                  have g1 := HJ.out.ln.t.frozen (j * 5 + 1)
                  have g2 := HJ.out.ln.t.frozen (j * 5 + 2)
                  have g3 := HJ.out.ln.t.frozen (j * 5 + 3)
                  have g4 := HJ.out.ln.t.frozen (j * 5 + 4)
                  clear hx
                  go_wp2
                  go_roundw
                  case rel =>
                    refine ⟨j + 1, by omega, by simp, hidOf ?_⟩
                    refine HJ.out.t' (Chg.put5 (S := fun k => k = gt) (Chg.refl _ _) rfl _ _ _ _ _ _ _ _ _ _) ?_ (by rw [hlen, List.length_append, beh_len, List.length_drop, lT]; omega)
                    have := HJ.out.ln.t.set (i := j) (by rw [hlen]; omega) miI
                    rw [beh_set (fun _ => miI) LT j (by omega)] at this
                    exact this
                  case measure => simp [intOf]; omega
                · have hlt : ¬ (j : Int) < nt := by omega
                  have S0 : Hid (LbS w wr b gt gf gd q (beh (fun _ => miI) 0 nt ++ LT.drop nt) LF LD X) := hidOf (by
                    have := HJ.out
                    rw [show j = nt by omega] at this
                    exact this)
                  obtain ⟨wb0, hwb0⟩ : ∃ wb, wb = wr := ⟨_, rfl⟩
                  subst hwb0
                  clear HJ hlen
                  go_wp2
                  clear z0 zq
                  go_loopw [10] (fun v wr => ∃ j : Nat, j ≤ nf ∧ v = .int .i64 j ∧ Hid (LbS w wr b gt gf gd q (beh (fun _ => miI) 0 nt ++ LT.drop nt) (beh (fun _ => miF) 0 j ++ LF.drop j) LD X)) (fun v _ => nf - (intOf v).toNat)
                  case atStart => exact ⟨0, by omega, rfl, hidOf (by simpa [beh] using S0.out)⟩
                  case round =>
                    obtain ⟨j, hj, rfl, HJ⟩ := hrel
                    have hlen : (beh (fun _ => miF) 0 j ++ LF.drop j).length = NF := by rw [List.length_append, beh_len, List.length_drop, lF]; omega
                    have z0 : wr.cell? ⟨b, 1, none⟩ = some (.slice (some ⟨gf, 0, none⟩) NF NF) := by
                      have hh := cell_atL HJ.out.ln.box 1
                      rw [hlen] at hh
                      exact hh
                    have zq : wr.cell? ⟨q, 1, none⟩ = some (.slice fa nf fc) := by rw [cell_atL HJ.out.bx, hX.out]; rfl
                    by_cases hjn : j < nf
                    · have hlt : (j : Int) < nf := by omega
                      have hltN : (j : Int) < NF := by omega
                      obtain ⟨x, hx⟩ := beh_get (fun _ => miF) LF j (by omega)
                      obtain ⟨e0, e1, e2, e3⟩ := HJ.out.ln.f.cells hx
                      have g0 := HJ.out.ln.f.frozen (j * 4)
                      have g1 := HJ.out.ln.f.frozen (j * 4 + 1)
                      have g2 := HJ.out.ln.f.frozen (j * 4 + 2)
                      have g3 := HJ.out.ln.f.frozen (j * 4 + 3)
                      clear hx
                      go_wp2
                      go_roundw
                      case rel =>
                        refine ⟨j + 1, by omega, by simp, hidOf ?_⟩
                        refine HJ.out.f' (Chg.put4 (S := fun k => k = gf) (Chg.refl _ _) rfl _ _ _ _ _ _ _ _) ?_ (by rw [hlen, List.length_append, beh_len, List.length_drop, lF]; omega)
                        have := HJ.out.ln.f.set (i := j) (by rw [hlen]; omega) miF
                        rw [beh_set (fun _ => miF) LF j (by omega)] at this
                        exact this
                      case measure => simp [intOf]; omega
                    · have hlt : ¬ (j : Int) < nf := by omega
                      have S1 : Hid (LbS w wr b gt gf gd q (beh (fun _ => miI) 0 nt ++ LT.drop nt) (beh (fun _ => miF) 0 nf ++ LF.drop nf) LD X) := hidOf (by
                        have := HJ.out
                        rw [show j = nf by omega] at this
                        exact this)
                      obtain ⟨wb1, hwb1⟩ : ∃ wb, wb = wr := ⟨_, rfl⟩
                      subst hwb1
                      clear HJ hlen
                      go_wp2
                      clear z0 zq
                      go_loopw [11] (fun v wr => ∃ j : Nat, j ≤ nd ∧ v = .int .i64 j ∧ Hid (LbS w wr b gt gf gd q (beh (fun _ => miI) 0 nt ++ LT.drop nt) (beh (fun _ => miF) 0 nf ++ LF.drop nf) (beh (fun _ => miD) 0 j ++ LD.drop j) X)) (fun v _ => nd - (intOf v).toNat)
                      case atStart => exact ⟨0, by omega, rfl, hidOf (by simpa [beh] using S1.out)⟩
                      case round =>
                        obtain ⟨j, hj, rfl, HJ⟩ := hrel
                        have hlen : (beh (fun _ => miD) 0 j ++ LD.drop j).length = ND := by rw [List.length_append, beh_len, List.length_drop, lD]; omega
                        have z0 : wr.cell? ⟨b, 2, none⟩ = some (.slice (some ⟨gd, 0, none⟩) ND ND) := by
                          have hh := cell_atL HJ.out.ln.box 2
                          rw [hlen] at hh
                          exact hh
                        have zq : wr.cell? ⟨q, 2, none⟩ = some (.slice da nd dc) := by rw [cell_atL HJ.out.bx, hX.out]; rfl
                        by_cases hjn : j < nd
                        · have hlt : (j : Int) < nd := by omega
                          have hltN : (j : Int) < ND := by omega
                          obtain ⟨x, hx⟩ := beh_get (fun _ => miD) LD j (by omega)
                          obtain ⟨e0, e1, e2, e3, e4⟩ := HJ.out.ln.d.cells hx
                          have g0 := HJ.out.ln.d.frozen (j * 5)
                          have g1 := HJ.out.ln.d.frozen (j * 5 + 1)
                          have g2 := HJ.out.ln.d.frozen (j * 5 + 2)
                          have g3 := HJ.out.ln.d.frozen (j * 5 + 3)
                          have g4 := HJ.out.ln.d.frozen (j * 5 + 4)
                          clear hx
                          go_wp2
                          go_roundw
                          case rel =>
                            refine ⟨j + 1, by omega, by simp, hidOf ?_⟩
                            refine HJ.out.d' (Chg.put5 (S := fun k => k = gd) (Chg.refl _ _) rfl _ _ _ _ _ _ _ _ _ _) ?_ (by rw [hlen, List.length_append, beh_len, List.length_drop, lD]; omega)
                            have := HJ.out.ln.d.set (i := j) (by rw [hlen]; omega) miD
                            rw [beh_set (fun _ => miD) LD j (by omega)] at this
                            exact this
                          case measure => simp [intOf]; omega
                        · have hlt : ¬ (j : Int) < nd := by omega
                          have S2 : Hid (LbS w wr b gt gf gd q (beh (fun _ => miI) 0 nt ++ LT.drop nt) (beh (fun _ => miF) 0 nf ++ LF.drop nf) (beh (fun _ => miD) 0 nd ++ LD.drop nd) X) := hidOf (by
                            have := HJ.out
                            rw [show j = nd by omega] at this
                            exact this)
                          go_wp2
                          go_ret
                          refine ⟨rfl, ⟨_, _, _, S2.out.ln, ?_, ?_, ?_⟩, S2.out.ch⟩
                          · rw [List.length_append, beh_len, List.length_drop, lT]; omega
                          · rw [List.length_append, beh_len, List.length_drop, lF]; omega
                          · rw [List.length_append, beh_len, List.length_drop, lD]; omega
end Go.Proofs.YtfmcoffmgdcciaaDoor
namespace Go.Proofs.YtfmcoffmgdcciaaDoor
open Go.RowKit
set_option linter.unusedVariables false
set_option linter.unusedSimpArgs false
set_option maxRecDepth 20000 in
set_option maxHeartbeats 4000000 in
theorem layR_any (w : World) (b gt gf gd : Nat) (LT : List Ins) (LF : List Fn) (LD : List Td) (m : Img) (ta fa da : Option Addr) (tc fc dc : Nat) (hb : LnR w b gt gf gd LT LF LD) (l1 : LT.length = 4 * m.T.length + 140) (l2 : LF.length = 4 * m.F.length + 140) (l3 : LD.length = 4 * m.D.length + 140) (hM : ∀ wx, Chg (LnS b gt gf gd) w wx → ImS wx ta fa da m) (hT : m.T.length ≤ 1048576) (hF : m.F.length ≤ 1048576) (hD : m.D.length ≤ 1048576) :
    Calls Tryd.prog 11 #[.pointer (some ⟨b, 0, none⟩), .agg #[.slice ta m.T.length tc, .slice fa m.F.length fc, .slice da m.D.length dc, .int .i64 m.en]] w fun e w' => e = .returned (.agg #[.slice (some ⟨gt, 0, none⟩) m.T.length (4 * m.T.length + 140), .slice (some ⟨gf, 0, none⟩) m.F.length (4 * m.F.length + 140), .slice (some ⟨gd, 0, none⟩) m.D.length (4 * m.D.length + 140), .int .i64 m.en]) ∧ LnR w' b gt gf gd (m.T ++ beh beI m.T.length (3 * m.T.length + 140)) (m.F ++ beh beF m.F.length (3 * m.F.length + 140)) (m.D ++ beh beD m.D.length (3 * m.D.length + 140)) ∧ Chg (LnS b gt gf gd) w w' := by
  obtain ⟨T, F, D, en⟩ := m
  simp only at *
  obtain ⟨nt, hnt⟩ : ∃ n, Hid (n = T.length) := ⟨_, rfl⟩
  obtain ⟨nf, hnf⟩ : ∃ n, Hid (n = F.length) := ⟨_, rfl⟩
  obtain ⟨nd, hnd⟩ : ∃ n, Hid (n = D.length) := ⟨_, rfl⟩
  rw [← hnt.out, ← hnf.out, ← hnd.out]
  rw [← hnt.out] at hT
  rw [← hnf.out] at hF
  rw [← hnd.out] at hD
  obtain ⟨NT, hNT⟩ : ∃ n, Hid (n = 4 * nt + 140) := ⟨_, rfl⟩
  obtain ⟨NF, hNF⟩ : ∃ n, Hid (n = 4 * nf + 140) := ⟨_, rfl⟩
  obtain ⟨ND, hND⟩ : ∃ n, Hid (n = 4 * nd + 140) := ⟨_, rfl⟩
  rw [← hNT.out, ← hNF.out, ← hND.out]
  have kT : nt ≤ NT := by rw [hNT.out]; omega
  have kF : nf ≤ NF := by rw [hNF.out]; omega
  have kD : nd ≤ ND := by rw [hND.out]; omega
  have kT' : (nt : Int) ≤ NT := by omega
  have kF' : (nf : Int) ≤ NF := by omega
  have kD' : (nd : Int) ≤ ND := by omega
  have mT : NT ≤ 5000000 := by rw [hNT.out]; omega
  have mF : NF ≤ 5000000 := by rw [hNF.out]; omega
  have mD : ND ≤ 5000000 := by rw [hND.out]; omega
  have HM := hidOf hM
  clear hM
  obtain ⟨q, hq⟩ : ∃ q, Hid (q = w.heap.size) := ⟨_, rfl⟩
  obtain ⟨X, hX⟩ : ∃ X : Array Value, Hid (X = #[.slice ta nt tc, .slice fa nf fc, .slice da nd dc, .int .i64 en]) := ⟨_, rfl⟩
  obtain ⟨wA, hwA⟩ : ∃ wA, Hid (wA = (w.alloc (.cells #[.slice ta nt tc, .slice fa nf fc, .slice da nd dc, .int .i64 en] 26)).alloc (.cells #[.slice none 0 0, .slice none 0 0, .slice none 0 0, .int .i64 0] 26)) := ⟨_, rfl⟩
  have OA : Hid (Out w wA) := hidOf (by rw [hwA.out]; exact Out.alloc (Out.alloc (Out.refl _) _) _)
  have bxA : wA.heap[q]? = some (.cells X 26 (0, 0)) := by rw [hwA.out, hq.out, hX.out]; exact blk_al (heap_alloc_new w _) _
  have rsA : wA.heap[q + 1]? = some (.cells #[.slice none 0 0, .slice none 0 0, .slice none 0 0, .int .i64 0] 26 (0, 0)) := by
    have := heap_alloc_new (w.alloc (.cells #[.slice ta nt tc, .slice fa nf fc, .slice da nd dc, .int .i64 en] 26)) (.cells #[.slice none 0 0, .slice none 0 0, .slice none 0 0, .int .i64 0] 26)
    rw [size_alloc, ← hwA.out, ← hq.out] at this; exact this
  have szA : Hid (wA.heap.size = q + 2) := hidOf (by rw [hwA.out, size_alloc, size_alloc, hq.out])
  rw [← hnt.out, ← hNT.out] at l1
  rw [← hnf.out, ← hNF.out] at l2
  rw [← hnd.out, ← hND.out] at l3
  have p0 : ¬ (NT : Int) < 2 * (nt : Int) + 70 := by rw [hNT.out]; simp; omega
  have p1 : ¬ (NF : Int) < 2 * (nf : Int) + 70 := by rw [hNF.out]; simp; omega
  have p2 : ¬ (ND : Int) < 2 * (nd : Int) + 70 := by rw [hND.out]; simp; omega
  have qS : ∀ k, LnS b gt gf gd k → k < q := fun k hk => by
    rw [hq.out]
    rcases hk with rfl | rfl | rfl | rfl
    · exact (Array.getElem?_eq_some_iff.1 hb.box).1
    · exact hb.t.lt
    · exact hb.f.lt
    · exact hb.d.lt
  have SA : Hid (LyS w wA b gt gf gd q LT LF LD X) := hidOf ⟨hb.out OA.out, bxA, rsA, Chg.of_out OA.out, fun h => by have := qS q h; omega, fun h => by have := qS (q + 1) h; omega⟩
  have HL := hidOf hb
  clear hb
  go_enter Tryd.func11, Tryd.ntmps11
  go_upto_region 1 with fail
  rw [← hwA.out, ← hq.out]
  have HMS := HM
  have a0 : wA.cell? ⟨b, 0, none⟩ = some (.slice (some ⟨gt, 0, none⟩) NT NT) := by rw [cell_atL SA.out.ln.box, ← l1]; rfl
  have q0 : wA.cell? ⟨q, 0, none⟩ = some (.slice ta nt tc) := by rw [cell_atL SA.out.bx, hX.out]; rfl
  go_quiet (fail)
  go_upto_region 3 with fail
  obtain ⟨wB0, hwB0⟩ : ∃ wx, Hid (wx = wA.drewN nq) := ⟨_, rfl⟩
  rw [← hwB0.out]
  replace SA : Hid (LyS w wB0 b gt gf gd q LT LF LD X) := hidOf (by rw [hwB0.out]; exact SA.out.dr nq)
  clear a0 q0
  have a1 : wB0.cell? ⟨b, 1, none⟩ = some (.slice (some ⟨gf, 0, none⟩) NF NF) := by rw [cell_atL SA.out.ln.box, ← l2]; rfl
  have q1 : wB0.cell? ⟨q, 1, none⟩ = some (.slice fa nf fc) := by rw [cell_atL SA.out.bx, hX.out]; rfl
  go_quiet (fail)
  go_upto_region 5 with fail
  obtain ⟨wB1, hwB1⟩ : ∃ wx, Hid (wx = wB0.drewN nq) := ⟨_, rfl⟩
  rw [← hwB1.out]
  replace SA : Hid (LyS w wB1 b gt gf gd q LT LF LD X) := hidOf (by rw [hwB1.out]; exact SA.out.dr nq)
  clear a1 q1
  have a2 : wB1.cell? ⟨b, 2, none⟩ = some (.slice (some ⟨gd, 0, none⟩) ND ND) := by rw [cell_atL SA.out.ln.box, ← l3]; rfl
  have q2 : wB1.cell? ⟨q, 2, none⟩ = some (.slice da nd dc) := by rw [cell_atL SA.out.bx, hX.out]; rfl
  go_quiet (fail)
  go_upto_region 7 with fail
  obtain ⟨wB2, hwB2⟩ : ∃ wx, Hid (wx = wB1.drewN nq) := ⟨_, rfl⟩
  rw [← hwB2.out]
  replace SA : Hid (LyS w wB2 b gt gf gd q LT LF LD X) := hidOf (by rw [hwB2.out]; exact SA.out.dr nq)
  clear a2 q2
  go_wp2
  go_loopw [5] (fun v wr => ∃ j : Nat, j ≤ NT ∧ v = .int .i64 j ∧ Hid (LyS w wr b gt gf gd q (beh beI 0 j ++ LT.drop j) LF LD X)) (fun v _ => NT - (intOf v).toNat)
  case atStart => exact ⟨0, by omega, rfl, hidOf (by simpa [beh] using SA.out)⟩
  case round =>
    obtain ⟨j, hj, rfl, HJ⟩ := hrel
    have hlen : (beh beI 0 j ++ LT.drop j).length = NT := by rw [List.length_append, beh_len, List.length_drop, l1]; omega
    have z0 : wr.cell? ⟨b, 0, none⟩ = some (.slice (some ⟨gt, 0, none⟩) NT NT) := by rw [cell_atL HJ.out.ln.box, ← hlen]; rfl
    by_cases hjn : j < NT
    · have hlt : (j : Int) < NT := by omega
      obtain ⟨x, hx⟩ := beh_get beI LT j (by omega)
      obtain ⟨e0, e1, e2, e3, e4⟩ := HJ.out.ln.t.cells hx
      have g0 := HJ.out.ln.t.frozen (j * 5)
      have g1 := HJ.out.ln.t.frozen (j * 5 + 1)
      have g2 := HJ.out.ln.t.frozen (j * 5 + 2)
      have g3 := HJ.out.ln.t.frozen (j * 5 + 3)
      have g4 := HJ.out.ln.t.frozen (j * 5 + 4)
      clear hx
      go_wp2
      go_roundw
      case rel =>
        refine ⟨j + 1, by omega, by simp, hidOf ?_⟩
        refine HJ.out.t' (Chg.put5 (S := fun k => k = gt) (Chg.refl _ _) rfl _ _ _ _ _ _ _ _ _ _) ?_ (by rw [hlen, List.length_append, beh_len, List.length_drop, l1]; omega)
        have := HJ.out.ln.t.set (i := j) (by rw [hlen]; exact hjn) (beI j)
        rw [beh_set beI LT j (by omega)] at this
        exact this
      case measure => simp [intOf]; omega
    · have hlt : ¬ (j : Int) < NT := by omega
      have S0 : Hid (LyS w wr b gt gf gd q (beh beI 0 NT) LF LD X) := hidOf (by
        have := HJ.out
        rw [show j = NT by omega, List.drop_of_length_le (by omega), List.append_nil] at this
        exact this)
      obtain ⟨wb0, hwb0⟩ : ∃ wb, wb = wr := ⟨_, rfl⟩
      subst hwb0
      clear HJ hlen
      go_wp2
      clear z0
      go_loopw [6] (fun v wr => ∃ j : Nat, j ≤ NF ∧ v = .int .i64 j ∧ Hid (LyS w wr b gt gf gd q (beh beI 0 NT) (beh beF 0 j ++ LF.drop j) LD X)) (fun v _ => NF - (intOf v).toNat)
      case atStart => exact ⟨0, by omega, rfl, hidOf (by simpa [beh] using S0.out)⟩
      case round =>
        obtain ⟨j, hj, rfl, HJ⟩ := hrel
        have hlen : (beh beF 0 j ++ LF.drop j).length = NF := by rw [List.length_append, beh_len, List.length_drop, l2]; omega
        have z0 : wr.cell? ⟨b, 1, none⟩ = some (.slice (some ⟨gf, 0, none⟩) NF NF) := by rw [cell_atL HJ.out.ln.box, ← hlen]; rfl
        by_cases hjn : j < NF
        · have hlt : (j : Int) < NF := by omega
          obtain ⟨x, hx⟩ := beh_get beF LF j (by omega)
          obtain ⟨e0, e1, e2, e3⟩ := HJ.out.ln.f.cells hx
          have g0 := HJ.out.ln.f.frozen (j * 4)
          have g1 := HJ.out.ln.f.frozen (j * 4 + 1)
          have g2 := HJ.out.ln.f.frozen (j * 4 + 2)
          have g3 := HJ.out.ln.f.frozen (j * 4 + 3)
          clear hx
          go_wp2
          go_roundw
          case rel =>
            refine ⟨j + 1, by omega, by simp, hidOf ?_⟩
            refine HJ.out.f' (Chg.put4 (S := fun k => k = gf) (Chg.refl _ _) rfl _ _ _ _ _ _ _ _) ?_ (by rw [hlen, List.length_append, beh_len, List.length_drop, l2]; omega)
            have := HJ.out.ln.f.set (i := j) (by rw [hlen]; exact hjn) (beF j)
            rw [beh_set beF LF j (by omega)] at this
            exact this
          case measure => simp [intOf]; omega
        · have hlt : ¬ (j : Int) < NF := by omega
          have S1 : Hid (LyS w wr b gt gf gd q (beh beI 0 NT) (beh beF 0 NF) LD X) := hidOf (by
            have := HJ.out
            rw [show j = NF by omega, List.drop_of_length_le (by omega), List.append_nil] at this
            exact this)
          obtain ⟨wb1, hwb1⟩ : ∃ wb, wb = wr := ⟨_, rfl⟩
          subst hwb1
          clear HJ hlen
          go_wp2
          clear z0
          go_loopw [7] (fun v wr => ∃ j : Nat, j ≤ ND ∧ v = .int .i64 j ∧ Hid (LyS w wr b gt gf gd q (beh beI 0 NT) (beh beF 0 NF) (beh beD 0 j ++ LD.drop j) X)) (fun v _ => ND - (intOf v).toNat)
          case atStart => exact ⟨0, by omega, rfl, hidOf (by simpa [beh] using S1.out)⟩
          case round =>
            obtain ⟨j, hj, rfl, HJ⟩ := hrel
            have hlen : (beh beD 0 j ++ LD.drop j).length = ND := by rw [List.length_append, beh_len, List.length_drop, l3]; omega
            have z0 : wr.cell? ⟨b, 2, none⟩ = some (.slice (some ⟨gd, 0, none⟩) ND ND) := by rw [cell_atL HJ.out.ln.box, ← hlen]; rfl
            by_cases hjn : j < ND
            · have hlt : (j : Int) < ND := by omega
              obtain ⟨x, hx⟩ := beh_get beD LD j (by omega)
              obtain ⟨e0, e1, e2, e3, e4⟩ := HJ.out.ln.d.cells hx
              have g0 := HJ.out.ln.d.frozen (j * 5)
              have g1 := HJ.out.ln.d.frozen (j * 5 + 1)
              have g2 := HJ.out.ln.d.frozen (j * 5 + 2)
              have g3 := HJ.out.ln.d.frozen (j * 5 + 3)
              have g4 := HJ.out.ln.d.frozen (j * 5 + 4)
              clear hx
              go_wp2
              go_roundw
              case rel =>
                refine ⟨j + 1, by omega, by simp, hidOf ?_⟩
                refine HJ.out.d' (Chg.put5 (S := fun k => k = gd) (Chg.refl _ _) rfl _ _ _ _ _ _ _ _ _ _) ?_ (by rw [hlen, List.length_append, beh_len, List.length_drop, l3]; omega)
                have := HJ.out.ln.d.set (i := j) (by rw [hlen]; exact hjn) (beD j)
                rw [beh_set beD LD j (by omega)] at this
                exact this
              case measure => simp [intOf]; omega
            · have hlt : ¬ (j : Int) < ND := by omega
              have S2 : Hid (LyS w wr b gt gf gd q (beh beI 0 NT) (beh beF 0 NF) (beh beD 0 ND) X) := hidOf (by
                have := HJ.out
                rw [show j = ND by omega, List.drop_of_length_le (by omega), List.append_nil] at this
                exact this)
              clear HJ hlen
              obtain ⟨v0, cp0, hr0, cg0⟩ := run_copyI wr.drew 3 gt NT NT ta nt tc (beh beI 0 NT) T [] (S2.out.dr1.ln.t) hnt.out.symm (HMS.out _ S2.out.dr1.ch).t kT (by rw [beh_len]; exact kT)
              rw [beh_drop] at hr0
              have Z0 : Hid (LyS w v0 b gt gf gd q (T ++ beh beI nt (NT - nt)) (beh beF 0 NF) (beh beD 0 ND) X) := hidOf (S2.out.dr1.t' cg0 hr0 (by rw [List.length_append, beh_len, beh_len, ← hnt.out]; omega))
              have d00 : wr.cell? ⟨b, 0, none⟩ = some (.slice (some ⟨gt, 0, none⟩) NT NT) := by
                have hl : (beh beI 0 NT).length = NT := by rw [beh_len]
                have hh := cell_atL S2.out.ln.box 0
                rw [hl] at hh
                exact hh
              have d0q0 : wr.cell? ⟨q, 0, none⟩ = some (.slice ta nt tc) := by rw [cell_atL S2.out.bx, hX.out]; rfl
              have d01 : wr.cell? ⟨b, 1, none⟩ = some (.slice (some ⟨gf, 0, none⟩) NF NF) := by
                have hl : (beh beF 0 NF).length = NF := by rw [beh_len]
                have hh := cell_atL S2.out.ln.box 1
                rw [hl] at hh
                exact hh
              have d0q1 : wr.cell? ⟨q, 1, none⟩ = some (.slice fa nf fc) := by rw [cell_atL S2.out.bx, hX.out]; rfl
              have d02 : wr.cell? ⟨b, 2, none⟩ = some (.slice (some ⟨gd, 0, none⟩) ND ND) := by
                have hl : (beh beD 0 ND).length = ND := by rw [beh_len]
                have hh := cell_atL S2.out.ln.box 2
                rw [hl] at hh
                exact hh
              have d0q2 : wr.cell? ⟨q, 2, none⟩ = some (.slice da nd dc) := by rw [cell_atL S2.out.bx, hX.out]; rfl
              have u00 : v0.cell? ⟨b, 0, none⟩ = some (.slice (some ⟨gt, 0, none⟩) NT NT) := by
                have hl : (T ++ beh beI nt (NT - nt)).length = NT := by rw [List.length_append, beh_len, ← hnt.out]; omega
                have hh := cell_atL Z0.out.ln.box 0
                rw [hl] at hh
                exact hh
              have u0q0 : v0.cell? ⟨q, 0, none⟩ = some (.slice ta nt tc) := by rw [cell_atL Z0.out.bx, hX.out]; rfl
              have u01 : v0.cell? ⟨b, 1, none⟩ = some (.slice (some ⟨gf, 0, none⟩) NF NF) := by
                have hl : (beh beF 0 NF).length = NF := by rw [beh_len]
                have hh := cell_atL Z0.out.ln.box 1
                rw [hl] at hh
                exact hh
              have u0q1 : v0.cell? ⟨q, 1, none⟩ = some (.slice fa nf fc) := by rw [cell_atL Z0.out.bx, hX.out]; rfl
              have u02 : v0.cell? ⟨b, 2, none⟩ = some (.slice (some ⟨gd, 0, none⟩) ND ND) := by
                have hl : (beh beD 0 ND).length = ND := by rw [beh_len]
                have hh := cell_atL Z0.out.ln.box 2
                rw [hl] at hh
                exact hh
              have u0q2 : v0.cell? ⟨q, 2, none⟩ = some (.slice da nd dc) := by rw [cell_atL Z0.out.bx, hX.out]; rfl
              clear hr0 cg0
              go_upto_region 19 with fail
              clear z0
              go_region_held3 (fun wx => wx.cell? ⟨b, 0, none⟩ = some (.slice (some ⟨gt, 0, none⟩) NT NT) ∧ wx.cell? ⟨q, 0, none⟩ = some (.slice ta nt tc)) (first | go_keep | assumption | exact ⟨u00, u0q0⟩) (fail)
              clear d00 d0q0 d01 d0q1 d02 d0q2 cp0
              clear u00 u0q0 u01 u0q1 u02 u0q2
              obtain ⟨v1, cp1, hr1, cg1⟩ := run_copyF v0.drew 3 gf NF NF fa nf fc (beh beF 0 NF) F [] (Z0.out.dr1.ln.f) hnf.out.symm (HMS.out _ Z0.out.dr1.ch).f kF (by rw [beh_len]; exact kF)
              rw [beh_drop] at hr1
              have Z1 : Hid (LyS w v1 b gt gf gd q (T ++ beh beI nt (NT - nt)) (F ++ beh beF nf (NF - nf)) (beh beD 0 ND) X) := hidOf (Z0.out.dr1.f' cg1 hr1 (by rw [List.length_append, beh_len, beh_len, ← hnf.out]; omega))
              have d10 : v0.cell? ⟨b, 0, none⟩ = some (.slice (some ⟨gt, 0, none⟩) NT NT) := by
                have hl : (T ++ beh beI nt (NT - nt)).length = NT := by rw [List.length_append, beh_len, ← hnt.out]; omega
                have hh := cell_atL Z0.out.ln.box 0
                rw [hl] at hh
                exact hh
              have d1q0 : v0.cell? ⟨q, 0, none⟩ = some (.slice ta nt tc) := by rw [cell_atL Z0.out.bx, hX.out]; rfl
              have d11 : v0.cell? ⟨b, 1, none⟩ = some (.slice (some ⟨gf, 0, none⟩) NF NF) := by
                have hl : (beh beF 0 NF).length = NF := by rw [beh_len]
                have hh := cell_atL Z0.out.ln.box 1
                rw [hl] at hh
                exact hh
              have d1q1 : v0.cell? ⟨q, 1, none⟩ = some (.slice fa nf fc) := by rw [cell_atL Z0.out.bx, hX.out]; rfl
              have d12 : v0.cell? ⟨b, 2, none⟩ = some (.slice (some ⟨gd, 0, none⟩) ND ND) := by
                have hl : (beh beD 0 ND).length = ND := by rw [beh_len]
                have hh := cell_atL Z0.out.ln.box 2
                rw [hl] at hh
                exact hh
              have d1q2 : v0.cell? ⟨q, 2, none⟩ = some (.slice da nd dc) := by rw [cell_atL Z0.out.bx, hX.out]; rfl
              have u10 : v1.cell? ⟨b, 0, none⟩ = some (.slice (some ⟨gt, 0, none⟩) NT NT) := by
                have hl : (T ++ beh beI nt (NT - nt)).length = NT := by rw [List.length_append, beh_len, ← hnt.out]; omega
                have hh := cell_atL Z1.out.ln.box 0
                rw [hl] at hh
                exact hh
              have u1q0 : v1.cell? ⟨q, 0, none⟩ = some (.slice ta nt tc) := by rw [cell_atL Z1.out.bx, hX.out]; rfl
              have u11 : v1.cell? ⟨b, 1, none⟩ = some (.slice (some ⟨gf, 0, none⟩) NF NF) := by
                have hl : (F ++ beh beF nf (NF - nf)).length = NF := by rw [List.length_append, beh_len, ← hnf.out]; omega
                have hh := cell_atL Z1.out.ln.box 1
                rw [hl] at hh
                exact hh
              have u1q1 : v1.cell? ⟨q, 1, none⟩ = some (.slice fa nf fc) := by rw [cell_atL Z1.out.bx, hX.out]; rfl
              have u12 : v1.cell? ⟨b, 2, none⟩ = some (.slice (some ⟨gd, 0, none⟩) ND ND) := by
                have hl : (beh beD 0 ND).length = ND := by rw [beh_len]
                have hh := cell_atL Z1.out.ln.box 2
                rw [hl] at hh
                exact hh
              have u1q2 : v1.cell? ⟨q, 2, none⟩ = some (.slice da nd dc) := by rw [cell_atL Z1.out.bx, hX.out]; rfl
              clear hr1 cg1
              go_upto_region 20 with fail
              go_region_held3 (fun wx => wx.cell? ⟨b, 1, none⟩ = some (.slice (some ⟨gf, 0, none⟩) NF NF) ∧ wx.cell? ⟨q, 1, none⟩ = some (.slice fa nf fc)) (first | go_keep | assumption | exact ⟨u11, u1q1⟩) (fail)
              clear d10 d1q0 d11 d1q1 d12 d1q2 cp1
              clear u10 u1q0 u11 u1q1 u12 u1q2
              obtain ⟨v2, cp2, hr2, cg2⟩ := run_copyD v1.drew 3 gd ND ND da nd dc (beh beD 0 ND) D [] (Z1.out.dr1.ln.d) hnd.out.symm (HMS.out _ Z1.out.dr1.ch).d kD (by rw [beh_len]; exact kD)
              rw [beh_drop] at hr2
              have Z2 : Hid (LyS w v2 b gt gf gd q (T ++ beh beI nt (NT - nt)) (F ++ beh beF nf (NF - nf)) (D ++ beh beD nd (ND - nd)) X) := hidOf (Z1.out.dr1.d' cg2 hr2 (by rw [List.length_append, beh_len, beh_len, ← hnd.out]; omega))
              have d20 : v1.cell? ⟨b, 0, none⟩ = some (.slice (some ⟨gt, 0, none⟩) NT NT) := by
                have hl : (T ++ beh beI nt (NT - nt)).length = NT := by rw [List.length_append, beh_len, ← hnt.out]; omega
                have hh := cell_atL Z1.out.ln.box 0
                rw [hl] at hh
                exact hh
              have d2q0 : v1.cell? ⟨q, 0, none⟩ = some (.slice ta nt tc) := by rw [cell_atL Z1.out.bx, hX.out]; rfl
              have d21 : v1.cell? ⟨b, 1, none⟩ = some (.slice (some ⟨gf, 0, none⟩) NF NF) := by
                have hl : (F ++ beh beF nf (NF - nf)).length = NF := by rw [List.length_append, beh_len, ← hnf.out]; omega
                have hh := cell_atL Z1.out.ln.box 1
                rw [hl] at hh
                exact hh
              have d2q1 : v1.cell? ⟨q, 1, none⟩ = some (.slice fa nf fc) := by rw [cell_atL Z1.out.bx, hX.out]; rfl
              have d22 : v1.cell? ⟨b, 2, none⟩ = some (.slice (some ⟨gd, 0, none⟩) ND ND) := by
                have hl : (beh beD 0 ND).length = ND := by rw [beh_len]
                have hh := cell_atL Z1.out.ln.box 2
                rw [hl] at hh
                exact hh
              have d2q2 : v1.cell? ⟨q, 2, none⟩ = some (.slice da nd dc) := by rw [cell_atL Z1.out.bx, hX.out]; rfl
              have u20 : v2.cell? ⟨b, 0, none⟩ = some (.slice (some ⟨gt, 0, none⟩) NT NT) := by
                have hl : (T ++ beh beI nt (NT - nt)).length = NT := by rw [List.length_append, beh_len, ← hnt.out]; omega
                have hh := cell_atL Z2.out.ln.box 0
                rw [hl] at hh
                exact hh
              have u2q0 : v2.cell? ⟨q, 0, none⟩ = some (.slice ta nt tc) := by rw [cell_atL Z2.out.bx, hX.out]; rfl
              have u21 : v2.cell? ⟨b, 1, none⟩ = some (.slice (some ⟨gf, 0, none⟩) NF NF) := by
                have hl : (F ++ beh beF nf (NF - nf)).length = NF := by rw [List.length_append, beh_len, ← hnf.out]; omega
                have hh := cell_atL Z2.out.ln.box 1
                rw [hl] at hh
                exact hh
              have u2q1 : v2.cell? ⟨q, 1, none⟩ = some (.slice fa nf fc) := by rw [cell_atL Z2.out.bx, hX.out]; rfl
              have u22 : v2.cell? ⟨b, 2, none⟩ = some (.slice (some ⟨gd, 0, none⟩) ND ND) := by
                have hl : (D ++ beh beD nd (ND - nd)).length = ND := by rw [List.length_append, beh_len, ← hnd.out]; omega
                have hh := cell_atL Z2.out.ln.box 2
                rw [hl] at hh
                exact hh
              have u2q2 : v2.cell? ⟨q, 2, none⟩ = some (.slice da nd dc) := by rw [cell_atL Z2.out.bx, hX.out]; rfl
              clear hr2 cg2
              go_upto_region 21 with fail
              go_region_held3 (fun wx => wx.cell? ⟨b, 2, none⟩ = some (.slice (some ⟨gd, 0, none⟩) ND ND) ∧ wx.cell? ⟨q, 2, none⟩ = some (.slice da nd dc)) (first | go_keep | assumption | exact ⟨u22, u2q2⟩) (fail)
              clear d20 d2q0 d21 d2q1 d22 d2q2 cp2
              have uq3 : v2.cell? ⟨q, 3, none⟩ = some (.int .i64 en) := by rw [cell_atL Z2.out.bx, hX.out]; rfl
              have r0 : v2.cell? ⟨q + 1, 0, none⟩ = some (.slice none 0 0) := by rw [cell_atL Z2.out.rs]; rfl
              have fz0 := frozen_atL Z2.out.rs 0
              have r1 : v2.cell? ⟨q + 1, 1, none⟩ = some (.slice none 0 0) := by rw [cell_atL Z2.out.rs]; rfl
              have fz1 := frozen_atL Z2.out.rs 1
              have r2 : v2.cell? ⟨q + 1, 2, none⟩ = some (.slice none 0 0) := by rw [cell_atL Z2.out.rs]; rfl
              have fz2 := frozen_atL Z2.out.rs 2
              have r3 : v2.cell? ⟨q + 1, 3, none⟩ = some (.int .i64 0) := by rw [cell_atL Z2.out.rs]; rfl
              have fz3 := frozen_atL Z2.out.rs 3
              have nb1 : ¬ b = q + 1 := fun e => Z2.out.rn (.inl e.symm)
              have nb2 : ¬ q = q + 1 := by omega
              have nb3 : ¬ q + 1 = b := fun e => nb1 e.symm
              go_upto_region 22 with fail
              go_region_held3 (fun wx => wx.cell? ⟨b, 0, none⟩ = some (.slice (some ⟨gt, 0, none⟩) NT NT) ∧ wx.cell? ⟨q, 0, none⟩ = some (.slice ta nt tc) ∧ wx.cell? ⟨b, 1, none⟩ = some (.slice (some ⟨gf, 0, none⟩) NF NF) ∧ wx.cell? ⟨q, 1, none⟩ = some (.slice fa nf fc) ∧ wx.cell? ⟨b, 2, none⟩ = some (.slice (some ⟨gd, 0, none⟩) ND ND) ∧ wx.cell? ⟨q, 2, none⟩ = some (.slice da nd dc) ∧ wx.cell? ⟨q, 3, none⟩ = some (.int .i64 en)) (go_keep) (fail)
              go_wp2
              refine bodyPost_ret (results_cell_row rfl _ _ (q + 1) 26 _ (0, 0) _ rfl (blk_setR (blk_setR (blk_setR (blk_setR Z2.out.rs 0 _) 1 _) 2 _) 3 _) Tryd.underlying26 rfl (by kernel_rfl)) rfl ?_
              have CF : ∀ y0 y1 y2 y3, Chg (LnS b gt gf gd) w ((((v2.setCell ⟨q + 1, 0, none⟩ y0).setCell ⟨q + 1, 1, none⟩ y1).setCell ⟨q + 1, 2, none⟩ y2).setCell ⟨q + 1, 3, none⟩ y3).drew ∧ LnR ((((v2.setCell ⟨q + 1, 0, none⟩ y0).setCell ⟨q + 1, 1, none⟩ y1).setCell ⟨q + 1, 2, none⟩ y2).setCell ⟨q + 1, 3, none⟩ y3).drew b gt gf gd (T ++ beh beI nt (NT - nt)) (F ++ beh beF nf (NF - nf)) (D ++ beh beD nd (ND - nd)) := fun y0 y1 y2 y3 => by
                have c := (Chg.put4 (S := fun k => k = q + 1) (Chg.refl _ v2) rfl 0 1 2 3 y0 y1 y2 y3).drew
                exact ⟨Z2.out.ch.trans c (fun x hx hl => by rw [← hq.out] at hl; omega), Z2.out.ln.keep c (fun k hk e => Z2.out.rn (e ▸ hk))⟩
              rw [show 3 * nt + 140 = NT - nt by rw [hNT.out]; omega, show 3 * nf + 140 = NF - nf by rw [hNF.out]; omega, show 3 * nd + 140 = ND - nd by rw [hND.out]; omega]
              exact ⟨rfl, (CF _ _ _ _).2, (CF _ _ _ _).1⟩
end Go.Proofs.YtfmcoffmgdcciaaDoor
namespace Go.Proofs.YtfmcoffmgdcciaaDoor
open Go.RowKit
set_option linter.unusedVariables false
set_option linter.unusedSimpArgs false
theorem set1of5 (A C : List Value) (y0 y1 y2 y3 y4 x4 : Value) (k : Nat) (hk : A.length = k) : (A ++ ([y0, y1, y2, y3, y4] ++ C)).set (k + 4) x4 = A ++ ([y0, y1, y2, y3, x4] ++ C) := by
  subst hk
  simp [List.set_append]
theorem RowI.last {w : World} {g : Nat} {L : List Ins} {R : List Value} (h : RowI w g L R) {i : Nat} {x : Ins} (hx : L[i]? = some x) (v : Int) : RowI (w.setCell ⟨g, i * 5 + 4, none⟩ (.int .i64 v)) g (L.set i { x with i := v }) R := by
  have h5 := blk_setR (show w.heap[g]? = _ from h) (i * 5 + 4) (.int .i64 v)
  have hi : i < L.length := (List.getElem?_eq_some_iff.1 hx).1
  unfold RowI
  rw [h5]
  simp only [List.setIfInBounds_toArray]
  have e1 : rowI L ++ R = rowI (L.take i) ++ ([.int .i64 x.o, .int .i64 x.d, .int .i64 x.s, .int .i64 x.f, .int .i64 x.i] ++ (rowI (L.drop (i + 1)) ++ R)) := by
    conv => lhs; rw [split_atK L i x hx]
    rw [rowI_app, List.append_assoc]; rfl
  have e2 : rowI (L.set i { x with i := v }) ++ R = rowI (L.take i) ++ ([.int .i64 x.o, .int .i64 x.d, .int .i64 x.s, .int .i64 x.f, .int .i64 v] ++ (rowI (L.drop (i + 1)) ++ R)) := by
    rw [List.set_eq_take_append_cons_drop, if_pos hi, rowI_app, List.append_assoc]; rfl
  have hl : (rowI (L.take i)).length = i * 5 := by rw [rowI_len, List.length_take, Nat.min_eq_left (by omega)]
  rw [e1, e2, set1of5 _ _ _ _ _ _ _ _ (i * 5) hl]
theorem RowD.last {w : World} {g : Nat} {L : List Td} {R : List Value} (h : RowD w g L R) {i : Nat} {x : Td} (hx : L[i]? = some x) (v : Int) : RowD (w.setCell ⟨g, i * 5 + 4, none⟩ (.int .i64 v)) g (L.set i { x with en := v }) R := by
  have h5 := blk_setR (show w.heap[g]? = _ from h) (i * 5 + 4) (.int .i64 v)
  have hi : i < L.length := (List.getElem?_eq_some_iff.1 hx).1
  unfold RowD
  rw [h5]
  simp only [List.setIfInBounds_toArray]
  have e1 : rowD L ++ R = rowD (L.take i) ++ ([.string ⟨x.nm.toArray⟩, .int .i64 x.kd, .int .i64 x.ky, .int .i64 x.vl, .int .i64 x.en] ++ (rowD (L.drop (i + 1)) ++ R)) := by
    conv => lhs; rw [split_atK L i x hx]
    rw [rowD_app, List.append_assoc]; rfl
  have e2 : rowD (L.set i { x with en := v }) ++ R = rowD (L.take i) ++ ([.string ⟨x.nm.toArray⟩, .int .i64 x.kd, .int .i64 x.ky, .int .i64 x.vl, .int .i64 v] ++ (rowD (L.drop (i + 1)) ++ R)) := by
    rw [List.set_eq_take_append_cons_drop, if_pos hi, rowD_app, List.append_assoc]; rfl
  have hl : (rowD (L.take i)).length = i * 5 := by rw [rowD_len, List.length_take, Nat.min_eq_left (by omega)]
  rw [e1, e2, set1of5 _ _ _ _ _ _ _ _ (i * 5) hl]
theorem map_set {α : Type} (f : α → α) (L : List α) (j : Nat) (x : α) (h : L[j]? = some x) : ((L.take j).map f ++ L.drop j).set j (f x) = (L.take (j + 1)).map f ++ L.drop (j + 1) ∧ ((L.take j).map f ++ L.drop j)[j]? = some x := by
  have hj : j < L.length := (List.getElem?_eq_some_iff.1 h).1
  have hl : ((L.take j).map f).length = j := by rw [List.length_map, List.length_take]; omega
  have hx : L[j] = x := by rw [List.getElem?_eq_getElem hj] at h; exact Option.some.inj h
  constructor
  · rw [List.set_append_right _ _ (by omega), hl, Nat.sub_self, List.drop_eq_getElem_cons hj, List.set_cons_zero, List.take_add_one, h]
    simp
  · rw [List.getElem?_append_right (by omega), hl, Nat.sub_self, List.getElem?_drop, Nat.add_zero]
    exact h
theorem own_cap17 {B n sz cp : Nat} {w : World} {e : TypeId} {a : Option Addr} {xs : List Value} (h : w.ownsRow B e sz (.slice a n cp) n xs) : n ≤ cp := by
  obtain ⟨hl, ⟨hv, hn⟩ | ⟨g, cap, cur, hv, hb, hg, hc, hm, hs, ht⟩⟩ := h
  · omega
  · cases hv; exact hc
set_option maxRecDepth 8000 in
set_option maxHeartbeats 4000000 in
theorem copyImage_any (m : Img) (w : World) (ta fa da : Option Addr) (tc fc dc : Nat) (h : ImS w ta fa da m) (hT : m.T.length ≤ 1048576) (hF : m.F.length ≤ 1048576) (hD : m.D.length ≤ 1048576) : Calls Tryd.prog 14 #[.agg #[.slice ta m.T.length tc, .slice fa m.F.length fc, .slice da m.D.length dc, .int .i64 m.en]] w fun e w' => ∃ a2 c2 a3 c3 a4 c4, e = .returned (.agg #[.slice a2 m.T.length c2, .slice a3 m.F.length c3, .slice a4 m.D.length c4, .int .i64 m.en]) ∧ w'.ownsRow w.heap.size 40 5 (.slice a2 m.T.length c2) m.T.length (rowI m.T) ∧ w'.ownsRow w.heap.size 59 4 (.slice a3 m.F.length c3) m.F.length (rowF m.F) ∧ w'.ownsRow w.heap.size 42 5 (.slice a4 m.D.length c4) m.D.length (rowD m.D) ∧ Out w w' := by
  have C1 : Hid (∀ wx, Out w wx → Calls Tryd.prog 28 #[.slice ta m.T.length tc] wx fun e w' => ∃ a' c', e = .returned (.slice a' m.T.length c') ∧ w'.ownsRow wx.heap.size 40 5 (.slice a' m.T.length c') m.T.length (rowI m.T) ∧ Out wx w') := hidOf fun wx o => copyI17 wx ta _ tc m.T rfl (h.t.out o) (by omega)
  have C2 : Hid (∀ wx, Out w wx → Calls Tryd.prog 29 #[.slice fa m.F.length fc] wx fun e w' => ∃ a' c', e = .returned (.slice a' m.F.length c') ∧ w'.ownsRow wx.heap.size 59 4 (.slice a' m.F.length c') m.F.length (rowF m.F) ∧ Out wx w') := hidOf fun wx o => copyF17 wx fa _ fc m.F rfl (h.f.out o) (by omega)
  have C3 : Hid (∀ wx, Out w wx → Calls Tryd.prog 30 #[.slice da m.D.length dc] wx fun e w' => ∃ a' c', e = .returned (.slice a' m.D.length c') ∧ w'.ownsRow wx.heap.size 42 5 (.slice a' m.D.length c') m.D.length (rowD m.D) ∧ Out wx w') := hidOf fun wx o => copyD17 wx da _ dc m.D rfl (h.d.out o) (by omega)
  clear h hT hF hD
  obtain ⟨T, F, D, en⟩ := m
  dsimp only at *
  obtain ⟨nt, hnt⟩ : ∃ n, Hid (n = T.length) := ⟨_, rfl⟩
  obtain ⟨nf, hnf⟩ : ∃ n, Hid (n = F.length) := ⟨_, rfl⟩
  obtain ⟨nd, hnd⟩ : ∃ n, Hid (n = D.length) := ⟨_, rfl⟩
  rw [← hnt.out] at C1 ⊢
  rw [← hnf.out] at C2 ⊢
  rw [← hnd.out] at C3 ⊢
  obtain ⟨q, hq⟩ : ∃ q, Hid (q = w.heap.size) := ⟨_, rfl⟩
  obtain ⟨wA, hwA⟩ : ∃ wA, Hid (wA = (w.alloc (.cells #[.slice ta nt tc, .slice fa nf fc, .slice da nd dc, .int .i64 en] 26)).alloc (.cells #[.slice none 0 0, .slice none 0 0, .slice none 0 0, .int .i64 0] 26)) := ⟨_, rfl⟩
  have OA : Hid (Out w wA) := hidOf (by rw [hwA.out]; exact Out.alloc (Out.alloc (Out.refl _) _) _)
  have bxA : Hid (wA.heap[q]? = some (.cells #[.slice ta nt tc, .slice fa nf fc, .slice da nd dc, .int .i64 en] 26 (0, 0))) := hidOf (by rw [hwA.out, hq.out]; exact blk_al (heap_alloc_new w _) _)
  have rsA : Hid (wA.heap[q + 1]? = some (.cells #[.slice none 0 0, .slice none 0 0, .slice none 0 0, .int .i64 0] 26 (0, 0))) := hidOf (by
    have := heap_alloc_new (w.alloc (.cells #[.slice ta nt tc, .slice fa nf fc, .slice da nd dc, .int .i64 en] 26)) (.cells #[.slice none 0 0, .slice none 0 0, .slice none 0 0, .int .i64 0] 26)
    rw [size_alloc, ← hwA.out, ← hq.out] at this; exact this)
  have BX : Hid (∀ wx, Out wA wx → wx.cell? ⟨q, 0, none⟩ = some (.slice ta nt tc) ∧ wx.cell? ⟨q, 1, none⟩ = some (.slice fa nf fc) ∧ wx.cell? ⟨q, 2, none⟩ = some (.slice da nd dc) ∧ wx.cell? ⟨q, 3, none⟩ = some (.int .i64 en)) := hidOf fun wx o => by
    have hb : wx.heap[q]? = _ := (o.block q (Array.getElem?_eq_some_iff.1 bxA.out).1).trans bxA.out
    exact ⟨by rw [cell_atL hb]; rfl, by rw [cell_atL hb]; rfl, by rw [cell_atL hb]; rfl, by rw [cell_atL hb]; rfl⟩
  have RS : Hid (∀ wx, Out wA wx → wx.heap[q + 1]? = some (.cells #[.slice none 0 0, .slice none 0 0, .slice none 0 0, .int .i64 0] 26 (0, 0))) := hidOf fun wx o => (o.block (q + 1) (Array.getElem?_eq_some_iff.1 rsA.out).1).trans rsA.out
  have szA : Hid (wA.heap.size = q + 2) := hidOf (by rw [hwA.out, size_alloc, size_alloc, hq.out])
  obtain ⟨i0, i1, i2, i3⟩ := BX.out wA (Out.refl _)
  have nb2 : ¬ q = q + 1 := by omega
  go_enter Tryd.func14, Tryd.ntmps14
  go_upto_region 1 with fail
  rw [← hwA.out, ← hq.out]
  clear bxA rsA hwA
  go_region_held3 (fun wx => wx.cell? ⟨q, 0, none⟩ = some (.slice ta nt tc) ∧ wx.cell? ⟨q, 1, none⟩ = some (.slice fa nf fc) ∧ wx.cell? ⟨q, 2, none⟩ = some (.slice da nd dc) ∧ wx.cell? ⟨q, 3, none⟩ = some (.int .i64 en)) (first | go_keep | assumption | exact X2 | exact X3 | exact X4) (first
    | (go_at_call 28; refine (C1.out _ (by first | exact OA.out | exact Out.drew OA.out | exact Out.drewN OA.out _)).mono ?_; rintro e w2 ⟨a2, c2, rfl, ow2, o2⟩; have P2 : Hid (Out wA w2) := hidOf (by first | exact o2 | exact Out.trans (Out.drew (Out.refl _)) o2 | exact Out.trans (Out.drewN (Out.refl _) _) o2); have W2 := hidOf ow2; have X2 := BX.out w2 P2.out; clear ow2 o2)
    | (go_at_call 29; refine (C2.out _ (OA.out.trans P2.out)).mono ?_; rintro e w3 ⟨a3, c3, rfl, ow3, o3⟩; have P3 := hidOf (P2.out.trans o3); have Q3 := hidOf o3; have W3 := hidOf ow3; have X3 := BX.out w3 P3.out; clear ow3 o3)
    | (go_at_call 30; refine (C3.out _ (OA.out.trans P3.out)).mono ?_; rintro e w4 ⟨a4, c4, rfl, ow4, o4⟩; have P4 := hidOf (P3.out.trans o4); have Q4 := hidOf o4; have W4 := hidOf ow4; have X4 := BX.out w4 P4.out; have r0 : w4.cell? ⟨q + 1, 0, none⟩ = some (.slice none 0 0) := (by rw [cell_atL (RS.out w4 P4.out)]; rfl); have r1 : w4.cell? ⟨q + 1, 1, none⟩ = some (.slice none 0 0) := (by rw [cell_atL (RS.out w4 P4.out)]; rfl); have r2 : w4.cell? ⟨q + 1, 2, none⟩ = some (.slice none 0 0) := (by rw [cell_atL (RS.out w4 P4.out)]; rfl); have r3 : w4.cell? ⟨q + 1, 3, none⟩ = some (.int .i64 0) := (by rw [cell_atL (RS.out w4 P4.out)]; rfl); have z0 := frozen_atL (RS.out w4 P4.out) 0; have z1 := frozen_atL (RS.out w4 P4.out) 1; have z2 := frozen_atL (RS.out w4 P4.out) 2; have z3 := frozen_atL (RS.out w4 P4.out) 3; clear ow4 o4))
  go_wp2
  refine bodyPost_ret (results_cell_row rfl _ _ (q + 1) 26 _ (0, 0) _ rfl (blk_setR (blk_setR (blk_setR (blk_setR (RS.out w4 P4.out) 0 _) 1 _) 2 _) 3 _) Tryd.underlying26 rfl (by kernel_rfl)) rfl ?_
  have cF : ∀ y0 y1 y2 y3, Chg (fun k => k = q + 1) w4 ((((w4.setCell ⟨q + 1, 0, none⟩ y0).setCell ⟨q + 1, 1, none⟩ y1).setCell ⟨q + 1, 2, none⟩ y2).setCell ⟨q + 1, 3, none⟩ y3) := fun y0 y1 y2 y3 => Chg.put4 (S := fun k => k = q + 1) (Chg.refl _ w4) rfl 0 1 2 3 y0 y1 y2 y3
  have zA := szA.out
  have z2' := P2.out.size
  have z3' := P3.out.size
  refine ⟨a2, c2, a3, c3, a4, c4, rfl, ?_, ?_, ?_, ?_⟩
  · refine owns_base17 (owns_chg (owns_chg (S := fun _ => False) W2.out (fun _ _ h => h) (Chg.of_out (Q3.out.trans Q4.out))) (fun k hk e => ?_) (cF _ _ _ _)) ?_
    · have h1 : wA.heap.size ≤ k := (W2.out.lt k hk).1
      omega
    · show w.heap.size ≤ wA.heap.size
      rw [← hq.out]; omega
  · refine owns_base17 (owns_chg (owns_chg (S := fun _ => False) W3.out (fun _ _ h => h) (Chg.of_out Q4.out)) (fun k hk e => ?_) (cF _ _ _ _)) ?_
    · have h1 : w2.heap.size ≤ k := (W3.out.lt k hk).1
      omega
    · rw [← hq.out]; omega
  · refine owns_base17 (owns_chg W4.out (fun k hk e => ?_) (cF _ _ _ _)) ?_
    · have h1 : w3.heap.size ≤ k := (W4.out.lt k hk).1
      omega
    · rw [← hq.out]; omega
  · exact Chg.out (cF _ _ _ _) (OA.out.trans P4.out) (fun k hk => by rw [← hq.out]; omega)
def tI (x : Ins) : Ins := { x with i := bits BinOp.xor IntKind.i64 x.i 1 }
def tD (x : Td) : Td := { x with en := bits BinOp.xor IntKind.i64 x.en 1 }
def turnM (m : Img) : Img := ⟨m.T.map tI, m.F, m.D.map tD, m.en⟩
/-- what turned leaves -/
def TrnE (m : Img) (w : World) (e : Ending) (w' : World) : Prop := ∃ a2 c2 a3 c3 a4 c4, e = .returned (.agg #[.slice a2 m.T.length c2, .slice a3 m.F.length c3, .slice a4 m.D.length c4, .int .i64 m.en]) ∧ ImS w' a2 a3 a4 (turnM m) ∧ m.T.length ≤ c2 ∧ (∀ ad, a2 = some ad → w.heap.size ≤ ad.block) ∧ (∀ ad, a3 = some ad → w.heap.size ≤ ad.block) ∧ (∀ ad, a4 = some ad → w.heap.size ≤ ad.block) ∧ Out w w'
set_option maxRecDepth 8000 in
set_option maxHeartbeats 4000000 in
theorem turned_any (m : Img) (w : World) (ta fa da : Option Addr) (tc fc dc : Nat) (h : ImS w ta fa da m) (hT : m.T.length ≤ 1048576) (hF : m.F.length ≤ 1048576) (hD : m.D.length ≤ 1048576) : Calls Tryd.prog 6 #[.agg #[.slice ta m.T.length tc, .slice fa m.F.length fc, .slice da m.D.length dc, .int .i64 m.en]] w (TrnE m w) := by
  have CC : Hid (∀ wx, Out w wx → Calls Tryd.prog 14 #[.agg #[.slice ta m.T.length tc, .slice fa m.F.length fc, .slice da m.D.length dc, .int .i64 m.en]] wx fun e w' => ∃ a2 c2 a3 c3 a4 c4, e = .returned (.agg #[.slice a2 m.T.length c2, .slice a3 m.F.length c3, .slice a4 m.D.length c4, .int .i64 m.en]) ∧ w'.ownsRow wx.heap.size 40 5 (.slice a2 m.T.length c2) m.T.length (rowI m.T) ∧ w'.ownsRow wx.heap.size 59 4 (.slice a3 m.F.length c3) m.F.length (rowF m.F) ∧ w'.ownsRow wx.heap.size 42 5 (.slice a4 m.D.length c4) m.D.length (rowD m.D) ∧ Out wx w') := hidOf fun wx o => copyImage_any m wx ta fa da tc fc dc (h.out o) hT hF hD
  clear h
  obtain ⟨T, F, D, en⟩ := m
  dsimp only at *
  obtain ⟨nt, hnnt⟩ : ∃ n, Hid (n = T.length) := ⟨_, rfl⟩
  obtain ⟨nf, hnnf⟩ : ∃ n, Hid (n = F.length) := ⟨_, rfl⟩
  obtain ⟨nd, hnnd⟩ : ∃ n, Hid (n = D.length) := ⟨_, rfl⟩
  rw [← hnnt.out, ← hnnf.out, ← hnnd.out] at CC
  obtain ⟨E, hE⟩ : ∃ E, Hid (E = TrnE ⟨T, F, D, en⟩ w) := ⟨_, rfl⟩
  rw [← hE.out, ← hnnt.out, ← hnnf.out, ← hnnd.out]
  rw [← hnnt.out] at hT
  rw [← hnnd.out] at hD
  obtain ⟨q, hq⟩ : ∃ q, Hid (q = w.heap.size) := ⟨_, rfl⟩
  obtain ⟨wA, hwA⟩ : ∃ wA, Hid (wA = (w.alloc (.cells #[.slice ta nt tc, .slice fa nf fc, .slice da nd dc, .int .i64 en] 26)).alloc (.cells #[.slice none 0 0, .slice none 0 0, .slice none 0 0, .int .i64 0] 26)) := ⟨_, rfl⟩
  have OA : Hid (Out w wA) := hidOf (by rw [hwA.out]; exact Out.alloc (Out.alloc (Out.refl _) _) _)
  have bxA : wA.heap[q]? = some (.cells #[.slice ta nt tc, .slice fa nf fc, .slice da nd dc, .int .i64 en] 26 (0, 0)) := by rw [hwA.out, hq.out]; exact blk_al (heap_alloc_new w _) _
  have rsA : Hid (wA.heap[q + 1]? = some (.cells #[.slice none 0 0, .slice none 0 0, .slice none 0 0, .int .i64 0] 26 (0, 0))) := hidOf (by
    have := heap_alloc_new (w.alloc (.cells #[.slice ta nt tc, .slice fa nf fc, .slice da nd dc, .int .i64 en] 26)) (.cells #[.slice none 0 0, .slice none 0 0, .slice none 0 0, .int .i64 0] 26)
    rw [size_alloc, ← hwA.out, ← hq.out] at this; exact this)
  have szA : Hid (wA.heap.size = q + 2) := hidOf (by rw [hwA.out, size_alloc, size_alloc, hq.out])
  have i0 : wA.cell? ⟨q, 0, none⟩ = some (.slice ta nt tc) := by rw [cell_atL bxA]; rfl
  have i1 : wA.cell? ⟨q, 1, none⟩ = some (.slice fa nf fc) := by rw [cell_atL bxA]; rfl
  have i2 : wA.cell? ⟨q, 2, none⟩ = some (.slice da nd dc) := by rw [cell_atL bxA]; rfl
  have i3 : wA.cell? ⟨q, 3, none⟩ = some (.int .i64 en) := by rw [cell_atL bxA]; rfl
  clear bxA
  go_enter Tryd.func6, Tryd.ntmps6
  go_upto_region 1 with fail
  rw [← hwA.out, ← hq.out]
  go_upto_region 2 with (go_at_call 14; refine (CC.out _ OA.out).mono ?_; rintro e w2 ⟨a2, c2, a3, c3, a4, c4, rfl, ow2, ow3, ow4, o2⟩)
  obtain ⟨cb, hcb⟩ : ∃ c, Hid (c = w2.heap.size) := ⟨_, rfl⟩
  obtain ⟨wB, hwB⟩ : ∃ wx, Hid (wx = w2.alloc (.cells #[.slice a2 nt c2, .slice a3 nf c3, .slice a4 nd c4, .int .i64 en] 26)) := ⟨_, rfl⟩
  rw [← hwB.out, ← hcb.out]
  have O2B : Out w2 wB := by rw [hwB.out]; exact Out.alloc (Out.refl _) _
  have OB := hidOf (o2.trans O2B)
  have zz : q + 2 ≤ cb := by rw [hcb.out, ← szA.out]; exact o2.size
  have bxB : wB.heap[cb]? = some (.cells #[.slice a2 nt c2, .slice a3 nf c3, .slice a4 nd c4, .int .i64 en] 26 (0, 0)) := by rw [hwB.out, hcb.out]; exact heap_alloc_new w2 _
  have x0 : wB.cell? ⟨cb, 0, none⟩ = some (.slice a2 nt c2) := by rw [cell_atL bxB]; rfl
  have x2 : wB.cell? ⟨cb, 2, none⟩ = some (.slice a4 nd c4) := by rw [cell_atL bxB]; rfl
  have HB := hidOf bxB
  have rsB := hidOf ((OB.out.block (q + 1) (Array.getElem?_eq_some_iff.1 rsA.out).1).trans rsA.out)
  have W2 := hidOf (owns_chg (S := fun _ => False) ow2 (fun _ _ h => h) (Chg.of_out O2B))
  have W3 := hidOf (owns_chg (S := fun _ => False) ow3 (fun _ _ h => h) (Chg.of_out O2B))
  have W4 := hidOf (owns_chg (S := fun _ => False) ow4 (fun _ _ h => h) (Chg.of_out O2B))
  have hcap : Hid (nt ≤ c2) := hidOf (own_cap17 ow2)
  obtain ⟨gT, RT, HT⟩ : ∃ g R, Hid (T = [] ∨ (a2 = some ⟨g, 0, none⟩ ∧ RowI wB g T R ∧ q + 2 ≤ g ∧ g < cb)) := by
    rcases own_rowI ow2 hnnt.out.symm with ⟨_, h0⟩ | ⟨g, R, ha, hr, hg⟩
    · exact ⟨0, [], hidOf (.inl h0)⟩
    · exact ⟨g, R, hidOf (.inr ⟨ha, hr.out O2B, by rw [← szA.out]; exact hg, by rw [hcb.out]; exact hr.lt⟩)⟩
  obtain ⟨gD, RD, HD⟩ : ∃ g R, Hid (D = [] ∨ (a4 = some ⟨g, 0, none⟩ ∧ RowD wB g D R ∧ q + 2 ≤ g ∧ g < cb)) := by
    rcases own_rowD ow4 hnnd.out.symm with ⟨_, h0⟩ | ⟨g, R, ha, hr, hg⟩
    · exact ⟨0, [], hidOf (.inl h0)⟩
    · exact ⟨g, R, hidOf (.inr ⟨ha, hr.out O2B, by rw [← szA.out]; exact hg, by rw [hcb.out]; exact hr.lt⟩)⟩
  have NT : Hid (¬ T = [] → ∀ k, k < q + 2 ∨ cb ≤ k → ¬ k = gT) := hidOf fun hne k hk e => by
    obtain ⟨_, _, h1, h2⟩ := HT.out.resolve_left hne
    omega
  have ND : Hid (¬ D = [] → ∀ k, k < q + 2 ∨ cb ≤ k → ¬ k = gD) := hidOf fun hne k hk e => by
    obtain ⟨_, _, h1, h2⟩ := HD.out.resolve_left hne
    omega
  clear ow2 ow3 ow4 o2 O2B bxB i0 i1 i2 i3
  go_wp2
  go_loopw [4] (fun v wr => ∃ j : Nat, j ≤ nt ∧ v = .int .i64 j ∧ Hid (T = [] ∨ RowI wr gT ((T.take j).map tI ++ T.drop j) RT) ∧ Hid (Chg (fun k => ¬ T = [] ∧ k = gT) wB wr)) (fun v _ => nt - (intOf v).toNat)
  case atStart => exact ⟨0, by omega, rfl, hidOf (by simpa using HT.out.imp id (fun h => h.2.1)), hidOf (Chg.refl _ _)⟩
  case round =>
    obtain ⟨j, hj, rfl, HR, HC⟩ := hrel
    have y0 : wr.cell? ⟨cb, 0, none⟩ = some (.slice a2 nt c2) := HC.out.cell x0 (fun h => NT.out h.1 cb (Or.inr (Nat.le_refl _)) h.2)
    by_cases hjn : j < nt
    · have hlt : (j : Int) < nt := by omega
      have hne : ¬ T = [] := fun e => by have := hnnt.out; rw [e] at this; simp at this; omega
      obtain ⟨x, hx⟩ : ∃ x, T[j]? = some x := ⟨_, List.getElem?_eq_getElem (by rw [← hnnt.out]; exact hjn)⟩
      have hm := map_set tI T j x hx
      have hr : RowI wr gT ((T.take j).map tI ++ T.drop j) RT := HR.out.resolve_left hne
      have ha : a2 = some ⟨gT, 0, none⟩ := (HT.out.resolve_left hne).1
      have e4 := (hr.cells hm.2).2.2.2.2
      have g4 := hr.frozen (j * 5 + 4)
      have HN := hidOf (hr.last hm.2 (bits BinOp.xor IntKind.i64 x.i 1))
      rw [show ({ x with i := bits BinOp.xor IntKind.i64 x.i 1 } : Ins) = tI x from rfl, hm.1] at HN
      have HCN : Hid (Chg (fun k => ¬ T = [] ∧ k = gT) wB (wr.setCell ⟨gT, j * 5 + 4, none⟩ (.int .i64 (bits BinOp.xor IntKind.i64 x.i 1)))) := hidOf (Chg.setCell (S := fun k => ¬ T = [] ∧ k = gT) HC.out (p := ⟨gT, j * 5 + 4, none⟩) ⟨hne, rfl⟩ _)
      clear hm hr hx HR HC
      rw [ha] at y0
      clear ha
      go_upto_region 5 with fail
      go_region_law (fail)
      go_wp2
      go_roundw
      case rel => exact ⟨j + 1, by omega, by simp, hidOf (.inr HN.out), hidOf (by first | exact HCN.out | exact HCN.out.drew | exact HCN.out.of_drewN _)⟩
      case measure => simp [intOf]; omega
      all_goals exact ⟨⟨j + 1, by omega, by simp, hidOf (.inr HN.out), hidOf (by first | exact HCN.out | exact HCN.out.drew | exact HCN.out.of_drewN _)⟩, by simp [intOf]; omega⟩
    · have hlt : ¬ (j : Int) < nt := by omega
      have F0 := HC
      have R0 : Hid (T = [] ∨ RowI wr gT (T.map tI) RT) := hidOf (HR.out.imp id (fun h => by
        rw [show j = nt by omega, List.take_of_length_le (by rw [← hnnt.out]; omega), List.drop_of_length_le (by rw [← hnnt.out]; omega), List.append_nil] at h
        exact h))
      obtain ⟨wC, hwC⟩ : ∃ wb, wb = wr := ⟨_, rfl⟩
      subst hwC
      have TD : Hid (¬ T = [] → ¬ D = [] → ¬ gD = gT) := hidOf fun h1 h2 e => by
        obtain ⟨_, r1, _, _⟩ := HT.out.resolve_left h1
        obtain ⟨_, r2, _, _⟩ := HD.out.resolve_left h2
        rw [e] at r2
        have := (show wB.heap[gT]? = _ from r1).symm.trans r2
        simp only [Option.some.injEq, Obj.cells.injEq] at this
        exact absurd this.2.1 (by decide)
      replace x2 : wC.cell? ⟨cb, 2, none⟩ = some (.slice a4 nd c4) := HC.out.cell x2 (fun h => NT.out h.1 cb (Or.inr (Nat.le_refl _)) h.2)
      replace HD : Hid (D = [] ∨ (a4 = some ⟨gD, 0, none⟩ ∧ RowD wC gD D RD ∧ q + 2 ≤ gD ∧ gD < cb)) := hidOf (by
        by_cases h : D = []
        · exact .inl h
        · obtain ⟨p1, p2, p3, p4⟩ := HD.out.resolve_left h
          exact .inr ⟨p1, p2.chg HC.out (fun e => TD.out e.1 h e.2), p3, p4⟩)
      clear HR HC
      go_wp2
      go_loopw [5] (fun v wr => ∃ j : Nat, j ≤ nd ∧ v = .int .i64 j ∧ Hid (D = [] ∨ RowD wr gD ((D.take j).map tD ++ D.drop j) RD) ∧ Hid (Chg (fun k => ¬ D = [] ∧ k = gD) wC wr)) (fun v _ => nd - (intOf v).toNat)
      case atStart => exact ⟨0, by omega, rfl, hidOf (by simpa using HD.out.imp id (fun h => h.2.1)), hidOf (Chg.refl _ _)⟩
      case round =>
        obtain ⟨j, hj, rfl, HR, HC⟩ := hrel
        have y2 : wr.cell? ⟨cb, 2, none⟩ = some (.slice a4 nd c4) := HC.out.cell x2 (fun h => ND.out h.1 cb (Or.inr (Nat.le_refl _)) h.2)
        by_cases hjn : j < nd
        · have hlt : (j : Int) < nd := by omega
          have hne : ¬ D = [] := fun e => by have := hnnd.out; rw [e] at this; simp at this; omega
          obtain ⟨x, hx⟩ : ∃ x, D[j]? = some x := ⟨_, List.getElem?_eq_getElem (by rw [← hnnd.out]; exact hjn)⟩
          have hm := map_set tD D j x hx
          have hr : RowD wr gD ((D.take j).map tD ++ D.drop j) RD := HR.out.resolve_left hne
          have ha : a4 = some ⟨gD, 0, none⟩ := (HD.out.resolve_left hne).1
          have e4 := (hr.cells hm.2).2.2.2.2
          have g4 := hr.frozen (j * 5 + 4)
          have HN := hidOf (hr.last hm.2 (bits BinOp.xor IntKind.i64 x.en 1))
          rw [show ({ x with en := bits BinOp.xor IntKind.i64 x.en 1 } : Td) = tD x from rfl, hm.1] at HN
          have HCN : Hid (Chg (fun k => ¬ D = [] ∧ k = gD) wC (wr.setCell ⟨gD, j * 5 + 4, none⟩ (.int .i64 (bits BinOp.xor IntKind.i64 x.en 1)))) := hidOf (Chg.setCell (S := fun k => ¬ D = [] ∧ k = gD) HC.out (p := ⟨gD, j * 5 + 4, none⟩) ⟨hne, rfl⟩ _)
          clear hm hr hx HR HC
          rw [ha] at y2
          clear ha
          go_upto_region 9 with fail
          go_region_law (fail)
          go_wp2
          go_roundw
          case rel => exact ⟨j + 1, by omega, by simp, hidOf (.inr HN.out), hidOf (by first | exact HCN.out | exact HCN.out.drew | exact HCN.out.of_drewN _)⟩
          case measure => simp [intOf]; omega
          all_goals exact ⟨⟨j + 1, by omega, by simp, hidOf (.inr HN.out), hidOf (by first | exact HCN.out | exact HCN.out.drew | exact HCN.out.of_drewN _)⟩, by simp [intOf]; omega⟩
        · have hlt : ¬ (j : Int) < nd := by omega
          have R1 : Hid (D = [] ∨ RowD wr gD (D.map tD) RD) := hidOf (HR.out.imp id (fun h => by
            rw [show j = nd by omega, List.take_of_length_le (by rw [← hnnd.out]; omega), List.drop_of_length_le (by rw [← hnnd.out]; omega), List.append_nil] at h
            exact h))
          have CB : Hid (∀ k, k < q + 2 ∨ cb ≤ k → k < wB.heap.size → wr.heap[k]? = wB.heap[k]?) := hidOf fun k hk hl => (HC.out.block k (by have := F0.out.size; omega) (fun h => ND.out h.1 k hk h.2)).trans (F0.out.block k hl (fun h => NT.out h.1 k hk h.2))
          have bx1 : wr.heap[cb]? = some (.cells #[.slice a2 nt c2, .slice a3 nf c3, .slice a4 nd c4, .int .i64 en] 26 (0, 0)) := (CB.out cb (.inr (Nat.le_refl _)) (Array.getElem?_eq_some_iff.1 HB.out).1).trans HB.out
          have rs1 : wr.heap[q + 1]? = some (.cells #[.slice none 0 0, .slice none 0 0, .slice none 0 0, .int .i64 0] 26 (0, 0)) := (CB.out (q + 1) (.inl (by omega)) (Array.getElem?_eq_some_iff.1 rsB.out).1).trans rsB.out
          have u0 : wr.cell? ⟨cb, 0, none⟩ = some (.slice a2 nt c2) := by rw [cell_atL bx1]; rfl
          have u1 : wr.cell? ⟨cb, 1, none⟩ = some (.slice a3 nf c3) := by rw [cell_atL bx1]; rfl
          have u3 : wr.cell? ⟨cb, 3, none⟩ = some (.int .i64 en) := by rw [cell_atL bx1]; rfl
          have r0 : wr.cell? ⟨q + 1, 0, none⟩ = some (.slice none 0 0) := by rw [cell_atL rs1]; rfl
          have r1 : wr.cell? ⟨q + 1, 1, none⟩ = some (.slice none 0 0) := by rw [cell_atL rs1]; rfl
          have r2 : wr.cell? ⟨q + 1, 2, none⟩ = some (.slice none 0 0) := by rw [cell_atL rs1]; rfl
          have r3 : wr.cell? ⟨q + 1, 3, none⟩ = some (.int .i64 0) := by rw [cell_atL rs1]; rfl
          have z0 := frozen_atL rs1 0
          have z1 := frozen_atL rs1 1
          have z2 := frozen_atL rs1 2
          have z3 := frozen_atL rs1 3
          have RSH := hidOf rs1
          clear bx1 rs1
          go_wp2
          refine bodyPost_ret (results_cell_row rfl _ _ (q + 1) 26 _ (0, 0) _ rfl (blk_setR (blk_setR (blk_setR (blk_setR RSH.out 0 _) 1 _) 2 _) 3 _) Tryd.underlying26 rfl (by kernel_rfl)) rfl ?_
          have cF : ∀ y0 y1 y2 y3, Chg (fun k => k = q + 1) wr ((((wr.setCell ⟨q + 1, 0, none⟩ y0).setCell ⟨q + 1, 1, none⟩ y1).setCell ⟨q + 1, 2, none⟩ y2).setCell ⟨q + 1, 3, none⟩ y3) := fun y0 y1 y2 y3 => Chg.put4 (S := fun k => k = q + 1) (Chg.refl _ wr) rfl 0 1 2 3 y0 y1 y2 y3
          have OO : ∀ y0 y1 y2 y3, Out w ((((wr.setCell ⟨q + 1, 0, none⟩ y0).setCell ⟨q + 1, 1, none⟩ y1).setCell ⟨q + 1, 2, none⟩ y2).setCell ⟨q + 1, 3, none⟩ y3) := fun y0 y1 y2 y3 => by
            have h1 := Chg.out F0.out (OA.out.trans OB.out) (fun k hk => by have := (HT.out.resolve_left hk.1).2.2.1; rw [hk.2, ← hq.out]; omega)
            have h2 := Chg.out HC.out h1 (fun k hk => by have := (HD.out.resolve_left hk.1).2.2.1; rw [hk.2, ← hq.out]; omega)
            exact Chg.out (cF y0 y1 y2 y3) h2 (fun k hk => by rw [← hq.out]; omega)
          have base : ∀ {a : Option Addr} {n c z : Nat} {e : TypeId} {V : List Value}, wB.ownsRow wA.heap.size e z (.slice a n c) n V → ∀ ad, a = some ad → w.heap.size ≤ ad.block := fun ho ad ha => by
            have := (ho.lt ad.block (by rw [ha]; rfl)).1
            rw [szA.out] at this
            rw [← hq.out]; omega
          rw [hE.out]
          unfold TrnE
          dsimp only
          rw [← hnnt.out, ← hnnf.out, ← hnnd.out]
          refine ⟨a2, c2, a3, c3, a4, c4, rfl, ⟨?_, ?_, ?_⟩, hcap.out, base W2.out, base W3.out, base W4.out, OO _ _ _ _⟩
          · show InsA _ a2 (T.map tI)
            by_cases h : T = []
            · exact .inl (by rw [h]; rfl)
            · obtain ⟨ha, _, hg, hg2⟩ := HT.out.resolve_left h
              have r := R0.out.resolve_left h
              rw [ha]
              exact RowI.a (B := []) (by rw [List.append_nil]; exact (r.chg HC.out (fun e => TD.out h e.1 e.2.symm)).chg (cF _ _ _ _) (by omega))
          · show FnA _ a3 F
            have hf := W3.out
            have nT : ∀ k, (Value.slice a3 nf c3).ownBlock = some k → ¬ (¬ T = [] ∧ k = gT) := fun k hk e => by
              rcases own_rowF W3.out hnnf.out.symm with ⟨hx, _⟩ | ⟨g, R, ha, hr, _⟩
              · rw [hx] at hk; cases hk
              · rw [ha] at hk
                have hgk : g = k := by simpa [Value.ownBlock] using hk
                obtain ⟨_, r1, _, _⟩ := HT.out.resolve_left e.1
                rw [hgk, e.2] at hr
                have := (show wB.heap[gT]? = _ from r1).symm.trans hr
                simp only [Option.some.injEq, Obj.cells.injEq] at this
                exact absurd this.2.1 (by decide)
            have hf1 := owns_chg hf nT F0.out
            have nD : ∀ k, (Value.slice a3 nf c3).ownBlock = some k → ¬ (¬ D = [] ∧ k = gD) := fun k hk e => by
              rcases own_rowF hf1 hnnf.out.symm with ⟨hx, _⟩ | ⟨g, R, ha, hr, _⟩
              · rw [hx] at hk; cases hk
              · rw [ha] at hk
                have hgk : g = k := by simpa [Value.ownBlock] using hk
                obtain ⟨_, r1, _, _⟩ := HD.out.resolve_left e.1
                rw [hgk, e.2] at hr
                have := (show wC.heap[gD]? = _ from r1).symm.trans hr
                simp only [Option.some.injEq, Obj.cells.injEq] at this
                exact absurd this.2.1 (by decide)
            have hf2 := owns_chg hf1 nD HC.out
            exact FnA.of_own (owns_chg hf2 (fun k hk e => by have := (W3.out.lt k hk).1; rw [szA.out] at this; omega) (cF _ _ _ _)) hnnf.out.symm
          · show TdA _ a4 (D.map tD)
            by_cases h : D = []
            · exact .inl (by rw [h]; rfl)
            · obtain ⟨ha, _, hg, hg2⟩ := HD.out.resolve_left h
              have r := R1.out.resolve_left h
              rw [ha]
              exact RowD.a (B := []) (by rw [List.append_nil]; exact r.chg (cF _ _ _ _) (by omega))
end Go.Proofs.YtfmcoffmgdcciaaDoor
