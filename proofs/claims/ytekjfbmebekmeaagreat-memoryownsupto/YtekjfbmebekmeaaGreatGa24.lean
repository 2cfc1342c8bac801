import Derived.Test.YtekjfbmebekmeaaGreatGa23
namespace Go.Proofs.YtekjfbmebekmeaaGreat
open Go.RowKit
set_option linter.unusedVariables false
set_option linter.unusedSimpArgs false
def RegQ (n : Nat) (S : List (Nat × List UInt8)) (w : World) (e : Ending) (w' : World) : Prop :=
  ∃ a' c', ∃ R : List Rg, e = .returned (.slice a' n c') ∧ RLs w.heap.size w' a' c' n R ∧ R.map fdR = S ∧ Out w w'
set_option maxHeartbeats 4000000 in
set_option maxRecDepth 100000 in
theorem refRegions_any (w : World) (B0 : Nat) (a : Option Addr) (c n : Nat) (R : List Rg) (h : RLs B0 w a c n R) (hRn : R.length = n) (hb : ∀ z ∈ R, z.d.length ≤ 140737488355328 ∧ z.f < 18446744073709551616) (hn : n < 4398046511104) (S : List (Nat × List UInt8)) (hp : (R.map fdR).Perm S) (hs : S.Pairwise (fun x y => x.1 < y.1)) :
    Calls Tryz.prog 36 #[.agg #[.slice a n c]] w fun e w' => RegQ n S w e w' := by
  obtain ⟨P, hP⟩ : ∃ P, Hid (P = R.map fdR) := ⟨_, rfl⟩
  have hpl : Hid (P.length = n) := hidOf (by rw [hP.out, List.length_map, hRn])
  have PM : Hid (P.Perm S) := hidOf (by rw [hP.out]; exact hp)
  have HSL : Hid (S.length = n) := hidOf (by rw [← PM.out.length_eq]; exact hpl.out)
  have HS := hidOf hs
  have HI := hidOf h
  have HB0 := hidOf hb
  have HRN := hidOf hRn
  have HNN := hidOf hn
  have Q0C := hidOf (fun (W : World) (z : Rg) (hz : z ∈ R) (o : Out w W) => copied_any W (z.a.map fun b => ⟨b, 0, none⟩) z.f z.c z.d ((h.da z hz).rest.out o) (hb z hz).1)
  clear h hb hRn hp hs
  obtain ⟨p, hp⟩ : ∃ p, Hid (p = w.heap.size) := ⟨_, rfl⟩
  obtain ⟨w0, H0, bp, o0⟩ : ∃ w0, Hid (w0 = w.alloc (.cells #[.slice a n c] 47)) ∧ w0.heap[p]? = some (.cells #[.slice a n c] 47 (0, 0)) ∧ Out w w0 := ⟨_, rfl, by rw [hp.out]; exact heap_alloc_new w _, (Out.refl w).alloc _⟩
  have O0 := hidOf o0
  have BP := hidOf bp
  clear o0 bp
  go_enter Tryz.func36, Tryz.ntmps36
  go_upto_region 1 with fail
  rw [← hp.out]
  rw [← H0.out]
  go_wp2
  go_loopw [3] (fun ov wr => ∃ (k : Nat) (oa : Option Addr) (oc : Nat) (R' : List Rg), ov = .slice oa k oc ∧ k ≤ n ∧ Hid (wr.heap[p]? = some (.cells #[.slice a n c] 47 (0, 0))) ∧ Hid (RLs p wr oa oc k R') ∧ Hid (R'.map fdR = S.take k) ∧ Hid (Out w wr)) (fun ov _ => n - (match ov with | .slice _ m _ => m | _ => 0))
  case atStart => exact ⟨0, none, 0, [], rfl, Nat.zero_le _, BP, hidOf ⟨World.ownsRow_nil _ _ _ _, by simp⟩, hidOf (by simp), O0⟩
  case round =>
    obtain ⟨k, oa, oc, R', rfl, hk, KP, RL, EQ, OR⟩ := hrel
    obtain ⟨wo, rfl⟩ : ∃ wo, wo = wr := ⟨_, rfl⟩
    have cp : wo.cell? ⟨p, 0, none⟩ = some (.slice a n c) := by rw [cell_B KP.out] <;> rfl
    by_cases hkn : k < n
    · have hlt : (k : Int) < n := by omega
      have hown := (HI.out.out OR.out).own
      obtain ⟨g, cc2, ee, _, _⟩ := hown.form (by omega)
      simp only [Value.slice.injEq] at ee
      obtain ⟨rfl, _, rfl⟩ := ee
      have HOWN := hidOf hown
      have hRk : Hid (R'.length = k) := hidOf (by have := congrArg List.length EQ.out; rw [List.length_map, List.length_take, HSL.out] at this; omega)
      have hof : Hid (k = 0 ∨ ∃ (g2 : Nat) (q : Nat × List UInt8), oa = some ⟨g2, 0, none⟩ ∧ S[k - 1]? = some q ∧ wo.cell? ⟨g2, (k - 1) * 2, none⟩ = some (.int .u64 (q.1 : Nat))) := hidOf (by
        by_cases h0 : k = 0
        · exact .inl h0
        · obtain ⟨g2, cc3, e3, _, _⟩ := RL.out.own.form (by omega)
          simp only [Value.slice.injEq] at e3
          obtain ⟨rfl, _, rfl⟩ := e3
          obtain ⟨y, hy⟩ : ∃ y, R'[k - 1]? = some y := ⟨_, List.getElem?_eq_getElem (by rw [hRk.out]; omega)⟩
          have hy2 : S[k - 1]? = some (fdR y) := by
            have h1 : (R'.map fdR)[k - 1]? = some (fdR y) := by rw [List.getElem?_map, hy]; rfl
            rw [EQ.out, List.getElem?_take, if_pos (by omega)] at h1
            exact h1
          exact .inr ⟨g2, fdR y, rfl, hy2, (own_cellK RL.out.own (rowG_get hy).1).1⟩)
      clear hown
      go_upto_region 4 with fail
      go_wp2
      go_loopw [4, 5] (fun bv iv w2 => ∃ (i : Nat) (b : Int), bv = .int .i64 b ∧ iv = .int .i64 (i : Nat) ∧ i ≤ n ∧ Hid (BestI P (abv S k) i b) ∧ Hid (Out wo w2)) (fun _ iv _ => n - (intOf iv).toNat)
      case atStart => exact ⟨0, -1, rfl, rfl, Nat.zero_le _, hidOf (BestI.zero P _), hidOf (Out.refl _)⟩
      case round =>
        clear cp
        obtain ⟨i, b, rfl, rfl, hi, BI, O2⟩ := hrel
        have cp : wr.cell? ⟨p, 0, none⟩ = some (.slice (some ⟨g, 0, none⟩) n c) := by rw [cell_B (blk_out KP.out O2.out)] <;> rfl
        by_cases hin : i < n
        · have hil : (i : Int) < n := by omega
          obtain ⟨z, hz⟩ : ∃ z, R[i]? = some z := ⟨_, List.getElem?_eq_getElem (by rw [HRN.out]; exact hin)⟩
          have hPz : P[i]? = some (fdR z) := by rw [hP.out, List.getElem?_map, hz]; rfl
          have HPZ := hidOf hPz
          have r0 : wr.cell? ⟨g, i * 2, none⟩ = some (.int .u64 (z.f : Nat)) := cell_later O2.out (own_cellK HOWN.out (rowG_get hz).1).1
          obtain ⟨zf, hzf⟩ : ∃ zf, Hid (zf = z.f) := ⟨_, rfl⟩
          rw [← hzf.out] at r0
          have RZ : Hid (wo.cell? ⟨g, i * 2, none⟩ = some (.int .u64 (z.f : Nat))) := hidOf (own_cellK HOWN.out (rowG_get hz).1).1
          have BI0 := True.intro
          clear hz hPz
          go_upto_region 7 with fail
          go_cut [6] from 13 to 59 (fun v wx => ∃ ab : Bool, v = .bool ab ∧ Hid (ab = abv S k (fdR z)) ∧ Hid (Out wo wx))
          case first =>
            rcases hof.out with rfl | ⟨g2, q, rfl, hq, cq0⟩
            · go_quiet (fail)
              go_wp2
              go_meet
              exact ⟨true, rfl, hidOf (by simp [abv]), hidOf (O2.out.drewN nq)⟩
            · by_cases hk0 : k = 0
              · subst hk0
                go_quiet (fail)
                go_wp2
                go_meet
                exact ⟨true, rfl, hidOf (by simp [abv]), hidOf (O2.out.drewN nq)⟩
              · have hkb : ((k : Int) == 0) = false := by simp; omega
                have hw1 : IntKind.i64.wrap ((k : Int) - 1) = ((k - 1 : Nat) : Int) := by rw [IntKind.wrap_i64]; omega
                obtain ⟨k1, hk1⟩ : ∃ k1, k1 = k - 1 := ⟨_, rfl⟩
                have hlt1 : k1 < k := by omega
                have cq1 := cell_later O2.out cq0
                obtain ⟨qf, hqf⟩ : ∃ qf, Hid (qf = q.1) := ⟨_, rfl⟩
                rw [← hqf.out, ← hk1] at cq1
                rw [← hk1] at hw1 hq
                have HQ := hidOf hq
                clear hk1 cq0 hq
                go_quiet (fail)
                go_wp2
                go_meet
                refine ⟨decide ((qf : Int) < zf), by first | rfl | simp, hidOf ?_, hidOf (O2.out.drewN nq)⟩
                have hk2 : k - 1 = k1 := by have := hw1; rw [IntKind.wrap_i64] at this; omega
                unfold abv
                rw [hk2, HQ.out]
                have : (k == 0) = false := by simp; omega
                rw [this, Bool.false_or]
                simp only [fdR, ← hzf.out, ← hqf.out]
                rw [Bool.eq_iff_iff]; simp
          case rest =>
            obtain ⟨ab, rfl, AB, OX⟩ := hcut
            clear cp r0 BI0
            have cp : wc.cell? ⟨p, 0, none⟩ = some (.slice (some ⟨g, 0, none⟩) n c) := by rw [cell_B (blk_out KP.out OX.out)] <;> rfl
            have r0 : wc.cell? ⟨g, i * 2, none⟩ = some (.int .u64 (zf : Nat)) := by rw [hzf.out]; exact cell_later OX.out RZ.out
            go_upto_region 8 with fail
            cases ab with
            | false =>
              go_quiet (fail)
              have HN : Hid (Out wo (wc.drewN nq)) := hidOf (OX.out.drewN nq)
              generalize wc.drewN nq = wn at HN ⊢
              go_wp2
              go_roundw
              case rel => exact ⟨i + 1, b, rfl, by simp, by omega, hidOf (BI.out.pass HPZ.out (.inl AB.out.symm)), HN⟩
              case measure => simp [intOf]; omega
            | true =>
              rcases BI.out with ⟨hb1, hb2⟩ | ⟨b', zb, hb1, hb2, hb3, hb4, hb5⟩
              · subst hb1
                go_quiet (fail)
                have HN : Hid (Out wo (wc.drewN nq)) := hidOf (OX.out.drewN nq)
                generalize wc.drewN nq = wn at HN ⊢
                go_wp2
                go_roundw
                case rel => exact ⟨i + 1, (i : Int), rfl, by simp, by omega, hidOf (BI.out.take_ HPZ.out AB.out.symm (.inl (by omega))), HN⟩
                case measure => simp [intOf]; omega
              · subst hb1
                obtain ⟨y, hy⟩ : ∃ y, R[b']? = some y := ⟨_, List.getElem?_eq_getElem (by rw [HRN.out]; omega)⟩
                have hyz : zb = fdR y := by
                  have h1 : P[b']? = some (fdR y) := by rw [hP.out, List.getElem?_map, hy]; rfl
                  rw [hb3] at h1; exact Option.some.inj h1
                have s0 : wc.cell? ⟨g, b' * 2, none⟩ = some (.int .u64 (y.f : Nat)) := cell_later OX.out (own_cellK HOWN.out (rowG_get hy).1).1
                obtain ⟨yf, hyf⟩ : ∃ yf, Hid (yf = y.f) := ⟨_, rfl⟩
                rw [← hyf.out] at s0
                have hb0 : ¬ (b' : Int) < 0 := by omega
                have hbn : b' < n := by omega
                have HB3 := hidOf hb3
                have HYZ := hidOf hyz
                clear hb2 hb3 hb4 hb5 hy hyz
                by_cases hlz : zf < yf
                · have hlI : (zf : Int) < yf := by omega
                  have HL := hidOf hlz
                  clear hlz
                  go_quiet (fail)
                  have HN : Hid (Out wo (wc.drewN nq)) := hidOf (OX.out.drewN nq)
                  generalize wc.drewN nq = wn at HN ⊢
                  go_wp2
                  go_roundw
                  case rel => exact ⟨i + 1, (i : Int), rfl, by simp, by omega, hidOf (BI.out.take_ HPZ.out AB.out.symm (.inr ⟨b', zb, rfl, HB3.out, by rw [HYZ.out]; show z.f < y.f; rw [← hzf.out, ← hyf.out]; exact HL.out⟩)), HN⟩
                  case measure => simp [intOf]; omega
                · have hlI : ¬ (zf : Int) < yf := by omega
                  have HL := hidOf hlz
                  clear hlz
                  go_quiet (fail)
                  have HN : Hid (Out wo (wc.drewN nq)) := hidOf (OX.out.drewN nq)
                  generalize wc.drewN nq = wn at HN ⊢
                  go_wp2
                  go_roundw
                  case rel => exact ⟨i + 1, (b' : Int), rfl, by simp, by omega, hidOf (BI.out.pass HPZ.out (.inr ⟨b', zb, rfl, HB3.out, by rw [HYZ.out]; show y.f ≤ z.f; rw [← hzf.out, ← hyf.out]; have := HL.out; omega⟩)), HN⟩
                  case measure => simp [intOf]; omega
        · have hil : ¬ (i : Int) < n := by omega
          obtain rfl : i = n := by omega
          obtain ⟨b', pz, rfl, hPb, hSk⟩ := (show BestI P (abv S k) P.length b by rw [hpl.out]; exact BI.out).all PM.out HS.out (by rw [HSL.out]; exact hkn)
          have hbn : b' < i := by have := (List.getElem?_eq_some_iff.1 hPb).1; rw [hpl.out] at this; exact this
          obtain ⟨z, hz⟩ : ∃ z, R[b']? = some z := ⟨_, List.getElem?_eq_getElem (by rw [HRN.out]; exact hbn)⟩
          have hpz : pz = fdR z := by
            have h1 : P[b']? = some (fdR z) := by rw [hP.out, List.getElem?_map, hz]; rfl
            rw [hPb] at h1; exact Option.some.inj h1
          rw [hpz] at hSk
          have HSK := hidOf hSk
          have OWR := hidOf (OR.out.trans O2.out)
          have CPA := hidOf (Q0C.out wr z (List.mem_of_getElem? hz) OWR.out)
          have r0 : wr.cell? ⟨g, b' * 2, none⟩ = some (.int .u64 (z.f : Nat)) := cell_later O2.out (own_cellK HOWN.out (rowG_get hz).1).1
          have r1 : wr.cell? ⟨g, b' * 2 + 1, none⟩ = some (daV z) := cell_later O2.out (own_cellK HOWN.out (rowG_get hz).2).1
          rw [daV] at r1
          obtain ⟨zf, hzf⟩ : ∃ zf, Hid (zf = z.f) := ⟨_, rfl⟩
          obtain ⟨zl, hzl⟩ : ∃ zl, Hid (zl = z.d.length) := ⟨_, rfl⟩
          obtain ⟨zc, hzc⟩ : ∃ zc, Hid (zc = z.c) := ⟨_, rfl⟩
          obtain ⟨za, hza⟩ : ∃ za : Option Addr, Hid (za = z.a.map fun b => ⟨b, 0, none⟩) := ⟨_, rfl⟩
          rw [← hzf.out, ← hzl.out, ← hzc.out, ← hza.out] at CPA
          rw [← hzf.out] at r0
          rw [← hzl.out, ← hzc.out, ← hza.out] at r1
          have RLW := hidOf (RL.out.out O2.out)
          clear hz hpz hSk hPb
          go_upto_region 10 with fail
          go_wp2_with (first | (go_at_call 48; refine CPA.out.mono ?_; rintro e w3 ⟨x, hxf, hxd, rfl, hdx, ho3⟩; have O3 := hidOf ho3; have HXF := hidOf hxf; have HXD := hidOf hxd; have t1 := cell_later ho3 (show wr.cell? _ = _ from cp); have t2 := cell_later ho3 (show wr.cell? _ = _ from r0); have t3 := cell_later ho3 (show wr.cell? _ = _ from r1); obtain ⟨xa, hxa⟩ : ∃ xa : Option Addr, Hid (xa = x.a.map fun b => ⟨b, 0, none⟩) := ⟨_, rfl⟩; rw [← hxa.out]; obtain ⟨wC, HC, u0, u1, oC, sC⟩ := box_two w3 (.int .u64 (x.f : Nat)) (.slice xa x.d.length x.c) 36; have oBC : Out wr wC := O3.out.trans oC; have hszC := oBC.size; have hszR := OWR.out.size; obtain ⟨a2, c2, w4, hap, hrl, hc2⟩ := RLs.push (RLW.out.out oBC) (by have := HNN.out; omega) (by have := hp.out; omega) w3.heap.size x xa hxa.out u0 u1 (DaI.out (own_base hdx (by show p ≤ wr.heap.size; have := hp.out; omega)) oC); have hpw : p < wr.heap.size := (Array.getElem?_eq_some_iff.1 (blk_out KP.out O2.out)).1; have v1 := cell_later oC t1; have v2 := cell_later oC t2; have v3 := cell_later oC t3; have bp4 := blk_out (blk_out KP.out O2.out) oBC; have bg0 : g < p := (by have := (HI.out.own.lt g rfl).2; have := hp.out; omega); have hSp : ∀ b, (Value.slice oa k oc).ownBlock = some b → p ≤ b ∧ b ≠ p := fun b hb => ⟨((RLW.out.out oBC).own.lt b hb).1, fun e => own_ne (RLW.out.out oBC).own bp4 (by decide) (by subst e; exact hb)⟩; have y1 := hc2.cell v1 (fun hq => (hSp _ hq).2 rfl); have y2 := hc2.cell v2 (fun hq => by have := (hSp _ hq).1; simp only at this; omega); have y3 := hc2.cell v3 (fun hq => by have := (hSp _ hq).1; simp only at this; omega); have HAP := hidOf hap; have KP4 := hidOf (blk_chg bp4 hc2 (fun hq => (hSp _ hq).2 rfl)); have KRL := hidOf hrl; have KO := hidOf (Chg.out hc2 (OR.out.trans (O2.out.trans oBC)) (fun b hb => by have := (hSp b hb).1; have := hp.out; omega)); clear hap hrl hc2 oBC oC sC u0 u1 hSp bp4 hxf hxd hdx ho3) | (at_builtin; rw [← HC.out]; refine Lib.wpList_append_run _ rfl _ _ _ _ rfl _ _ rfl rfl _ _ (HAP.out _) ?_))
          go_roundw
          case rel =>
            refine ⟨k + 1, a2, c2, R' ++ [x], by first | rfl | simp, by omega, KP4, KRL, hidOf ?_, KO⟩
            rw [List.map_append, EQ.out, List.take_add_one, HSK.out]
            simp [fdR, HXF.out, HXD.out, hzf.out]
          case measure => simp; omega
    · have hlt : ¬ (k : Int) < n := by omega
      obtain rfl : k = n := by omega
      go_wp2
      go_ret
      have ht : S.take k = S := List.take_of_length_le (by rw [HSL.out]; exact Nat.le_refl _)
      exact ⟨oa, oc, R', rfl, by rw [← hp.out]; exact RL.out, by rw [← ht]; exact EQ.out, OR.out⟩
end Go.Proofs.YtekjfbmebekmeaaGreat
