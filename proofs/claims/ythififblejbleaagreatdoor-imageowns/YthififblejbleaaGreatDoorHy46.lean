import Derived.Test.YthififblejbleaaGreatDoorHy41
namespace Go.Proofs.YthififblejbleaaGreatDoor
open Go.RowKit
set_option linter.unusedVariables false
set_option linter.unusedSimpArgs false
def seN (se : Nat) : Nat := if se = 0 then 1 else se
theorem name_any (w : World) (p sg so sn sc pl : Nat) (v0 tv sv : Value) (s f d k : Int) (N : List (List UInt8)) (se : Nat) (hse : se ≤ 1000000000000) (hok : ∀ y ∈ N, nameOk y = true) (hl : (byP N).length = sn) (hsc : sn ≤ sc) (hb : BtA w sg so (byP N)) (hgp : ¬ sg = p) (hn : sn ≤ 1000000000000) (hpl : pl ≤ 4294967296) (h : RgA w p v0 s f d k tv sv (se : Nat)) : Calls Tryz.prog 62 #[.pointer (some ⟨p, 0, none⟩), .slice (some ⟨sg, so, none⟩) sn sc, .int .i64 pl] w (NamE N (seN se) pl p v0 tv sv s f d k w) := by
  by_cases h0 : se = 0
  · subst h0
    exact nameZ_any w p sg so sn sc pl v0 tv sv s f d k N hok hl hsc hb hgp hn hpl h
  · rw [show seN se = se by simp [seN, h0]]
    exact nameS_any w p sg so sn sc pl v0 tv sv s f d k N se h0 hse hok hl hsc hb hgp hn hpl h
theorem nmT_pos {N : List (List UInt8)} {nx pl ny : Nat} {x : List UInt8} (h : nmT N nx pl = some (x, ny)) : 0 < ny ∧ ny ≤ nx + (byP N).length ∧ x.length ≤ (byP N).length := by
  unfold nmT at h
  split at h
  · cases h
  · rename_i h1
    cases ha : atF 1 N (pl : Int) with
    | none => rw [ha] at h; cases h
    | some y =>
      rw [ha] at h
      simp only [Option.some.injEq, Prod.mk.injEq] at h
      obtain ⟨rfl, rfl⟩ := h
      have := (at_bytes ha).2.1
      split <;> omega
theorem fn_cutA {L : List Ins} {fi sl v : Nat} (h : slotsP (L.take fi) = sl) (hv : v = 0 ∨ slotsP L - sl < v ∨ (stT L ++ [true])[sl + v]? = some false) : (cntO (L.drop fi) v).2 ≠ v ∨ v = 0 := by
  obtain ⟨h1, h2⟩ := st_from h
  by_cases h0 : v = 0
  · exact .inr h0
  · refine .inl ?_
    rcases hv with hv | hv | hv
    · exact absurd hv h0
    · exact cnt_over (by omega)
    · intro e
      by_cases hle : v ≤ slotsP (L.drop fi)
      · have h3 := (cnt_st (L.drop fi) v (by omega) hle).1.1 e
        rw [← h1, List.getElem?_drop, hv] at h3
        cases h3
      · exact cnt_over (by omega) e
theorem fn_cutB {L : List Ins} {fi sl v : Nat} (h : slotsP (L.take fi) = sl) (hfi : fi ≤ L.length) (h0 : v ≠ 0) (hv : v ≤ slotsP L - sl) (hs : (stT L ++ [true])[sl + v]? = some true) : (cntO (L.drop fi) v).2 = v ∧ (((stT L ++ [true]).drop sl).take v).count true = (cntO (L.drop fi) v).1 ∧ slotsP (L.take (fi + (cntO (L.drop fi) v).1)) = sl + v ∧ fi + (cntO (L.drop fi) v).1 ≤ L.length ∧ sl + v ≤ slotsP L := by
  obtain ⟨h1, h2⟩ := st_from h
  have hle : v ≤ slotsP (L.drop fi) := by omega
  obtain ⟨c1, c2⟩ := cnt_st (L.drop fi) v (by omega) hle
  have e : (cntO (L.drop fi) v).2 = v := c1.2 (by rw [← h1, List.getElem?_drop]; exact hs)
  have c3 := cntO_slots (L.drop fi) v
  refine ⟨e, ?_, ?_, ?_, by omega⟩
  · rw [h1, List.take_append_of_le_length (by rw [stT_len]; exact hle)]; exact c2 e
  · rw [List.take_add, slots_app, h, c3.1, e]
  · have := c3.2; rw [List.length_drop] at this; omega
theorem fn_n {l : List UInt8} {N : List (List UInt8)} {L : List Ins} {j p fi sl nx : Nat} (h : nmT N nx (g4 l p) = none) : fnR l N L (j + 1) p fi sl nx = .error p := by
  rw [fnR, h]
theorem fn_s {l : List UInt8} {N : List (List UInt8)} {L : List Ins} {j p fi sl nx ny : Nat} {x : List UInt8} (h : nmT N nx (g4 l p) = some (x, ny)) (h1 : g4 l (p + 8) ≠ sl) : fnR l N L (j + 1) p fi sl nx = .error (p + 8) := by
  rw [fnR, h]; simp [h1]
theorem fn_c {l : List UInt8} {N : List (List UInt8)} {L : List Ins} {j p fi sl nx ny : Nat} {x : List UInt8} (h : nmT N nx (g4 l p) = some (x, ny)) (h1 : g4 l (p + 8) = sl) (h2 : (cntO (L.drop fi) (g4 l (p + 12))).2 ≠ g4 l (p + 12) ∨ g4 l (p + 12) = 0) : fnR l N L (j + 1) p fi sl nx = .error (p + 12) := by
  rw [fnR, h]; simp only [h1, ne_eq, not_true, if_false]; rw [if_pos h2]
theorem fn_ok {l : List UInt8} {N : List (List UInt8)} {L : List Ins} {j p fi sl nx ny : Nat} {x : List UInt8} (h : nmT N nx (g4 l p) = some (x, ny)) (h1 : g4 l (p + 8) = sl) (h2 : (cntO (L.drop fi) (g4 l (p + 12))).2 = g4 l (p + 12)) (h3 : g4 l (p + 12) ≠ 0) : fnR l N L (j + 1) p fi sl nx = (fnR l N L j (p + 16) (fi + (cntO (L.drop fi) (g4 l (p + 12))).1) (sl + g4 l (p + 12)) ny).map (fun r => (⟨x, g4 l (p + 4), fi, (cntO (L.drop fi) (g4 l (p + 12))).1⟩ :: r.1, r.2)) := by
  rw [fnR, h]; simp only [h1, ne_eq, not_true, if_false]; rw [if_neg (by simp [h2, h3])]
def FunE (l : List UInt8) (N : List (List UInt8)) (L : List Ins) (S F p : Nat) (v0 tv sv : Value) (d k : Int) (w : World) (e : Ending) (w' : World) : Prop :=
  Chg (fun k => k = p) w w' ∧ ((∃ q : Nat, fnR l N L F (28 + 8 * S) 0 0 1 = .error q ∧ e = .returned (.tuple #[.slice none 0 0, .int .i64 q])) ∨
  (∃ (D : List Fn) (nx se : Nat) (a : Option Addr) (c : Nat), fnR l N L F (28 + 8 * S) 0 0 1 = .ok (D, nx) ∧ nx = seN se ∧ se ≤ (byP N).length + 1 ∧ D.length = F ∧ e = .returned (.tuple #[.slice a F c, .int .i64 (-1)]) ∧ w'.ownsRow w.heap.size 69 4 (.slice a F c) F (fnV D) ∧ RgA w' p v0 (S : Nat) (F : Nat) d k tv sv (se : Nat)))
set_option maxRecDepth 8000 in
set_option maxHeartbeats 8000000 in
theorem funcs_any (w : World) (p g go n c S F sg so sn sc bg bc : Nat) (l : List UInt8) (N : List (List UInt8)) (L : List Ins) (d k : Int) (tv : Value) (hl : l.length = n) (hnc : n ≤ c) (hb : BtA w g go l) (hgp : ¬ g = p) (hS : 28 + 8 * S + 16 * F ≤ n) (hSb : S < 4294967296) (hFb : F < 4294967296) (hsl : slotsP L = S) (hbo : BoA w bg (stT L ++ [true])) (hbp : ¬ bg = p)
    (hok : ∀ y ∈ N, nameOk y = true) (hsn : (byP N).length = sn) (hsc : sn ≤ sc) (hsb : BtA w sg so (byP N)) (hsp : ¬ sg = p) (hsnb : sn ≤ 4294967296) (h : RgA w p (.slice (some ⟨g, go, none⟩) n c) (S : Nat) (F : Nat) d k tv (.slice (some ⟨bg, 0, none⟩) (S + 1) bc) 0) : Calls Tryz.prog 28 #[.pointer (some ⟨p, 0, none⟩), .slice (some ⟨sg, so, none⟩) sn sc] w (FunE l N L S F p (.slice (some ⟨g, go, none⟩) n c) tv (.slice (some ⟨bg, 0, none⟩) (S + 1) bc) d k w) := by
  have HL := hidOf hl
  have HB := hidOf hb
  have HSL := hidOf hsl
  have HBO := hidOf hbo
  have HOK := hidOf hok
  have HSN := hidOf hsn
  have HSB := hidOf hsb
  have hp := h.lt
  have R0 : Hid (RgA w p (.slice (some ⟨g, go, none⟩) n c) (S : Nat) (F : Nat) d k tv (.slice (some ⟨bg, 0, none⟩) (S + 1) bc) ((0 : Nat) : Int)) := hidOf h
  have hstl : Hid ((stT L ++ [true]).length = S + 1) := hidOf (by rw [List.length_append, stT_len, hsl]; rfl)
  clear hl hb hsl hbo hok hsn hsb h
  obtain ⟨i0', hi0', hz0', hz1', hz2'⟩ := info_parts infoIF
  go_enter Tryz.func28, Tryz.ntmps28
  go_wp2
  go_loopw [6, 7, 8, 9] (fun v nv fv i wr => ∃ (j sl fi cap se : Nat) (D : List Fn) (a : Option Addr), j ≤ F ∧ v = .slice a j cap ∧ nv = .int .i64 sl ∧ fv = .int .i64 fi ∧ i = .int .i64 j ∧ se ≤ 100000000000 * 2 ∧ sl ≤ S ∧ fi ≤ 4294967296 ∧ Hid (slotsP (L.take fi) = sl ∧ fi ≤ L.length) ∧ Hid (se ≤ j * 8589934592 + 8589934592 ∧ se ≤ sn + 1) ∧ Hid (D.length = j) ∧ Hid (wr.ownsRow w.heap.size 69 4 (.slice a j cap) j (fnV D)) ∧ Hid (RgA wr p (.slice (some ⟨g, go, none⟩) n c) (S : Nat) (F : Nat) d k tv (.slice (some ⟨bg, 0, none⟩) (S + 1) bc) (se : Nat)) ∧ Hid (Chg (fun k => k = p) w wr) ∧ Hid (fnR l N L F (28 + 8 * S) 0 0 1 = (fnR l N L (F - j) (28 + 8 * S + 16 * j) fi sl (seN se)).map (fun r => (D ++ r.1, r.2)))) (fun _ _ _ i _ => F - (intOf i).toNat)
  case atStart => exact ⟨0, 0, 0, 0, 0, [], none, by omega, rfl, rfl, rfl, rfl, by omega, by omega, by omega, hidOf ⟨by simp [slotsP], by omega⟩, hidOf (by omega), hidOf rfl, hidOf (World.ownsRow_nil _ _ _ _), R0, hidOf (Chg.refl _ _), hidOf (by rw [show F - 0 = F by omega, show 28 + 8 * S + 16 * 0 = 28 + 8 * S by omega, show seN 0 = 1 from rfl]; cases fnR l N L F (28 + 8 * S) 0 0 1 <;> simp [Except.map])⟩
  case round =>
    obtain ⟨j, sl, fi, cap, se, D, a, hj, rfl, rfl, rfl, rfl, hseb, hslS, hfib, HTK, HSE, HDl, HOw, HR, HC, HX⟩ := hrel
    obtain ⟨c0, c1, c2, c3, c4, c5, c6, c7⟩ := HR.out.at
    by_cases hjF : j < F
    · have hlt : (j : Int) < F := by omega
      obtain ⟨q, hq⟩ : ∃ q, Hid (28 + 8 * S + 16 * j = q) := ⟨_, rfl⟩
      have hq1 : q + 16 ≤ n := by rw [← hq.out]; omega
      have hq2 : q ≤ 200000000000 := by rw [← hq.out]; omega
      have hFj : Hid (F - j = (F - (j + 1)) + 1) := hidOf (by omega)
      have HX2 := hidOf HX.out
      rw [hq.out, hFj.out] at HX2
      have CT : Hid (∀ wx r, BtA wx g go l → r + 4 ≤ n → Calls Tryz.prog 30 #[.slice (some ⟨g, go + r, none⟩) 4 (c - r)] wx fun e w' => e = .returned (.int .i64 (g4 l r : Nat)) ∧ wx = w') := hidOf fun wx r hbx hr => by
        have := taken_any wx g (go + r) (c - r) 4 ((l.drop r).take 4) (by rw [List.length_take, List.length_drop, HL.out]; omega) (by omega) (bt_sub hbx r 4)
        rw [tk4 (by rw [HL.out]; omega)] at this
        exact this
      have BtR := hidOf (bt_chg HB.out HC.out hgp)
      clear c3 c4 c5 c7
      go_upto_region 8 with fail
      rw [show (28 + 8 * (S : Int) + 16 * (j : Int)) = (q : Int) by rw [← hq.out]; omega]
      have u0 : (q : Int) + 4 ≤ c := by omega
      have u1 : (q : Int) ≤ q + 4 := by omega
      have u2 : ((q : Int) + 4).toNat = q + 4 := by omega
      have u3 : q + 4 - q = 4 := by omega
      have u4 : ¬ c = q := by omega
      have u5 : ¬ (c : Int) = q := by omega
      have u6 : (0 : Int) ≤ q := by omega
      obtain ⟨v0, hv0⟩ : ∃ y, Hid (g4 l q = y) := ⟨_, rfl⟩
      have v0b : v0 < 4294967296 := by rw [← hv0.out]; exact g4_lt _ _
      have CN := hidOf (name_any wr p sg so sn sc v0 _ _ _ _ _ _ _ N se (by omega) HOK.out HSN.out hsc (bt_chg HSB.out HC.out hsp) hsp (by omega) (by omega) HR.out)
      have CT0 : Hid (Calls Tryz.prog 30 #[.slice (some ⟨g, go + q, none⟩) 4 (c - q)] wr fun e w' => e = .returned (.int .i64 (v0 : Nat)) ∧ wr = w') := hidOf (by
        have := CT.out wr q BtR.out (by omega)
        rw [hv0.out] at this; exact this)
      cases hnm : nmT N (seN se) v0 with
      | none =>
        have CN' : Hid (Calls Tryz.prog 62 #[.pointer (some ⟨p, 0, none⟩), .slice (some ⟨sg, so, none⟩) sn sc, .int .i64 v0] wr fun e w' => e = .returned (.tuple #[.string ⟨#[]⟩, .bool false]) ∧ Chg (fun k => k = p) wr w') := hidOf (CN.out.mono (fun e w' h => by
          obtain ⟨h1, ⟨_, h2⟩ | ⟨x, ny, h2, _⟩⟩ := h
          · exact ⟨h2, h1⟩
          · rw [hnm] at h2; cases h2))
        have E : Hid (fnR l N L F (28 + 8 * S) 0 0 1 = .error q) := hidOf (by rw [HX2.out, fn_n (by rw [hv0.out]; exact hnm)]; rfl)
        clear hnm CN
        go_wp2_with (first | (go_at_call 30; refine CT0.out.mono ?_; rintro e wy ⟨rfl, hy⟩; subst hy) | (go_at_call 62; refine CN'.out.mono ?_; rintro e w1 ⟨rfl, k1⟩; have K1 := hidOf k1; clear k1))
        go_ret2
        exact ⟨HC.out.trans K1.out (fun _ h _ => h), .inl ⟨q, E.out, rfl⟩⟩
      | some y =>
        obtain ⟨x, ny⟩ := y
        have CN' : Hid (Calls Tryz.prog 62 #[.pointer (some ⟨p, 0, none⟩), .slice (some ⟨sg, so, none⟩) sn sc, .int .i64 v0] wr fun e w' => e = .returned (.tuple #[.string ⟨x.toArray⟩, .bool true]) ∧ RgA w' p (.slice (some ⟨g, go, none⟩) n c) (S : Nat) (F : Nat) d k tv (.slice (some ⟨bg, 0, none⟩) (S + 1) bc) (ny : Nat) ∧ Chg (fun k => k = p) wr w') := hidOf (CN.out.mono (fun e w' h => by
          obtain ⟨h1, ⟨h2, _⟩ | ⟨x', ny', h2, h3, h4⟩⟩ := h
          · rw [hnm] at h2; cases h2
          · rw [hnm] at h2; cases h2; exact ⟨h3, h4, h1⟩))
        have HNM := hidOf hnm
        have hny := nmT_pos hnm
        rw [HSN.out] at hny
        have hnyN : Hid (ny ≤ sn + 1 ∧ seN ny = ny) := hidOf (by
          refine ⟨?_, by simp [seN]; omega⟩
          have h1 := hnm
          unfold nmT at h1
          split at h1
          · cases h1
          · cases ha : atF 1 N (v0 : Int) with
            | none => rw [ha] at h1; cases h1
            | some y =>
              rw [ha] at h1
              simp only [Option.some.injEq, Prod.mk.injEq] at h1
              have h2 := (at_bytes ha).2.1
              rw [HSN.out] at h2
              have h3 := HSE.out.2
              have h4 : seN se ≤ sn + 1 := by unfold seN; split <;> omega
              rw [← h1.2]
              split <;> omega)
        clear hnm CN hny
        go_upto_region 11 with (first | (go_at_call 30; refine CT0.out.mono ?_; rintro e wy ⟨rfl, hy⟩; subst hy) | (go_at_call 62; refine CN'.out.mono ?_; rintro e w1 ⟨rfl, r1, k1⟩; have R1 := hidOf r1; have K1 := hidOf k1; clear r1 k1))
        clear c0 c1 c2 c6 u0 u1 u2 u3 u4 u5
        obtain ⟨c0, c1, c2, c3, c4, c5, c6, c7⟩ := R1.out.at
        clear c2 c3 c4 c5 c7
        have KK := hidOf (HC.out.trans K1.out (fun _ h _ => h))
        have Bt1 := hidOf (bt_chg HB.out KK.out hgp)
        have Bo1 : Hid (BoA w1 bg (stT L ++ [true])) := hidOf fun i b hi => KK.out.cell (HBO.out i b hi) hbp
        have m4 : (q : Int) + 8 ≤ c := by omega
        have n4 : (q : Int) + 4 ≤ q + 8 := by omega
        have o4 : ((q : Int) + 4).toNat = q + 4 := by omega
        have p4 : q + 8 - (q + 4) = 4 := by omega
        have q4 : ¬ c = q + 4 := by omega
        have r4 : ¬ (c : Int) = (q : Int) + 4 := by omega
        have s4 : (0 : Int) ≤ (q : Int) + 4 := by omega
        have m8 : (q : Int) + 12 ≤ c := by omega
        have n8 : (q : Int) + 8 ≤ q + 12 := by omega
        have o8 : ((q : Int) + 8).toNat = q + 8 := by omega
        have p8 : q + 12 - (q + 8) = 4 := by omega
        have q8 : ¬ c = q + 8 := by omega
        have r8 : ¬ (c : Int) = (q : Int) + 8 := by omega
        have s8 : (0 : Int) ≤ (q : Int) + 8 := by omega
        have m12 : (q : Int) + 16 ≤ c := by omega
        have n12 : (q : Int) + 12 ≤ q + 16 := by omega
        have o12 : ((q : Int) + 12).toNat = q + 12 := by omega
        have p12 : q + 16 - (q + 12) = 4 := by omega
        have q12 : ¬ c = q + 12 := by omega
        have r12 : ¬ (c : Int) = (q : Int) + 12 := by omega
        have s12 : (0 : Int) ≤ (q : Int) + 12 := by omega
        have o16 : ((q : Int) + 16).toNat = q + 16 := by omega
        have CTx : ∀ r y, r + 4 ≤ n → g4 l r = y → Hid (Calls Tryz.prog 30 #[.slice (some ⟨g, go + r, none⟩) 4 (c - r)] w1 fun e w' => e = .returned (.int .i64 (y : Nat)) ∧ w1 = w') := fun r y hr hy => hidOf (by
          have := CT.out w1 r Bt1.out hr
          rw [hy] at this; exact this)
        obtain ⟨v8, hv8⟩ : ∃ y, Hid (g4 l (q + 8) = y) := ⟨_, rfl⟩
        obtain ⟨v12, hv12⟩ : ∃ y, Hid (g4 l (q + 12) = y) := ⟨_, rfl⟩
        obtain ⟨v4, hv4⟩ : ∃ y, Hid (g4 l (q + 4) = y) := ⟨_, rfl⟩
        have v12b : v12 < 4294967296 := by rw [← hv12.out]; exact g4_lt _ _
        have CT8 := CTx (q + 8) v8 (by omega) hv8.out
        have CT12 := CTx (q + 12) v12 (by omega) hv12.out
        have CT4 := CTx (q + 4) v4 (by omega) hv4.out
        clear CTx CT CT0 CN'
        by_cases h8 : v8 = sl
        · have b8 : ((v8 : Int) != (sl : Int)) = false := by simp [h8]
          have H8 := hidOf h8
          clear h8
          go_upto_region 13 with (go_at_call 30; refine CT8.out.mono ?_; rintro e wy ⟨rfl, hy⟩; subst hy)
          clear b8
          go_upto_region 14 with (go_at_call 30; refine CT12.out.mono ?_; rintro e wy ⟨rfl, hy⟩; subst hy)
          have ENO : Hid ((v12 = 0 ∨ slotsP L - sl < v12 ∨ (stT L ++ [true])[sl + v12]? = some false) → fnR l N L F (28 + 8 * S) 0 0 1 = .error (q + 12)) := hidOf fun h => by
            rw [HX2.out, fn_c (by rw [hv0.out]; exact HNM.out) (by rw [hv8.out]; exact H8.out) (by rw [hv12.out]; exact fn_cutA HTK.out.1 h)]; rfl
          by_cases k0 : v12 = 0
          · have b0 : ((v12 : Int) == 0) = true := by simp [k0]
            have E := hidOf (ENO.out (.inl k0))
            clear k0
            go_wp2
            go_ret2
            exact ⟨KK.out, .inl ⟨q + 12, E.out, by simp⟩⟩
          · have b0 : ((v12 : Int) == 0) = false := by simp; omega
            by_cases k1 : S - sl < v12
            · have b1 : (S : Int) - sl < v12 := by omega
              have E := hidOf (ENO.out (.inr (.inl (by rw [HSL.out]; exact k1))))
              go_wp2
              go_ret2
              exact ⟨KK.out, .inl ⟨q + 12, E.out, by simp⟩⟩
            · have b1 : ¬ (S : Int) - sl < v12 := by omega
              obtain ⟨b, hb⟩ : ∃ b, (stT L ++ [true])[sl + v12]? = some b := ⟨_, List.getElem?_eq_getElem (by rw [hstl.out]; omega)⟩
              have q1 : w1.cell? ⟨bg, sl + v12, none⟩ = some (.bool b) := Bo1.out _ _ hb
              have e1 : ((sl : Int) + v12).toNat = sl + v12 := by omega
              have e2 : (0 : Int) ≤ (sl : Int) + v12 := by omega
              have e3 : (sl : Int) + v12 < ((S + 1 : Nat) : Int) := by omega
              have e4 : (sl : Int) + v12 < (S : Int) + 1 := by omega
              cases b with
              | false =>
                have E := hidOf (ENO.out (.inr (.inr hb)))
                clear hb
                go_wp2
                go_ret2
                exact ⟨KK.out, .inl ⟨q + 12, E.out, by simp⟩⟩
              | true =>
                obtain ⟨f1, f2, f3, f4, f5⟩ := fn_cutB (v := v12) HTK.out.1 HTK.out.2 k0 (by rw [HSL.out]; omega) hb
                obtain ⟨ct, hct⟩ : ∃ y, Hid ((cntO (L.drop fi) v12).1 = y) := ⟨_, rfl⟩
                rw [hct.out] at f2 f3 f4
                rw [HSL.out] at f5
                have CBG := hidOf (begun_any w1 p bg bc sl (sl + v12) (S + 1) _ _ _ _ _ _ _ _ hstl.out Bo1.out (by omega) (by omega) (by omega) R1.out)
                rw [show sl + v12 - sl = v12 by omega, f2] at CBG
                have hctb : ct ≤ 4294967296 := by
                  have h1 : L.length ≤ slotsP L := by unfold slotsP; omega
                  rw [HSL.out] at h1; omega
                have hfc : fi + ct ≤ 4294967296 := by
                  have h1 : L.length ≤ slotsP L := by unfold slotsP; omega
                  rw [HSL.out] at h1; omega
                have HXN : Hid (fnR l N L F (28 + 8 * S) 0 0 1 = (fnR l N L (F - (j + 1)) (28 + 8 * S + 16 * (j + 1)) (fi + ct) (sl + v12) (seN ny)).map (fun r => ((D ++ [⟨x, (v4 : Nat), (fi : Nat), (ct : Nat)⟩]) ++ r.1, r.2))) := hidOf (by
                  rw [HX2.out, fn_ok (by rw [hv0.out]; exact HNM.out) (by rw [hv8.out]; exact H8.out) (by rw [hv12.out]; exact f1) (by rw [hv12.out]; exact k0), hv12.out, hct.out, hv4.out, hnyN.out.2, show q + 16 = 28 + 8 * S + 16 * (j + 1) by rw [← hq.out]; omega]
                  cases fnR l N L (F - (j + 1)) (28 + 8 * S + 16 * (j + 1)) (fi + ct) (sl + v12) ny <;> simp [Except.map])
                have HT2 := hidOf (And.intro f3 f4)
                clear hb f1 f2 f3 f4 ENO
                rw [show (((sl + v12 : Nat) : Nat) : Int) = (sl : Int) + v12 by omega] at CBG
                have OA : Hid (∀ O, (w1.alloc O).ownsRow w.heap.size 69 4 (.slice a j cap) j (fnV D)) := hidOf fun O => World.ownsRow.alloc (owns_chg HOw.out (fun k hk e => by have := (HOw.out.lt k hk).1; omega) K1.out) O
                have hs1 : w.heap.size ≤ w1.heap.size := KK.out.size
                have HNP : Hid (∀ k, (Value.slice a j cap).ownBlock = some k → w.heap.size ≤ k) := hidOf fun k hk => (HOw.out.lt k hk).1
                have FAR : Hid (∀ O w', (w1.alloc O).grownBy w' (Value.slice a j cap).ownBlock → RgA w' p (.slice (some ⟨g, go, none⟩) n c) (S : Nat) (F : Nat) d k tv (.slice (some ⟨bg, 0, none⟩) (S + 1) bc) (ny : Nat) ∧ Chg (fun k => k = p) w w') := hidOf fun O w' hg => by
                  have hc := Chg.of_grown (S := fun k => (Value.slice a j cap).ownBlock = some k) hg (fun k hk => hk)
                  refine ⟨(R1.out.out (Out.alloc (Out.refl _) O)).chg hc (fun h => by have := HNP.out _ h; omega), ?_⟩
                  exact (KK.out.trans (T := fun _ => False) (Chg.of_out (Out.alloc (Out.refl _) O)) (fun _ h _ => h.elim)).trans hc (fun x h hlt => by have := HNP.out x h; omega)
                have hDj : j ≤ 4294967296 := by omega
                clear HX HX2 HR HOw CT8 CT12
                go_upto_region 17 with (go_at_call 63; refine CBG.out.mono ?_; rintro e wy ⟨rfl, hy⟩; subst hy)
                clear q1 e1 e2 e3 e4 CBG b0 b1
                go_wp2_with (first
                  | (go_at_call 30; refine CT4.out.mono ?_; rintro e wy ⟨rfl, hy⟩; subst hy)
                  | (at_builtin; refine wpList_append_own _ rfl (.tmp 106) (.tmp 121) 23 rfl w.heap.size 69 i0' _ 4 40 Tryz.underlying23 hi0' hz0' hz1' hz2' rfl (by decide) (.slice a j cap) j (fnV D) rfl (OA.out _) ⟨w1.heap.size, 0, none⟩ 1 1 (Fn.cs ⟨x, (v4 : Nat), (fi : Nat), (ct : Nat)⟩) rfl rfl (news_new w1 _ _ _ rfl) (fn_one _) (by unfold maxLen; omega) (by omega) (Nat.le_trans hs1 (Out.size (Out.alloc (Out.refl _) _))) ?_; intro v8' w8 own8 gr8 _; obtain ⟨a8, c8, rfl⟩ := own_form own8; have F8 := hidOf (FAR.out _ _ gr8); have W8 := hidOf own8; clear own8 gr8))
                go_roundw
                case rel => exact ⟨j + 1, sl + v12, fi + ct, c8, ny, D ++ [⟨x, (v4 : Nat), (fi : Nat), (ct : Nat)⟩], a8, by omega, rfl, by simp, by simp, by simp, by have := hnyN.out.1; omega, f5, hfc, HT2, hidOf (by have := hnyN.out.1; omega), hidOf (by rw [List.length_append, HDl.out]; rfl), hidOf (by rw [fnV_snoc]; exact W8.out), hidOf F8.out.1, hidOf F8.out.2, HXN⟩
                case measure => simp [intOf] <;> omega
        · have b8 : ((v8 : Int) != (sl : Int)) = true := by simp; omega
          have E : Hid (fnR l N L F (28 + 8 * S) 0 0 1 = .error (q + 8)) := hidOf (by rw [HX2.out, fn_s (by rw [hv0.out]; exact HNM.out) (by rw [hv8.out]; exact h8)]; rfl)
          go_wp2_with (go_at_call 30; refine CT8.out.mono ?_; rintro e wy ⟨rfl, hy⟩; subst hy)
          go_ret2
          exact ⟨KK.out, .inl ⟨q + 8, E.out, by simp⟩⟩
    · have hlt : ¬ (j : Int) < F := by omega
      have hjF2 : Hid (j = F) := hidOf (by omega)
      go_wp2
      go_ret2
      refine ⟨HC.out, .inr ⟨D, seN se, se, a, cap, ?_, rfl, by rw [HSN.out]; exact HSE.out.2, by rw [HDl.out, hjF2.out], by rw [hjF2.out]; rfl, ?_, HR.out⟩⟩
      · rw [HX.out, hjF2.out, Nat.sub_self]; simp [fnR, Except.map]
      · have := HOw.out; rw [hjF2.out] at this; exact this
end Go.Proofs.YthififblejbleaaGreatDoor
