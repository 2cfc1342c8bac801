import Derived.Test.YtlfcjbeldnkkoaaGb09
import Derived.Deep.MidRow
import Derived.Deep.WholeRow
namespace Go.Proofs.Ytlfcjbeldnkkoaa
open Go.RowKit
set_option linter.unusedVariables false
set_option linter.unusedSimpArgs false
/-- where a section's data lie -/
def DatAt (B : Nat) (w : World) (x : SV) : Prop := (x.da = none ∧ x.s.d = [] ∧ x.dc = 0) ∨ ∃ ad, x.da = some ad ∧ (x.s.d = [] ∨ ad.block < B) ∧ ∀ j u, (Lib.byteCells x.s.d)[j]? = some u → w.cell? (ad.add j) = some u
theorem add_block (ad : Addr) (j : Nat) : (ad.add j).block = ad.block := by cases ad; unfold Addr.add; first | rfl | (split <;> rfl)
theorem DatAt.below {B : Nat} {w w' : World} {x : SV} (h : DatAt B w x) (b : Below B w w') : DatAt B w' x := by
  rcases h with h | ⟨ad, h1, h2, h3⟩
  · exact .inl h
  · refine .inr ⟨ad, h1, h2, fun j u hu => ?_⟩
    rcases h2 with h2 | h2
    · rw [h2] at hu; simp [Lib.byteCells] at hu
    · rw [← h3 j u hu]
      exact World.cell?_of_block (b.block _ (by rw [add_block]; exact h2))
theorem nms_secs (L : List SV) : nmsOf (L ++ [t0]) = nmsS (secs L) := by simp [nmsOf, nmsS, secs, t0]
theorem pls_secs (L : List SV) : plsOf (L ++ [t0]) = plsS (secs L) := by unfold plsOf plsS; rw [nms_secs]
theorem DatAt.mono {B B' : Nat} {w : World} {x : SV} (h : DatAt B w x) (hB : B ≤ B') : DatAt B' w x := by
  rcases h with h | ⟨ad, h1, h2, h3⟩
  · exact .inl h
  · exact .inr ⟨ad, h1, h2.imp id (fun h => Nat.lt_of_lt_of_le h hB), h3⟩
theorem own_some {w : World} {B n sz : Nat} {T : TypeId} {v : Value} {xs : List Value} (h : w.ownsRow B T sz v n xs) (hn : 0 < n) : ∃ g c, v = .slice (some ⟨g, 0, none⟩) n c := by
  rcases h.2 with ⟨_, h0⟩ | ⟨g, cap, cur, rfl, _⟩
  · omega
  · exact ⟨g, cap, rfl⟩
def t1 (ss : List Sec) (na : Option Addr) (nc : Nat) : SV := ⟨tabS ss, na, nc⟩
theorem t1_cs (ss : List Sec) (na : Option Addr) (nc : Nat) : (t1 ss na nc).cs = t0.cs.set 7 (.slice (t1 ss na nc).da (t1 ss na nc).s.d.length (t1 ss na nc).dc) := rfl
theorem secs_t1 (L : List SV) (na : Option Addr) (nc : Nat) : secs (L ++ [t1 (secs L) na nc]) = allS (secs L) := by simp [secs, allS, t1]
/-- what Write has behind rowsOf -/
structure WA (B : Nat) (w W : World) (ga ca : Nat) (ra : Option Addr) (rc : Nat) (L' : List SV) (Rs : List Rw) : Prop where
  out : Out w W
  all : OwV 0 (.slice (some ⟨ga, 0, none⟩) L'.length ca) L' W
  rows : OwR 0 (.slice ra Rs.length rc) Rs W
  dat : ∀ x ∈ L', DatAt W.heap.size W x
theorem headF_wid (t c s : Nat × Nat) : widF (headF t c s) = 64 := by
  have e : widF (headF t c s) = widF (bwF hdA) + 8 + widF (bwF hdB) + 4 := by simp [headF, widF]; omega
  rw [e, bwF_wid, bwF_wid]; decide
theorem headF_len (t c s : Nat × Nat) : (headF t c s).length = 55 := by simp [headF, bwF_len]; decide
theorem headF_w (t c s : Nat × Nat) : ∀ f ∈ headF t c s, 1 ≤ f.w ∧ f.w ≤ 8 := by
  intro f hf
  simp only [headF, List.mem_append, List.mem_cons, List.not_mem_nil, or_false] at hf
  rcases hf with ((hf | hf) | hf) | hf | hf
  · have := bwF_w _ f hf; omega
  · rw [hf]; simp
  · have := bwF_w _ f hf; omega
  · rw [hf]; simp
  · rw [hf]; simp
/-- the bytes that are being written -/
structure WS (W wr : World) (v : Value) (P : List UInt8) : Prop where
  own : OwB W.heap.size v P wr
  bel : Out W wr
theorem WS.on {W wr w' : World} {v : Value} {P : List UInt8} (h : WS W wr v P) (o : Out wr w') : WS W w' v P := ⟨owns_chg (S := fun _ => False) h.own (fun _ _ h => h) (Chg.of_out o), h.bel.trans o⟩
theorem WS.low {W wr w' : World} {v v' : Value} {P P' : List UInt8} (h : WS W wr v P) (ho : OwB W.heap.size v' P' w') (b : Below W.heap.size wr w') : WS W w' v' P' := ⟨ho, Below.trans h.bel b⟩
theorem own_at {W wr : World} {B n sz : Nat} {T : TypeId} {v : Value} {xs : List Value} (h : W.ownsRow B T sz v n xs) (o : Out W wr) : wr.ownsRow B T sz v n xs := owns_chg (S := fun _ => False) h (fun _ _ h => h) (Chg.of_out o)
theorem OwV.cells {B g n c : Nat} {L : List SV} {w : World} (h : OwV B (.slice (some ⟨g, 0, none⟩) n c) L w) {i : Nat} {x : SV} (hx : L[i]? = some x) : Cells8 w g (i * 8) x := by
  obtain ⟨b, off, hb, _, h8⟩ := h.at.1.get hx
  cases hb
  rwa [Nat.zero_add] at h8
theorem OwR.cells {B n c g : Nat} {R : List Rw} {w : World} (h : OwR B (.slice (some ⟨g, 0, none⟩) n c) R w) {i : Nat} {r : Rw} (hr : R[i]? = some r) : ∀ j, j < 18 → w.cell? ⟨g, i * 18 + j, none⟩ = r.cs[j]? := fun j hj => by
  have hlt : j < r.cs.length := by simpa [Rw.cs] using hj
  have h1 := World.ownsRow.cells h (g := g) rfl (i * 18 + j) (r.cs[j]'hlt) (by rw [rwV_get R i r j hr hj, List.getElem?_eq_getElem hlt])
  rw [WideShapes.add_plain, Nat.zero_add] at h1
  rw [h1, List.getElem?_eq_getElem hlt]
theorem bodF_len (L : List Sec) : ∀ b : List UInt8, (bodF b L).length = endF b.length L := by
  induction L with
  | nil => intro b; rfl
  | cons s r ih =>
    intro b
    show (bodF (padB (b ++ s.d)) r).length = endF (up8 (b.length + s.d.length)) r
    rw [ih, padB_len, List.length_append]
theorem bodF_snoc (b : List UInt8) (L : List Sec) (s : Sec) : bodF b (L ++ [s]) = padB (bodF b L ++ s.d) := by simp [bodF]
theorem tblF_snoc (R : List Rw) (r : Rw) : tblF (R ++ [r]) = tblF R ++ layB r.fds := by simp [tblF]
theorem tblF_len (R : List Rw) : (tblF R).length = 64 * R.length := by
  induction R with
  | nil => rfl
  | cons r t ih => show (layB r.fds ++ tblF t).length = _; rw [List.length_append, ih, layB_len, fds_wid, List.length_cons]; omega
theorem wpList_alloc_new {P : Program} {ops : Array Oper} {rest : List Oper} {op : Oper} {a : Act} {w : World} {Q : Exit → Act → World → Prop} (hgd : op.guard = none) (ty : TypeId) (ho : op.op = .alloc ty) (z : Value) (hz : ∀ w, (zeroValue ty).run P w = .ok z w)
    (h : wpList P ops Q rest (a.put op.dst (.pointer (some ⟨w.heap.size, 0, none⟩))) (w.alloc (.cells z.cells ty))) : wpList P ops Q (op :: rest) a w :=
  wpList_plain hgd fun K hK => by
    unfold Oper.wp execOp
    simp only [ho, Instr.alloc, Sem.run_bind, hz, Result.andThen_ok]
    exact hK _ _ h
theorem wpList_store_new {P : Program} {ops : Array Oper} {rest : List Oper} {op : Oper} {a : Act} {w : World} {Q : Exit → Act → World → Prop} (hgd : op.guard = none) (ty : TypeId) (x y : Operand) (ho : op.op = .store ty x y) (c c' : Array Value) (hx : a.eval x = .pointer (some ⟨w.heap.size, 0, none⟩)) (hy : a.eval y = .agg c')
    (hi : (P.info? ty).map (·.size) = some c'.size) (hs : c.size = c'.size) (h1 : c'.all (·.oneCell') = true)
    (h : wpList P ops Q rest (a.put op.dst undef) (w.alloc (.cells c' ty))) : wpList P ops Q (op :: rest) a (w.alloc (.cells c ty)) :=
  wpList_plain hgd fun K hK => by
    unfold Oper.wp execOp
    simp only [ho, hx, hy, Sem.run_bind, run_storeAt_new w ty c c' hi hs h1, Result.andThen_ok, Sem.run_pure]
    exact hK _ _ h
theorem sizeRw : (Try.prog.info? 79).map (·.size) = some 18 := by kernel_rfl
theorem zeroRw : (Try.prog.info? 79).map (fun i => (i.zero, i.size)) = some (some (.agg zRw.cs.toArray), 18) := by kernel_rfl
theorem rw_one (r : Rw) : r.cs.toArray.all (·.oneCell') = true := all_oneCell_toArray (fun u hu => rwV_one [r] u (by simpa [rwV] using hu))
theorem hd_eq (ss : List Sec) (n T : Nat) (hn : ss.length = n) (hT : T = endF 64 (allS ss)) : layB (headF (jw (T : Int), jw (T : Int)) (jw ((n : Int) + 1 + 1), jw ((n : Int) + 1 + 1)) (jw ((n : Int) + 1), jw ((n : Int) + 1))) = layB (headF (jw2 (endF 64 (allS ss))) (jw2 (ss.length + 2)) (jw2 (ss.length + 1))) := by
  rw [← hT, hn, show (n : Int) + 1 + 1 = (n : Int) + 2 by omega]
  simp only [jw2]
theorem fin_eq {ss : List Sec} {P2 P Hd R : List UInt8} {Rs : List Rw} (h1 : P2 = P ++ tblF Rs) (h2 : P = bodF Hd (allS ss)) (h3 : Hd = layB (headF (jw2 (endF 64 (allS ss))) (jw2 (ss.length + 2)) (jw2 (ss.length + 1)))) (h4 : Rs = zRw :: rowsF 64 (allS ss) (plsS ss)) (h5 : R = writeB ss) : P2 = R := by
  rw [h1, h2, h3, h4, h5, writeB]
set_option maxRecDepth 40000 in
set_option maxHeartbeats 8000000 in
theorem write_ok (B : Nat) (a : Option Addr) (c : Nat) (L : List SV) (w : World) (R : List UInt8) (h : ScAt B w a L) (hD : ∀ x ∈ L, DatAt B w x) (hB : B ≤ w.heap.size) (hc : L.length ≤ c) (hl : L.length ≤ 16) (hb : L.any (fun x => badP x.s) = false) (hn : ∀ x ∈ nmsS (secs L), nameOk x = true) (hs : sumD (secs L) ≤ 100000000000) (hR : R = writeB (secs L)) :
    Calls Try.prog 8 #[.slice a L.length c] w fun e w' => ∃ a' c', e = .returned (.tuple #[.slice a' R.length c', .int .i64 0]) ∧ OwB w.heap.size (.slice a' R.length c') R w' ∧ Out w w' := by
  have HC := hidOf (contains_any B a c L w h hB hc (by omega))
  rw [hb] at HC
  have HCl := hidOf (fun wx (o : Out w wx) => cloneV_any B a c L wx (h.below (Below.mono o hB)) (by omega))
  have hlI : ¬ (16 : Int) < L.length := by omega
  have hlN : (L.length : Int) ≤ 16 := by omega
  obtain ⟨i0, hi, hz0, hz1, hz2⟩ := info_parts infoSc
  have HD := hidOf hD
  have Hn := hidOf hn
  have Hs := hidOf hs
  have HR := hidOf hR
  clear h hD hn hs hR
  go_enter Try.func8, Try.ntmps8
  go_upto_region 4 with (first | (go_at_call 24; refine (HC.out).mono ?_; rintro e w1 ⟨rfl, hO1⟩; have HO1 := hidOf hO1; clear hO1) | (go_at_call 26; refine (HCl.out _ HO1.out).mono ?_; rintro e w2 ⟨av, cv, rfl, hV, hO2⟩; have HV : Hid (OwV w.heap.size (.slice av L.length cv) L w2) := own_base hV HO1.out.size; have HO2 := hidOf (HO1.out.trans hO2); have hs2 : w.heap.size ≤ w2.heap.size := HO2.out.size; clear hV hO2) | (at_builtin; refine wpList_append_own _ rfl (.tmp 23) (.tmp 25) 38 rfl w.heap.size 46 i0 _ 8 88 Try.underlying38 hi hz0 hz1 hz2 rfl (by decide) (.slice av L.length cv) L.length (svV L) rfl (World.ownsRow.alloc HV.out _) ⟨w2.heap.size, 0, none⟩ 1 1 t0.cs rfl rfl (news_new w2 _ _ _ rfl) (svV_one [t0]) (by unfold maxLen; omega) (by omega) (by rw [size_alloc]; omega) ?_; intro v3 w3 hown3 hgrow3 _; have HO3 := hidOf hown3; have Hw3 := hidOf (out_rowN (HO2.out.alloc _) (World.ownsRow.alloc HV.out _) hgrow3); clear hgrow3; obtain ⟨ga, ca, rfl⟩ := own_some hown3 (by omega); clear hown3))
  clear HC HCl HV HO1 HO2 hs2
  have hlen : (L ++ [t0]).length = L.length + 1 := by simp
  have HV3 : Hid (OwV w.heap.size (.slice (some ⟨ga, 0, none⟩) (L.length + 1) ca) (L ++ [t0]) w3) := by
    have := HO3.out
    show World.ownsRow _ _ _ _ _ _ _
    rw [hlen, svV_app]
    simpa [svV] using this
  obtain ⟨hat3, hca, hbad⟩ := HV3.out.at
  clear hbad
  have CN := hidOf (addNames_any w3.heap.size (some ⟨ga, 0, none⟩) ca (L ++ [t0]) w3 hat3 (Nat.le_refl _) hca (by omega))
  rw [nms_secs, pls_secs, hlen] at CN
  have CN2 : Hid (Calls Try.prog 27 #[.slice (some ⟨ga, 0, none⟩) (L.length + 1) ca] w3 fun e w' => Out w3 w' ∧ ∃ na nc g, e = .returned (.tuple #[.slice na (tabD (secs L)).length nc, .slice (some ⟨g, 0, none⟩) (L.length + 1) (L.length + 1), .int .i64 0]) ∧ OwB w3.heap.size (.slice na (tabD (secs L)).length nc) (tabD (secs L)) w' ∧ RowI w' g (plsS (secs L))) := by
    refine (CN.out).mono ?_
    rintro e w' ⟨ho, ⟨_, na, nc, g, rfl, h1, h2, _⟩ | ⟨hno, _⟩⟩
    · exact ⟨ho, na, nc, g, rfl, h1, h2⟩
    · exact absurd Hn.out hno
  clear CN hat3 hca HO3 hlen
  go_upto_region 7 with (go_at_call 27; refine (CN2.out).mono ?_; rintro e w4 ⟨hO4, na, nc, gp, rfl, hNm, hPl⟩; have HO4 := hidOf hO4; have HNm := hidOf hNm; have HPl := hidOf hPl; clear hO4 hNm hPl)
  have hV4 : OwV w.heap.size (.slice (some ⟨ga, 0, none⟩) (L.length + 1) ca) (L ++ [t0]) w4 := own_at HV3.out HO4.out
  obtain ⟨hV5, ⟨u7, hu7⟩, hf7⟩ := hV4.setLast (t1_cs (secs L) na nc)
  have hne1 : ¬ ga = gp := fun e => own_type hV4 HPl.out (by decide) (by rw [e]; rfl)
  have hne2 : ∀ k, (Value.slice na (tabD (secs L)).length nc).ownBlock = some k → ¬ k = ga := fun k hk e => own_apart (by decide) HNm.out hV4 k hk (by rw [e]; rfl)
  have hga : w.heap.size ≤ ga := (hV4.lt ga rfl).1
  have c5 : Chg (fun k => k = ga) w4 (w4.setCell ⟨ga, L.length * 8 + 7, none⟩ (.slice na (tabD (secs L)).length nc)) := Chg.setCell (S := fun k => k = ga) (Chg.refl _ w4) (p := ⟨ga, L.length * 8 + 7, none⟩) rfl _
  have HV5 : Hid (OwV w.heap.size (.slice (some ⟨ga, 0, none⟩) (L.length + 1) ca) (L ++ [t1 (secs L) na nc]) (w4.setCell ⟨ga, L.length * 8 + 7, none⟩ (.slice na (tabD (secs L)).length nc))) := hV5
  have HPl5 : Hid (RowI (w4.setCell ⟨ga, L.length * 8 + 7, none⟩ (.slice na (tabD (secs L)).length nc)) gp (plsS (secs L))) := (c5.block gp HPl.out.lt (fun e => hne1 e.symm)).trans HPl.out
  have HNm5 : Hid (OwB w3.heap.size (.slice na (tabD (secs L)).length nc) (tabD (secs L)) (w4.setCell ⟨ga, L.length * 8 + 7, none⟩ (.slice na (tabD (secs L)).length nc))) := owns_chg HNm.out hne2 c5
  have Ho5 : Hid (Out w (w4.setCell ⟨ga, L.length * 8 + 7, none⟩ (.slice na (tabD (secs L)).length nc))) := Out.setCell (Hw3.out.trans HO4.out) hga _
  clear hV4 hV5 c5 hne1 hne2 hga HNm HPl HV3 CN2
  have hf7' : w4.frozen? ⟨ga, L.length * 8 + 7, none⟩ = false := hf7
  go_upto_region 8 with fail
  clear hu7 hf7 hf7' HO4
  generalize w4.setCell ⟨ga, L.length * 8 + 7, none⟩ (.slice na (tabD (secs L)).length nc) = w5 at *
  have hl1 : (L ++ [t1 (secs L) na nc]).length = L.length + 1 := by simp
  have hZl : (plsS (secs L)).length = L.length + 1 := by simp [plsS, nmsS, secs]
  have htd : (tabD (secs L)).length ≤ 1200 := by
    have := (namesF_ok _ Hn.out).2.2.2
    have e : (nmsS (secs L)).length = L.length + 1 := by simp [nmsS, secs]
    rw [tabD, byP_len]; omega
  have hsum : sumD (allS (secs L)) = sumD (secs L) + (tabD (secs L)).length := by simp [sumD, allS, tabS]
  obtain ⟨hat5, hca5, hbad⟩ := HV5.out.at
  clear hbad
  have CR := hidOf (rowsOf_any w5.heap.size (some ⟨ga, 0, none⟩) ca (L ++ [t1 (secs L) na nc]) (plsS (secs L)) gp w5 hat5 (Nat.le_refl _) hca5 (by omega) (by omega) HPl5.out (by rw [secs_t1, hsum]; have := Hs.out; omega))
  rw [secs_t1, hl1] at CR
  have hTl := endF_le (allS (secs L)) 64
  have hTb : endF 64 (allS (secs L)) ≤ 200000000000 := by
    have := Hs.out
    have e : (allS (secs L)).length = L.length + 1 := by simp [allS, secs]
    omega
  have hRsl : (zRw :: rowsF 64 (allS (secs L)) (plsS (secs L))).length = L.length + 1 + 1 := by
    rw [List.length_cons, rowsF_len _ _ _ (by rw [hZl]; simp [allS, secs])]; simp [allS, secs]
  obtain ⟨T, hT⟩ : ∃ T, T = endF 64 (allS (secs L)) := ⟨_, rfl⟩
  rw [← hT] at CR hTb
  have HT := hidOf hT
  have HRsl := hidOf hRsl
  have Hl1 := hidOf hl1
  have Htd := hidOf htd
  have hTI : (T : Int) ≤ 200000000000 := by omega
  clear hT hRsl hl1 hZl htd hsum hTl hat5 hca5
  go_upto_region 9 with (go_at_call 28; refine (CR.out).mono ?_; rintro e w6 ⟨ra, rc, rfl, hRw, hO6⟩; have HRw := hidOf hRw; have HO6 := hidOf hO6; clear hRw hO6)
  have HWA : Hid (WA B w w6 ga ca ra rc (L ++ [t1 (secs L) na nc]) (zRw :: rowsF 64 (allS (secs L)) (plsS (secs L)))) := by
    refine ⟨Ho5.out.trans HO6.out, ?_, ?_, ?_⟩
    · rw [Hl1.out]; exact own_base (own_at HV5.out HO6.out) (Nat.zero_le _)
    · rw [HRsl.out]; exact own_base HRw.out (Nat.zero_le _)
    · intro x hx
      rcases List.mem_append.1 hx with hx | hx
      · have o6 := Ho5.out.trans HO6.out
        exact ((HD.out x hx).below (Below.mono o6 hB)).mono (Nat.le_trans hB o6.size)
      · simp at hx
        subst hx
        have hN6 : OwB w3.heap.size (.slice na (tabD (secs L)).length nc) (tabD (secs L)) w6 := own_at HNm5.out HO6.out
        rcases hN6.2 with ⟨hv, h0⟩ | ⟨g, cap, cur, hv, _, hg, _⟩
        · exact absurd h0 (by simp [tabD, byP])
        · cases hv
          exact .inr ⟨_, rfl, .inr (Array.getElem?_eq_some_iff.1 hg).1, World.ownsRow.cells hN6 (g := g) rfl⟩
  clear HRw HO6 HV5 HPl5 HNm5 Ho5 CR Hw3
  obtain ⟨cur, hmk, hown⟩ := run_make_b0 (T + 64 * (L.length + 1 + 1)) (by omega) w6
  have HB7 : Hid (WS w6 (w6.alloc (.cells cur 5)) (.slice (some ⟨w6.heap.size, 0, none⟩) 0 (T + 64 * (L.length + 1 + 1))) []) := ⟨hown, (Out.refl w6).alloc _⟩
  rw [show ((T + 64 * (L.length + 1 + 1) : Nat) : Int) = (T : Int) + 64 * ((L.length : Int) + 1 + 1) by omega] at hmk
  clear hown
  go_upto_region 10 with fail
  clear hmk
  generalize w6.alloc (.cells cur 5) = w7 at *
  have J := hidOf (fun n wx => just_of (W := w7) n wx)
  have O0 := hidOf (Out.refl w7)
  have CH : Hid (∀ t1 t2 c1 c2 s1 s2 wx, Out w7 wx → Calls Try.prog 30 #[.agg #[.int .u64 ((t1 : Nat) : Int), .int .u64 ((t2 : Nat) : Int)], .agg #[.int .u64 ((c1 : Nat) : Int), .int .u64 ((c2 : Nat) : Int)], .agg #[.int .u64 ((s1 : Nat) : Int), .int .u64 ((s2 : Nat) : Int)]] wx fun e w' => ∃ a c, e = .returned (.slice a 55 c) ∧ OwF 0 (.slice a 55 c) (headF (t1, t2) (c1, c2) (s1, s2)) w' ∧ Out w7 w') := fun t1 t2 c1 c2 s1 s2 wx ho => (head_any t1 t2 c1 c2 s1 s2 wx).mono fun e w' ⟨a, c, he, h1, h2⟩ => ⟨a, c, he, own_base h1 (Nat.zero_le _), ho.trans h2⟩
  have CL : Hid (∀ wx fa fc t c' s', Out w7 wx → OwF 0 (.slice fa 55 fc) (headF t c' s') wx → Calls Try.prog 29 #[.slice (some ⟨w6.heap.size, 0, none⟩) 0 (T + 64 * (L.length + 1 + 1)), .slice fa 55 fc] wx fun e w' => ∃ a c, e = .returned (.slice a 64 c) ∧ WS w6 w' (.slice a 64 c) (layB (headF t c' s'))) := by
    intro wx fa fc t c' s' ho hF
    have hws := HB7.out.on ho
    have e64 : (layB (headF t c' s')).length = 64 := by rw [layB_len, headF_wid]
    have h55 := headF_len t c' s'
    have := lay_any w6.heap.size wx (some ⟨w6.heap.size, 0, none⟩) (T + 64 * (L.length + 1 + 1)) [] (layB (headF t c' s')) fa fc (headF t c' s') hws.own hws.bel.size (by rw [h55]; exact hF) (fun f hf => (headF_w _ _ _ f hf).2) (by rw [headF_wid]; simp) (by omega) (by simp)
    rw [h55, e64] at this
    refine this.mono ?_
    rintro e w' ⟨a, c, rfl, h1, h2⟩
    exact ⟨a, c, rfl, hws.low h1 h2⟩
  go_upto_region 11 with (first | (go_at_call 31; refine (J.out _ _ (Hid.out (by assumption))).mono ?_; rintro e wj ⟨rfl, hOj⟩; have HOj := hidOf hOj; clear hOj) | (go_at_call 30; refine (CH.out _ _ _ _ _ _ _ (Hid.out (by assumption))).mono ?_; rintro e wh ⟨ah, ch, rfl, hH, hOh⟩; have HH := hidOf hH; have HOh := hidOf hOh; clear hH hOh) | (go_at_call 29; refine (CL.out _ _ _ _ _ _ HOh.out HH.out).mono ?_; rintro e w8 ⟨a8, c8, rfl, hW8⟩; have HW8 := hidOf hW8; clear hW8))
  clear J CH CL HH HOh HB7 O0
  have hLe : (L ++ [t1 (secs L) na nc]).length = L.length + 1 := Hl1.out
  obtain ⟨L', hL'⟩ : ∃ L', L' = L ++ [t1 (secs L) na nc] := ⟨_, rfl⟩
  have hsecs : secs L' = allS (secs L) := by rw [hL', secs_t1]
  obtain ⟨Hd, hHd⟩ : ∃ Hd, Hd = layB (headF (jw2 (endF 64 (allS (secs L)))) (jw2 ((secs L).length + 2)) (jw2 ((secs L).length + 1))) := ⟨_, rfl⟩
  have hHd' : layB (headF (jw (T : Int), jw (T : Int)) (jw ((L.length : Int) + 1 + 1), jw ((L.length : Int) + 1 + 1)) (jw ((L.length : Int) + 1), jw ((L.length : Int) + 1))) = Hd := by
    rw [hHd]; exact hd_eq (secs L) L.length T (by simp [secs]) HT.out
  have hH64 : Hd.length = 64 := by rw [← hHd', layB_len, headF_wid]
  rw [hHd'] at HW8
  rw [← hL'] at HWA hLe
  have HLe := hidOf hLe
  have Hsecs := hidOf hsecs
  have HHd := hidOf hHd
  have HH64 := hidOf hH64
  clear hHd hHd' hH64 hsecs hL' Hl1 hLe
  go_wp2
  go_loopw [67, 10] (fun iv bv wr => ∃ (i : Nat) (P : List UInt8) (a' : Option Addr) (c' : Nat), iv = .int .i64 i ∧ bv = .slice a' P.length c' ∧ i ≤ L.length + 1 ∧ Hid (P = bodF Hd (secs (L'.take i))) ∧ Hid (WS w6 wr (.slice a' P.length c') P)) (fun iv _ _ => L.length + 1 - (intOf iv).toNat)
  case atStart => exact ⟨0, Hd, a8, c8, rfl, by rw [HH64.out], by omega, rfl, by rw [HH64.out]; exact HW8.out⟩
  case round =>
    obtain ⟨i, P, a', c', rfl, rfl, hi, HP, HS⟩ := hrel
    by_cases hiL : i < L.length + 1
    · have hlt : (i : Int) < (L.length : Int) + 1 := by omega
      have h0 : (0 : Int) ≤ i := by omega
      obtain ⟨x, hx⟩ : ∃ x, L'[i]? = some x := ⟨_, List.getElem?_eq_getElem (by rw [HLe.out]; exact hiL)⟩
      obtain ⟨d0, d1, d2, d3, d4, d5, d6, d7⟩ := OwV.cells (own_at HWA.out.all HS.out.bel) hx
      have hPl : P.length = endF 64 (secs (L'.take i)) := by rw [HP.out, bodF_len, HH64.out]
      have hsm := sumD_take L' i x hx
      have hel := endF_le (secs (L'.take i)) 64
      have hPb : P.length + x.s.d.length ≤ 300000000000 := by
        have h1 := Hs.out
        have h2 : (secs (L'.take i)).length ≤ 17 := by simp [secs]; omega
        have h3 : sumD (secs L') = sumD (secs L) + (tabD (secs L)).length := by rw [Hsecs.out]; simp [sumD, allS, tabS]
        have h4 := Htd.out
        omega
      have Hst : Hid (padB (P ++ x.s.d) = bodF Hd (secs (L'.take (i + 1)))) := hidOf (by rw [take_snoc hx, HP.out]; simp only [secs, List.map_append, List.map_cons, List.map_nil]; rw [bodF_snoc])
      have HDx := hidOf (HWA.out.dat x (List.mem_of_getElem? hx))
      obtain ⟨q, hq⟩ : ∃ q, q = wr.heap.size := ⟨_, rfl⟩
      have Hbx : Hid (Cells8 (wr.alloc (boxS x)) q 0 x) := hidOf (boxS_cells (w := w) (by rw [hq]; exact heap_alloc_new wr _))
      have HS1 := hidOf (HS.out.on ((Out.refl wr).alloc (boxS x)))
      clear hx hPl hsm hel
      go_upto_region 14 with fail
      rw [← hq]
      have e1 : wr.alloc (.cells #[.string ⟨x.s.nm.toArray⟩, .int .i64 x.s.ty, .int .i64 x.s.fl, .int .i64 x.s.li, .int .i64 x.s.inf, .int .i64 x.s.al, .int .i64 x.s.es, .slice x.da x.s.d.length x.dc] 46) = wr.alloc (boxS x) := rfl
      rw [e1]
      clear e1 hq
      generalize wr.alloc (boxS x) = wb at *
      have c7 : wb.cell? ⟨q, 7, none⟩ = some (.slice x.da x.s.d.length x.dc) := Hbx.out.c7
      clear d0 d1 d2 d3 d4 d5 d6 d7
      obtain ⟨P2, hP2⟩ : ∃ P2, P2 = padB (P ++ x.s.d) := ⟨_, rfl⟩
      have CP : Hid (∀ wx a c, WS w6 wx (.slice a (P.length + x.s.d.length) c) (P ++ x.s.d) → Calls Try.prog 32 #[.slice a (P.length + x.s.d.length) c] wx fun e w' => ∃ a' c', e = .returned (.slice a' P2.length c') ∧ WS w6 w' (.slice a' P2.length c') P2) := by
        intro wx a c hws
        have hpl : (P ++ x.s.d).length = P.length + x.s.d.length := by simp
        have := pad_any w6.heap.size wx a c (P ++ x.s.d) P2 (by rw [hpl]; exact hws.own) hws.bel.size (by rw [hpl]; omega) hP2
        rw [hpl] at this
        refine this.mono ?_
        rintro e w' ⟨a2, c2, rfl, h1, h2⟩
        exact ⟨a2, c2, rfl, hws.low h1 h2⟩
      have HP2 := hidOf hP2
      obtain ⟨j0, hj, hy0, hy1, hy2⟩ := info_parts infoB
      have hsz6 : w6.heap.size ≤ wb.heap.size := HS1.out.bel.size
      clear hP2
      rcases HDx.out with ⟨ha, hd, hcz⟩ | ⟨ad, ha, hblk, hcells⟩
      · have hdl : x.s.d.length = 0 := by rw [hd]; rfl
        rw [ha, hdl, hcz] at c7
        rw [hdl, Nat.add_zero, hd, List.append_nil] at CP
        go_wp2_with (first | (at_builtin; refine wpList_append_own_none rfl (.tmp 71) (.tmp 73) 24 rfl w6.heap.size 5 j0 1 Try.underlying24 hj (.slice a' P.length c') P.length (Lib.byteCells P) rfl HS1.out.own rfl ?_) | (go_at_call 32; refine (CP.out _ _ _ HS1.out).mono ?_; rintro e w9 ⟨a9, c9, rfl, hW9⟩; have HW9 := hidOf hW9; clear hW9))
        exact ⟨⟨i + 1, P2, a9, c9, by simp, rfl, by omega, hidOf (HP2.out.trans Hst.out), HW9.out⟩, by simp [intOf]; omega⟩
      · rw [ha] at c7
        have Hcells : Hid (∀ j u, (Lib.byteCells x.s.d)[j]? = some u → wb.cell? (ad.add j) = some u) := by
          intro j u hu
          rcases hblk with hblk | hblk
          · rw [hblk] at hu; simp [Lib.byteCells] at hu
          · rw [← hcells j u hu]
            exact World.cell?_of_block (HS1.out.bel.block _ (by rw [add_block]; exact hblk))
        clear hcells hblk
        go_wp2_with (first | (at_builtin; refine wpList_append_own _ rfl (.tmp 71) (.tmp 73) 24 rfl w6.heap.size 5 j0 _ 1 1 Try.underlying24 hj hy0 hy1 hy2 rfl (by decide) (.slice a' P.length c') P.length (Lib.byteCells P) rfl HS1.out.own ad x.s.d.length x.dc (Lib.byteCells x.s.d) rfl (by simp [Lib.byteCells]) Hcells.out (bc_one x.s.d) (by unfold maxLen; omega) (by omega) hsz6 ?_; intro v9 w9 hown9 hgrow9 _; obtain ⟨a9, c9, rfl⟩ := own_form hown9; have HWa : Hid (WS w6 w9 (.slice a9 (P.length + x.s.d.length) c9) (P ++ x.s.d)) := hidOf (HS1.out.low (show OwB _ _ _ _ from (by unfold OwB; rw [bc_app, List.length_append]; exact hown9)) (Below.grownB (Below.refl _ _) hsz6 HS1.out.own hgrow9)); clear hown9 hgrow9) | (go_at_call 32; refine (CP.out _ _ _ HWa.out).mono ?_; rintro e w10 ⟨a10, c10, rfl, hW9⟩; have HW9 := hidOf hW9; clear hW9))
        exact ⟨⟨i + 1, P2, a10, c10, by simp, rfl, by omega, hidOf (HP2.out.trans Hst.out), HW9.out⟩, by simp [intOf]; omega⟩
    · have hlt : ¬ (i : Int) < (L.length : Int) + 1 := by omega
      obtain rfl : i = L.length + 1 := by omega
      rw [← HLe.out, List.take_length, Hsecs.out] at HP
      obtain ⟨Rs, hRs⟩ : ∃ Rs, Rs = zRw :: rowsF 64 (allS (secs L)) (plsS (secs L)) := ⟨_, rfl⟩
      rw [← hRs] at HWA HRsl
      have HRs := hidOf hRs
      clear hRs
      obtain ⟨rg, rc2, hrv⟩ := own_some HWA.out.rows (by have := HRsl.out; omega)
      simp only [Value.slice.injEq] at hrv
      obtain ⟨rfl, _, rfl⟩ := hrv
      have hPT : P.length ≤ 200000000000 := by
        rw [HP.out, bodF_len, HH64.out, ← HT.out]; exact hTb
      go_wp2
      go_loopw [79, 10] (fun iv bv wr => ∃ (i : Nat) (P2 : List UInt8) (a2 : Option Addr) (c2 : Nat), iv = .int .i64 i ∧ bv = .slice a2 P2.length c2 ∧ i ≤ L.length + 1 + 1 ∧ Hid (P2 = P ++ tblF (Rs.take i)) ∧ Hid (WS w6 wr (.slice a2 P2.length c2) P2)) (fun iv _ _ => L.length + 1 + 1 - (intOf iv).toNat)
      case atStart => exact ⟨0, P, a', c', rfl, rfl, by omega, hidOf (by simp [tblF]), HS.out⟩
      case round =>
        clear HS
        obtain ⟨i, P2, a2, c2, rfl, rfl, hi, HP2, HS⟩ := hrel
        by_cases hiL : i < L.length + 1 + 1
        · have hlt : (i : Int) < (L.length : Int) + 1 + 1 := by omega
          have h0 : (0 : Int) ≤ i := by omega
          obtain ⟨r, hr⟩ : ∃ r, Rs[i]? = some r := ⟨_, List.getElem?_eq_getElem (by rw [HRsl.out]; exact hiL)⟩
          have hrc := OwR.cells (own_at HWA.out.rows HS.out.bel) hr
          have HRg : Hid (wr.rangeAt rg (i * 18) r.cs) := hidOf (fun j v hv => by rw [hrc j (by have := (List.getElem?_eq_some_iff.1 hv).1; simpa [Rw.cs] using this)]; exact hv)
          have Hst : Hid (P2 ++ layB r.fds = P ++ tblF (Rs.take (i + 1))) := hidOf (by rw [take_snoc hr, tblF_snoc, HP2.out, List.append_assoc])
          have hPb : P2.length ≤ 300000000000 := by
            rw [HP2.out, List.length_append, tblF_len]
            have : (Rs.take i).length ≤ 18 := by rw [List.length_take]; omega
            omega
          obtain ⟨q, hq⟩ : ∃ q, q = wr.heap.size := ⟨_, rfl⟩
          have Hbx : Hid (RwAt (wr.alloc (.cells r.cs.toArray 79)) q r) := hidOf (by rw [hq]; exact heap_alloc_new wr _)
          have HS1 := hidOf (HS.out.on ((Out.refl wr).alloc (.cells r.cs.toArray 79)))
          have Hq := hidOf hq
          clear hr hrc hq
          go_upto_region 18 with fail
          refine wp_region_lit ?_
          refine wpList_plain rfl fun K hK => ?_
          go_simp
          refine hK _ _ ?_
          clear hK
          refine wpList_load_mid rfl 79 (.tmp 81) rfl rg (i * 18) rfl r.cs _ HRg.out Try.underlying79 rfl sizeRw ?_
          refine wpList_alloc_new rfl 79 rfl (.agg zRw.cs.toArray) (zero_of_info zeroRw).1 ?_
          refine wpList_store_new rfl 79 (.tmp 14) (.tmp 82) rfl zRw.cs.toArray r.cs.toArray rfl rfl sizeRw rfl (rw_one r) ?_
          refine wpList_nil ?_
          simp only [Act.put, List.setIfInBounds_toArray, List.set_cons_zero, List.set_cons_succ]
          rw [← Hq.out]
          generalize wr.alloc (.cells r.cs.toArray 79) = wb at *
          obtain ⟨P3, hP3⟩ : ∃ P3, P3 = P2 ++ layB r.fds := ⟨_, rfl⟩
          have CF : Hid (Calls Try.prog 33 #[.agg r.cs.toArray] wb fun e w' => ∃ a c, e = .returned (.slice a 10 c) ∧ OwF 0 (.slice a 10 c) r.fds w' ∧ Out wb w') := (fields_any r wb).mono fun e w' ⟨a, c, he, h1, h2⟩ => ⟨a, c, he, own_base h1 (Nat.zero_le _), h2⟩
          have CL : Hid (∀ wx fa fc, Out wb wx → OwF 0 (.slice fa 10 fc) r.fds wx → Calls Try.prog 29 #[.slice a2 P2.length c2, .slice fa 10 fc] wx fun e w' => ∃ a c, e = .returned (.slice a P3.length c) ∧ WS w6 w' (.slice a P3.length c) P3) := by
            intro wx fa fc ho hF
            have hws := HS1.out.on ho
            refine (lay_any w6.heap.size wx a2 c2 P2 P3 fa fc r.fds hws.own hws.bel.size hF (fun f hf => (fds_w r f hf).2) (by rw [fds_wid]; omega) (by rw [fds_len]; omega) hP3).mono ?_
            rintro e w' ⟨a, c, rfl, h1, h2⟩
            exact ⟨a, c, rfl, hws.low h1 h2⟩
          have HP3 := hidOf hP3
          have HRb : Hid (wb.rangeAt q 0 r.cs) := hidOf (fun j v hv => by rw [Nat.zero_add, Hbx.out.cell j]; simpa using hv)
          clear hP3
          go_upto_region 19 with fail
          refine wp_region_lit ?_
          refine wpList_plain rfl fun K hK => ?_
          go_simp
          refine hK _ _ ?_
          clear hK
          refine wpList_load_mid rfl 79 (.tmp 14) rfl q 0 rfl r.cs _ HRb.out Try.underlying79 rfl sizeRw ?_
          simp only [Act.put, List.setIfInBounds_toArray, List.set_cons_zero, List.set_cons_succ]
          obtain ⟨RC, hRC⟩ : ∃ RC, RC = r.cs.toArray := ⟨_, rfl⟩
          rw [← hRC] at CF
          rw [← hRC]
          clear hRC
          go_wp2_with (first | (go_at_call 33; refine (CF.out).mono ?_; rintro e wf ⟨af, cf, rfl, hF, hOf⟩; have HF := hidOf hF; have HOf := hidOf hOf; clear hF hOf) | (go_at_call 29; refine (CL.out _ _ _ HOf.out HF.out).mono ?_; rintro e w9 ⟨a9, c9, rfl, hW9⟩; have HW9 := hidOf hW9; clear hW9))
          exact ⟨⟨i + 1, P3, a9, c9, by simp, rfl, by omega, hidOf (HP3.out.trans Hst.out), HW9.out⟩, by simp [intOf]; omega⟩
        · have hlt : ¬ (i : Int) < (L.length : Int) + 1 + 1 := by omega
          obtain rfl : i = L.length + 1 + 1 := by omega
          rw [← HRsl.out, List.take_length] at HP2
          have hfin : P2 = R := fin_eq HP2.out HP.out HHd.out HRs.out HR.out
          subst hfin
          go_wp2
          go_ret2
          exact ⟨a2, c2, rfl, own_base HS.out.own HWA.out.out.size, HWA.out.out.trans HS.out.bel⟩
end Go.Proofs.Ytlfcjbeldnkkoaa
