import Derived.Test.YtcalbhcgimipeaaElw
namespace Go.Proofs.Ytcalbhcgimipeaa
open Go.RowKit
set_option linter.unusedVariables false
set_option linter.unusedSimpArgs false
def secE (l : List UInt8) (e : En) : Sec := ⟨e.nm, e.ty, e.fl, e.li, e.inf, e.al, e.es, (l.drop e.bg.toNat).take (e.en.toNat - e.bg.toNat)⟩
/-- the sections that have been read -/
structure SS (w wr : World) (lv : Value) (Ls : List SV) : Prop where
  own : OwV w.heap.size lv Ls wr
  dat : ∀ x ∈ Ls, OwB w.heap.size (.slice x.da x.s.d.length x.dc) x.s.d wr
  out : Out w wr
theorem SS.on {w wr w' : World} {lv : Value} {Ls : List SV} (h : SS w wr lv Ls) (o : Out wr w') : SS w w' lv Ls := ⟨own_at h.own o, fun x hx => own_at (h.dat x hx) o, h.out.trans o⟩
theorem SS.chg {S : Nat → Prop} {w wr w' : World} {lv : Value} {Ls : List SV} (h : SS w wr lv Ls) (c : Chg S wr w') (h1 : ∀ k, lv.ownBlock = some k → ¬ S k) (h2 : ∀ x ∈ Ls, ∀ k, (Value.slice x.da x.s.d.length x.dc).ownBlock = some k → ¬ S k) (h3 : ∀ k, S k → w.heap.size ≤ k) : SS w w' lv Ls := ⟨owns_chg h.own h1 c, fun x hx => owns_chg (h.dat x hx) (h2 x hx) c, Chg.out c h.out h3⟩
theorem SS.push {w X w' : World} {lv lv' : Value} {Ls : List SV} {x : SV} {n : Nat} (h : SS w X lv Ls) (hx : OwB w.heap.size (.slice x.da x.s.d.length x.dc) x.s.d X) (hg : X.grownBy w' lv.ownBlock) (hn : Ls.length = n) (ho : w'.ownsRow w.heap.size 60 8 lv' (n + 1) (svV Ls ++ x.cs)) : SS w w' lv' (Ls ++ [x]) := by
  have c : Chg (fun k => lv.ownBlock = some k) X w' := Chg.of_grown hg (fun k hk => hk)
  refine ⟨?_, ?_, Chg.out c h.out (fun k hk => (h.own.lt k hk).1)⟩
  · unfold OwV
    rw [svV_app, List.length_append, hn]
    simpa [svV] using ho
  · intro y hy
    rcases List.mem_append.1 hy with hy | hy
    · exact owns_chg (h.dat y hy) (fun k hk hk' => own_apart (by decide) (h.dat y hy) h.own k hk hk') c
    · simp at hy; subst hy
      exact owns_chg hx (fun k hk hk' => own_apart (by decide) hx h.own k hk hk') c
theorem svV_one1 (x : SV) : ∀ u ∈ x.cs, u.oneCell' = true := fun u hu => svV_one [x] u (by simpa [svV] using hu)
theorem run_make_sc (n : Nat) (hn : n ≤ 1000) (w : World) : ∃ cur : Array Value, (Instr.makeSlice 24 (.int .i64 0) (.int .i64 (n : Int))).run Try.prog w = .ok (.slice (some ⟨w.heap.size, 0, none⟩) 0 n) (w.alloc (.cells cur 60)) ∧ OwV w.heap.size (.slice (some ⟨w.heap.size, 0, none⟩) 0 n) [] (w.alloc (.cells cur 60)) := by
  obtain ⟨i0, hi, hz0, hz1, hz2⟩ := info_parts infoSc
  have h := run_make (P := Try.prog) w 24 60 i0 _ Try.underlying24 hi hz0 .i64 .i64 0 (n : Int) (by omega) (by omega) (by rw [hz2]; omega) (by omega)
  rw [hz1] at h
  refine ⟨_, h, rfl, .inr ⟨w.heap.size, n, _, rfl, Nat.le_refl _, heap_alloc_new w _, by simp, by unfold maxLen; omega, by simp [madeCells], ?_⟩⟩
  simp [svV]
theorem cloneB_any (w : World) (g off c : Nat) (d : List UInt8) (hb : BAt w g off d) (hl : d.length ≤ 1000000000000) : Calls Try.prog 78 #[.slice (some ⟨g, off, none⟩) d.length c] w fun e w' => ∃ a c', e = .returned (.slice a d.length c') ∧ OwB w.heap.size (.slice a d.length c') d w' ∧ Out w w' := by
  refine (Try.bytes_Clone_at ⟨g, off, none⟩ d.length c (toZ d) w (by simp [toZ]) (by omega) (fun i hi => ?_)).mono ?_
  · have hx : d[i]? = some d[i] := List.getElem?_eq_getElem hi
    rw [WideShapes.add_plain, hb i _ hx, getD_of (x := (d[i].toNat : Int)) (by simp [toZ, hx])]
  · rintro e w' ⟨v', rfl, ho, _, hbl⟩
    have ho' : OwB w.heap.size v' d w' := by
      unfold OwB
      simpa [toZ, Lib.byteCells, Function.comp_def] using ho
    obtain ⟨a, c', rfl⟩ := own_form ho'
    exact ⟨a, c', rfl, ho', hbl⟩
set_option maxRecDepth 8000 in
set_option maxHeartbeats 4000000 in
theorem sections_any (w0 w : World) (p g off c T eg ec n2 : Nat) (E : List En) (l : List UInt8) (hn2 : E.length = n2 + 2) (hF : FS w0 w p g off l.length c T (.slice (some ⟨eg, 0, none⟩) (n2 + 2) ec) E) (hB : Bin w0 g off c l) (hEl : n2 ≤ 998) (hec : n2 + 2 ≤ ec) (hen : ∀ e ∈ E, 0 ≤ e.bg ∧ e.bg ≤ e.en ∧ e.en ≤ l.length ∧ e.bg < l.length) (S0 : List Sec) (hS0 : S0 = ((E.drop 1).take n2).map (secE l)) :
    Calls Try.prog 46 #[.pointer (some ⟨p, 0, none⟩)] w fun e w' => ∃ a c' Ls, e = .returned (.slice a n2 c') ∧ SS w w' (.slice a n2 c') Ls ∧ secs Ls = S0 := by
  have HS00 := hidOf hS0
  clear hS0
  have HF := hidOf hF
  have HB := hidOf hB
  have Hen := hidOf hen
  have Hn2 := hidOf hn2
  have hEI : (n2 : Int) ≤ 998 := by omega
  have hecI : (n2 : Int) + 2 ≤ ec := by omega
  have hec1 : ¬ ec = 1 := by omega
  have hs1 : (1 : Int) ≤ (n2 : Int) + 2 - 1 := by omega
  have hs2 : (n2 : Int) + 2 - 1 ≤ ec := by omega
  have hwr : IntKind.i64.wrap ((n2 : Int) + 2 - 1) = (n2 : Int) + 2 - 1 := by rw [IntKind.wrap_i64]; omega
  have c2 : w.drew.cell? ⟨p, 2, none⟩ = some (.slice (some ⟨eg, 0, none⟩) (n2 + 2) ec) := hF.cell 2
  clear hF hB hen hn2
  go_enter Try.func46, Try.ntmps46
  go_upto_region 1 with fail
  go_region_held3 (fun wx => wx.cell? ⟨p, 2, none⟩ = some (.slice (some ⟨eg, 0, none⟩) (n2 + 2) ec)) (first | with_reducible exact c2 | fail) (fail)
  have e0 : ((n2 : Int) + 2).toNat - 1 - 1 = n2 := by omega
  rw [e0]
  clear e0 hs1 hs2 hwr c2
  obtain ⟨cur, hmk, hown⟩ := run_make_sc n2 (by omega) w.drew
  have HS0 : Hid (SS w (w.alloc (.cells cur 60)).drew (.slice (some ⟨w.drew.heap.size, 0, none⟩) 0 n2) []) := ⟨hown, by simp, ((Out.refl w).alloc _).drew⟩
  obtain ⟨lg, hlg⟩ : ∃ lg, lg = w.drew.heap.size := ⟨_, rfl⟩
  rw [← hlg] at hmk HS0
  clear hown hlg
  obtain ⟨i0, hi0, hz0, hz1, hz2⟩ := info_parts infoSc
  go_wp2
  clear hmk
  generalize (w.alloc (.cells cur 60)).drew = W1 at *
  go_loopw [23, 4] (fun iv lv wr => ∃ (i : Nat) (a : Option Addr) (c' : Nat) (Ls : List SV), iv = .int .i64 i ∧ lv = .slice a i c' ∧ i ≤ n2 ∧ Ls.length = i ∧ Hid (secs Ls = ((E.drop 1).take i).map (secE l)) ∧ Hid (SS w wr (.slice a i c') Ls)) (fun iv _ _ => n2 - (intOf iv).toNat)
  case atStart => exact ⟨0, _, _, [], rfl, rfl, by omega, rfl, rfl, HS0.out⟩
  case round =>
    obtain ⟨i, a, c', Ls, rfl, rfl, hi, hLi, HL, HS⟩ := hrel
    by_cases hin : i < n2
    · have hlt : (i : Int) < n2 := by omega
      have h0 : (0 : Int) ≤ i := by omega
      obtain ⟨e, he⟩ : ∃ e, E[i + 1]? = some e := ⟨_, List.getElem?_eq_getElem (by rw [Hn2.out]; omega)⟩
      obtain ⟨hb0, hbe, hel, hbl⟩ := Hen.out e (List.mem_of_getElem? he)
      obtain ⟨B0, hB0⟩ : ∃ n : Nat, e.bg = n := ⟨e.bg.toNat, by omega⟩
      obtain ⟨E1, hE1⟩ : ∃ n : Nat, e.en = n := ⟨e.en.toNat, by omega⟩
      rw [hB0, hE1] at hbe
      rw [hE1] at hel
      rw [hB0] at hbl
      have HRg : Hid (wr.rangeAt eg (12 + i * 12) e.cs) := hidOf (by
        have := OwE.range (own_at HF.out.own HS.out.out) he
        rwa [show (i + 1) * 12 = 12 + i * 12 by omega] at this)
      have Hst : Hid (((E.drop 1).take (i + 1)).map (secE l) = ((E.drop 1).take i).map (secE l) ++ [secE l e]) := hidOf (by
        have hd : (E.drop 1)[i]? = some e := by rw [List.getElem?_drop, Nat.add_comm]; exact he
        rw [take_snoc hd]; simp)
      obtain ⟨q, hq⟩ : ∃ q, q = wr.heap.size := ⟨_, rfl⟩
      have HX : Hid (BoxE (wr.alloc (.cells e.cs.toArray 126)) q e) := hidOf (by rw [hq]; exact heap_alloc_new wr _)
      have HS1 := hidOf (HS.out.on ((Out.refl wr).alloc (.cells e.cs.toArray 126)))
      have Hq := hidOf hq
      have HLi := hidOf hLi
      clear he hq hb0 hLi
      go_upto_region 5 with fail
      refine wp_region_lit ?_
      refine wpList_plain rfl fun K hK => ?_
      go_simp
      refine hK _ _ ?_
      clear hK
      refine wpList_load_mid rfl 126 (.tmp 25) rfl eg (12 + i * 12) rfl e.cs _ HRg.out Try.underlying126 rfl sizeEn ?_
      refine wpList_alloc_new rfl 126 rfl (.agg (En.cs ⟨0, [], 0, 0, 0, 0, 0, 0, 0, 0, 0⟩).toArray) (zero_of_info zeroEn).1 ?_
      refine wpList_store_new rfl 126 (.tmp 6) (.tmp 26) rfl (En.cs ⟨0, [], 0, 0, 0, 0, 0, 0, 0, 0, 0⟩).toArray e.cs.toArray rfl rfl sizeEn rfl (en_one e) ?_
      refine wpList_nil ?_
      simp only [Act.put, List.setIfInBounds_toArray, List.set_cons_zero, List.set_cons_succ]
      have hqw : w.heap.size ≤ q := by have := Hq.out; have := HS.out.out.size; omega
      rw [← Hq.out]
      generalize wr.alloc (.cells e.cs.toArray 126) = wb at *
      generalize e.cs.toArray = EC at *
      go_upto_region 6 with fail
      have hbeN : B0 ≤ E1 := by omega
      have hcB : ¬ c = B0 := by have := HB.out.cap; omega
      have hE1c : (E1 : Int) ≤ c := by have := HB.out.cap; omega
      have hB00 : (0 : Int) ≤ B0 := by omega
      have hlb : (l.length : Int) ≤ 1000000000000 := by have := HB.out.big; omega
      have hsub : IntKind.i64.wrap ((E1 : Int) - B0) = (E1 : Int) - B0 := by rw [IntKind.wrap_i64]; omega
      obtain ⟨d, hd⟩ : ∃ d, d = (l.drop B0).take (E1 - B0) := ⟨_, rfl⟩
      have hdl : d.length = E1 - B0 := by rw [hd, List.length_take, List.length_drop]; omega
      have Ob : Out w wb := HS1.out.out
      have CC : Hid (Calls Try.prog 78 #[.slice (some ⟨g, off + B0, none⟩) (E1 - B0) (c - B0)] wb.drew fun e w' => ∃ a c', e = .returned (.slice a (E1 - B0) c') ∧ OwB w.heap.size (.slice a (E1 - B0) c') d w' ∧ Out wb.drew w') := by
        have hb := HB.out.out (HF.out.out.trans Ob.drew)
        have := cloneB_any wb.drew g (off + B0) (c - B0) d (by rw [hd]; exact hb.at_.cut B0 (E1 - B0)) (by omega)
        rw [hdl] at this
        exact this.mono fun e w' ⟨a, c', he, h1, h2⟩ => ⟨a, c', he, own_base h1 Ob.drew.size, h2⟩
      have r0 : wb.drew.cell? ⟨p, 0, none⟩ = some (.slice (some ⟨g, off, none⟩) l.length c) := (HF.out.on Ob).cell 0
      have r1 : wb.drew.cell? ⟨q, 10, none⟩ = some (.int .i64 (B0 : Int)) := by have := HX.out.cells.2.2.2.2.2.2.2.2.2.2.1; rwa [hB0] at this
      have r2 : wb.drew.cell? ⟨q, 11, none⟩ = some (.int .i64 (E1 : Int)) := by have := HX.out.cells.2.2.2.2.2.2.2.2.2.2.2; rwa [hE1] at this
      have hpq : ¬ p = q := fun e => by
        have h1 := (HF.out.on Ob).fil
        have h2 : wb.heap[q]? = _ := HX.out
        rw [e, h2] at h1
        simp at h1
      have HKX : Hid (∀ wx, Out wb.drew wx → ∀ u, (wx.setCell ⟨q, 8, none⟩ u).cell? ⟨p, 0, none⟩ = some (.slice (some ⟨g, off, none⟩) l.length c) ∧ (wx.setCell ⟨q, 8, none⟩ u).cell? ⟨q, 10, none⟩ = some (.int .i64 (B0 : Int)) ∧ (wx.setCell ⟨q, 8, none⟩ u).cell? ⟨q, 11, none⟩ = some (.int .i64 (E1 : Int))) := fun wx ho u => by
        have hh : wx.heap[q]? = _ := (HX.out.out (((Out.refl wb).drew).trans ho))
        refine ⟨(setCell_far hpq u).trans (cell_later ho r0), ?_, ?_⟩
        · simp [World.setCell, World.cell?, Array.getElem?_modify, hh, En.cs, hB0]
        · simp [World.setCell, World.cell?, Array.getElem?_modify, hh, En.cs, hE1]
      have HKS : Hid (∀ wx, Out wb.drew wx → wx.cell? ⟨p, 0, none⟩ = some (.slice (some ⟨g, off, none⟩) l.length c) ∧ wx.cell? ⟨q, 10, none⟩ = some (.int .i64 (B0 : Int)) ∧ wx.cell? ⟨q, 11, none⟩ = some (.int .i64 (E1 : Int))) := fun wx ho => ⟨cell_later ho r0, cell_later ho r1, cell_later ho r2⟩
      have HK8 : Hid (∀ wx, Out wb.drew wx → wx.cell? ⟨q, 8, none⟩ = some (.slice none 0 0) ∧ wx.frozen? ⟨q, 8, none⟩ = false) := fun wx ho => by
        have hh : wx.heap[q]? = _ := (HX.out.out (((Out.refl wb).drew).trans ho))
        exact ⟨by simp [World.cell?, hh, En.cs], by simp [World.frozen?, hh]⟩
      have Hd := hidOf hd
      have Hdl := hidOf hdl
      have Hpq := hidOf hpq
      clear hd hdl hpq
      go_region_held3 (fun wx => wx.cell? ⟨p, 0, none⟩ = some (.slice (some ⟨g, off, none⟩) l.length c) ∧ wx.cell? ⟨q, 10, none⟩ = some (.int .i64 (B0 : Int)) ∧ wx.cell? ⟨q, 11, none⟩ = some (.int .i64 (E1 : Int))) (first | with_reducible exact ⟨r0, r1, r2⟩ | with_reducible exact HKS.out _ (Hid.out (by assumption)) | with_reducible exact HKX.out _ (Hid.out (by assumption)) _ | fail) (first | (go_at_call 78; refine (CC.out).mono ?_; rintro e' w1 ⟨da, dc, rfl, hO, hO1⟩; have HO1 := hidOf hO1; have HD1 := hidOf hO; have k8 := HK8.out _ hO1; clear hO hO1) | fail)
      obtain ⟨x, hx⟩ : ∃ x : SV, x = ⟨secE l e, da, dc⟩ := ⟨_, rfl⟩
      have hxd : x.s.d = d := by rw [hx, Hd.out]; show (l.drop e.bg.toNat).take (e.en.toNat - e.bg.toNat) = _; rw [hB0, hE1]; simp
      have hq1 : w1.heap[q]? = some (.cells e.cs.toArray 126 (0, 0)) := HX.out.out (((Out.refl wb).drew).trans HO1.out)
      have hcs : x.cs = [.string ⟨e.nm.toArray⟩, .int .i64 e.ty, .int .i64 e.fl, .int .i64 e.li, .int .i64 e.inf, .int .i64 e.al, .int .i64 e.es, .slice da (E1 - B0) dc] := by
        have : x.s.d.length = E1 - B0 := by rw [hxd, Hdl.out]
        rw [SV.cs, this, hx]; rfl
      have hk : ∀ k u, x.cs[k]? = some u → (w1.setCell ⟨q, 8, none⟩ (.slice da (E1 - B0) dc)).cell? ⟨q, 1 + k, none⟩ = some u := by
        intro k u hu
        rw [hcs] at hu
        have hlt8 : k < 8 := by have := (List.getElem?_eq_some_iff.1 hu).1; simpa using this
        simp only [World.setCell, World.cell?, Array.getElem?_modify, hq1]
        match k, hlt8, hu with
        | 0, _, hu | 1, _, hu | 2, _, hu | 3, _, hu | 4, _, hu | 5, _, hu | 6, _, hu | 7, _, hu => simpa [En.cs] using hu
      have c2 : Chg (fun k => k = q) w1 (w1.setCell ⟨q, 8, none⟩ (.slice da (E1 - B0) dc)) := Chg.setCell (S := fun k => k = q) (Chg.refl _ w1) (p := ⟨q, 8, none⟩) rfl _
      have HSw1 := HS1.out.on (((Out.refl wb).drew).trans HO1.out)
      have HS2 : Hid (SS w (w1.setCell ⟨q, 8, none⟩ (.slice da (E1 - B0) dc)) (.slice a i c') Ls) := hidOf (HSw1.chg c2 (fun k hk e => by have := (HS.out.own.lt k hk).2; have := Hq.out; omega) (fun y hy k hk e => by have := ((HS.out.dat y hy).lt k hk).2; have := Hq.out; omega) (fun k hk => by omega))
      have HD2 : Hid (OwB w.heap.size (.slice x.da x.s.d.length x.dc) x.s.d (w1.setCell ⟨q, 8, none⟩ (.slice da (E1 - B0) dc))) := hidOf (by
        rw [hxd, Hdl.out, show x.da = da by rw [hx], show x.dc = dc by rw [hx]]
        exact owns_chg HD1.out (fun k hk e => own_type HD1.out hq1 (by decide) (by rw [← e]; exact hk)) c2)
      have Hcs := hidOf hcs
      have Hsx : Hid (x.s = secE l e) := hidOf (by rw [hx])
      have k0 := hk 0 _ (by rw [hcs]; rfl)
      have k1 := hk 1 _ (by rw [hcs]; rfl)
      have k2 := hk 2 _ (by rw [hcs]; rfl)
      have k3 := hk 3 _ (by rw [hcs]; rfl)
      have k4 := hk 4 _ (by rw [hcs]; rfl)
      have k5 := hk 5 _ (by rw [hcs]; rfl)
      have k6 := hk 6 _ (by rw [hcs]; rfl)
      have k7 := hk 7 _ (by rw [hcs]; rfl)
      clear hk hcs hxd hx c2 HSw1 hq1 k8 r0 r1 r2 HKS HKX HK8 CC
      generalize w1.setCell ⟨q, 8, none⟩ (.slice da (E1 - B0) dc) = w2 at *
      have hs2 : w.heap.size ≤ w2.heap.size := HS2.out.out.size
      have HLi2 : Hid (w2.ownsRow w.heap.size 60 8 (.slice a i c') i (svV Ls)) := hidOf (by have := HS2.out.own; unfold OwV at this; rwa [HLi.out] at this)
      go_wp2_with (at_builtin; refine wpList_append_own _ rfl (.tmp 39) (.tmp 42) 24 rfl w.heap.size 60 i0 _ 8 88 Try.underlying24 hi0 hz0 hz1 hz2 rfl (by decide) (.slice a i c') i (svV Ls) rfl (World.ownsRow.alloc HLi2.out _) ⟨w2.heap.size, 0, none⟩ 1 1 [.string ⟨e.nm.toArray⟩, .int .i64 e.ty, .int .i64 e.fl, .int .i64 e.li, .int .i64 e.inf, .int .i64 e.al, .int .i64 e.es, .slice da (E1 - B0) dc] rfl rfl (news_new w2 _ _ _ rfl) (by rw [← Hcs.out]; exact svV_one1 x) (by unfold maxLen; omega) (by omega) (by rw [size_alloc]; omega) ?_; intro v3 w3 hown3 hgrow3 _; rw [← Hcs.out] at hown3; have HO3 := hidOf hown3; have Hg3 := hidOf hgrow3; clear hgrow3; obtain ⟨a3, c3, rfl⟩ := own_form hown3; clear hown3)
      all_goals
        refine ⟨⟨i + 1, a3, c3, Ls ++ [x], by simp, rfl, by omega,
          by have := HLi.out; simp; omega, ?_, ?_⟩, by simp [intOf]; omega⟩
        · show _ = _
          rw [Hst.out, ← HL.out, ← Hsx.out]
          simp [secs]
        · exact (HS2.out.on ((Out.refl w2).alloc _)).push
            (own_at HD2.out ((Out.refl w2).alloc _)) Hg3.out HLi.out HO3.out
    · have hlt : ¬ (i : Int) < n2 := by omega
      obtain rfl : i = n2 := by omega
      go_wp2
      go_ret
      exact ⟨a, c', rfl, Ls, HS.out, HL.out.trans HS00.out.symm⟩
end Go.Proofs.Ytcalbhcgimipeaa
