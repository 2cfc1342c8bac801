import Derived.Test.YtlfcjbeldnkkoaaGb16
namespace Go.Proofs.Ytlfcjbeldnkkoaa
open Go.RowKit
set_option linter.unusedVariables false
set_option linter.unusedSimpArgs false
def secE (l : List UInt8) (e : En) : Sec := ⟨e.nm, e.ty, e.fl, e.li, e.inf, e.al, e.es, (l.drop e.bg.toNat).take (e.en.toNat - e.bg.toNat)⟩
/-- the sections that have been read -/
structure SS (w wr : World) (lv : Value) (Ls : List SV) : Prop where
  own : OwV w.heap.size lv Ls wr
  dat : ∀ x ∈ Ls, OwB w.heap.size (.slice x.da x.s.d.length x.dc) x.s.d wr
  out : Out w wr
  dst : ∀ (i j : Nat) x y, Ls[i]? = some x → Ls[j]? = some y → ¬ i = j → ∀ k, (Value.slice x.da x.s.d.length x.dc).ownBlock = some k → ¬ (Value.slice y.da y.s.d.length y.dc).ownBlock = some k
theorem SS.on {w wr w' : World} {lv : Value} {Ls : List SV} (h : SS w wr lv Ls) (o : Out wr w') : SS w w' lv Ls := ⟨own_at h.own o, fun x hx => own_at (h.dat x hx) o, h.out.trans o, h.dst⟩
theorem SS.chg {S : Nat → Prop} {w wr w' : World} {lv : Value} {Ls : List SV} (h : SS w wr lv Ls) (c : Chg S wr w') (h1 : ∀ k, lv.ownBlock = some k → ¬ S k) (h2 : ∀ x ∈ Ls, ∀ k, (Value.slice x.da x.s.d.length x.dc).ownBlock = some k → ¬ S k) (h3 : ∀ k, S k → w.heap.size ≤ k) : SS w w' lv Ls := ⟨owns_chg h.own h1 c, fun x hx => owns_chg (h.dat x hx) (h2 x hx) c, Chg.out c h.out h3, h.dst⟩
theorem SS.push {w X w' : World} {lv lv' : Value} {Ls : List SV} {x : SV} {n : Nat} (h : SS w X lv Ls) (hx : OwB w.heap.size (.slice x.da x.s.d.length x.dc) x.s.d X) (hg : X.grownBy w' lv.ownBlock) (hn : Ls.length = n) (ho : w'.ownsRow w.heap.size 46 8 lv' (n + 1) (svV Ls ++ x.cs)) (hd : ∀ y ∈ Ls, ∀ k, (Value.slice y.da y.s.d.length y.dc).ownBlock = some k → ¬ (Value.slice x.da x.s.d.length x.dc).ownBlock = some k) : SS w w' lv' (Ls ++ [x]) := by
  have c : Chg (fun k => lv.ownBlock = some k) X w' := Chg.of_grown hg (fun k hk => hk)
  refine ⟨?_, ?_, Chg.out c h.out (fun k hk => (h.own.lt k hk).1), ?_⟩
  · unfold OwV
    rw [svV_app, List.length_append, hn]
    simpa [svV] using ho
  · intro y hy
    rcases List.mem_append.1 hy with hy | hy
    · exact owns_chg (h.dat y hy) (fun k hk hk' => own_apart (by decide) (h.dat y hy) h.own k hk hk') c
    · simp at hy; subst hy
      exact owns_chg hx (fun k hk hk' => own_apart (by decide) hx h.own k hk hk') c
  · intro i j y z hy hz hij k hk hk'
    have key : ∀ (l : Nat) u, (Ls ++ [x])[l]? = some u → (l < Ls.length ∧ Ls[l]? = some u) ∨ (l = Ls.length ∧ u = x) := fun l u hu => by
      by_cases hl : l < Ls.length
      · rw [List.getElem?_append_left hl] at hu; exact .inl ⟨hl, hu⟩
      · have hle : l - Ls.length = 0 := by have := (List.getElem?_eq_some_iff.1 hu).1; simp at this; omega
        rw [List.getElem?_append_right (by omega), hle] at hu
        simp at hu
        exact .inr ⟨by omega, hu.symm⟩
    rcases key i y hy with ⟨_, hy2⟩ | ⟨hi, hyx⟩
    · rcases key j z hz with ⟨_, hz2⟩ | ⟨_, hzx⟩
      · exact h.dst i j y z hy2 hz2 hij k hk hk'
      · exact hd y (List.mem_of_getElem? hy2) k hk (by rw [← hzx]; exact hk')
    · rcases key j z hz with ⟨_, hz2⟩ | ⟨hj, hzx⟩
      · exact hd z (List.mem_of_getElem? hz2) k hk' (by rw [← hyx]; exact hk)
      · omega
theorem svV_one1 (x : SV) : ∀ u ∈ x.cs, u.oneCell' = true := fun u hu => svV_one [x] u (by simpa [svV] using hu)
theorem run_make_sc (n : Nat) (hn : n ≤ 1000) (w : World) : ∃ cur : Array Value, (Instr.makeSlice 38 (.int .i64 0) (.int .i64 (n : Int))).run Try.prog w = .ok (.slice (some ⟨w.heap.size, 0, none⟩) 0 n) (w.alloc (.cells cur 46)) ∧ OwV w.heap.size (.slice (some ⟨w.heap.size, 0, none⟩) 0 n) [] (w.alloc (.cells cur 46)) := by
  obtain ⟨i0, hi, hz0, hz1, hz2⟩ := info_parts infoSc
  have h := run_make (P := Try.prog) w 38 46 i0 _ Try.underlying38 hi hz0 .i64 .i64 0 (n : Int) (by omega) (by omega) (by rw [hz2]; omega) (by omega)
  rw [hz1] at h
  refine ⟨_, h, rfl, .inr ⟨w.heap.size, n, _, rfl, Nat.le_refl _, heap_alloc_new w _, by simp, by unfold maxLen; omega, by simp [madeCells], ?_⟩⟩
  simp [svV]
theorem cloneB_any (w : World) (g off c : Nat) (d : List UInt8) (hb : BAt w g off d) (hl : d.length ≤ 1000000000000) : Calls Try.prog 54 #[.slice (some ⟨g, off, none⟩) d.length c] w fun e w' => ∃ a c', e = .returned (.slice a d.length c') ∧ OwB w.heap.size (.slice a d.length c') d w' ∧ Out w w' := by
  refine (Try.bytes_Clone_at ⟨g, off, none⟩ d.length c (toZ d) w (by simp [toZ]) (by omega) (fun i hi => ?_)).mono ?_
  · have hx : d[i]? = some d[i] := List.getElem?_eq_getElem hi
    rw [WideShapes.add_plain, hb i _ hx, getD_of (x := (d[i].toNat : Int)) (by simp [toZ, hx])]
  · rintro e w' ⟨v', rfl, ho, _, hbl⟩
    have ho' : OwB w.heap.size v' d w' := by
      unfold OwB
      simpa [toZ, Lib.byteCells, Function.comp_def] using ho
    obtain ⟨a, c', rfl⟩ := own_form ho'
    exact ⟨a, c', rfl, ho', hbl⟩
set_option maxRecDepth 8000 in
set_option maxHeartbeats 4000000 in
theorem sections_any (w0 w : World) (p g off c T eg ec n2 : Nat) (E : List En) (l : List UInt8) (hn2 : E.length = n2 + 2) (hF : FS w0 w p g off l.length c T (.slice (some ⟨eg, 0, none⟩) (n2 + 2) ec) E) (hB : Bin w0 g off c l) (hEl : n2 ≤ 998) (hec : n2 + 2 ≤ ec) (hen : ∀ e ∈ E, 0 ≤ e.bg ∧ e.bg ≤ e.en ∧ e.en ≤ l.length ∧ e.bg < l.length) (S0 : List Sec) (hS0 : S0 = ((E.drop 1).take n2).map (secE l)) :
    Calls Try.prog 23 #[.pointer (some ⟨p, 0, none⟩)] w fun e w' => ∃ a c' Ls, e = .returned (.slice a n2 c') ∧ SS w w' (.slice a n2 c') Ls ∧ secs Ls = S0 := by
  have HS00 := hidOf hS0
  clear hS0
  have HF := hidOf hF
  have HB := hidOf hB
  have Hen := hidOf hen
  have Hn2 := hidOf hn2
  have hEI : (n2 : Int) ≤ 998 := by omega
  have hecI : (n2 : Int) + 2 ≤ ec := by omega
  have hec1 : ¬ ec = 1 := by omega
  have hs1 : (1 : Int) ≤ (n2 : Int) + 2 - 1 := by omega
  have hs2 : (n2 : Int) + 2 - 1 ≤ ec := by omega
  have hwr : IntKind.i64.wrap ((n2 : Int) + 2 - 1) = (n2 : Int) + 2 - 1 := by rw [IntKind.wrap_i64]; omega
  have c2 : w.drew.cell? ⟨p, 2, none⟩ = some (.slice (some ⟨eg, 0, none⟩) (n2 + 2) ec) := hF.cell 2
  clear hF hB hen hn2
  go_enter Try.func23, Try.ntmps23
  go_upto_region 1 with fail
  go_region_held3 (fun wx => wx.cell? ⟨p, 2, none⟩ = some (.slice (some ⟨eg, 0, none⟩) (n2 + 2) ec)) (first | with_reducible exact c2 | fail) (fail)
  have e0 : ((n2 : Int) + 2).toNat - 1 - 1 = n2 := by omega
  rw [e0]
  clear e0 hs1 hs2 hwr c2
  obtain ⟨cur, hmk, hown⟩ := run_make_sc n2 (by omega) w.drew
  have HS0 : Hid (SS w (w.alloc (.cells cur 46)).drew (.slice (some ⟨w.drew.heap.size, 0, none⟩) 0 n2) []) := ⟨hown, by simp, ((Out.refl w).alloc _).drew, fun i j x y hx => by simp at hx⟩
  obtain ⟨lg, hlg⟩ : ∃ lg, lg = w.drew.heap.size := ⟨_, rfl⟩
  rw [← hlg] at hmk HS0
  clear hown hlg
  obtain ⟨i0, hi0, hz0, hz1, hz2⟩ := info_parts infoSc
  go_wp2
  clear hmk
  generalize (w.alloc (.cells cur 46)).drew = W1 at *
  go_loopw [23, 4] (fun iv lv wr => ∃ (i : Nat) (a : Option Addr) (c' : Nat) (Ls : List SV), iv = .int .i64 i ∧ lv = .slice a i c' ∧ i ≤ n2 ∧ Ls.length = i ∧ Hid (secs Ls = ((E.drop 1).take i).map (secE l)) ∧ Hid (SS w wr (.slice a i c') Ls)) (fun iv _ _ => n2 - (intOf iv).toNat)
  case atStart => exact ⟨0, _, _, [], rfl, rfl, by omega, rfl, rfl, HS0.out⟩
  case round =>
    obtain ⟨i, a, c', Ls, rfl, rfl, hi, hLi, HL, HS⟩ := hrel
    by_cases hin : i < n2
    · have hlt : (i : Int) < n2 := by omega
      have h0 : (0 : Int) ≤ i := by omega
      obtain ⟨e, he⟩ : ∃ e, E[i + 1]? = some e := ⟨_, List.getElem?_eq_getElem (by rw [Hn2.out]; omega)⟩
      obtain ⟨hb0, hbe, hel, hbl⟩ := Hen.out e (List.mem_of_getElem? he)
      obtain ⟨B0, hB0⟩ : ∃ n : Nat, e.bg = n := ⟨e.bg.toNat, by omega⟩
      obtain ⟨E1, hE1⟩ : ∃ n : Nat, e.en = n := ⟨e.en.toNat, by omega⟩
      rw [hB0, hE1] at hbe
      rw [hE1] at hel
      rw [hB0] at hbl
      have HRg : Hid (wr.rangeAt eg (12 + i * 12) e.cs) := hidOf (by
        have := OwE.range (own_at HF.out.own HS.out.out) he
        rwa [show (i + 1) * 12 = 12 + i * 12 by omega] at this)
      have Hst : Hid (((E.drop 1).take (i + 1)).map (secE l) = ((E.drop 1).take i).map (secE l) ++ [secE l e]) := hidOf (by
        have hd : (E.drop 1)[i]? = some e := by rw [List.getElem?_drop, Nat.add_comm]; exact he
        rw [take_snoc hd]; simp)
      obtain ⟨q, hq⟩ : ∃ q, q = wr.heap.size := ⟨_, rfl⟩
      have HX : Hid (BoxE (wr.alloc (.cells e.cs.toArray 100)) q e) := hidOf (by rw [hq]; exact heap_alloc_new wr _)
      have HS1 := hidOf (HS.out.on ((Out.refl wr).alloc (.cells e.cs.toArray 100)))
      have Hq := hidOf hq
      have HLi := hidOf hLi
      clear he hq hb0 hLi
      go_upto_region 5 with fail
      refine wp_region_lit ?_
      refine wpList_plain rfl fun K hK => ?_
      go_simp
      refine hK _ _ ?_
      clear hK
      refine wpList_load_mid rfl 100 (.tmp 25) rfl eg (12 + i * 12) rfl e.cs _ HRg.out Try.underlying100 rfl sizeEn ?_
      refine wpList_alloc_new rfl 100 rfl (.agg (En.cs ⟨0, [], 0, 0, 0, 0, 0, 0, 0, 0, 0⟩).toArray) (zero_of_info zeroEn).1 ?_
      refine wpList_store_new rfl 100 (.tmp 6) (.tmp 26) rfl (En.cs ⟨0, [], 0, 0, 0, 0, 0, 0, 0, 0, 0⟩).toArray e.cs.toArray rfl rfl sizeEn rfl (en_one e) ?_
      refine wpList_nil ?_
      simp only [Act.put, List.setIfInBounds_toArray, List.set_cons_zero, List.set_cons_succ]
      have hqw : w.heap.size ≤ q := by have := Hq.out; have := HS.out.out.size; omega
      rw [← Hq.out]
      have HwS : Hid (wr.heap.size ≤ (wr.alloc (.cells e.cs.toArray 100)).heap.size) := hidOf ((Out.refl wr).alloc _).size
      generalize wr.alloc (.cells e.cs.toArray 100) = wb at *
      generalize e.cs.toArray = EC at *
      go_upto_region 6 with fail
      have hbeN : B0 ≤ E1 := by omega
      have hcB : ¬ c = B0 := by have := HB.out.cap; omega
      have hE1c : (E1 : Int) ≤ c := by have := HB.out.cap; omega
      have hB00 : (0 : Int) ≤ B0 := by omega
      have hlb : (l.length : Int) ≤ 1000000000000 := by have := HB.out.big; omega
      have hsub : IntKind.i64.wrap ((E1 : Int) - B0) = (E1 : Int) - B0 := by rw [IntKind.wrap_i64]; omega
      obtain ⟨d, hd⟩ : ∃ d, d = (l.drop B0).take (E1 - B0) := ⟨_, rfl⟩
      have hdl : d.length = E1 - B0 := by rw [hd, List.length_take, List.length_drop]; omega
      have Ob : Out w wb := HS1.out.out
      have CC : Hid (Calls Try.prog 54 #[.slice (some ⟨g, off + B0, none⟩) (E1 - B0) (c - B0)] wb.drew fun e w' => ∃ a c', e = .returned (.slice a (E1 - B0) c') ∧ OwB w.heap.size (.slice a (E1 - B0) c') d w' ∧ Out wb.drew w' ∧ ∀ k, (Value.slice a (E1 - B0) c').ownBlock = some k → wb.heap.size ≤ k) := by
        have hb := HB.out.out (HF.out.out.trans Ob.drew)
        have := cloneB_any wb.drew g (off + B0) (c - B0) d (by rw [hd]; exact hb.at_.cut B0 (E1 - B0)) (by omega)
        rw [hdl] at this
        exact this.mono fun e w' ⟨a, c', he, h1, h2⟩ => ⟨a, c', he, own_base h1 Ob.drew.size, h2, fun k hk => (h1.lt k hk).1⟩
      have r0 : wb.drew.cell? ⟨p, 0, none⟩ = some (.slice (some ⟨g, off, none⟩) l.length c) := (HF.out.on Ob).cell 0
      have r1 : wb.drew.cell? ⟨q, 10, none⟩ = some (.int .i64 (B0 : Int)) := by have := HX.out.cells.2.2.2.2.2.2.2.2.2.2.1; rwa [hB0] at this
      have r2 : wb.drew.cell? ⟨q, 11, none⟩ = some (.int .i64 (E1 : Int)) := by have := HX.out.cells.2.2.2.2.2.2.2.2.2.2.2; rwa [hE1] at this
      have hpq : ¬ p = q := fun e => by
        have h1 := (HF.out.on Ob).fil
        have h2 : wb.heap[q]? = _ := HX.out
        rw [e, h2] at h1
        simp at h1
      have HKX : Hid (∀ wx, Out wb.drew wx → ∀ u, (wx.setCell ⟨q, 8, none⟩ u).cell? ⟨p, 0, none⟩ = some (.slice (some ⟨g, off, none⟩) l.length c) ∧ (wx.setCell ⟨q, 8, none⟩ u).cell? ⟨q, 10, none⟩ = some (.int .i64 (B0 : Int)) ∧ (wx.setCell ⟨q, 8, none⟩ u).cell? ⟨q, 11, none⟩ = some (.int .i64 (E1 : Int))) := fun wx ho u => by
        have hh : wx.heap[q]? = _ := (HX.out.out (((Out.refl wb).drew).trans ho))
        refine ⟨(setCell_far hpq u).trans (cell_later ho r0), ?_, ?_⟩
        · simp [World.setCell, World.cell?, Array.getElem?_modify, hh, En.cs, hB0]
        · simp [World.setCell, World.cell?, Array.getElem?_modify, hh, En.cs, hE1]
      have HKS : Hid (∀ wx, Out wb.drew wx → wx.cell? ⟨p, 0, none⟩ = some (.slice (some ⟨g, off, none⟩) l.length c) ∧ wx.cell? ⟨q, 10, none⟩ = some (.int .i64 (B0 : Int)) ∧ wx.cell? ⟨q, 11, none⟩ = some (.int .i64 (E1 : Int))) := fun wx ho => ⟨cell_later ho r0, cell_later ho r1, cell_later ho r2⟩
      have HK8 : Hid (∀ wx, Out wb.drew wx → wx.cell? ⟨q, 8, none⟩ = some (.slice none 0 0) ∧ wx.frozen? ⟨q, 8, none⟩ = false) := fun wx ho => by
        have hh : wx.heap[q]? = _ := (HX.out.out (((Out.refl wb).drew).trans ho))
        exact ⟨by simp [World.cell?, hh, En.cs], by simp [World.frozen?, hh]⟩
      have Hd := hidOf hd
      have Hdl := hidOf hdl
      have Hpq := hidOf hpq
      clear hd hdl hpq
      go_region_held3 (fun wx => wx.cell? ⟨p, 0, none⟩ = some (.slice (some ⟨g, off, none⟩) l.length c) ∧ wx.cell? ⟨q, 10, none⟩ = some (.int .i64 (B0 : Int)) ∧ wx.cell? ⟨q, 11, none⟩ = some (.int .i64 (E1 : Int))) (first | with_reducible exact ⟨r0, r1, r2⟩ | with_reducible exact HKS.out _ (Hid.out (by assumption)) | with_reducible exact HKX.out _ (Hid.out (by assumption)) _ | fail) (first | (go_at_call 54; refine (CC.out).mono ?_; rintro e' w1 ⟨da, dc, rfl, hO, hO1, hNb⟩; have HO1 := hidOf hO1; have HNb := hidOf hNb; clear hNb; have HD1 := hidOf hO; have k8 := HK8.out _ hO1; clear hO hO1) | fail)
      obtain ⟨x, hx⟩ : ∃ x : SV, x = ⟨secE l e, da, dc⟩ := ⟨_, rfl⟩
      have hxd : x.s.d = d := by rw [hx, Hd.out]; show (l.drop e.bg.toNat).take (e.en.toNat - e.bg.toNat) = _; rw [hB0, hE1]; simp
      have hq1 : w1.heap[q]? = some (.cells e.cs.toArray 100 (0, 0)) := HX.out.out (((Out.refl wb).drew).trans HO1.out)
      have hcs : x.cs = [.string ⟨e.nm.toArray⟩, .int .i64 e.ty, .int .i64 e.fl, .int .i64 e.li, .int .i64 e.inf, .int .i64 e.al, .int .i64 e.es, .slice da (E1 - B0) dc] := by
        have : x.s.d.length = E1 - B0 := by rw [hxd, Hdl.out]
        rw [SV.cs, this, hx]; rfl
      have hk : ∀ k u, x.cs[k]? = some u → (w1.setCell ⟨q, 8, none⟩ (.slice da (E1 - B0) dc)).cell? ⟨q, 1 + k, none⟩ = some u := by
        intro k u hu
        rw [hcs] at hu
        have hlt8 : k < 8 := by have := (List.getElem?_eq_some_iff.1 hu).1; simpa using this
        simp only [World.setCell, World.cell?, Array.getElem?_modify, hq1]
        match k, hlt8, hu with
        | 0, _, hu | 1, _, hu | 2, _, hu | 3, _, hu | 4, _, hu | 5, _, hu | 6, _, hu | 7, _, hu => simpa [En.cs] using hu
      have c2 : Chg (fun k => k = q) w1 (w1.setCell ⟨q, 8, none⟩ (.slice da (E1 - B0) dc)) := Chg.setCell (S := fun k => k = q) (Chg.refl _ w1) (p := ⟨q, 8, none⟩) rfl _
      have HSw1 := HS1.out.on (((Out.refl wb).drew).trans HO1.out)
      have HS2 : Hid (SS w (w1.setCell ⟨q, 8, none⟩ (.slice da (E1 - B0) dc)) (.slice a i c') Ls) := hidOf (HSw1.chg c2 (fun k hk e => by have := (HS.out.own.lt k hk).2; have := Hq.out; omega) (fun y hy k hk e => by have := ((HS.out.dat y hy).lt k hk).2; have := Hq.out; omega) (fun k hk => by omega))
      have HD2 : Hid (OwB w.heap.size (.slice x.da x.s.d.length x.dc) x.s.d (w1.setCell ⟨q, 8, none⟩ (.slice da (E1 - B0) dc))) := hidOf (by
        rw [hxd, Hdl.out, show x.da = da by rw [hx], show x.dc = dc by rw [hx]]
        exact owns_chg HD1.out (fun k hk e => own_type HD1.out hq1 (by decide) (by rw [← e]; exact hk)) c2)
      have HDd : Hid (∀ y ∈ Ls, ∀ k, (Value.slice y.da y.s.d.length y.dc).ownBlock = some k → ¬ (Value.slice x.da x.s.d.length x.dc).ownBlock = some k) := hidOf (fun y hy k hk hk' => by
        have h1 := ((HS.out.dat y hy).lt k hk).2
        have h2 := HNb.out k (by rw [hxd, Hdl.out, show x.da = da by rw [hx], show x.dc = dc by rw [hx]] at hk'; exact hk')
        have := HwS.out
        omega)
      have Hcs := hidOf hcs
      have Hsx : Hid (x.s = secE l e) := hidOf (by rw [hx])
      have k0 := hk 0 _ (by rw [hcs]; rfl)
      have k1 := hk 1 _ (by rw [hcs]; rfl)
      have k2 := hk 2 _ (by rw [hcs]; rfl)
      have k3 := hk 3 _ (by rw [hcs]; rfl)
      have k4 := hk 4 _ (by rw [hcs]; rfl)
      have k5 := hk 5 _ (by rw [hcs]; rfl)
      have k6 := hk 6 _ (by rw [hcs]; rfl)
      have k7 := hk 7 _ (by rw [hcs]; rfl)
      clear hk hcs hxd hx c2 HSw1 hq1 k8 r0 r1 r2 HKS HKX HK8 CC
      generalize w1.setCell ⟨q, 8, none⟩ (.slice da (E1 - B0) dc) = w2 at *
      have hs2 : w.heap.size ≤ w2.heap.size := HS2.out.out.size
      have HLi2 : Hid (w2.ownsRow w.heap.size 46 8 (.slice a i c') i (svV Ls)) := hidOf (by have := HS2.out.own; unfold OwV at this; rwa [HLi.out] at this)
      go_wp2_with (at_builtin; refine wpList_append_own _ rfl (.tmp 39) (.tmp 42) 38 rfl w.heap.size 46 i0 _ 8 88 Try.underlying38 hi0 hz0 hz1 hz2 rfl (by decide) (.slice a i c') i (svV Ls) rfl (World.ownsRow.alloc HLi2.out _) ⟨w2.heap.size, 0, none⟩ 1 1 [.string ⟨e.nm.toArray⟩, .int .i64 e.ty, .int .i64 e.fl, .int .i64 e.li, .int .i64 e.inf, .int .i64 e.al, .int .i64 e.es, .slice da (E1 - B0) dc] rfl rfl (news_new w2 _ _ _ rfl) (by rw [← Hcs.out]; exact svV_one1 x) (by unfold maxLen; omega) (by omega) (by rw [size_alloc]; omega) ?_; intro v3 w3 hown3 hgrow3 _; rw [← Hcs.out] at hown3; have HO3 := hidOf hown3; have Hg3 := hidOf hgrow3; clear hgrow3; obtain ⟨a3, c3, rfl⟩ := own_form hown3; clear hown3)
      all_goals
        refine ⟨⟨i + 1, a3, c3, Ls ++ [x], by simp, rfl, by omega,
          by have := HLi.out; simp; omega, ?_, ?_⟩, by simp [intOf]; omega⟩
        · show _ = _
          rw [Hst.out, ← HL.out, ← Hsx.out]
          simp [secs]
        · exact (HS2.out.on ((Out.refl w2).alloc _)).push
            (own_at HD2.out ((Out.refl w2).alloc _)) Hg3.out HLi.out HO3.out HDd.out
    · have hlt : ¬ (i : Int) < n2 := by omega
      obtain rfl : i = n2 := by omega
      go_wp2
      go_ret
      exact ⟨a, c', rfl, Ls, HS.out, HL.out.trans HS00.out.symm⟩
end Go.Proofs.Ytlfcjbeldnkkoaa
namespace Go.Proofs.Ytlfcjbeldnkkoaa
open Go.RowKit
set_option linter.unusedVariables false
set_option linter.unusedSimpArgs false
def In2 (b : Nat × Nat) (n : Nat) : Prop := b.1 ≤ n ∧ n ≤ b.2
/-- what a row's fields hold, if it is right -/
theorem flt_fds {l : List UInt8} {r : Rw} (h : fltF l 0 r.fds = none) : In2 r.n (nmB ((l.drop 0).take 4)) ∧ In2 r.k (nmB ((l.drop 4).take 4)) ∧ In2 r.f (nmB ((l.drop 8).take 8)) ∧ nmB ((l.drop 16).take 8) = 0 ∧ In2 r.p (nmB ((l.drop 24).take 8)) ∧ In2 r.s (nmB ((l.drop 32).take 8)) ∧ In2 r.l (nmB ((l.drop 40).take 4)) ∧ In2 r.i (nmB ((l.drop 44).take 4)) ∧ In2 r.a (nmB ((l.drop 48).take 8)) ∧ In2 r.e (nmB ((l.drop 56).take 8)) := by
  have g := fun i f hf => flt_get l r.fds i 0 f h hf
  refine ⟨g 0 ⟨4, r.n.1, r.n.2⟩ rfl, g 1 ⟨4, r.k.1, r.k.2⟩ rfl, g 2 ⟨8, r.f.1, r.f.2⟩ rfl, ?_, g 4 ⟨8, r.p.1, r.p.2⟩ rfl, g 5 ⟨8, r.s.1, r.s.2⟩ rfl, g 6 ⟨4, r.l.1, r.l.2⟩ rfl, g 7 ⟨4, r.i.1, r.i.2⟩ rfl, g 8 ⟨8, r.a.1, r.a.2⟩ rfl, g 9 ⟨8, r.e.1, r.e.2⟩ rfl⟩
  have := g 3 ⟨8, 0, 0⟩ rfl
  exact Nat.le_zero.1 this.2
/-- fields that say just what stands there -/
def Exact (l : List UInt8) : Nat → List Fd → Prop
  | _, [] => True
  | p, f :: r => f.lo = nmB ((l.drop p).take f.w) ∧ Exact l (p + f.w) r
theorem layB_cons (f : Fd) (r : List Fd) : layB (f :: r) = leB f.lo f.w ++ layB r := rfl
theorem widF_cons (f : Fd) (r : List Fd) : widF (f :: r) = f.w + widF r := by simp [widF]
theorem widF_app (A B : List Fd) : widF (A ++ B) = widF A + widF B := by simp [widF]
theorem take_add {α : Type} (l : List α) (p a b : Nat) : (l.drop p).take (a + b) = (l.drop p).take a ++ (l.drop (p + a)).take b := by
  rw [List.take_add, List.drop_drop]
theorem le_at (l : List UInt8) (p w : Nat) (h : p + w ≤ l.length) : leB (nmB ((l.drop p).take w)) w = (l.drop p).take w := by
  have h1 : ((l.drop p).take w).length = w := by rw [List.length_take, List.length_drop]; omega
  have := le_nm ((l.drop p).take w)
  rwa [h1] at this
theorem layB_exact (l : List UInt8) : ∀ (L : List Fd) (p : Nat), p + widF L ≤ l.length → Exact l p L → layB L = (l.drop p).take (widF L)
  | [], p, _, _ => by simp [layB, widF]
  | f :: r, p, h, he => by
    rw [widF_cons] at h
    rw [layB_cons, widF_cons, take_add, he.1, le_at l p f.w (by omega), layB_exact l r (p + f.w) (by omega) he.2]
theorem exact_app (l : List UInt8) : ∀ (A B : List Fd) (p : Nat), Exact l p A → Exact l (p + widF A) B → Exact l p (A ++ B)
  | [], B, p, _, h => by simpa [widF] using h
  | f :: r, B, p, h, h2 => ⟨h.1, exact_app l r B (p + f.w) h.2 (by rw [widF_cons, ← Nat.add_assoc] at h2; exact h2)⟩
theorem flt_app (l : List UInt8) : ∀ (A B : List Fd) (p : Nat), fltF l p (A ++ B) = none → fltF l p A = none ∧ fltF l (p + widF A) B = none
  | [], B, p, h => ⟨rfl, by simpa [widF] using h⟩
  | f :: r, B, p, h => by
    rw [List.cons_append, fltF] at h
    split at h
    · cases h
    · rename_i hn
      have := flt_app l r B (p + f.w) h
      refine ⟨by rw [fltF, if_neg hn]; exact this.1, ?_⟩
      rw [widF_cons, ← Nat.add_assoc]; exact this.2
theorem exact_of_flt (l : List UInt8) : ∀ (L : List Fd) (p : Nat), (∀ f ∈ L, f.lo = f.hi) → fltF l p L = none → Exact l p L
  | [], _, _, _ => trivial
  | f :: r, p, he, h => by
    rw [fltF] at h
    split at h
    · cases h
    · rename_i hn
      have h1 := he f (by simp)
      exact ⟨by omega, exact_of_flt l r _ (fun g hg => he g (by simp [hg])) h⟩
/-- the head -/
theorem hd_facts {b : List UInt8} (hl : 64 ≤ b.length) (h : hdFlt b = none) : 64 ≤ tpP b ∧ tpP b % 8 = 0 ∧ 2 ≤ cntP b ∧ cntP b ≤ 18 ∧ b.take 64 = layB (headF (jw2 (tpP b)) (jw2 (cntP b)) (jw2 ((cntP b : Int) - 1))) := by
  unfold hdFlt hfP headF at h
  obtain ⟨h1, h2⟩ := flt_app b _ _ 0 h
  obtain ⟨h3, h4⟩ := flt_app b _ _ 0 h1
  obtain ⟨h5, h6⟩ := flt_app b _ _ 0 h3
  rw [show 0 + widF (bwF hdA) = 40 from by rw [bwF_wid]; rfl] at h6
  have w2 : 0 + widF (bwF hdA ++ [⟨8, (tsP b).1, (tsP b).2⟩] ++ bwF hdB) = 60 := by rw [widF_app, widF_app, bwF_wid, bwF_wid]; rfl
  rw [w2] at h2
  have ht : 64 ≤ tpP b ∧ tpP b % 8 = 0 := by
    by_cases hg : 64 ≤ tpP b ∧ tpP b % 8 = 0
    · exact hg
    · exfalso
      rw [tsP, if_neg hg] at h6
      simp only [fltF] at h6
      split at h6
      · cases h6
      · omega
  have hts : tsP b = jw2 (tpP b) := by rw [tsP, if_pos ht]; rfl
  have hc : 2 ≤ cntP b ∧ cntP b ≤ 18 := by
    have h2' := h2
    simp only [fltF] at h2'
    split at h2'
    · cases h2'
    · unfold cntP; omega
  refine ⟨ht.1, ht.2, hc.1, hc.2, ?_⟩
  have hbw : ∀ l : List UInt8, ∀ f ∈ bwF l, f.lo = f.hi := by
    intro l f hf
    simp [bwF] at hf
    obtain ⟨x, _, rfl⟩ := hf
    rfl
  have E : Exact b 0 (headF (jw2 (tpP b)) (jw2 (cntP b)) (jw2 ((cntP b : Int) - 1))) := by
    unfold headF
    refine exact_app b _ _ 0 ?_ ?_
    · rw [hts] at h1
      refine exact_of_flt b _ 0 ?_ h1
      intro f hf
      simp only [List.mem_append, List.mem_cons, List.not_mem_nil, or_false] at hf
      rcases hf with (hf | hf) | hf
      · exact hbw _ f hf
      · rw [hf]; rfl
      · exact hbw _ f hf
    · rw [hts] at w2
      rw [w2]
      have hcj : jw (cntP b : Int) = cntP b := jw_nat _ (by omega)
      refine ⟨hcj, ?_, trivial⟩
      have h7 := h2
      rw [fltF] at h7
      split at h7
      · cases h7
      · rw [fltF] at h7
        split at h7
        · cases h7
        · show jw ((cntP b : Int) - 1) = _
          simp only at *
          omega
  have := layB_exact b _ 0 (by rw [headF_wid]; omega) E
  rw [headF_wid] at this
  rw [this]; rfl
/-- entries that were taken -/
def TkOk (l : List UInt8) (T : Nat) : Nat → Nat → Nat → List En → Prop
  | 0, _, _, R => R = []
  | k + 1, place, begin, R => ∃ (m : Nat) (R' : List En), fltF ((l.drop place).take 64) 0 (rowW T l.length place begin).fds = none ∧ fldI ((l.drop place).take 64) 32 8 = m ∧ begin + m ≤ T ∧ R = enP ((l.drop place).take 64) place begin :: R' ∧ TkOk l T k (place + 64) (up8 (begin + m)) R'
theorem up8_le {n T : Nat} (h : n ≤ T) (hT : T % 8 = 0) : up8 n ≤ T := by unfold up8; omega
theorem tkF_ok (l : List UInt8) (T : Nat) (hT : T ≤ 1000000000000) (hT8 : T % 8 = 0) : ∀ (k place begin : Nat) (E : List En), begin ≤ T → (tkF l T k place begin E).2 = none → ∃ R, (tkF l T k place begin E).1 = E ++ R ∧ TkOk l T k place begin R
  | 0, _, _, E, _, _ => ⟨[], by simp [tkF], rfl⟩
  | k + 1, place, begin, E, hb, h => by
    cases hf : fltF ((l.drop place).take 64) 0 (rowW T l.length place begin).fds with
    | some a => rw [tk_some hf] at h; cases h
    | none =>
      obtain ⟨m, hm, hle⟩ := rd_of hT hb hf
      rw [tk_none hf, hm.eq, Int.toNat_natCast] at h ⊢
      obtain ⟨R, h1, h2⟩ := tkF_ok l T hT hT8 k (place + 64) (up8 (begin + m)) _ (up8_le hle hT8) h
      exact ⟨enP ((l.drop place).take 64) place begin :: R, by rw [h1]; simp, m, R, hf, hm.eq, hle, rfl, h2⟩
theorem tk_len (l : List UInt8) (T : Nat) : ∀ (k place begin : Nat) (R : List En), TkOk l T k place begin R → R.length = k
  | 0, _, _, R, h => by have h : R = [] := h; rw [h]; rfl
  | k + 1, place, begin, R, ⟨m, R', _, _, _, h, h2⟩ => by rw [h, List.length_cons, tk_len l T k _ _ R' h2]
/-- an entry's bounds -/
structure EnOk (T : Nat) (e : En) : Prop where
  na0 : 0 ≤ e.na
  na1 : e.na ≤ 4294967295
  bg : 0 ≤ e.bg
  be : e.bg ≤ e.en
  en : e.en ≤ T
  up : up8 e.en.toNat ≤ T
theorem fld4 (l : List UInt8) (o : Nat) : 0 ≤ fldI l o 4 ∧ fldI l o 4 ≤ 4294967295 := by
  have h := nmB_lt ((l.drop o).take 4)
  have h4 : 256 ^ ((l.drop o).take 4).length ≤ 256 ^ 4 := Nat.pow_le_pow_right (by omega) (by rw [List.length_take]; omega)
  have h5 : (256 : Nat) ^ 4 = 4294967296 := by decide
  unfold fldI
  rw [wrap64_small _ (by omega)]
  omega
theorem tk_ok (l : List UInt8) (T : Nat) (hT8 : T % 8 = 0) : ∀ (k place begin : Nat) (R : List En), TkOk l T k place begin R → ∀ e ∈ R, EnOk T e
  | 0, _, _, R, h, e, he => by have h : R = [] := h; rw [h] at he; cases he
  | k + 1, place, begin, R, ⟨m, R', _, hm, hle, h, h2⟩, e, he => by
    rw [h] at he
    rcases List.mem_cons.1 he with he | he
    · have h4 := fld4 ((l.drop place).take 64) 0
      have he2 : e.en = (begin : Int) + m := by rw [he]; show (begin : Int) + fldI _ 32 8 = _; rw [hm]
      have hb2 : e.bg = begin := by rw [he]; rfl
      have hn2 : e.na = fldI ((l.drop place).take 64) 0 4 := by rw [he]; rfl
      refine ⟨by omega, by omega, by omega, by omega, by omega, ?_⟩
      have : e.en.toNat = begin + m := by omega
      rw [this]; exact up8_le hle hT8
    · exact tk_ok l T hT8 k _ _ R' h2 e he
/-- without its name -/
def noNm (e : En) : En := { e with nm := [] }
theorem nmG_but (N : List (List UInt8)) : ∀ (R : List En) (b : Nat), (nmG N b R).1.map noNm = R.map noNm
  | [], b => rfl
  | e :: r, b => by
    unfold nmG
    split
    · rfl
    · split
      · rfl
      · simp only [List.map_cons, nmG_but N r]
        rfl
theorem noNm_ok {T : Nat} {e e' : En} (h : noNm e = noNm e') (hk : EnOk T e') : EnOk T e := by
  have h1 : (noNm e).na = (noNm e').na := by rw [h]
  have h2 : (noNm e).bg = (noNm e').bg := by rw [h]
  have h3 : (noNm e).en = (noNm e').en := by rw [h]
  simp only [noNm] at h1 h2 h3
  exact ⟨by rw [h1]; exact hk.na0, by rw [h1]; exact hk.na1, by rw [h2]; exact hk.bg, by rw [h2, h3]; exact hk.be, by rw [h3]; exact hk.en, by rw [h3]; exact hk.up⟩
theorem but_ok {T : Nat} {A B : List En} (h : A.map noNm = B.map noNm) (hk : ∀ e ∈ B, EnOk T e) : ∀ e ∈ A, EnOk T e := by
  intro e he
  have : noNm e ∈ B.map noNm := by rw [← h]; exact List.mem_map_of_mem he
  obtain ⟨e', he', hee⟩ := List.mem_map.1 this
  exact noNm_ok hee.symm (hk e' he')
theorem but_len {A B : List En} (h : A.map noNm = B.map noNm) : A.length = B.length := by
  have := congrArg List.length h
  simpa using this
/-- the last one -/
def lastE (E : List En) : En := (E[E.length - 1]?).getD ⟨0, [], 0, 0, 0, 0, 0, 0, 0, 0, 0⟩
/-- what Read answers -/
def rdEl (b : List UInt8) : Option (List Sec) × Int × Int :=
  if b.length < 64 then (none, b.length, 90) else
  match hdFlt b with
  | some a => (none, (a : Nat), 91)
  | none => match (tkF b (tpP b).toNat (cntP b) (tpP b).toNat 64 []).2 with
    | some a => (none, (a : Nat), 92)
    | none => match padF b (tkF b (tpP b).toNat (cntP b) (tpP b).toNat 64 []).1 with
      | some a => (none, (a : Nat), 93)
      | none => if (tnR b (tkF b (tpP b).toNat (cntP b) (tpP b).toNat 64 []).1 (lastE (tkF b (tpP b).toNat (cntP b) (tpP b).toNat 64 []).1).bg.toNat (lastE (tkF b (tpP b).toNat (cntP b) (tpP b).toNat 64 []).1).en.toNat).2.1 then (none, (tnR b (tkF b (tpP b).toNat (cntP b) (tpP b).toNat 64 []).1 (lastE (tkF b (tpP b).toNat (cntP b) (tpP b).toNat 64 []).1).bg.toNat (lastE (tkF b (tpP b).toNat (cntP b) (tpP b).toNat 64 []).1).en.toNat).1, 92)
        else (some ((((tnR b (tkF b (tpP b).toNat (cntP b) (tpP b).toNat 64 []).1 (lastE (tkF b (tpP b).toNat (cntP b) (tpP b).toNat 64 []).1).bg.toNat (lastE (tkF b (tpP b).toNat (cntP b) (tpP b).toNat 64 []).1).en.toNat).2.2.drop 1).take (cntP b - 2)).map (secE b)), 0, 0)
/-- what Read goes through -/
structure Rdg (b : List UInt8) (T k : Nat) (E : List En) (nb : En) : Prop where
  hT : 64 ≤ T
  h8 : T % 8 = 0
  hk : T + 64 * k = b.length
  k2 : 2 ≤ k
  k18 : k ≤ 18
  tp : tpP b = T
  cnt : cntP b = k
  tk : tkF b T k T 64 [] = (E, none)
  ok : TkOk b T k T 64 E
  len : E.length = k
  all : ∀ e ∈ E, EnOk T e
  last : E[E.length - 1]? = some nb
theorem rdg_of {b : List UInt8} (hl : 64 ≤ b.length) (hb : b.length ≤ 1000000000000) (h : hdFlt b = none) (h2 : (tkF b (tpP b).toNat (cntP b) (tpP b).toNat 64 []).2 = none) : ∃ T k E nb, Rdg b T k E nb := by
  obtain ⟨a1, a2, a3, a4, _⟩ := hd_facts hl h
  obtain ⟨T, hT⟩ : ∃ T : Nat, tpP b = T := ⟨(tpP b).toNat, by omega⟩
  have hk : T + 64 * cntP b = b.length := by unfold tpP at hT; omega
  rw [hT, Int.toNat_natCast] at h2
  obtain ⟨R, h3, h4⟩ := tkF_ok b T (by omega) (by omega) (cntP b) T 64 [] (by omega) h2
  have hlen := tk_len b T _ _ _ R h4
  rw [List.nil_append] at h3
  refine ⟨T, cntP b, R, R[R.length - 1]'(by omega), by omega, by omega, hk, a3, a4, hT, rfl, Prod.ext h3 h2, h4, hlen, tk_ok b T (by omega) _ _ _ R h4, List.getElem?_eq_getElem _⟩
theorem rdEl_short {b : List UInt8} (h : b.length < 64) : rdEl b = (none, (b.length : Int), 90) := by rw [rdEl, if_pos h]
theorem rdEl_head {b : List UInt8} {a : Nat} (h : 64 ≤ b.length) (h1 : hdFlt b = some a) : rdEl b = (none, (a : Int), 91) := by rw [rdEl, if_neg (by omega), h1]
theorem rdEl_tk {b : List UInt8} {a : Nat} (h : 64 ≤ b.length) (h1 : hdFlt b = none) (h2 : (tkF b (tpP b).toNat (cntP b) (tpP b).toNat 64 []).2 = some a) : rdEl b = (none, (a : Int), 92) := by rw [rdEl, if_neg (by omega), h1]; simp only [h2]
theorem rdEl_pad {b : List UInt8} {a T k : Nat} {E : List En} {nb : En} (h1 : hdFlt b = none) (r : Rdg b T k E nb) (h2 : padF b E = some a) : rdEl b = (none, (a : Int), 93) := by
  have := r.hk; have := r.k2
  rw [rdEl, if_neg (by omega), h1]
  simp only [r.tp, r.cnt, Int.toNat_natCast, r.tk, h2]
theorem last_of {b : List UInt8} {T k : Nat} {E : List En} {nb : En} (r : Rdg b T k E nb) : lastE E = nb := by rw [lastE, r.last]; rfl
theorem rdEl_nm {b : List UInt8} {T k : Nat} {E : List En} {nb : En} (h1 : hdFlt b = none) (r : Rdg b T k E nb) (h2 : padF b E = none) (h3 : (tnR b E nb.bg.toNat nb.en.toNat).2.1 = true) : rdEl b = (none, (tnR b E nb.bg.toNat nb.en.toNat).1, 92) := by
  have := r.hk; have := r.k2
  rw [rdEl, if_neg (by omega), h1]
  simp only [r.tp, r.cnt, Int.toNat_natCast, r.tk, h2, last_of r, h3, if_true]
theorem rdEl_ok {b : List UInt8} {T k : Nat} {E : List En} {nb : En} (h1 : hdFlt b = none) (r : Rdg b T k E nb) (h2 : padF b E = none) (h3 : (tnR b E nb.bg.toNat nb.en.toNat).2.1 = false) : rdEl b = (some ((((tnR b E nb.bg.toNat nb.en.toNat).2.2.drop 1).take (k - 2)).map (secE b)), 0, 0) := by
  have := r.hk; have := r.k2
  rw [rdEl, if_neg (by omega), h1]
  simp only [r.tp, r.cnt, Int.toNat_natCast, r.tk, h2, last_of r, h3]
  rfl
theorem tnR_but {b : List UInt8} {E : List En} {B0 E1 : Nat} (h : (tnR b E B0 E1).2.1 = false) : (tnR b E B0 E1).2.2.map noNm = E.map noNm := by
  unfold tnR at h ⊢
  split at h
  · cases h
  · split at h
    · cases h
    · rename_i N hN _ h4
      simp only [hN, h4]
      rw [List.map_append, nmG_but, ← List.map_append, List.take_append_drop]
end Go.Proofs.Ytlfcjbeldnkkoaa
