import Derived.Test.YtcalbhcgimipeaaEnb
namespace Go.Proofs.Ytcalbhcgimipeaa
open Go.RowKit
set_option linter.unusedVariables false
set_option linter.unusedSimpArgs false
/-- the copy's section, once its data are copied: a box that holds it, the list as it was -/
structure CB (w w2 : World) (q : Nat) (lv : Value) (Ls : List SV) (y : SV) : Prop where
  box : w2.heap[q]? = some (.cells y.cs.toArray 60 (0, 0))
  ss : SS w w2 lv Ls
  dat : OwB w.heap.size (.slice y.da y.s.d.length y.dc) y.s.d w2
theorem cb_of {w wb X : World} {q : Nat} {lv : Value} {Ls : List SV} {x : SV} {da' : Option Addr} {dc' : Nat} (hb : wb.heap[q]? = some (.cells x.cs.toArray 60 (0, 0))) (hs : SS w wb lv Ls) (hq : ∀ k, lv.ownBlock = some k → ¬ k = q) (hq2 : ∀ y ∈ Ls, ∀ k, (Value.slice y.da y.s.d.length y.dc).ownBlock = some k → ¬ k = q) (hw : w.heap.size ≤ q) (o : Out wb X) (hd : OwB w.heap.size (.slice da' x.s.d.length dc') x.s.d X) :
    CB w (X.setCell ⟨q, 7, none⟩ (.slice da' x.s.d.length dc')) q lv Ls ⟨x.s, da', dc'⟩ ∧ (∃ u, X.cell? ⟨q, 7, none⟩ = some u) ∧ X.frozen? ⟨q, 7, none⟩ = false := by
  have hX : X.heap[q]? = some (.cells x.cs.toArray 60 (0, 0)) := (o.block q (Array.getElem?_eq_some_iff.1 hb).1).trans hb
  have c2 : Chg (fun k => k = q) X (X.setCell ⟨q, 7, none⟩ (.slice da' x.s.d.length dc')) := Chg.setCell (S := fun k => k = q) (Chg.refl _ X) (p := ⟨q, 7, none⟩) rfl _
  refine ⟨⟨?_, (hs.on o).chg c2 (fun k hk => hq k hk) (fun y hy k hk => hq2 y hy k hk) (fun k hk => by omega), ?_⟩, ⟨.slice x.da x.s.d.length x.dc, by simp [World.cell?, hX, SV.cs]⟩, by simp [World.frozen?, hX]⟩
  · simp [World.setCell, Array.getElem?_modify, hX, SV.cs]
  · exact owns_chg hd (fun k hk e => own_type hd hX (by decide) (by rw [← e]; exact hk)) c2
theorem grow0 {B : Nat} {w : World} {v : Value} {d : List UInt8} (h : w.ownsRow B 5 1 v (0 + d.length) ([] ++ Lib.byteCells d)) : OwB B v d w := by
  rw [Nat.zero_add, List.nil_append] at h
  exact h
theorem CB.cell {w w2 : World} {q : Nat} {lv : Value} {Ls : List SV} {y : SV} (h : CB w w2 q lv Ls y) (j : Nat) : w2.cell? ⟨q, j, none⟩ = y.cs[j]? := by
  have := box_cell h.box j
  simpa using this
set_option maxRecDepth 8000 in
set_option maxHeartbeats 2000000 in
theorem copySections_any (w : World) (a : Option Addr) (c : Nat) (L : List SV) (hL : ScAt w.heap.size w a L) (dL : ∀ x ∈ L, DR w x) (hc : L.length ≤ c) (hl : L.length ≤ 1000000000000) (hd : ∀ x ∈ L, x.s.d.length ≤ 1000000000000) :
    Calls Try.prog 13 #[.slice a L.length c] w fun e w' => ∃ a' c' Ls, e = .returned (.slice a' L.length c') ∧ SS w w' (.slice a' L.length c') Ls ∧ secs Ls = secs L := by
  have HL := hidOf hL
  have DL := hidOf dL
  have HDl := hidOf hd
  clear hL dL hd
  have hcI : (L.length : Int) ≤ c := by omega
  obtain ⟨i0, hi0, hz0, hz1, hz2⟩ := info_parts infoSc
  obtain ⟨j0, hj0, hy0, hy1, hy2⟩ := info_parts infoB
  go_enter Try.func13, Try.ntmps13
  go_wp2
  go_loopw [4, 3] (fun iv lv wr => ∃ (i : Nat) (a1 : Option Addr) (c1 : Nat) (Ls : List SV), iv = .int .i64 i ∧ lv = .slice a1 i c1 ∧ i ≤ L.length ∧ Hid (Ls.length = i) ∧ Hid (secs Ls = (secs L).take i) ∧ Hid (SS w wr (.slice a1 i c1) Ls)) (fun iv _ _ => L.length - (intOf iv).toNat)
  case atStart => exact ⟨0, none, 0, [], rfl, rfl, by omega, rfl, rfl, ⟨rfl, .inl ⟨rfl, rfl⟩⟩, by simp, Out.refl _⟩
  case round =>
    obtain ⟨i, a1, c1, Ls, rfl, rfl, hi, HLi, HE, HS⟩ := hrel
    by_cases hiL : i < L.length
    · have hlt : (i : Int) < L.length := by omega
      have h0 : (0 : Int) ≤ i := by omega
      obtain ⟨x, hx⟩ : ∃ x, L[i]? = some x := ⟨_, List.getElem?_eq_getElem hiL⟩
      obtain ⟨g, off, rfl, hg, h8⟩ := HL.out.get hx
      obtain ⟨x0, x1, x2, x3, x4, x5, x6, x7⟩ := h8.later HS.out.out
      have Hst : Hid ((secs L).take (i + 1) = (secs L).take i ++ [x.s]) := hidOf (take_snoc (secs_get hx))
      have HD := hidOf ((DL.out x (List.mem_of_getElem? hx)).out HS.out.out)
      have hdl : x.s.d.length ≤ 1000000000000 := HDl.out x (List.mem_of_getElem? hx)
      obtain ⟨q, hq⟩ : ∃ q, q = wr.heap.size := ⟨_, rfl⟩
      have HX : Hid ((wr.alloc (.cells x.cs.toArray 60)).heap[q]? = some (.cells x.cs.toArray 60 (0, 0))) := hidOf (by rw [hq]; exact heap_alloc_new wr _)
      have HS1 := hidOf (HS.out.on ((Out.refl wr).alloc (.cells x.cs.toArray 60)))
      have HD1 := hidOf (HD.out.out ((Out.refl wr).alloc (.cells x.cs.toArray 60)))
      have Hql : Hid (∀ k, (Value.slice a1 i c1).ownBlock = some k → ¬ k = q) := hidOf (fun k hk e => by have := (HS.out.own.lt k hk).2; omega)
      have Hql2 : Hid (∀ y ∈ Ls, ∀ k, (Value.slice y.da y.s.d.length y.dc).ownBlock = some k → ¬ k = q) := hidOf (fun y hy k hk e => by have := ((HS.out.dat y hy).lt k hk).2; omega)
      have Hqw : Hid (w.heap.size ≤ q) := hidOf (by have := HS.out.out.size; omega)
      have e8 : x.cs = [.string ⟨x.s.nm.toArray⟩, .int .i64 x.s.ty, .int .i64 x.s.fl, .int .i64 x.s.li, .int .i64 x.s.inf, .int .i64 x.s.al, .int .i64 x.s.es, .slice x.da x.s.d.length x.dc] := rfl
      rw [e8] at HX HS1 HD1
      have Hq := hidOf hq
      clear hx h8 hq e8
      go_upto_region 6 with fail
      rw [← Hq.out]
      clear x0 x1 x2 x3 x4 x5 x6 x7
      generalize wr.alloc (.cells [.string ⟨x.s.nm.toArray⟩, .int .i64 x.s.ty, .int .i64 x.s.fl, .int .i64 x.s.li, .int .i64 x.s.inf, .int .i64 x.s.al, .int .i64 x.s.es, .slice x.da x.s.d.length x.dc].toArray 60) = wb at *
      obtain ⟨xs, da, dc⟩ := x
      simp only at *
      have hwb : w.heap.size ≤ wb.heap.size := HS1.out.out.size
      have H0 := hidOf (owns_void wb wb.heap.size 1 5 (Nat.le_refl _))
      have OA := hidOf ((Out.refl wb).alloc (.cells #[] 5))
      have r7 : (wb.alloc (.cells #[] 5)).cell? ⟨q, 7, none⟩ = some (.slice da xs.d.length dc) := cell_later OA.out (box_cell HX.out 7)
      cases da with
      | none =>
        have hd0 : xs.d = [] := by
          rcases HD1.out.1 with h | ⟨b, off, _, h, _⟩
          · exact h
          · cases h
        have hdz : xs.d.length = 0 := by rw [hd0]; rfl
        have HCX := hidOf (cb_of (x := ⟨xs, none, dc⟩) (da' := some ⟨wb.heap.size, 0, none⟩) (dc' := 0) HX.out HS1.out Hql.out Hql2.out Hqw.out OA.out (by
          have := own_base H0.out hwb
          show (wb.alloc (.cells #[] 5)).ownsRow w.heap.size 5 1 (.slice (some ⟨wb.heap.size, 0, none⟩) xs.d.length 0) xs.d.length (Lib.byteCells xs.d)
          rw [hd0]
          exact this))
        have f7 := HCX.out.2.2
        simp only at HCX
        rw [hdz] at HCX r7
        have k7 := r7
        clear r7
        have Hcs : Hid ((⟨xs, (some ⟨wb.heap.size, 0, none⟩), 0⟩ : SV).cs = [.string ⟨xs.nm.toArray⟩, .int .i64 xs.ty, .int .i64 xs.fl, .int .i64 xs.li, .int .i64 xs.inf, .int .i64 xs.al, .int .i64 xs.es, .slice (some ⟨wb.heap.size, 0, none⟩) 0 0]) := hidOf (by simp [SV.cs, hdz])
        clear hdz
        go_upto_region 7 with fail
        have HCB := hidOf HCX.out.1
        clear HCX k7 f7
        generalize (wb.alloc (.cells #[] 5)).setCell ⟨q, 7, none⟩ (.slice (some ⟨wb.heap.size, 0, none⟩) 0 0) = w2 at *
        have k0 := HCB.out.cell 0
        have k1 := HCB.out.cell 1
        have k2 := HCB.out.cell 2
        have k3 := HCB.out.cell 3
        have k4 := HCB.out.cell 4
        have k5 := HCB.out.cell 5
        have k6 := HCB.out.cell 6
        have k7 := HCB.out.cell 7
        have HLi2 : Hid (w2.ownsRow w.heap.size 60 8 (.slice a1 i c1) i (svV Ls)) := hidOf (by have := HCB.out.ss.own; unfold OwV at this; rwa [HLi.out] at this)
        have hs2 : w.heap.size ≤ w2.heap.size := HCB.out.ss.out.size
        rw [Hcs.out] at k0 k1 k2 k3 k4 k5 k6 k7
        simp only [List.getElem?_cons_zero, List.getElem?_cons_succ] at k0 k1 k2 k3 k4 k5 k6 k7
        go_wp2_with (at_builtin; refine wpList_append_own _ rfl (.tmp 21) (.tmp 23) 24 rfl w.heap.size 60 i0 _ 8 88 Try.underlying24 hi0 hz0 hz1 hz2 rfl (by decide) (.slice a1 i c1) i (svV Ls) rfl (World.ownsRow.alloc HLi2.out _) ⟨w2.heap.size, 0, none⟩ 1 1 [.string ⟨xs.nm.toArray⟩, .int .i64 xs.ty, .int .i64 xs.fl, .int .i64 xs.li, .int .i64 xs.inf, .int .i64 xs.al, .int .i64 xs.es, .slice (some ⟨wb.heap.size, 0, none⟩) 0 0] rfl rfl (news_new w2 _ _ _ rfl) (by rw [← Hcs.out]; exact svV_one1 ⟨xs, (some ⟨wb.heap.size, 0, none⟩), 0⟩) (by unfold maxLen; omega) (by omega) (by rw [size_alloc]; omega) ?_; intro v3 w3' hown3 hgrow3 _; rw [← Hcs.out] at hown3; have HO3 := hidOf hown3; have Hg3 := hidOf hgrow3; clear hgrow3; obtain ⟨a3, c3, rfl⟩ := own_form hown3; clear hown3)
        all_goals
          refine ⟨⟨i + 1, a3, c3, Ls ++ [⟨xs, (some ⟨wb.heap.size, 0, none⟩), 0⟩], by simp, rfl, by omega, ?_, ?_, ?_⟩, by simp [intOf]; omega⟩
          · show _ = _
            have := HLi.out
            simp; omega
          · show _ = _
            rw [Hst.out, ← HE.out]
            simp [secs]
          · exact (HCB.out.ss.on ((Out.refl w2).alloc _)).push (x := ⟨xs, (some ⟨wb.heap.size, 0, none⟩), 0⟩) (own_at HCB.out.dat ((Out.refl w2).alloc _)) Hg3.out HLi.out HO3.out
      | some ad =>
        have HC : Hid (∀ j u, (Lib.byteCells xs.d)[j]? = some u → (wb.alloc (.cells #[] 5)).cell? (ad.add j) = some u) := fun j u hu => by
          simp only [Lib.byteCells, List.getElem?_map, Option.map_eq_some_iff] at hu
          obtain ⟨y, hy, rfl⟩ := hu
          rcases HD1.out.1 with h | ⟨b, off, _, h, hc⟩
          · rw [show xs.d = [] from h] at hy; simp at hy
          · cases h
            rw [WideShapes.add_plain]
            exact cell_later OA.out (hc j y hy)
        go_upto_region 7 with (at_builtin; refine wpList_append_own _ rfl (.tmp 16) (.tmp 18) 36 rfl wb.heap.size 5 j0 _ 1 1 Try.underlying36 hj0 hy0 hy1 hy2 rfl (by decide) (.slice (some ⟨wb.heap.size, 0, none⟩) 0 0) 0 [] rfl H0.out ad xs.d.length dc (Lib.byteCells xs.d) rfl (by rw [Lib.byteCells_length, Nat.mul_one]) HC.out (bc_one xs.d) (by unfold maxLen; omega) (by omega) (by rw [size_alloc]; omega) ?_; intro v' w3 hown' hgrow _; have H3 := hidOf (out_row OA.out H0.out hgrow); have hown2 := grow0 hown'; clear hown' hgrow; obtain ⟨da', dc', rfl⟩ := own_form hown2; have HCX := hidOf (cb_of (x := ⟨xs, some ad, dc⟩) (da' := da') (dc' := dc') HX.out HS1.out Hql.out Hql2.out Hqw.out H3.out (own_base hown2 hwb)); clear hown2; have k7 : w3.cell? ⟨q, 7, none⟩ = some (.slice (some ad) xs.d.length dc) := cell_later H3.out (box_cell HX.out 7); have f7 := HCX.out.2.2; simp only at HCX)
        have HCB := hidOf HCX.out.1
        clear HCX k7 f7
        generalize w3.setCell ⟨q, 7, none⟩ (.slice da' xs.d.length dc') = w2 at *
        have k0 := HCB.out.cell 0
        have k1 := HCB.out.cell 1
        have k2 := HCB.out.cell 2
        have k3 := HCB.out.cell 3
        have k4 := HCB.out.cell 4
        have k5 := HCB.out.cell 5
        have k6 := HCB.out.cell 6
        have k7 := HCB.out.cell 7
        have HLi2 : Hid (w2.ownsRow w.heap.size 60 8 (.slice a1 i c1) i (svV Ls)) := hidOf (by have := HCB.out.ss.own; unfold OwV at this; rwa [HLi.out] at this)
        have hs2 : w.heap.size ≤ w2.heap.size := HCB.out.ss.out.size
        simp only [SV.cs, List.getElem?_cons_zero, List.getElem?_cons_succ] at k0 k1 k2 k3 k4 k5 k6 k7
        go_wp2_with (at_builtin; refine wpList_append_own _ rfl (.tmp 21) (.tmp 23) 24 rfl w.heap.size 60 i0 _ 8 88 Try.underlying24 hi0 hz0 hz1 hz2 rfl (by decide) (.slice a1 i c1) i (svV Ls) rfl (World.ownsRow.alloc HLi2.out _) ⟨w2.heap.size, 0, none⟩ 1 1 [.string ⟨xs.nm.toArray⟩, .int .i64 xs.ty, .int .i64 xs.fl, .int .i64 xs.li, .int .i64 xs.inf, .int .i64 xs.al, .int .i64 xs.es, .slice da' xs.d.length dc'] rfl rfl (news_new w2 _ _ _ rfl) (svV_one1 ⟨xs, da', dc'⟩) (by unfold maxLen; omega) (by omega) (by rw [size_alloc]; omega) ?_; intro v3 w3' hown3 hgrow3 _; have HO3 := hidOf hown3; have Hg3 := hidOf hgrow3; clear hgrow3; obtain ⟨a3, c3, rfl⟩ := own_form hown3; clear hown3)
        all_goals
          refine ⟨⟨i + 1, a3, c3, Ls ++ [⟨xs, da', dc'⟩], by simp, rfl, by omega, ?_, ?_, ?_⟩, by simp [intOf]; omega⟩
          · show _ = _
            have := HLi.out
            simp; omega
          · show _ = _
            rw [Hst.out, ← HE.out]
            simp [secs]
          · exact (HCB.out.ss.on ((Out.refl w2).alloc _)).push (x := ⟨xs, da', dc'⟩) (own_at HCB.out.dat ((Out.refl w2).alloc _)) Hg3.out HLi.out HO3.out
    · have hlt : ¬ (i : Int) < L.length := by omega
      obtain rfl : i = L.length := by omega
      go_wp2
      go_ret
      exact ⟨a1, c1, rfl, Ls, HS.out, by rw [HE.out, ← secs_len L, List.take_length]⟩
end Go.Proofs.Ytcalbhcgimipeaa
