import Derived.Test.YtfmcoffmgdcciaaDoorIkd
import Derived.Test.YtfmcoffmgdcciaaDoorIkf
import Derived.Test.YtfmcoffmgdcciaaDoorIkg
import Derived.Test.YtfmcoffmgdcciaaDoorIkh
import Derived.Test.YtfmcoffmgdcciaaDoorIyq
namespace Go.Proofs.YtfmcoffmgdcciaaDoor
open Go.RowKit
set_option linter.unusedVariables false
set_option linter.unusedSimpArgs false
theorem num17c (n : Int) (w : World) : Calls Tryd.prog 13 #[.int .i64 n] w fun e w' => e = .returned (.int .i64 n) ∧ w = w' := by
  go_enter Tryd.func13, Tryd.ntmps13
  go_wp2
  go_ret
  exact ⟨rfl, rfl⟩
theorem ImS.chg {S : Nat → Prop} {w w' : World} {ta fa da : Option Addr} {m : Img} (h : ImS w ta fa da m) (c : Chg S w w') (h1 : ∀ ad, ta = some ad → ¬ S ad.block) (h2 : ∀ ad, fa = some ad → ¬ S ad.block) (h3 : ∀ ad, da = some ad → ¬ S ad.block) : ImS w' ta fa da m := by
  refine ⟨?_, ?_, ?_⟩
  · rcases h.t with h0 | ⟨b, off, rfl, h0⟩
    · exact .inl h0
    · exact .inr ⟨b, off, rfl, fun k x hx => by
        obtain ⟨c0, c1, c2, c3, c4⟩ := h0 k x hx
        exact ⟨c.cell c0 (h1 ⟨b, off, none⟩ rfl), c.cell c1 (h1 ⟨b, off, none⟩ rfl), c.cell c2 (h1 ⟨b, off, none⟩ rfl), c.cell c3 (h1 ⟨b, off, none⟩ rfl), c.cell c4 (h1 ⟨b, off, none⟩ rfl)⟩⟩
  · rcases h.f with h0 | ⟨b, off, rfl, h0⟩
    · exact .inl h0
    · exact .inr ⟨b, off, rfl, fun k x hx => by
        obtain ⟨c0, c1, c2, c3⟩ := h0 k x hx
        exact ⟨c.cell c0 (h2 ⟨b, off, none⟩ rfl), c.cell c1 (h2 ⟨b, off, none⟩ rfl), c.cell c2 (h2 ⟨b, off, none⟩ rfl), c.cell c3 (h2 ⟨b, off, none⟩ rfl)⟩⟩
  · rcases h.d with h0 | ⟨b, off, rfl, h0⟩
    · exact .inl h0
    · exact .inr ⟨b, off, rfl, fun k x hx => by
        obtain ⟨c0, c1, c2, c3, c4⟩ := h0 k x hx
        exact ⟨c.cell c0 (h3 ⟨b, off, none⟩ rfl), c.cell c1 (h3 ⟨b, off, none⟩ rfl), c.cell c2 (h3 ⟨b, off, none⟩ rfl), c.cell c3 (h3 ⟨b, off, none⟩ rfl), c.cell c4 (h3 ⟨b, off, none⟩ rfl)⟩⟩
/-- sizes of an image -/
structure ImB (m : Img) : Prop where
  t : m.T.length ≤ 1048576
  f : m.F.length ≤ 1048576
  d : m.D.length ≤ 1048576
  k : ∀ x ∈ m.F, OkK x.nm x.ob
  kd : ∀ x ∈ m.D, x.nm.length ≤ 4611686018427387904
theorem ImB.a {m : Img} (h : ImB m) {w : World} {ta fa da : Option Addr} (i : ImS w ta fa da m) : ImA w ta fa da m := ⟨i.t, i.f, i.d, by have := h.t; omega, h.k⟩
theorem LnR.ims {w : World} {b gt gf gd : Nat} {A : List Ins} {B : List Fn} {C : List Td} {m : Img} (h : LnR w b gt gf gd (m.T ++ A) (m.F ++ B) (m.D ++ C)) : ImS w (some ⟨gt, 0, none⟩) (some ⟨gf, 0, none⟩) (some ⟨gd, 0, none⟩) m := ⟨h.t.a, h.f.a, h.d.a⟩
/-- a Lent with rows for an image of these lengths -/
def LnL (w : World) (b gt gf gd : Nat) (m : Img) : Prop := ∃ LT LF LD, LnR w b gt gf gd LT LF LD ∧ LT.length = 4 * m.T.length + 140 ∧ LF.length = 4 * m.F.length + 140 ∧ LD.length = 4 * m.D.length + 140
set_option maxRecDepth 8000 in
set_option maxHeartbeats 4000000 in
theorem checkedN_any (w : World) (b : Nat) (m : Img) (ta fa da : Option Addr) (tc fc dc : Nat) (hb : w.heap[b]? = some (.cells #[.slice none 0 0, .slice none 0 0, .slice none 0 0] 29 (0, 0))) (hM : ∀ wx, Chg (fun k => k = b) w wx → ImS wx ta fa da m) (hB : ImB m) :
    Calls Tryd.prog 5 #[.pointer (some ⟨b, 0, none⟩), .agg #[.slice ta m.T.length tc, .slice fa m.F.length fc, .slice da m.D.length dc, .int .i64 m.en]] w fun e w' => e = .returned (.bool true) ∧ ∃ gt gf gd, LnL w' b gt gf gd m ∧ (w.heap.size ≤ gt ∧ w.heap.size ≤ gf ∧ w.heap.size ≤ gd) ∧ Chg (fun k => k = b) w w' := by
  obtain ⟨a, er, hR⟩ : ∃ a er, Hid (ckP m = (a, er)) := ⟨_, _, hidOf rfl⟩
  have HM := hidOf hM
  have HB := hidOf hB
  obtain ⟨q, hq⟩ : ∃ q, Hid (q = w.heap.size) := ⟨_, rfl⟩
  obtain ⟨wA, hwA⟩ : ∃ wA, Hid (wA = w.alloc (.cells #[.slice ta m.T.length tc, .slice fa m.F.length fc, .slice da m.D.length dc, .int .i64 m.en] 26)) := ⟨_, rfl⟩
  have OA : Hid (Out w wA) := hidOf (by rw [hwA.out]; exact Out.alloc (Out.refl _) _)
  have bxA : Hid (wA.heap[q]? = some (.cells #[.slice ta m.T.length tc, .slice fa m.F.length fc, .slice da m.D.length dc, .int .i64 m.en] 26 (0, 0))) := hidOf (by rw [hwA.out, hq.out]; exact heap_alloc_new w _)
  have BX : Hid (∀ wx : World, wx.heap[q]? = wA.heap[q]? → wx.cell? ⟨q, 0, none⟩ = some (.slice ta m.T.length tc) ∧ wx.cell? ⟨q, 1, none⟩ = some (.slice fa m.F.length fc) ∧ wx.cell? ⟨q, 2, none⟩ = some (.slice da m.D.length dc) ∧ wx.cell? ⟨q, 3, none⟩ = some (.int .i64 m.en)) := hidOf fun wx hx => by
    have hb : wx.heap[q]? = _ := hx.trans bxA.out
    exact ⟨by rw [cell_atL hb]; rfl, by rw [cell_atL hb]; rfl, by rw [cell_atL hb]; rfl, by rw [cell_atL hb]; rfl⟩
  have qA : q < wA.heap.size := (Array.getElem?_eq_some_iff.1 bxA.out).1
  have C1 : Hid (Calls Tryd.prog 9 #[.agg #[.slice ta m.T.length tc, .slice fa m.F.length fc, .slice da m.D.length dc, .int .i64 m.en]] wA fun e w' => e = .returned (.tuple #[.int .i64 (a : Nat), .int .i64 er]) ∧ Out wA w') := hidOf (by
    have := refCheck_any m wA ta fa da tc fc dc (hB.a (hM _ (Chg.of_out OA.out))) hB.kd
    rw [hR.out] at this; exact this)
  have HL := hidOf hb
  have hbq : b < q := by rw [hq.out]; exact (Array.getElem?_eq_some_iff.1 hb).1
  clear hb hM hB
  obtain ⟨i0, i1, i2, i3⟩ := BX.out wA rfl
  go_enter Tryd.func5, Tryd.ntmps5
  go_upto_region 1 with fail
  rw [← hwA.out, ← hq.out]
  go_upto_region 2 with (go_at_call 9; refine C1.out.mono ?_; rintro e w1 ⟨rfl, o1⟩)
  have O1 := hidOf o1
  have K1 := hidOf (Chg.of_out (S := (fun k => k = b)) (OA.out.trans o1))
  clear i0 i1 i2 i3
  obtain ⟨i0, i1, i2, i3⟩ := BX.out w1 (o1.block q qA)
  have qB : q < w1.heap.size := by have := o1.size; omega
  have CL := hidOf (layN_any w1 b m ta fa da tc fc dc ((((OA.out.trans o1).block b (by rw [← hq.out]; exact hbq))).trans HL.out) (fun wx c => HM.out wx (K1.out.trans c (fun x h _ => h))) HB.out.t HB.out.f HB.out.d)
  have CK : Hid (∀ wx gt gf gd A B C, LnR wx b gt gf gd (m.T ++ A) (m.F ++ B) (m.D ++ C) → Calls Tryd.prog 10 #[.agg #[.slice (some ⟨gt, 0, none⟩) m.T.length (4 * m.T.length + 140), .slice (some ⟨gf, 0, none⟩) m.F.length (4 * m.F.length + 140), .slice (some ⟨gd, 0, none⟩) m.D.length (4 * m.D.length + 140), .int .i64 m.en]] wx fun e w' => e = .returned (.tuple #[.int .i64 (a : Nat), .int .i64 er]) ∧ Out wx w') := hidOf fun wx gt gf gd A B C hl => by
    have := check_any m wx (some ⟨gt, 0, none⟩) (some ⟨gf, 0, none⟩) (some ⟨gd, 0, none⟩) (4 * m.T.length + 140) (4 * m.F.length + 140) (4 * m.D.length + 140) (HB.out.a hl.ims)
    rw [hR.out] at this; exact this
  clear o1
  go_upto_region 3 with (first
    | (go_at_call 11; refine CL.out.mono ?_; rintro e w2 ⟨gt, gf, gd, rfl, hl2, hz2, c2⟩; have L2 := hidOf hl2; have Z2 := hidOf hz2; have H2 := hidOf c2; clear hl2 hz2 c2)
    | (go_at_call 10; refine (CK.out _ _ _ _ _ _ _ L2.out).mono ?_; rintro e w3 ⟨rfl, o3⟩; have O3 := hidOf o3; clear o3))
  have q2 : w2.heap[q]? = w1.heap[q]? := H2.out.block q qB (by omega)
  have K3 := hidOf ((K1.out.trans H2.out (fun x h _ => h)).trans (Chg.of_out (S := fun k => k = b) O3.out) (fun x h _ => h))
  have zz : Hid (w.heap.size ≤ gt ∧ w.heap.size ≤ gf ∧ w.heap.size ≤ gd) := hidOf (by have := (OA.out.trans O1.out).size; have := Z2.out; omega)
  have toB : Hid (∀ wx, Chg (LnS b gt gf gd) w3 wx → Chg (fun k => k = b) w wx) := hidOf fun wx c => K3.out.trans c (fun x h hl => by have := zz.out; unfold LnS at h; omega)
  have qC : q < w2.heap.size := by have := H2.out.size; omega
  have q3 : w3.heap[q]? = wA.heap[q]? := (O3.out.block q qC).trans (q2.trans (O1.out.block q qA))
  clear i0 i1 i2 i3
  obtain ⟨i0, i1, i2, i3⟩ := BX.out w3 q3
  have CB := hidOf (back_any w3 b gt gf gd m ta fa da tc fc dc (L2.out.out O3.out) (fun wx c => HM.out wx (toB.out wx c)) HB.out.t HB.out.f HB.out.d)
  go_upto_region 4 with (go_at_call 12; refine CB.out.mono ?_; rintro e w4 ⟨rfl, hl4, c4⟩; have L4 := hidOf hl4; have H4 := hidOf c4; clear hl4 c4)
  have CN := hidOf (num17c er w4)
  clear i0 i1 i2 i3
  go_wp2_with (go_at_call 13; refine CN.out.mono ?_; rintro e w5 ⟨rfl, h5⟩; subst h5)
  go_ret
  exact ⟨by simp, gt, gf, gd, L4.out, zz.out, toB.out _ H4.out⟩
set_option maxRecDepth 8000 in
set_option maxHeartbeats 4000000 in
theorem checkedR_any (w : World) (b gt gf gd : Nat) (m : Img) (ta fa da : Option Addr) (tc fc dc : Nat) (hb : LnL w b gt gf gd m) (hM : ∀ wx, Chg (LnS b gt gf gd) w wx → ImS wx ta fa da m) (hB : ImB m) :
    Calls Tryd.prog 5 #[.pointer (some ⟨b, 0, none⟩), .agg #[.slice ta m.T.length tc, .slice fa m.F.length fc, .slice da m.D.length dc, .int .i64 m.en]] w fun e w' => e = .returned (.bool true) ∧ LnL w' b gt gf gd m ∧ Chg (LnS b gt gf gd) w w' := by
  obtain ⟨a, er, hR⟩ : ∃ a er, Hid (ckP m = (a, er)) := ⟨_, _, hidOf rfl⟩
  have HM := hidOf hM
  have HB := hidOf hB
  obtain ⟨q, hq⟩ : ∃ q, Hid (q = w.heap.size) := ⟨_, rfl⟩
  obtain ⟨wA, hwA⟩ : ∃ wA, Hid (wA = w.alloc (.cells #[.slice ta m.T.length tc, .slice fa m.F.length fc, .slice da m.D.length dc, .int .i64 m.en] 26)) := ⟨_, rfl⟩
  have OA : Hid (Out w wA) := hidOf (by rw [hwA.out]; exact Out.alloc (Out.refl _) _)
  have bxA : Hid (wA.heap[q]? = some (.cells #[.slice ta m.T.length tc, .slice fa m.F.length fc, .slice da m.D.length dc, .int .i64 m.en] 26 (0, 0))) := hidOf (by rw [hwA.out, hq.out]; exact heap_alloc_new w _)
  have BX : Hid (∀ wx : World, wx.heap[q]? = wA.heap[q]? → wx.cell? ⟨q, 0, none⟩ = some (.slice ta m.T.length tc) ∧ wx.cell? ⟨q, 1, none⟩ = some (.slice fa m.F.length fc) ∧ wx.cell? ⟨q, 2, none⟩ = some (.slice da m.D.length dc) ∧ wx.cell? ⟨q, 3, none⟩ = some (.int .i64 m.en)) := hidOf fun wx hx => by
    have hb : wx.heap[q]? = _ := hx.trans bxA.out
    exact ⟨by rw [cell_atL hb]; rfl, by rw [cell_atL hb]; rfl, by rw [cell_atL hb]; rfl, by rw [cell_atL hb]; rfl⟩
  have qA : q < wA.heap.size := (Array.getElem?_eq_some_iff.1 bxA.out).1
  have C1 : Hid (Calls Tryd.prog 9 #[.agg #[.slice ta m.T.length tc, .slice fa m.F.length fc, .slice da m.D.length dc, .int .i64 m.en]] wA fun e w' => e = .returned (.tuple #[.int .i64 (a : Nat), .int .i64 er]) ∧ Out wA w') := hidOf (by
    have := refCheck_any m wA ta fa da tc fc dc (hB.a (hM _ (Chg.of_out OA.out))) hB.kd
    rw [hR.out] at this; exact this)
  have HL := hidOf hb
  have qS : Hid (∀ k, LnS b gt gf gd k → k < q) := hidOf fun k hk => by
    rw [hq.out]
    obtain ⟨LT, LF, LD, h, _⟩ := hb
    rcases hk with rfl | rfl | rfl | rfl
    · exact (Array.getElem?_eq_some_iff.1 h.box).1
    · exact h.t.lt
    · exact h.f.lt
    · exact h.d.lt
  clear hb hM hB
  obtain ⟨i0, i1, i2, i3⟩ := BX.out wA rfl
  go_enter Tryd.func5, Tryd.ntmps5
  go_upto_region 1 with fail
  rw [← hwA.out, ← hq.out]
  go_upto_region 2 with (go_at_call 9; refine C1.out.mono ?_; rintro e w1 ⟨rfl, o1⟩)
  have O1 := hidOf o1
  have K1 := hidOf (Chg.of_out (S := (LnS b gt gf gd)) (OA.out.trans o1))
  clear i0 i1 i2 i3
  obtain ⟨i0, i1, i2, i3⟩ := BX.out w1 (o1.block q qA)
  have qB : q < w1.heap.size := by have := o1.size; omega
  obtain ⟨LT, LF, LD, hln, l1, l2, l3⟩ := HL.out
  have CL := hidOf (layR_any w1 b gt gf gd LT LF LD m ta fa da tc fc dc (hln.out (OA.out.trans o1)) l1 l2 l3 (fun wx c => HM.out wx (K1.out.trans c (fun x h _ => h))) HB.out.t HB.out.f HB.out.d)
  clear hln l1 l2 l3
  have CK : Hid (∀ wx gt gf gd A B C, LnR wx b gt gf gd (m.T ++ A) (m.F ++ B) (m.D ++ C) → Calls Tryd.prog 10 #[.agg #[.slice (some ⟨gt, 0, none⟩) m.T.length (4 * m.T.length + 140), .slice (some ⟨gf, 0, none⟩) m.F.length (4 * m.F.length + 140), .slice (some ⟨gd, 0, none⟩) m.D.length (4 * m.D.length + 140), .int .i64 m.en]] wx fun e w' => e = .returned (.tuple #[.int .i64 (a : Nat), .int .i64 er]) ∧ Out wx w') := hidOf fun wx gt gf gd A B C hl => by
    have := check_any m wx (some ⟨gt, 0, none⟩) (some ⟨gf, 0, none⟩) (some ⟨gd, 0, none⟩) (4 * m.T.length + 140) (4 * m.F.length + 140) (4 * m.D.length + 140) (HB.out.a hl.ims)
    rw [hR.out] at this; exact this
  clear o1
  go_upto_region 3 with (first
    | (go_at_call 11; refine CL.out.mono ?_; rintro e w2 ⟨rfl, hl2, c2⟩; have L2 := hidOf hl2; have H2 := hidOf c2; clear hl2 c2)
    | (go_at_call 10; refine (CK.out _ _ _ _ _ _ _ L2.out).mono ?_; rintro e w3 ⟨rfl, o3⟩; have O3 := hidOf o3; clear o3))
  have q2 : w2.heap[q]? = w1.heap[q]? := H2.out.block q qB (fun h => by have := qS.out q h; omega)
  have K3 := hidOf ((K1.out.trans H2.out (fun x h _ => h)).trans (Chg.of_out (S := LnS b gt gf gd) O3.out) (fun x h _ => h))
  have toB : Hid (∀ wx, Chg (LnS b gt gf gd) w3 wx → Chg (LnS b gt gf gd) w wx) := hidOf fun wx c => K3.out.trans c (fun x h _ => h)
  have qC : q < w2.heap.size := by have := H2.out.size; omega
  have q3 : w3.heap[q]? = wA.heap[q]? := (O3.out.block q qC).trans (q2.trans (O1.out.block q qA))
  clear i0 i1 i2 i3
  obtain ⟨i0, i1, i2, i3⟩ := BX.out w3 q3
  have CB := hidOf (back_any w3 b gt gf gd m ta fa da tc fc dc (L2.out.out O3.out) (fun wx c => HM.out wx (toB.out wx c)) HB.out.t HB.out.f HB.out.d)
  go_upto_region 4 with (go_at_call 12; refine CB.out.mono ?_; rintro e w4 ⟨rfl, hl4, c4⟩; have L4 := hidOf hl4; have H4 := hidOf c4; clear hl4 c4)
  have CN := hidOf (num17c er w4)
  clear i0 i1 i2 i3
  go_wp2_with (go_at_call 13; refine CN.out.mono ?_; rintro e w5 ⟨rfl, h5⟩; subst h5)
  go_ret
  exact ⟨by simp, L4.out, toB.out _ H4.out⟩
theorem turn_B {m : Img} (h : ImB m) : ImB (turnM m) := ⟨by simpa [turnM] using h.t, h.f, by simpa [turnM] using h.d, h.k, fun x hx => by
  simp only [turnM, List.mem_map] at hx
  obtain ⟨y, hy, rfl⟩ := hx
  exact h.kd y hy⟩
set_option maxRecDepth 8000 in
set_option maxHeartbeats 4000000 in
theorem imageChecks_walk (W : World) (m : Img) (ta fa da : Option Addr) (tc fc dc : Nat) (h : ImS W ta fa da m) (hB : ImB m) : Calls Tryd.prog 3 #[.agg #[.slice ta m.T.length tc, .slice fa m.F.length fc, .slice da m.D.length dc, .int .i64 m.en]] W fun e W' => e = .returned (.bool true) ∧ Out W W' := by
  obtain ⟨b, hbb⟩ : ∃ b, Hid (b = W.heap.size + 1) := ⟨_, rfl⟩
  obtain ⟨q, hq⟩ : ∃ q, Hid (q = W.heap.size) := ⟨_, rfl⟩
  obtain ⟨w1, hw1⟩ : ∃ w1, Hid (w1 = (W.alloc (.cells #[.slice ta m.T.length tc, .slice fa m.F.length fc, .slice da m.D.length dc, .int .i64 m.en] 26)).alloc (.cells #[.slice none 0 0, .slice none 0 0, .slice none 0 0] 29)) := ⟨_, rfl⟩
  have O1 : Hid (Out W w1) := hidOf (by rw [hw1.out]; exact Out.alloc (Out.alloc (Out.refl _) _) _)
  have sz1 : w1.heap.size = b + 1 := by rw [hw1.out, size_alloc, size_alloc, hbb.out]
  have hqb : q + 1 = b := by rw [hq.out, hbb.out]
  have bx1 : Hid (w1.heap[q]? = some (.cells #[.slice ta m.T.length tc, .slice fa m.F.length fc, .slice da m.D.length dc, .int .i64 m.en] 26 (0, 0))) := hidOf (by rw [hw1.out, hq.out]; exact blk_al (heap_alloc_new W _) _)
  have ln1 : Hid (w1.heap[b]? = some (.cells #[.slice none 0 0, .slice none 0 0, .slice none 0 0] 29 (0, 0))) := hidOf (by
    have := heap_alloc_new (W.alloc (.cells #[.slice ta m.T.length tc, .slice fa m.F.length fc, .slice da m.D.length dc, .int .i64 m.en] 26)) (.cells #[.slice none 0 0, .slice none 0 0, .slice none 0 0] 29)
    rw [size_alloc, ← hw1.out, ← hbb.out] at this; exact this)
  have BX : Hid (∀ wx : World, wx.heap[q]? = w1.heap[q]? → wx.cell? ⟨q, 0, none⟩ = some (.slice ta m.T.length tc) ∧ wx.cell? ⟨q, 1, none⟩ = some (.slice fa m.F.length fc) ∧ wx.cell? ⟨q, 2, none⟩ = some (.slice da m.D.length dc) ∧ wx.cell? ⟨q, 3, none⟩ = some (.int .i64 m.en)) := hidOf fun wx hx => by
    have hb : wx.heap[q]? = _ := hx.trans bx1.out
    exact ⟨by rw [cell_atL hb]; rfl, by rw [cell_atL hb]; rfl, by rw [cell_atL hb]; rfl, by rw [cell_atL hb]; rfl⟩
  have HI := hidOf h
  have HB := hidOf hB
  have CT := hidOf (turned_any m w1 ta fa da tc fc dc (h.out O1.out) hB.t hB.f hB.d)
  have CN : Hid (∀ wx a2 c2 a3 c3 a4 c4, Out w1 wx → ImS wx a2 a3 a4 (turnM m) → (∀ ad, a2 = some ad → w1.heap.size ≤ ad.block) → (∀ ad, a3 = some ad → w1.heap.size ≤ ad.block) → (∀ ad, a4 = some ad → w1.heap.size ≤ ad.block) → Calls Tryd.prog 5 #[.pointer (some ⟨b, 0, none⟩), .agg #[.slice a2 m.T.length c2, .slice a3 m.F.length c3, .slice a4 m.D.length c4, .int .i64 m.en]] wx fun e w' => e = .returned (.bool true) ∧ ∃ gt gf gd, LnL w' b gt gf gd m ∧ (wx.heap.size ≤ gt ∧ wx.heap.size ≤ gf ∧ wx.heap.size ≤ gd) ∧ Chg (fun k => k = b) wx w') := hidOf fun wx a2 c2 a3 c3 a4 c4 o hi h2 h3 h4 => by
    have := checkedN_any wx b (turnM m) a2 a3 a4 c2 c3 c4 ((o.block b (by omega)).trans ln1.out) (fun wy c => hi.chg c (fun ad ha e => by have := h2 ad ha; omega) (fun ad ha e => by have := h3 ad ha; omega) (fun ad ha e => by have := h4 ad ha; omega)) (turn_B hB)
    unfold LnL at this ⊢
    simp only [turnM, List.length_map] at this
    exact this
  have CR : Hid (∀ wx gt gf gd, LnL wx b gt gf gd m → (W.heap.size ≤ gt ∧ W.heap.size ≤ gf ∧ W.heap.size ≤ gd) → Out W wx → Calls Tryd.prog 5 #[.pointer (some ⟨b, 0, none⟩), .agg #[.slice ta m.T.length tc, .slice fa m.F.length fc, .slice da m.D.length dc, .int .i64 m.en]] wx fun e w' => e = .returned (.bool true) ∧ LnL w' b gt gf gd m ∧ Chg (LnS b gt gf gd) wx w') := hidOf fun wx gt gf gd hl hz o => checkedR_any wx b gt gf gd m ta fa da tc fc dc hl (fun wy c => h.out (Chg.out c o (fun k hk => by rw [← hq.out] at hz ⊢; unfold LnS at hk; omega))) hB
  have CA : Hid (∀ wx, Calls Tryd.prog 7 #[] wx fun e w' => e = .returned (.bool true) ∧ Out wx w') := hidOf (fun wx => awake17_any wx)
  clear h hB
  obtain ⟨i0, i1, i2, i3⟩ := BX.out w1 rfl
  go_enter Tryd.func3, Tryd.ntmps3
  go_upto_region 2 with fail
  rw [← hw1.out, ← hbb.out, ← hq.out]
  have qlt : q < w1.heap.size := by omega
  have SB : Hid (∀ gt gf gd, (W.heap.size ≤ gt ∧ W.heap.size ≤ gf ∧ W.heap.size ≤ gd) → ∀ k, LnS b gt gf gd k → W.heap.size ≤ k) := hidOf fun gt gf gd hz k hk => by rw [← hq.out] at hz ⊢; unfold LnS at hk; omega
  go_wp2_with (first
    | (go_at_call 6; refine CT.out.mono ?_; rintro e w2 ⟨a2, c2, a3, c3, a4, c4, rfl, s2, _, h2, h3, h4, o2⟩; have S2 := hidOf s2; have A2 := hidOf h2; have A3 := hidOf h3; have A4 := hidOf h4; have O2 := hidOf o2; clear s2 h2 h3 h4 o2)
    | (go_at_call 5; refine (CR.out _ _ _ _ L4.out Z3.out Q4.out).mono ?_; rintro e w5 ⟨rfl, l5, k5⟩; have Q5 := hidOf (Chg.out k5 Q4.out (SB.out _ _ _ Z3.out)); clear l5 k5)
    | (go_at_call 5; refine (CR.out _ _ _ _ L3.out Z3.out Q3.out).mono ?_; rintro e w4 ⟨rfl, l4, k4⟩; have L4 := hidOf l4; have Q4 := hidOf (Chg.out k4 Q3.out (SB.out _ _ _ Z3.out)); have B4 := hidOf ((k4.block q (by have := B3L.out; omega) (Y3.out)).trans B3.out); obtain ⟨l0, l1, l2, l3⟩ := BX.out w4 B4.out; clear l4 k4)
    | (go_at_call 5; refine (CN.out _ _ _ _ _ _ _ O2.out S2.out A2.out A3.out A4.out).mono ?_; rintro e w3 ⟨rfl, gt, gf, gd, l3, z3, k3⟩; have L3 := hidOf l3; have Z3 : Hid (W.heap.size ≤ gt ∧ W.heap.size ≤ gf ∧ W.heap.size ≤ gd) := hidOf (by have := (O1.out.trans O2.out).size; omega); have Y3 : Hid (¬ LnS b gt gf gd q) := hidOf (by have := O2.out.size; unfold LnS; omega); have Q3 : Hid (Out W w3) := hidOf (Chg.out k3 (O1.out.trans O2.out) (fun k hk => by rw [hk, ← hq.out]; omega)); have B3 : Hid (w3.heap[q]? = w1.heap[q]?) := hidOf ((k3.block q (by have := O2.out.size; omega) (by omega)).trans (O2.out.block q qlt)); have B3L : Hid (q < w3.heap.size) := hidOf (by have := k3.size; have := O2.out.size; omega); obtain ⟨j0, j1, j2, j3⟩ := BX.out w3 B3.out; clear l3 z3 k3)
    | (go_at_call 7; refine (CA.out _).mono ?_; rintro e w7 ⟨rfl, o7⟩; have O7 := hidOf (Q5.out.trans o7); clear o7))
  go_ret
  exact ⟨by simp, O7.out⟩
end Go.Proofs.YtfmcoffmgdcciaaDoor
