import Derived.Test.YtgephenkbbelcaaDoorPh
namespace Go.Proofs.YtgephenkbbelcaaDoor
open Go.RowKit
set_option linter.unusedVariables false
set_option linter.unusedSimpArgs false
theorem results_row_tmp2 {P : Program} {fn : Func} {p u v : Tmp} {ty : TypeId} (h : fn.results = #[.cell p ty, .tmp u, .tmp v]) (tmps : Array Value) (w : World) (g : Nat) (t : TypeId) (cs : Array Value) (fr : Nat × Nat) (d : TypeDesc)
    (hp : tmps.getD p undef = .pointer (some ⟨g, 0, none⟩)) (hg : w.heap[g]? = some (.cells cs t fr))
    (hu : P.underlying ty = some d) (hd : (match d with | .struct _ | .array _ _ => true | _ => false) = true) (hi : (P.info? ty).map (·.size) = some cs.size) :
    (results fn tmps).run P w = .ok (.tuple #[.agg cs, tmps.getD u undef, tmps.getD v undef]) w := by
  have hp' : tmps[p]?.getD undef = .pointer (some ⟨g, 0, none⟩) := by simpa using hp
  simp only [results, h]
  simp [hp', asAddr, run_loadVar_row w g t ty cs fr d hg hu hd hi]
/-- what takeInsn answers -/
def InsO (x : Ins) : Value := .agg #[.int .i64 x.o, .int .i64 x.d, .int .i64 x.s, .int .i64 x.f, .int .i64 x.i]
def TakeIs (B : List Int) (r : Value) : Prop := ∃ x size, r = .tuple #[InsO x, .int .i64 size, .int .i64 (errD may B)] ∧ (errD may B = 0 → x = insD B ∧ size = sizeD B)
theorem takeInsn_short (w : World) (a : Option Addr) (len cap : Nat) (B : List Int) (hlen : B.length = len) (hl : len < 8) : Calls Tryd.prog 17 #[.slice a len cap] w fun e w' => (∃ r, e = .returned r ∧ TakeIs B r) ∧ Out w w' := by
  have he : errD may B = 30 := by unfold errD; rw [if_pos (by omega)]
  have hl' : (len : Int) < 8 := by omega
  clear hlen
  go_enter Tryd.func17, Tryd.ntmps17
  go_wp2
  refine bodyPost_ret (results_row_tmp2 rfl _ _ w.heap.size 42 _ (0, 0) _ rfl (heap_alloc_new _ _) Tryd.underlying42 rfl size55) rfl ?_
  refine ⟨⟨_, rfl, ⟨0, 0, 0, 0, 0⟩, 0, by rw [he]; rfl, fun h => by rw [he] at h; simp at h⟩, Out.alloc (Out.refl _) _⟩
def zC : Array Value := #[.int .i64 0, .int .i64 0, .int .i64 0, .int .i64 0, .int .i64 0]
structure TI (w W : World) (p q : Nat) (cs : Array Value) : Prop where
  rp : W.heap[p]? = some (.cells #[.int .i64 0, .int .i64 0, .int .i64 0, .int .i64 0, .int .i64 0] 42 (0, 0))
  rq : W.heap[q]? = some (.cells cs 42 (0, 0))
  out : Out w W
  wp : w.heap.size ≤ p
  wq : w.heap.size ≤ q
  pq : p ≠ q
theorem TI.later {w W W' : World} {p q : Nat} {cs : Array Value} (h : TI w W p q cs) (o : Out W W') : TI w W' p q cs :=
  ⟨(o.block p (Array.getElem?_eq_some_iff.1 h.rp).1).trans h.rp, (o.block q (Array.getElem?_eq_some_iff.1 h.rq).1).trans h.rq, Out.trans h.out o, h.wp, h.wq, h.pq⟩
theorem TI.drewN {w W : World} {p q : Nat} {cs : Array Value} (h : TI w W p q cs) (m : Nat) : TI w (W.drewN m) p q cs := ⟨h.rp, h.rq, h.out.drewN m, h.wp, h.wq, h.pq⟩
theorem TI.set {w W : World} {p q : Nat} {cs : Array Value} (h : TI w W p q cs) (j : Nat) (u : Value) : TI w (W.setCell ⟨q, j, none⟩ u) p q (cs.setIfInBounds j u) :=
  ⟨(Below.heap_setCell _ _ _ _ h.pq).trans h.rp, set_at h.rq j u, h.out.setCell (a := ⟨q, j, none⟩) h.wq u, h.wp, h.wq, h.pq⟩
/-- the facts that a walk wants of the two boxes -/
structure TIc (W : World) (p q : Nat) (a b c d e : Int) : Prop where
  c0 : W.cell? ⟨q, 0, none⟩ = some (.int .i64 a)
  c1 : W.cell? ⟨q, 1, none⟩ = some (.int .i64 b)
  c2 : W.cell? ⟨q, 2, none⟩ = some (.int .i64 c)
  c3 : W.cell? ⟨q, 3, none⟩ = some (.int .i64 d)
  c4 : W.cell? ⟨q, 4, none⟩ = some (.int .i64 e)
  p0 : W.cell? ⟨p, 0, none⟩ = some (.int .i64 0)
  p1 : W.cell? ⟨p, 1, none⟩ = some (.int .i64 0)
  p2 : W.cell? ⟨p, 2, none⟩ = some (.int .i64 0)
  p3 : W.cell? ⟨p, 3, none⟩ = some (.int .i64 0)
  p4 : W.cell? ⟨p, 4, none⟩ = some (.int .i64 0)
  f0 : W.frozen? ⟨p, 0, none⟩ = false
  f1 : W.frozen? ⟨p, 1, none⟩ = false
  f2 : W.frozen? ⟨p, 2, none⟩ = false
  f3 : W.frozen? ⟨p, 3, none⟩ = false
  f4 : W.frozen? ⟨p, 4, none⟩ = false
  g4 : W.frozen? ⟨q, 4, none⟩ = false
theorem TI.facts {w W : World} {p q : Nat} {a b c d e : Int} (h : TI w W p q #[.int .i64 a, .int .i64 b, .int .i64 c, .int .i64 d, .int .i64 e]) : TIc W p q a b c d e :=
  ⟨cell_at h.rq 0, cell_at h.rq 1, cell_at h.rq 2, cell_at h.rq 3, cell_at h.rq 4, cell_at h.rp 0, cell_at h.rp 1, cell_at h.rp 2, cell_at h.rp 3, cell_at h.rp 4, frozen_at h.rp 0, frozen_at h.rp 1, frozen_at h.rp 2, frozen_at h.rp 3, frozen_at h.rp 4, frozen_at h.rq 4⟩
theorem TI.done {w W : World} {p q : Nat} {cs : Array Value} (h : TI w W p q cs) (v0 v1 v2 v3 v4 : Value) : Out w (((((W.setCell ⟨p, 0, none⟩ v0).setCell ⟨p, 1, none⟩ v1).setCell ⟨p, 2, none⟩ v2).setCell ⟨p, 3, none⟩ v3).setCell ⟨p, 4, none⟩ v4) :=
  ((((h.out.setCell (a := ⟨p, 0, none⟩) h.wp _).setCell (a := ⟨p, 1, none⟩) h.wp _).setCell (a := ⟨p, 2, none⟩) h.wp _).setCell (a := ⟨p, 3, none⟩) h.wp _).setCell (a := ⟨p, 4, none⟩) h.wp _
theorem conv64 (x y : Int) (x0 : 0 ≤ x) (x1 : x < 4294967296) (y0 : 0 ≤ y) (y1 : y < 4294967296) : IntKind.i64.wrap (bits .or .u64 (IntKind.u64.wrap (y * 4294967296)) x) = x + 4294967296 * sx 2147483648 y := by
  rw [show IntKind.u64.wrap (y * 4294967296) = y * 4294967296 from by rw [IntKind.wrap_u64]; omega, orHi 32 (y * 4294967296) x (by omega) (by omega) (by omega) x0 (by omega) (by omega), IntKind.wrap_i64]
  unfold sx; split <;> omega
theorem take4_at (w : World) (b o len cap : Nat) (B : List Int) (j : Nat) (hB : Byts B) (hc : ∀ k, k < len → w.cell? ⟨b, o + k, none⟩ = some (.int .u8 (gB B k))) (hj : j + 4 ≤ len) : Calls Tryd.prog 30 #[.slice (some ⟨b, o + j, none⟩) (len - j) (cap - j), .int .i64 4] w fun e w' => e = .returned (.int .u64 (u32 B j)) ∧ ∃ m, w' = w.drewN m :=
  take4 w b (o + j) _ _ _ _ _ _ (hc j (by omega)) (by rw [Nat.add_assoc]; exact hc (j + 1) (by omega)) (by rw [Nat.add_assoc]; exact hc (j + 2) (by omega)) (by rw [Nat.add_assoc]; exact hc (j + 3) (by omega)) (hB j).1 (hB j).2 (hB (j + 1)).1 (hB (j + 1)).2 (hB (j + 2)).1 (hB (j + 2)).2 (hB (j + 3)).1 (hB (j + 3)).2 (by omega)
theorem takeInsn_long (w : World) (ht : Tabs w) (b o len cap : Nat) (B : List Int) (hlen : B.length = len) (hB : Byts B) (hc : ∀ k, k < len → w.cell? ⟨b, o + k, none⟩ = some (.int .u8 (gB B k))) (hl : 8 ≤ len) (hll : len ≤ 1000000000000000) (hcap : len ≤ cap) :
    Calls Tryd.prog 17 #[.slice (some ⟨b, o, none⟩) len cap] w fun e w' => (∃ r, e = .returned r ∧ TakeIs B r) ∧ Out w w' := by
  have hl' : ¬ (len : Int) < 8 := by omega
  have HS : Hid (Slot8 (w.alloc (.cells #[.int .i64 0, .int .i64 0, .int .i64 0, .int .i64 0, .int .i64 0] 42)) b o B 8) := ⟨fun k hk => cell_later ((Out.refl w).alloc _) (hc k (by omega)), hB⟩
  have Hc := hidOf hc
  have Ht := hidOf ht
  have HB := hidOf hB
  have Hlen := hidOf hlen
  clear hc ht hB hlen
  go_enter Tryd.func17, Tryd.ntmps17
  go_upto_region 4 with (go_at_call 28; refine (takeSlot_any _ b o len cap B HS.out hl hll hcap).mono ?_; rintro e w1 ⟨rfl, h1⟩)
  have T1 : TI w (w1.alloc (.cells #[.int .i64 (slotI B).o, .int .i64 (slotI B).d, .int .i64 (slotI B).s, .int .i64 (slotI B).f, .int .i64 (slotI B).i] 42)) w.heap.size w1.heap.size #[.int .i64 (slotI B).o, .int .i64 (slotI B).d, .int .i64 (slotI B).s, .int .i64 (slotI B).f, .int .i64 (slotI B).i] := by
    have hz : w.heap.size < w1.heap.size := by have := h1.size; rw [size_alloc] at this; omega
    refine ⟨?_, heap_alloc_new w1 _, Out.alloc (Out.trans ((Out.refl w).alloc _) h1) _, Nat.le_refl _, by omega, by omega⟩
    rw [Below.heap_alloc _ _ _ hz, h1.block _ (by rw [size_alloc]; omega)]
    exact heap_alloc_new w _
  have HcW : Hid (∀ k, k < len → (w1.alloc (.cells #[.int .i64 (slotI B).o, .int .i64 (slotI B).d, .int .i64 (slotI B).s, .int .i64 (slotI B).f, .int .i64 (slotI B).i] 42)).cell? ⟨b, o + k, none⟩ = some (.int .u8 (gB B k))) := fun k hk => cell_later T1.out (Hc.out k hk)
  clear h1 HS
  generalize w1.alloc (.cells #[.int .i64 (slotI B).o, .int .i64 (slotI B).d, .int .i64 (slotI B).s, .int .i64 (slotI B).f, .int .i64 (slotI B).i] 42) = W at *
  generalize w1.heap.size = q at *
  generalize w.heap.size = p at *
  have ho : (slotI B).o = gB B 0 := rfl
  generalize hxo : (slotI B).o = xo at *
  generalize hxd : (slotI B).d = xd at *
  generalize hxs : (slotI B).s = xs at *
  generalize hxf : (slotI B).f = xf at *
  generalize hxi : (slotI B).i = xi at *
  have HT1 := hidOf T1
  obtain ⟨c0, c1, c2, c3, c4, p0, p1, p2, p3, p4, f0, f1, f2, f3, f4, g4⟩ := T1.facts
  clear T1
  cases hw : isW xo
  · have Herr : Hid (errD may B = if mayP xo xd xs xf xi == 0 then 0 else 32) := by
      show _ = _
      unfold errD
      rw [if_neg (by have := Hlen.out; omega), ← ho, hw]
      simp only [Bool.false_eq_true, if_false, may, hxo, hxd, hxs, hxf, hxi]
    have Hins : Hid ((⟨xo, xd, xs, xf, xi⟩ : Ins) = insD B ∧ 8 = sizeD B) := by
      refine ⟨?_, ?_⟩
      · rw [insD, ← ho, hw]; exact Ins.same hxo.symm hxd.symm hxs.symm hxf.symm hxi.symm
      · rw [sizeD, ← ho, sizeI, hw]; rfl
    clear hxo hxd hxs hxf hxi ho
    cases hm : (mayP xo xd xs xf xi != 0)
    · go_wp2_with (first | (go_at_call 29; refine (wide_lit _ _ _ _ _ _).mono ?_; rw [hw]; rintro e w2 ⟨rfl, h2⟩; have T2 := HT1.out.later h2; have HT2 := hidOf T2; have HcW2 := hidOf (fun k hk => cell_later h2 (HcW.out k hk)); clear HcW; obtain ⟨c0, c1, c2, c3, c4, p0, p1, p2, p3, p4, f0, f1, f2, f3, f4, g4⟩ := T2.facts; clear T2) | (go_at_call 31; refine (may_lit _ (Ht.out.out (HT2.out.out)).1 (Ht.out.out (HT2.out.out)).2 _ _ _ _ _).mono ?_; rintro e w3 ⟨rfl, h3⟩; have T3 := HT2.out.later h3; have HT3 := hidOf T3; obtain ⟨c0, c1, c2, c3, c4, p0, p1, p2, p3, p4, f0, f1, f2, f3, f4, g4⟩ := T3.facts; clear T3))
      refine bodyPost_ret (results_row_tmp2 rfl _ _ p 42 _ (0, 0) _ rfl (set5 HT3.out.rp _ _ _ _ _) Tryd.underlying42 rfl size55) rfl ?_
      refine ⟨⟨_, rfl, ⟨xo, xd, xs, xf, xi⟩, 8, ?_, fun _ => Hins.out.imp id (fun h => by omega)⟩, HT3.out.done _ _ _ _ _⟩
      rw [Herr.out, if_pos (by simpa using hm)]; rfl
    · have he : errD may B = 32 := by rw [Herr.out, if_neg (by simpa using hm)]
      go_wp2_with (first | (go_at_call 29; refine (wide_lit _ _ _ _ _ _).mono ?_; rw [hw]; rintro e w2 ⟨rfl, h2⟩; have T2 := HT1.out.later h2; have HT2 := hidOf T2; have HcW2 := hidOf (fun k hk => cell_later h2 (HcW.out k hk)); clear HcW; obtain ⟨c0, c1, c2, c3, c4, p0, p1, p2, p3, p4, f0, f1, f2, f3, f4, g4⟩ := T2.facts; clear T2) | (go_at_call 31; refine (may_lit _ (Ht.out.out (HT2.out.out)).1 (Ht.out.out (HT2.out.out)).2 _ _ _ _ _).mono ?_; rintro e w3 ⟨rfl, h3⟩; have T3 := HT2.out.later h3; have HT3 := hidOf T3; obtain ⟨c0, c1, c2, c3, c4, p0, p1, p2, p3, p4, f0, f1, f2, f3, f4, g4⟩ := T3.facts; clear T3))
      refine bodyPost_ret (results_row_tmp2 rfl _ _ p 42 _ (0, 0) _ rfl (set5 HT3.out.rp _ _ _ _ _) Tryd.underlying42 rfl size55) rfl ?_
      exact ⟨⟨_, rfl, ⟨0, 0, 0, 0, 0⟩, 0, by rw [he]; rfl, fun h => by rw [he] at h; simp at h⟩, HT3.out.done _ _ _ _ _⟩
  · have hxw : gB B 0 = xo := ho.symm
    clear ho
    by_cases h16 : len < 16
    · have he : errD may B = 30 := by
        unfold errD
        rw [if_neg (by have := Hlen.out; omega), hxw, hw]
        simp only [if_true]
        rw [if_pos (by have := Hlen.out; omega)]
      have h16' : (len : Int) < 16 := by omega
      clear hxw hxo hxd hxs hxf hxi
      go_wp2_with (first | (go_at_call 29; refine (wide_lit _ _ _ _ _ _).mono ?_; rw [hw]; rintro e w2 ⟨rfl, h2⟩; have T2 := HT1.out.later h2; have HT2 := hidOf T2; have HcW2 := hidOf (fun k hk => cell_later h2 (HcW.out k hk)); clear HcW; obtain ⟨c0, c1, c2, c3, c4, p0, p1, p2, p3, p4, f0, f1, f2, f3, f4, g4⟩ := T2.facts; clear T2))
      refine bodyPost_ret (results_row_tmp2 rfl _ _ p 42 _ (0, 0) _ rfl (set5 HT2.out.rp _ _ _ _ _) Tryd.underlying42 rfl size55) rfl ?_
      exact ⟨⟨_, rfl, ⟨0, 0, 0, 0, 0⟩, 0, by rw [he]; rfl, fun h => by rw [he] at h; simp at h⟩, HT2.out.done _ _ _ _ _⟩
    have h16' : ¬ (len : Int) < 16 := by omega
    have l8 : (8 : Int) ≤ len := by omega
    have l12 : (12 : Int) ≤ len := by omega
    have l4 : (4 : Int) ≤ len := by omega
    have k8 : ¬ cap = 8 := by omega
    have k12 : ¬ cap = 12 := by omega
    have k4 : ¬ cap = 4 := by omega
    have Herr : Hid (errD may B = if u32 B 8 == 0 then (if may (wideI B) == 0 then 0 else 32) else 31) := by
      show _ = _
      unfold errD
      rw [if_neg (by have := Hlen.out; omega), hxw, hw]
      simp only [if_true]
      rw [if_neg (by have := Hlen.out; omega)]
    have Hins : Hid (wideI B = insD B ∧ 16 = sizeD B) := by
      refine ⟨?_, ?_⟩
      · rw [insD, hxw, hw]; rfl
      · rw [sizeD, hxw, sizeI, hw]; rfl
    cases h8 : (u32 B 8 != 0)
    · have Hw : Hid (wideI B = ⟨xo, xd, xs, xf, u32 B 4 + 4294967296 * sx 2147483648 (u32 B 12)⟩) := by
        show _ = _
        rw [← hxo, ← hxd, ← hxs, ← hxf]; rfl
      clear hxw hxo hxd hxs hxf hxi
      have HT : Hid (∀ wx : World, (∀ k, k < len → wx.cell? ⟨b, o + k, none⟩ = some (.int .u8 (gB B k))) → ∀ (v : Value) (r : Int), ((v = .slice (some ⟨b, o + 12, none⟩) (len - 12) (cap - 12) ∧ r = u32 B 12) ∨ (v = .slice (some ⟨b, o + 4, none⟩) (len - 4) (cap - 4) ∧ r = u32 B 4)) → Calls Tryd.prog 30 #[v, .int .i64 4] wx fun e w' => e = .returned (.int .u64 r) ∧ ∃ m, w' = wx.drewN m) := by
        rintro wx hx v r (⟨rfl, rfl⟩ | ⟨rfl, rfl⟩)
        · exact take4_at wx b o len cap B 12 HB.out hx (by omega)
        · exact take4_at wx b o len cap B 4 HB.out hx (by omega)
      have hb4 := u32_bd HB.out 4
      have hb12 := u32_bd HB.out 12
      have a0 := hb4.1
      have a1 := hb4.2
      have a2 := hb12.1
      have a3 := hb12.2
      clear hb4 hb12
      have H64 := hidOf (conv64 (u32 B 4) (u32 B 12) a0 a1 a2 a3)
      generalize u32 B 4 = z4 at *
      generalize u32 B 12 = z12 at *
      go_upto_region 10 with (first | (go_at_call 29; refine (wide_lit _ _ _ _ _ _).mono ?_; rw [hw]; rintro e w2 ⟨rfl, h2⟩; have T2 := HT1.out.later h2; have HT2 := hidOf T2; have HcW2 := hidOf (fun k hk => cell_later h2 (HcW.out k hk)); clear HcW; obtain ⟨c0, c1, c2, c3, c4, p0, p1, p2, p3, p4, f0, f1, f2, f3, f4, g4⟩ := T2.facts; clear T2) | (go_at_call 30; refine (take4_at _ b o len cap B 8 HB.out HcW2.out (by omega)).mono ?_; rintro e w3 ⟨rfl, m3, rfl⟩))
      have HT3 := hidOf (HT2.out.drewN m3)
      have HcW3 : Hid (∀ k, k < len → (w2.drewN m3).cell? ⟨b, o + k, none⟩ = some (.int .u8 (gB B k))) := HcW2.out
      generalize w2.drewN m3 = W3 at *
      have T3 := HT3.out
      clear c0 c1 c2 c3 c4 p0 p1 p2 p3 p4 f0 f1 f2 f3 f4 g4
      obtain ⟨c0, c1, c2, c3, c4, p0, p1, p2, p3, p4, f0, f1, f2, f3, f4, g4⟩ := T3.facts
      clear T3
      go_region_held3 (fun w' => True) (trivial) (first | (go_at_call 30; refine (HT.out _ ?_ _ _ (by first | exact .inl ⟨rfl, rfl⟩ | exact .inr ⟨rfl, rfl⟩)).mono ?_; (exact HcW3.out); rintro e w1 ⟨rfl, m1, rfl⟩))
      rename_i mA hX
      rw [H64.out]
      have T4 : TI w ((W3.drewN (1 + mA + m1)).setCell ⟨q, 4, none⟩ (.int .i64 (z4 + 4294967296 * sx 2147483648 z12))) p q #[.int .i64 xo, .int .i64 xd, .int .i64 xs, .int .i64 xf, .int .i64 (z4 + 4294967296 * sx 2147483648 z12)] := by
        have := (HT3.out.drewN (1 + mA + m1)).set 4 (.int .i64 (z4 + 4294967296 * sx 2147483648 z12))
        simpa using this
      generalize hW4 : World.setCell _ _ _ = W4 at *
      clear c0 c1 c2 c3 c4 p0 p1 p2 p3 p4 f0 f1 f2 f3 f4 g4
      have HT4 := hidOf T4
      obtain ⟨c0, c1, c2, c3, c4, p0, p1, p2, p3, p4, f0, f1, f2, f3, f4, g4⟩ := T4.facts
      clear T4 hW4 HT3 HcW3
      generalize z4 + 4294967296 * sx 2147483648 z12 = xj at *
      cases hm : (mayP xo xd xs xf xj != 0)
      · have he : errD may B = 0 := by
          rw [Herr.out, if_pos (by simpa using h8), Hw.out]
          exact if_pos (by simpa [may] using hm)
        go_wp2_with (first | (go_at_call 31; refine (may_lit _ (Ht.out.out (HT4.out.out)).1 (Ht.out.out (HT4.out.out)).2 _ _ _ _ _).mono ?_; rintro e w5 ⟨rfl, h5⟩; have T5 := HT4.out.later h5; have HT5 := hidOf T5; obtain ⟨c0, c1, c2, c3, c4, p0, p1, p2, p3, p4, f0, f1, f2, f3, f4, g4⟩ := T5.facts; clear T5))
        refine bodyPost_ret (results_row_tmp2 rfl _ _ p 42 _ (0, 0) _ rfl (set5 HT5.out.rp _ _ _ _ _) Tryd.underlying42 rfl size55) rfl ?_
        refine ⟨⟨_, rfl, ⟨xo, xd, xs, xf, xj⟩, 16, by rw [he]; rfl, fun _ => ⟨?_, ?_⟩⟩, HT5.out.done _ _ _ _ _⟩
        · rw [← Hins.out.1, Hw.out]
        · have := Hins.out.2; omega
      · have he : errD may B = 32 := by
          rw [Herr.out, if_pos (by simpa using h8), Hw.out]
          exact if_neg (by simpa [may] using hm)
        go_wp2_with (first | (go_at_call 31; refine (may_lit _ (Ht.out.out (HT4.out.out)).1 (Ht.out.out (HT4.out.out)).2 _ _ _ _ _).mono ?_; rintro e w5 ⟨rfl, h5⟩; have T5 := HT4.out.later h5; have HT5 := hidOf T5; obtain ⟨c0, c1, c2, c3, c4, p0, p1, p2, p3, p4, f0, f1, f2, f3, f4, g4⟩ := T5.facts; clear T5))
        refine bodyPost_ret (results_row_tmp2 rfl _ _ p 42 _ (0, 0) _ rfl (set5 HT5.out.rp _ _ _ _ _) Tryd.underlying42 rfl size55) rfl ?_
        exact ⟨⟨_, rfl, ⟨0, 0, 0, 0, 0⟩, 0, by rw [he]; rfl, fun h => by rw [he] at h; simp at h⟩, HT5.out.done _ _ _ _ _⟩
    · have he : errD may B = 31 := by rw [Herr.out, if_neg (by simpa using h8)]
      clear hxw hxo hxd hxs hxf hxi
      go_wp2_with (first | (go_at_call 29; refine (wide_lit _ _ _ _ _ _).mono ?_; rw [hw]; rintro e w2 ⟨rfl, h2⟩; have T2 := HT1.out.later h2; have HT2 := hidOf T2; have HcW2 := hidOf (fun k hk => cell_later h2 (HcW.out k hk)); clear HcW; obtain ⟨c0, c1, c2, c3, c4, p0, p1, p2, p3, p4, f0, f1, f2, f3, f4, g4⟩ := T2.facts; clear T2) | (go_at_call 30; refine (take4_at _ b o len cap B 8 HB.out HcW2.out (by omega)).mono ?_; rintro e w3 ⟨rfl, m3, rfl⟩))
      refine bodyPost_ret (results_row_tmp2 rfl _ _ p 42 _ (0, 0) _ rfl (set5 (HT2.out.drewN m3).rp _ _ _ _ _) Tryd.underlying42 rfl size55) rfl ?_
      exact ⟨⟨_, rfl, ⟨0, 0, 0, 0, 0⟩, 0, by rw [he]; rfl, fun h => by rw [he] at h; simp at h⟩, (HT2.out.drewN m3).done _ _ _ _ _⟩
end Go.Proofs.YtgephenkbbelcaaDoor
