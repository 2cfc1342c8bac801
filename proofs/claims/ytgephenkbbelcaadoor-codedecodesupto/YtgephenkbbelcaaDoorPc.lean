import Derived.Test.YtgephenkbbelcaaDoorPb
namespace Go.Proofs.YtgephenkbbelcaaDoor
open Go.RowKit
set_option linter.unusedVariables false
set_option linter.unusedSimpArgs false

theorem hidOf {p : Prop} (h : p) : Hid p := h
theorem cell_fresh (w : World) (cs : Array Value) (t : TypeId) (j : Nat) (b : Nat) (hb : b = w.heap.size) : (w.alloc (.cells cs t)).cell? ⟨b, j, none⟩ = cs[j]? := by
  subst hb
  rw [World.cell?, show (w.alloc (.cells cs t)).heap[w.heap.size]? = some (.cells cs t) from heap_alloc_new w _]
  rfl
/-- the box of an instruction -/
structure Box (w : World) (p : Nat) (o d s f i : Int) : Prop where
  c0 : w.cell? ⟨p, 0, none⟩ = some (.int .i64 o)
  c1 : w.cell? ⟨p, 1, none⟩ = some (.int .i64 d)
  c2 : w.cell? ⟨p, 2, none⟩ = some (.int .i64 s)
  c3 : w.cell? ⟨p, 3, none⟩ = some (.int .i64 f)
  c4 : w.cell? ⟨p, 4, none⟩ = some (.int .i64 i)
theorem Box.new (w : World) (o d s f i : Int) (t : TypeId) : Box (w.alloc (.cells #[.int .i64 o, .int .i64 d, .int .i64 s, .int .i64 f, .int .i64 i] t)) w.heap.size o d s f i :=
  ⟨cell_fresh _ _ _ _ _ rfl, cell_fresh _ _ _ _ _ rfl, cell_fresh _ _ _ _ _ rfl, cell_fresh _ _ _ _ _ rfl, cell_fresh _ _ _ _ _ rfl⟩
theorem Box.chg {S : Nat → Prop} {w w' : World} {p : Nat} {o d s f i : Int} (h : Box w p o d s f i) (c : Chg S w w') (hs : ¬ S p) : Box w' p o d s f i :=
  ⟨c.cell h.c0 hs, c.cell h.c1 hs, c.cell h.c2 hs, c.cell h.c3 hs, c.cell h.c4 hs⟩
theorem Box.drew {w : World} {p : Nat} {o d s f i : Int} (h : Box w p o d s f i) : Box w.drew p o d s f i := ⟨h.c0, h.c1, h.c2, h.c3, h.c4⟩
theorem or16 (d s : Int) (d0 : 0 ≤ d) (d1 : d < 16) (s0 : 0 ≤ s) (s1 : s < 16) : bits .or .i64 (s * 16) d = d + 16 * s := by
  have h : ∀ a : Nat, a < 16 → ∀ b : Nat, b < 16 → bits .or .i64 ((b : Int) * 16) (a : Int) = (a : Int) + 16 * (b : Int) := by decide +kernel
  have := h d.toNat (by omega) s.toNat (by omega)
  rwa [show ((d.toNat : Nat) : Int) = d by omega, show ((s.toNat : Nat) : Int) = s by omega] at this
theorem w64_lo (x : Int) : 0 ≤ IntKind.u64.wrap x := by rw [IntKind.wrap_u64]; omega
theorem w64_hi (x : Int) : IntKind.u64.wrap x < 18446744073709551616 := by rw [IntKind.wrap_u64]; omega
theorem w64_16 (x : Int) : [IntKind.u64.wrap x % 256, IntKind.u64.wrap x / 256 % 256] = [x % 256, x / 256 % 256] := by
  rw [IntKind.wrap_u64]; simp only [List.cons.injEq, and_true]; omega
theorem w64_by4 (x : Int) : by4 (IntKind.u64.wrap x) = by4 x := by
  rw [IntKind.wrap_u64]; simp only [by4, List.cons.injEq, and_true]; omega
theorem w64_hi4 (x : Int) : by4 (IntKind.u64.wrap x / 4294967296) = by4 (x / 4294967296) := by
  have : IntKind.u64.wrap x / 4294967296 = x / 4294967296 % 4294967296 := by rw [IntKind.wrap_u64]; omega
  rw [this]
  generalize x / 4294967296 = y
  simp only [by4, List.cons.injEq, and_true]; omega
theorem w64_or (d s : Int) (d0 : 0 ≤ d) (d1 : d < 16) (s0 : 0 ≤ s) (s1 : s < 16) : IntKind.u64.wrap (bits BinOp.or IntKind.i64 (IntKind.i64.wrap (s * 16)) d) = d + 16 * s := by
  rw [show IntKind.i64.wrap (s * 16) = s * 16 from by rw [IntKind.wrap_i64]; omega, or16 d s d0 d1 s0 s1, IntKind.wrap_u64]; omega
theorem lay_app (f : Nat → Value) (o q : Nat) (A B : List Int) (h : q = o + A.length) : lay (lay f o A) q B = lay f o (A ++ B) := by
  subst h; funext j; exact lay_lay f o A B j
theorem lay_enc (f : Nat → Value) (o : Nat) (op d s fo i : Int) (hw : isW op = false) : lay (lay (lay (lay f o [op % 256]) (o + 1) [(d + 16 * s) % 256]) (o + 2) [IntKind.u64.wrap fo % 256, IntKind.u64.wrap fo / 256 % 256]) (o + 4) (by4 (IntKind.u64.wrap i)) = lay f o (enc1 ⟨op, d, s, fo, i⟩) := by
  rw [w64_16, w64_by4, lay_app f o (o + 1) _ _ rfl, lay_app f o (o + 2) _ _ rfl, lay_app f o (o + 4) _ _ rfl]
  simp [enc1, encT, hw]
theorem lay_encW (f : Nat → Value) (n o : Nat) (op d s fo i : Int) (hw : isW op = true) (hz : ∀ j, o ≤ j → j < n → f j = .int .u8 0) (ho : o + 16 ≤ n) (j : Nat) (hj : j < n) : lay (lay (lay (lay (lay f o [op % 256]) (o + 1) [(d + 16 * s) % 256]) (o + 2) [IntKind.u64.wrap fo % 256, IntKind.u64.wrap fo / 256 % 256]) (o + 4) (by4 (IntKind.u64.wrap i))) (o + 12) (by4 (IntKind.u64.wrap i / 4294967296)) j = lay f o (enc1 ⟨op, d, s, fo, i⟩) j := by
  rw [w64_16, w64_by4, w64_hi4, lay_app f o (o + 1) _ _ rfl, lay_app f o (o + 2) _ _ rfl, lay_app f o (o + 4) _ _ rfl]
  have e8 : ∀ F : Nat → Value, (∀ j, o ≤ j → j < n → F j = .int .u8 0) → ∀ A : List Int, A.length = 8 → ∀ C : List Int, C.length = 4 → lay (lay F o A) (o + 12) C j = lay F o (A ++ ([0, 0, 0, 0] ++ C)) j := by
    intro F hF A hA C hC
    have hm : lay F o (A ++ ([0, 0, 0, 0] ++ C)) j = lay (lay (lay F o A) (o + 8) [0, 0, 0, 0]) (o + 12) C j := by
      rw [lay_app F o (o + 8) _ _ (by omega), lay_app F o (o + 12) _ _ (by simp; omega), List.append_assoc]
    rw [hm]
    unfold lay
    simp only [hA, hC, List.length_cons, List.length_nil]
    by_cases h1 : o + 12 ≤ j ∧ j < o + 12 + 4
    · rw [if_pos h1, if_pos h1]
    · rw [if_neg h1, if_neg h1]
      by_cases h2 : o + 8 ≤ j ∧ j < o + 8 + (0 + 1 + 1 + 1 + 1)
      · rw [if_pos h2, if_neg (by omega), hF j (by omega) hj]
        have : ∀ q, gB [0, 0, 0, 0] q = 0 := by
          intro q
          match q with
          | 0 => rfl
          | 1 => rfl
          | 2 => rfl
          | 3 => rfl
          | q + 4 => rfl
        rw [this]
      · rw [if_neg h2]
  have := e8 f hz ([op % 256] ++ [(d + 16 * s) % 256] ++ [fo % 256, fo / 256 % 256] ++ by4 i) rfl (by4 (i / 4294967296)) rfl
  rw [this]
  simp [enc1, encT, hw, by4]
theorem layInsn_narrow (w : World) (g n o len cap : Nat) (f : Nat → Value) (op d s fo i : Int) (hr : w.rowIs g 5 n f) (ho : o + 8 ≤ n) (hl : 8 ≤ len) (hll : len ≤ 1000000000000000) (hcap : len ≤ cap) (hx : Fit ⟨op, d, s, fo, i⟩) (hw : isW op = false) :
    Calls Tryd.prog 24 #[.slice (some ⟨g, o, none⟩) len cap, .agg #[.int .i64 op, .int .i64 d, .int .i64 s, .int .i64 fo, .int .i64 i]] w fun e w' => e = .returned (.int .i64 8) ∧ Lays g n o f (enc1 ⟨op, d, s, fo, i⟩) w w' := by
  have hg := hr.lt
  have hgp : g ≠ w.heap.size := by omega
  have hl' : (8 : Int) ≤ len := by omega
  have l1 : (1 : Int) ≤ len := by omega
  have l2 : (2 : Int) ≤ len := by omega
  have l4 : (4 : Int) ≤ len := by omega
  have k1 : ¬ cap = 1 := by omega
  have k2 : ¬ cap = 2 := by omega
  have k4 : ¬ cap = 4 := by omega
  obtain ⟨o0, o1, d0, d1, s0, s1, f0, f1, i0, i1, i2, i3⟩ := hx
  simp only at o0 o1 d0 d1 s0 s1 f0 f1 i2 i3
  have hr0 : (w.alloc (.cells #[.int .i64 op, .int .i64 d, .int .i64 s, .int .i64 fo, .int .i64 i] 42)).rowIs g 5 n f := hr.alloc _
  have hb0 := Box.new w op d s fo i 42
  have E16 := hidOf (w64_or d s d0 d1 s0 s1)
  have Hr := hidOf (hr0)
  have Hb := hidOf (hb0)
  clear hr0 hb0 hr
  go_enter Tryd.func24, Tryd.ntmps24
  go_upto_region 3 with (first | (go_at_call 35; refine (layN1 _ g n o len cap f _ Hr.out (by omega) (by omega) hll (by omega) (by omega)).mono ?_; rintro e w1 ⟨⟨r, rfl⟩, hr1, hc1⟩; have B1 := Box.chg (show Box _ _ _ _ _ _ _ from Hb.out) hc1 (fun h => hgp h.symm); obtain ⟨b0, b1, b2, b3, b4⟩ := B1))
  clear Hb Hr
  have Hr1 := hidOf (hr1)
  have Hc1 := hidOf (hc1)
  have HB1 : Hid (Box w1 w.heap.size op d s fo i) := ⟨b0, b1, b2, b3, b4⟩
  clear hr1 hc1
  go_region_held3 (fun w' => w'.cell? ⟨w.heap.size, 1, none⟩ = some (.int .i64 d) ∧ w'.cell? ⟨w.heap.size, 2, none⟩ = some (.int .i64 s)) (go_keep)
    (first | (go_at_call 35; rw [E16.out]; refine (layN1 _ g n (o + 1) (len - 1) (cap - 1) (lay f o [op % 256]) _ ?_ (by omega) (by omega) (by omega) (by omega) (by omega)).mono ?_; (exact Hr1.out); rintro e w2 ⟨⟨r2, rfl⟩, hr2, hc2⟩; have B2 := Box.chg (Box.drew HB1.out) hc2 (fun h => hgp h.symm); obtain ⟨x0, x1, x2, x3, x4⟩ := B2))
  clear b0 b1 b2 b3 b4 HB1 Hr1
  have HB2 : Hid (Box w2 w.heap.size op d s fo i) := ⟨x0, x1, x2, x3, x4⟩
  have Hr2 := hidOf (hr2)
  have Hc2 := hidOf (hc2)
  clear hr2 hc2
  go_upto_region 4 with fail
  go_region_held3 (fun w' => w'.cell? ⟨w.heap.size, 3, none⟩ = some (.int .i64 fo)) (go_keep)
    (first | (go_at_call 35; refine (layN2 _ g n (o + 2) (len - 2) (cap - 2) (lay (lay f o [op % 256]) (o + 1) [(d + 16 * s) % 256]) _ ?_ (by omega) (by omega) (by omega) (w64_lo _) (w64_hi _)).mono ?_; (exact Hr2.out); rintro e w3 ⟨⟨r3, rfl⟩, hr3, hc3⟩; have B3 := Box.chg (Box.drew HB2.out) hc3 (fun h => hgp h.symm); obtain ⟨y0, y1, y2, y3, y4⟩ := B3))
  clear x0 x1 x2 x3 x4 HB2 Hr2
  have Hr3 := hidOf (hr3)
  have Hc3 := hidOf (hc3)
  clear hr3 hc3
  go_wp2_with (first | (go_at_call 35; refine (layN4 _ g n (o + 4) (len - 4) (cap - 4) (lay (lay (lay f o [op % 256]) (o + 1) [(d + 16 * s) % 256]) (o + 2) [IntKind.u64.wrap fo % 256, IntKind.u64.wrap fo / 256 % 256]) _ ?_ (by omega) (by omega) (by omega) (w64_lo _) (w64_hi _)).mono ?_; (exact Hr3.out); rintro e w4 ⟨⟨r4, rfl⟩, hr4, hc4⟩; have B4 := Box.chg (⟨y0, y1, y2, y3, y4⟩ : Box w3 w.heap.size op d s fo i) hc4 (fun h => hgp h.symm); obtain ⟨z0, z1, z2, z3, z4⟩ := B4) | (go_at_call 29; refine (wide_lit _ _ _ _ _ _).mono ?_; rw [hw]; rintro e w5 ⟨rfl, h5⟩))
  go_ret
  refine ⟨rfl, ?_, ?_⟩
  · have := hr4.of_block (h5.block g hr4.lt)
    rwa [lay_enc f o op d s fo i hw] at this
  · exact ((((((Chg.refl _ w).alloc _).trans Hc1.out (fun x h _ => h)).drew.trans Hc2.out (fun x h _ => h)).drew.trans Hc3.out (fun x h _ => h)).trans hc4 (fun x h _ => h)).trans (Chg.of_out (S := fun k => k = g) h5) (fun x h _ => h)
theorem layInsn_wide (w : World) (g n o len cap : Nat) (f : Nat → Value) (op d s fo i : Int) (hr : w.rowIs g 5 n f) (ho : o + 16 ≤ n) (hl : 16 ≤ len) (hll : len ≤ 1000000000000000) (hcap : len ≤ cap) (hx : Fit ⟨op, d, s, fo, i⟩) (hw : isW op = true) (hz : ∀ j, o ≤ j → j < n → f j = .int .u8 0) :
    Calls Tryd.prog 24 #[.slice (some ⟨g, o, none⟩) len cap, .agg #[.int .i64 op, .int .i64 d, .int .i64 s, .int .i64 fo, .int .i64 i]] w fun e w' => e = .returned (.int .i64 16) ∧ Lays g n o f (enc1 ⟨op, d, s, fo, i⟩) w w' := by
  have hg := hr.lt
  have Hz := hidOf hz
  clear hz
  have hgp : g ≠ w.heap.size := by omega
  have hl' : (12 : Int) ≤ len := by omega
  have l1 : (1 : Int) ≤ len := by omega
  have l2 : (2 : Int) ≤ len := by omega
  have l4 : (4 : Int) ≤ len := by omega
  have k12 : ¬ cap = 12 := by omega
  have k1 : ¬ cap = 1 := by omega
  have k2 : ¬ cap = 2 := by omega
  have k4 : ¬ cap = 4 := by omega
  obtain ⟨o0, o1, d0, d1, s0, s1, f0, f1, i0, i1, i2, i3⟩ := hx
  simp only at o0 o1 d0 d1 s0 s1 f0 f1 i2 i3
  have hr0 : (w.alloc (.cells #[.int .i64 op, .int .i64 d, .int .i64 s, .int .i64 fo, .int .i64 i] 42)).rowIs g 5 n f := hr.alloc _
  have hb0 := Box.new w op d s fo i 42
  have E16 := hidOf (w64_or d s d0 d1 s0 s1)
  have Hr := hidOf (hr0)
  have Hb := hidOf (hb0)
  clear hr0 hb0 hr
  go_enter Tryd.func24, Tryd.ntmps24
  go_upto_region 3 with (first | (go_at_call 35; refine (layN1 _ g n o len cap f _ Hr.out (by omega) (by omega) hll (by omega) (by omega)).mono ?_; rintro e w1 ⟨⟨r, rfl⟩, hr1, hc1⟩; have B1 := Box.chg (show Box _ _ _ _ _ _ _ from Hb.out) hc1 (fun h => hgp h.symm); obtain ⟨b0, b1, b2, b3, b4⟩ := B1))
  clear Hb Hr
  have Hr1 := hidOf (hr1)
  have Hc1 := hidOf (hc1)
  have HB1 : Hid (Box w1 w.heap.size op d s fo i) := ⟨b0, b1, b2, b3, b4⟩
  clear hr1 hc1
  go_region_held3 (fun w' => w'.cell? ⟨w.heap.size, 1, none⟩ = some (.int .i64 d) ∧ w'.cell? ⟨w.heap.size, 2, none⟩ = some (.int .i64 s)) (go_keep)
    (first | (go_at_call 35; rw [E16.out]; refine (layN1 _ g n (o + 1) (len - 1) (cap - 1) (lay f o [op % 256]) _ ?_ (by omega) (by omega) (by omega) (by omega) (by omega)).mono ?_; (exact Hr1.out); rintro e w2 ⟨⟨r2, rfl⟩, hr2, hc2⟩; have B2 := Box.chg (Box.drew HB1.out) hc2 (fun h => hgp h.symm); obtain ⟨x0, x1, x2, x3, x4⟩ := B2))
  clear b0 b1 b2 b3 b4 HB1 Hr1
  have HB2 : Hid (Box w2 w.heap.size op d s fo i) := ⟨x0, x1, x2, x3, x4⟩
  have Hr2 := hidOf (hr2)
  have Hc2 := hidOf (hc2)
  clear hr2 hc2
  go_upto_region 4 with fail
  go_region_held3 (fun w' => w'.cell? ⟨w.heap.size, 3, none⟩ = some (.int .i64 fo)) (go_keep)
    (first | (go_at_call 35; refine (layN2 _ g n (o + 2) (len - 2) (cap - 2) (lay (lay f o [op % 256]) (o + 1) [(d + 16 * s) % 256]) _ ?_ (by omega) (by omega) (by omega) (w64_lo _) (w64_hi _)).mono ?_; (exact Hr2.out); rintro e w3 ⟨⟨r3, rfl⟩, hr3, hc3⟩; have B3 := Box.chg (Box.drew HB2.out) hc3 (fun h => hgp h.symm); obtain ⟨y0, y1, y2, y3, y4⟩ := B3))
  clear x0 x1 x2 x3 x4 HB2 Hr2
  have Hr3 := hidOf (hr3)
  have Hc3 := hidOf (hc3)
  clear hr3 hc3
  have A4 := hidOf (layN4 w3 g n (o + 4) (len - 4) (cap - 4) (lay (lay (lay f o [op % 256]) (o + 1) [(d + 16 * s) % 256]) (o + 2) [IntKind.u64.wrap fo % 256, IntKind.u64.wrap fo / 256 % 256]) (IntKind.u64.wrap i) Hr3.out (by omega) (by omega) (by omega) (w64_lo _) (w64_hi _))
  go_upto_region 6 with (first | (go_at_call 35; refine A4.out.mono ?_; rintro e w4 ⟨⟨r4, rfl⟩, hr4, hc4⟩; have B4 := Box.chg (⟨y0, y1, y2, y3, y4⟩ : Box w3 w.heap.size op d s fo i) hc4 (fun h => hgp h.symm); obtain ⟨z0, z1, z2, z3, z4⟩ := B4))
  have Hr4 := hidOf (hr4)
  have Hc4 := hidOf (hc4)
  clear hr4 hc4 y0 y1 y2 y3 y4 A4
  go_upto_region 8 with (go_at_call 29; refine (wide_lit _ _ _ _ _ _).mono ?_; rw [hw]; rintro e w5 ⟨rfl, h5⟩)
  have Hr5 := hidOf (Hr4.out.of_block (h5.block g Hr4.out.lt))
  have Hv0 : 0 ≤ IntKind.u64.wrap i / 4294967296 := by have := w64_lo i; omega
  have Hv1 : IntKind.u64.wrap i / 4294967296 < 18446744073709551616 := by have := w64_hi i; have := w64_lo i; omega
  clear z0 z1 z2 z3 z4
  go_wp2_with (go_at_call 35; refine (layN4 _ g n (o + 12) (len - 12) (cap - 12) _ _ Hr5.out (by omega) (by omega) (by omega) Hv0 Hv1).mono ?_; rintro e w6 ⟨⟨r6, rfl⟩, hr6, hc6⟩)
  go_ret
  refine ⟨rfl, ?_, ?_⟩
  · exact hr6.congr (fun j hj => lay_encW f n o op d s fo i hw Hz.out ho j hj)
  · exact (((((((Chg.refl _ w).alloc _).trans Hc1.out (fun x h _ => h)).drew.trans Hc2.out (fun x h _ => h)).drew.trans Hc3.out (fun x h _ => h)).trans Hc4.out (fun x h _ => h)).trans (Chg.of_out (S := fun k => k = g) h5) (fun x h _ => h)).trans hc6 (fun x h _ => h)
end Go.Proofs.YtgephenkbbelcaaDoor
