import Derived.Test.YtgephenkbbelcaaDoorDra
import Derived.Deep.RegionWith
import Derived.Deep.RegionHeld3
namespace Go.Proofs.YtgephenkbbelcaaDoor
open Go.RowKit
set_option linter.unusedVariables false
set_option linter.unusedSimpArgs false
theorem vl_u4 (B : List Int) (A d : Nat) : vlP B (A + d) 4 false = u32 (B.drop A) d := by
  simp only [vlP, uN, u32, gB_drop, Bool.false_and]
  simp only [Nat.add_assoc]
  simp
  omega
theorem vl_s4 (B : List Int) (hB : Byts B) (A d : Nat) : vlP B (A + d) 4 true = sx 2147483648 (u32 (B.drop A) d) := by
  have h0 := hB (A + d)
  have h1 := hB (A + d + 1)
  have h2 := hB (A + d + 2)
  have h3 := hB (A + d + 3)
  have e3 : A + d + 4 - 1 = A + d + 3 := by omega
  simp only [vlP, uN, u32, gB_drop, Bool.true_and, e3, sx]
  simp only [Nat.add_assoc] at *
  simp only [decide_eq_true_eq]
  split <;> split <;> simp <;> omega
theorem vl_s2 (B : List Int) (hB : Byts B) (A d : Nat) : vlP B (A + d) 2 true = sx 32768 (u16 (B.drop A) d) := by
  have h0 := hB (A + d)
  have h1 := hB (A + d + 1)
  have e3 : A + d + 2 - 1 = A + d + 1 := by omega
  simp only [vlP, uN, u16, gB_drop, Bool.true_and, e3, sx]
  simp only [Nat.add_assoc] at *
  simp only [decide_eq_true_eq]
  split <;> split <;> simp <;> omega
theorem refMay3 (o d s f i : Int) (w : World) : Calls Tryd.prog 27 #[.agg #[.int .i64 o, .int .i64 d, .int .i64 s, .int .i64 f, .int .i64 i]] w fun e w' => e = .returned (.int .i64 (may ⟨o, d, s, f, i⟩)) ∧ Out w w' := by
  have h := refMay_any o d s f i w
  have e : mayR o d s f i = may ⟨o, d, s, f, i⟩ := (may_same o d s f i).symm
  rw [e] at h
  exact h
theorem TI.box {w W : World} (hst : W.heap[w.heap.size]? = some (.cells #[.int .i64 0, .int .i64 0, .int .i64 0, .int .i64 0, .int .i64 0] 42 (0, 0))) (o : Out w W) (cs : Array Value) : TI w (W.alloc (.cells cs 42)).drew w.heap.size W.heap.size cs := by
  have hz := (Array.getElem?_eq_some_iff.1 hst).1
  refine ⟨?_, heap_alloc_new W _, (Out.alloc o _).drew, Nat.le_refl _, o.size, by omega⟩
  show (W.alloc _).heap[w.heap.size]? = _
  rw [Below.heap_alloc _ _ _ hz]; exact hst
/-- what One answers -/
def OneE (B : List Int) (w : World) (e : Ending) (w' : World) : Prop := ∃ xo xd xs xf xi k, e = .returned (.tuple #[.agg #[.int .i64 xo, .int .i64 xd, .int .i64 xs, .int .i64 xf, .int .i64 xi], .int .i64 k, .int .i64 (errD may B)]) ∧ (errD may B = 0 → (⟨xo, xd, xs, xf, xi⟩ : Ins) = insD B ∧ 8 * k = (sizeD B : Nat)) ∧ Out w w'
set_option maxRecDepth 20000 in
set_option maxHeartbeats 1000000 in
theorem one_any (w : World) (b off len cap : Nat) (B : List Int) (hlen : B.length = len) (hB : Byts B) (hc : ∀ k, k < len → w.cell? ⟨b, off + k, none⟩ = some (.int .u8 (gB B k))) (hll : len ≤ 100000000000000) (s : Nat) (hs : 8 * s < len) :
    Calls Tryd.prog 15 #[.slice (some ⟨b, off, none⟩) len cap, .int .i64 s] w (OneE (B.drop (8 * s)) w) := by
  obtain ⟨A, hA⟩ : ∃ A, A = 8 * s := ⟨_, rfl⟩
  rw [← hA]
  have hA8 : 8 * (s : Int) = A := by omega
  have hAl : A < len := by omega
  clear hs hA
  have hdl : (B.drop A).length = len - A := by rw [List.length_drop, hlen]
  obtain ⟨X, hX⟩ : ∃ X, X = gB B A := ⟨_, rfl⟩
  have q0 := hc A hAl
  have x0 := hB A
  rw [← hX] at q0 x0
  have gx : gB (B.drop A) 0 = X := by rw [gB_drop, hX]; rfl
  have CV : Hid (∀ w', Out w w' → ∀ (d k : Nat) sg, (k = 2 ∨ k = 4) → A + d + k ≤ len → Calls Tryd.prog 26 #[.slice (some ⟨b, off, none⟩) len cap, .int .i64 ((A : Int) + d), .int .i64 k, .bool sg] w' fun e w'' => e = .returned (.int .i64 (vlP B (A + d) k sg)) ∧ w' = w'') := hidOf (fun w' o d k sg hk hl => by
    have h := value_any w' b off len cap B hlen hB (fun j hj => cell_later o (hc j hj)) hll (A + d) k hk hl sg
    rw [Int.natCast_add] at h
    exact h)
  by_cases h8 : len - A < 8
  · have h8I : (len : Int) - A < 8 := by omega
    have HE : Hid (errD may (B.drop A) = 30) := hidOf (by unfold errD; rw [hdl, if_pos h8])
    clear hc hB CV gx hdl hX
    go_enter Tryd.func15, Tryd.ntmps15
    go_wp2
    refine bodyPost_ret (results_row_tmp2 rfl _ _ w.heap.size 42 _ (0, 0) _ rfl (heap_alloc_new _ _) Tryd.underlying42 rfl size55) rfl ?_
    refine ⟨0, 0, 0, 0, 0, 0, ?_, fun h => absurd (HE.out.symm.trans h) (by decide), Out.alloc (Out.refl _) _⟩
    rw [HE.out]; rfl
  have h8I : ¬ (len : Int) - A < 8 := by omega
  by_cases h16 : isW X = true ∧ len - A < 16
  · obtain ⟨hw, h16⟩ := h16
    have h16I : (len : Int) - A < 16 := by omega
    have HE : Hid (errD may (B.drop A) = 30) := hidOf (by unfold errD; rw [hdl, if_neg h8, gx, hw]; simp only [if_true]; rw [if_pos h16])
    have q0a : (w.alloc (.cells #[.int .i64 0, .int .i64 0, .int .i64 0, .int .i64 0, .int .i64 0] 42)).cell? ⟨b, off + A, none⟩ = some (.int .u8 X) := cell_later ((Out.refl w).alloc _) q0
    clear hc hB CV gx hdl hX
    go_enter Tryd.func15, Tryd.ntmps15
    go_wp2_with (go_at_call 25; refine (refWide3 _ _).mono ?_; (try rw [hw]); rintro e w1 ⟨rfl, rfl⟩)
    refine bodyPost_ret (results_row_tmp2 rfl _ _ w.heap.size 42 _ (0, 0) _ rfl (heap_alloc_new _ _) Tryd.underlying42 rfl size55) rfl ?_
    refine ⟨0, 0, 0, 0, 0, 0, ?_, fun h => absurd (HE.out.symm.trans h) (by decide), Out.alloc (Out.refl _) _⟩
    rw [HE.out]; rfl
  obtain ⟨Y, hY⟩ : ∃ Y, Y = gB B (A + 1) := ⟨_, rfl⟩
  have q1 := hc (A + 1) (by omega)
  have y0 := hB (A + 1)
  rw [← hY] at q1 y0
  have gy : gB (B.drop A) 1 = Y := by rw [gB_drop, hY]
  obtain ⟨A1, hA1⟩ : ∃ A1, A1 = A + 1 := ⟨_, rfl⟩
  have hA1I : (A : Int) + 1 = A1 := by omega
  have hl1 : (A1 : Int) < len := by omega
  have w1 : IntKind.i64.wrap ((A : Int) + 1) = A1 := by rw [IntKind.wrap_i64]; omega
  have w1' : IntKind.i64.wrap (A1 : Int) = A1 := by rw [IntKind.wrap_i64]; omega
  have w2 : IntKind.i64.wrap ((A : Int) + 2) = (A : Int) + 2 := by rw [IntKind.wrap_i64]; omega
  have w4 : IntKind.i64.wrap ((A : Int) + 4) = (A : Int) + 4 := by rw [IntKind.wrap_i64]; omega
  have hl0 : (A : Int) < len := by omega
  have hA0 : (0 : Int) ≤ A := by omega
  have hA10 : (0 : Int) ≤ A1 := by omega
  rw [← hA1] at q1
  have hl16 : isW X = true → 16 ≤ len - A := fun h => by
    rcases Nat.lt_or_ge (len - A) 16 with h2 | h2
    · exact absurd ⟨h, h2⟩ h16
    · exact h2
  obtain ⟨z2, hz2⟩ : ∃ z, z = vlP B (A + 2) 2 true := ⟨_, rfl⟩
  obtain ⟨z4, hz4⟩ : ∃ z, z = vlP B (A + 4) 4 true := ⟨_, rfl⟩
  have hT : Hid (∀ wx : World, Out w wx → ∀ (d k r : Int), ((d = (A : Int) + 2 ∧ k = 2 ∧ r = z2) ∨ (d = (A : Int) + 4 ∧ k = 4 ∧ r = z4)) → Calls Tryd.prog 26 #[.slice (some ⟨b, off, none⟩) len cap, .int .i64 d, .int .i64 k, .bool true] wx fun e w' => e = .returned (.int .i64 r) ∧ wx = w') := by
    rintro wx o d k r (⟨rfl, rfl, rfl⟩ | ⟨rfl, rfl, rfl⟩)
    · rw [hz2]; exact CV.out wx o 2 2 true (.inl rfl) (by omega)
    · rw [hz4]; exact CV.out wx o 4 4 true (.inr rfl) (by omega)
  obtain ⟨yd, hyd⟩ : ∃ y, y = Y % 16 := ⟨_, rfl⟩
  obtain ⟨ys, hys⟩ : ∃ y, y = Y / 16 := ⟨_, rfl⟩
  have eX : Hid (IntKind.i64.wrap X = X) := hidOf (by rw [IntKind.wrap_i64]; omega)
  have eD : Hid ((IntKind.i64.wrap Y).tmod 16 = yd) := hidOf (by rw [show IntKind.i64.wrap Y = Y by rw [IntKind.wrap_i64]; omega, Int.tmod_eq_emod_of_nonneg y0.1, hyd])
  have eS : Hid (IntKind.i64.wrap ((IntKind.i64.wrap Y).tdiv 16) = ys) := hidOf (by rw [show IntKind.i64.wrap Y = Y by rw [IntKind.wrap_i64]; omega, Int.tdiv_eq_ediv_of_nonneg y0.1, hys, IntKind.wrap_i64]; omega)
  obtain ⟨u4, hu4⟩ : ∃ z, z = vlP B (A + 4) 4 false := ⟨_, rfl⟩
  obtain ⟨z12, hz12⟩ : ∃ z, z = vlP B (A + 12) 4 true := ⟨_, rfl⟩
  obtain ⟨u8, hu8⟩ : ∃ z, z = vlP B (A + 8) 4 false := ⟨_, rfl⟩
  have HBD : Hid (0 ≤ u4 ∧ u4 < 4294967296 ∧ -2147483648 ≤ z12 ∧ z12 < 2147483648) := hidOf (by
    rw [hu4, hz12, vl_u4, vl_s4 B hB]
    have h1 := u32_bd (hB.drop A) 4
    have h2 := u32_bd (hB.drop A) 12
    refine ⟨h1.1, h1.2, ?_⟩
    unfold sx; split <;> omega)
  have hT2 : Hid (isW X = true → ∀ wx : World, Out w wx → ∀ (d r : Int) (sg : Bool), ((d = (A : Int) + 4 ∧ r = u4 ∧ sg = false) ∨ (d = (A : Int) + 12 ∧ r = z12 ∧ sg = true) ∨ (d = (A : Int) + 8 ∧ r = u8 ∧ sg = false)) → Calls Tryd.prog 26 #[.slice (some ⟨b, off, none⟩) len cap, .int .i64 d, .int .i64 4, .bool sg] wx fun e w' => e = .returned (.int .i64 r) ∧ wx = w') := by
    rintro hwt wx o d r sg (⟨rfl, rfl, rfl⟩ | ⟨rfl, rfl, rfl⟩ | ⟨rfl, rfl, rfl⟩)
    · rw [hu4]; exact CV.out wx o 4 4 false (.inr rfl) (by omega)
    · rw [hz12]; exact CV.out wx o 12 4 true (.inr rfl) (by have := hl16 hwt; omega)
    · rw [hu8]; exact CV.out wx o 8 4 false (.inr rfl) (by have := hl16 hwt; omega)
  have HW : Hid (wideI (B.drop A) = ⟨X, yd, ys, z2, u4 + z12 * 4294967296⟩ ∧ u32 (B.drop A) 8 = u8) := hidOf (by
    refine ⟨?_, by rw [hu8, vl_u4]⟩
    rw [hz2, hu4, hz12, vl_s2 B hB, vl_s4 B hB, vl_u4]; unfold wideI; rw [gx, gy, hyd, hys, Int.mul_comm 4294967296])
  have HX : Hid ((slotI (B.drop A)) = ⟨X, yd, ys, z2, z4⟩) := hidOf (by rw [hz2, hz4, vl_s2 B hB, vl_s4 B hB]; unfold slotI; rw [gx, gy, hyd, hys])
  obtain ⟨p, hp⟩ : ∃ p, p = w.heap.size := ⟨_, rfl⟩
  go_enter Tryd.func15, Tryd.ntmps15
  have q0a : (w.alloc (.cells #[.int .i64 0, .int .i64 0, .int .i64 0, .int .i64 0, .int .i64 0] 42)).cell? ⟨b, off + A, none⟩ = some (.int .u8 X) := cell_later ((Out.refl w).alloc _) q0
  have q1a : (w.alloc (.cells #[.int .i64 0, .int .i64 0, .int .i64 0, .int .i64 0, .int .i64 0] 42)).cell? ⟨b, off + A1, none⟩ = some (.int .u8 Y) := cell_later ((Out.refl w).alloc _) q1
  have hst : (w.alloc (.cells #[.int .i64 0, .int .i64 0, .int .i64 0, .int .i64 0, .int .i64 0] 42)).heap[w.heap.size]? = some (.cells #[.int .i64 0, .int .i64 0, .int .i64 0, .int .i64 0, .int .i64 0] 42 (0, 0)) := heap_alloc_new w _
  have Hst := hidOf hst
  have HoW : Hid (Out w (w.alloc (.cells #[.int .i64 0, .int .i64 0, .int .i64 0, .int .i64 0, .int .i64 0] 42))) := (Out.refl w).alloc _
  have HhB := hidOf hB
  have Hdl := hidOf hdl
  have Hgx := hidOf gx
  have HL16 := hidOf hl16
  clear hst hc hB hdl gx gy hX hY hz2 hz4 hA1 hl16 h16 q0 q1 hyd hys hu4 hz12 hu8 CV
  have HE0 : Hid (¬ len - A < 8) := hidOf h8
  cases hw : isW X
  · have hgo : Hid (isW X = false) := hidOf hw
    have HE : Hid (errD may (B.drop A) = if may ⟨X, yd, ys, z2, z4⟩ == 0 then 0 else 32) := hidOf (by unfold errD; rw [Hdl.out, if_neg h8, Hgx.out, hw, HX.out]; simp)
    have HI : Hid (insD (B.drop A) = ⟨X, yd, ys, z2, z4⟩ ∧ sizeD (B.drop A) = 8) := hidOf (by unfold insD sizeD sizeI; rw [Hgx.out, hw, HX.out]; simp)
    clear hw
    go_upto_region 5 with (go_at_call 25; refine (refWide3 _ _).mono ?_; (try rw [hgo.out]); rintro e w1 ⟨rfl, rfl⟩)
    generalize w.alloc (.cells #[.int .i64 0, .int .i64 0, .int .i64 0, .int .i64 0, .int .i64 0] 42) = W at *
    go_region_held3 (fun w' => w'.cell? ⟨b, off + A, none⟩ = some (.int .u8 X) ∧ w'.cell? ⟨b, off + A1, none⟩ = some (.int .u8 Y)) (first | exact ⟨q0a, q1a⟩ | go_keep) (first | (go_at_call 26; refine (hT.out _ ?_ _ _ _ (by first | exact .inl ⟨rfl, rfl, rfl⟩ | exact .inr ⟨rfl, rfl, rfl⟩)).mono ?_; (first | exact HoW.out.drewN _ | exact (HoW.out.alloc _).drewN _ | exact (HoW.out.drewN _).alloc _ | exact ((HoW.out.drewN _).alloc _).drewN _); rintro e w1 ⟨rfl, rfl⟩))
    all_goals
      simp only [eX.out, eD.out, eS.out]
      have T1 : TI w (W.alloc (.cells #[.int .i64 X, .int .i64 yd, .int .i64 ys, .int .i64 z2, .int .i64 z4] 42)).drew w.heap.size W.heap.size #[.int .i64 X, .int .i64 yd, .int .i64 ys, .int .i64 z2, .int .i64 z4] := TI.box Hst.out HoW.out _
      generalize (W.alloc (.cells #[.int .i64 X, .int .i64 yd, .int .i64 ys, .int .i64 z2, .int .i64 z4] 42)).drew = W2 at *
      clear q0a q1a Hst HoW hT hT2
      generalize W.heap.size = q at *
      generalize w.heap.size = p at *
      have HT1 := hidOf T1
      obtain ⟨c0, c1, c2, c3, c4, p0, p1, p2, p3, p4, f0, f1, f2, f3, f4, g4⟩ := T1.facts
      clear T1
      have CM := hidOf (refMay3 X yd ys z2 z4)
      generalize may ⟨X, yd, ys, z2, z4⟩ = mv at *
      cases hm : (mv != 0)
      · go_wp2_with (first | (go_at_call 25; refine (refWide3 _ _).mono ?_; (try rw [hgo.out]); rintro e w1 ⟨rfl, rfl⟩) | (go_at_call 27; refine (CM.out _).mono ?_; rintro e w3 ⟨rfl, h3⟩; have T3 := HT1.out.later h3; have HT3 := hidOf T3; obtain ⟨c0, c1, c2, c3, c4, p0, p1, p2, p3, p4, f0, f1, f2, f3, f4, g4⟩ := T3.facts; clear T3))
        refine bodyPost_ret (results_row_tmp2 rfl _ _ p 42 _ (0, 0) _ rfl (set5 HT3.out.rp _ _ _ _ _) Tryd.underlying42 rfl size55) rfl ?_
        refine ⟨X, yd, ys, z2, z4, 1, ?_, fun _ => ⟨HI.out.1.symm, by rw [HI.out.2]; rfl⟩, HT3.out.done _ _ _ _ _⟩
        rw [HE.out, if_pos (by simpa using hm)]; rfl
      · have he : errD may (B.drop A) = 32 := by rw [HE.out, if_neg (by simpa using hm)]
        go_wp2_with (first | (go_at_call 25; refine (refWide3 _ _).mono ?_; (try rw [hgo.out]); rintro e w1 ⟨rfl, rfl⟩) | (go_at_call 27; refine (CM.out _).mono ?_; rintro e w3 ⟨rfl, h3⟩; have T3 := HT1.out.later h3; have HT3 := hidOf T3; obtain ⟨c0, c1, c2, c3, c4, p0, p1, p2, p3, p4, f0, f1, f2, f3, f4, g4⟩ := T3.facts; clear T3))
        refine bodyPost_ret (results_row_tmp2 rfl _ _ p 42 _ (0, 0) _ rfl (set5 HT3.out.rp _ _ _ _ _) Tryd.underlying42 rfl size55) rfl ?_
        exact ⟨0, 0, 0, 0, 0, 0, by rw [he]; rfl, fun h => by rw [he] at h; simp at h, HT3.out.done _ _ _ _ _⟩
  · have hgo : Hid (isW X = true) := hidOf hw
    have h16I : ¬ (len : Int) - A < 16 := by have := HL16.out hw; omega
    have HE : Hid (errD may (B.drop A) = if u8 == 0 then (if may ⟨X, yd, ys, z2, u4 + z12 * 4294967296⟩ == 0 then 0 else 32) else 31) := hidOf (by unfold errD; rw [Hdl.out, if_neg h8, Hgx.out, hw, HW.out.1, HW.out.2, if_neg (show ¬ len - A < 16 by have := HL16.out hw; omega)]; simp)
    have HI : Hid (insD (B.drop A) = ⟨X, yd, ys, z2, u4 + z12 * 4294967296⟩ ∧ sizeD (B.drop A) = 16) := hidOf (by unfold insD sizeD sizeI; rw [Hgx.out, hw, HW.out.1]; simp)
    clear hw
    go_upto_region 5 with (go_at_call 25; refine (refWide3 _ _).mono ?_; (try rw [hgo.out]); rintro e w1 ⟨rfl, rfl⟩)
    generalize w.alloc (.cells #[.int .i64 0, .int .i64 0, .int .i64 0, .int .i64 0, .int .i64 0] 42) = W at *
    go_region_held3 (fun w' => w'.cell? ⟨b, off + A, none⟩ = some (.int .u8 X) ∧ w'.cell? ⟨b, off + A1, none⟩ = some (.int .u8 Y)) (first | exact ⟨q0a, q1a⟩ | go_keep) (first | (go_at_call 26; refine (hT.out _ ?_ _ _ _ (by first | exact .inl ⟨rfl, rfl, rfl⟩ | exact .inr ⟨rfl, rfl, rfl⟩)).mono ?_; (first | exact HoW.out.drewN _ | exact (HoW.out.alloc _).drewN _ | exact (HoW.out.drewN _).alloc _ | exact ((HoW.out.drewN _).alloc _).drewN _); rintro e w1 ⟨rfl, rfl⟩))
    all_goals
      simp only [eX.out, eD.out, eS.out]
      have T1 : TI w (W.alloc (.cells #[.int .i64 X, .int .i64 yd, .int .i64 ys, .int .i64 z2, .int .i64 z4] 42)).drew w.heap.size W.heap.size #[.int .i64 X, .int .i64 yd, .int .i64 ys, .int .i64 z2, .int .i64 z4] := TI.box Hst.out HoW.out _
      generalize (W.alloc (.cells #[.int .i64 X, .int .i64 yd, .int .i64 ys, .int .i64 z2, .int .i64 z4] 42)).drew = W2 at *
      clear q0a q1a Hst HoW hT
      generalize W.heap.size = q at *
      generalize w.heap.size = p at *
      have HT1 := hidOf T1
      obtain ⟨c0, c1, c2, c3, c4, p0, p1, p2, p3, p4, f0, f1, f2, f3, f4, g4⟩ := T1.facts
      clear T1
      obtain ⟨a0, a1, a2, a3⟩ := HBD.out
      have T4 : TI w (W2.setCell ⟨q, 4, none⟩ (.int .i64 (u4 + z12 * 4294967296))) p q #[.int .i64 X, .int .i64 yd, .int .i64 ys, .int .i64 z2, .int .i64 (u4 + z12 * 4294967296)] := by
        have := HT1.out.set 4 (.int .i64 (u4 + z12 * 4294967296))
        simpa using this
      have HT4 := hidOf T4
      clear T4
      go_upto_region 10 with (first | (go_at_call 25; refine (refWide3 _ _).mono ?_; (try rw [hgo.out]); rintro e w1 ⟨rfl, rfl⟩) | (go_at_call 26; refine (hT2.out hgo.out _ HT1.out.out _ _ _ (by first | exact .inl ⟨rfl, rfl, rfl⟩ | exact .inr (.inl ⟨rfl, rfl, rfl⟩) | exact .inr (.inr ⟨rfl, rfl, rfl⟩))).mono ?_; rintro e w1 ⟨rfl, rfl⟩))
      clear c0 c1 c2 c3 c4 p0 p1 p2 p3 p4 f0 f1 f2 f3 f4 g4 HT1 HW HX
      generalize u4 + z12 * 4294967296 = xj at *
      generalize W2.setCell ⟨q, 4, none⟩ (.int .i64 xj) = W4 at *
      clear a0 a1 a2 a3 HBD
      obtain ⟨c0, c1, c2, c3, c4, p0, p1, p2, p3, p4, f0, f1, f2, f3, f4, g4⟩ := HT4.out.facts
      have CM := hidOf (refMay3 X yd ys z2 xj)
      generalize may ⟨X, yd, ys, z2, xj⟩ = mv at *
      cases h80 : (u8 != 0)
      · cases hm : (mv != 0)
        · have he : errD may (B.drop A) = 0 := by rw [HE.out, if_pos (by simpa using h80), if_pos (by simpa using hm)]
          go_wp2_with (first | (go_at_call 26; refine (hT2.out hgo.out _ HT4.out.out _ _ _ (.inr (.inr ⟨rfl, rfl, rfl⟩))).mono ?_; rintro e w1 ⟨rfl, rfl⟩) | (go_at_call 27; refine (CM.out _).mono ?_; rintro e w3 ⟨rfl, h3⟩; have T3 := HT4.out.later h3; have HT3 := hidOf T3; obtain ⟨c0, c1, c2, c3, c4, p0, p1, p2, p3, p4, f0, f1, f2, f3, f4, g4⟩ := T3.facts; clear T3))
          refine bodyPost_ret (results_row_tmp2 rfl _ _ p 42 _ (0, 0) _ rfl (set5 HT3.out.rp _ _ _ _ _) Tryd.underlying42 rfl size55) rfl ?_
          exact ⟨X, yd, ys, z2, xj, 2, by rw [he]; rfl, fun _ => ⟨HI.out.1.symm, by rw [HI.out.2]; rfl⟩, HT3.out.done _ _ _ _ _⟩
        · have he : errD may (B.drop A) = 32 := by rw [HE.out, if_pos (by simpa using h80), if_neg (by simpa using hm)]
          go_wp2_with (first | (go_at_call 26; refine (hT2.out hgo.out _ HT4.out.out _ _ _ (.inr (.inr ⟨rfl, rfl, rfl⟩))).mono ?_; rintro e w1 ⟨rfl, rfl⟩) | (go_at_call 27; refine (CM.out _).mono ?_; rintro e w3 ⟨rfl, h3⟩; have T3 := HT4.out.later h3; have HT3 := hidOf T3; obtain ⟨c0, c1, c2, c3, c4, p0, p1, p2, p3, p4, f0, f1, f2, f3, f4, g4⟩ := T3.facts; clear T3))
          refine bodyPost_ret (results_row_tmp2 rfl _ _ p 42 _ (0, 0) _ rfl (set5 HT3.out.rp _ _ _ _ _) Tryd.underlying42 rfl size55) rfl ?_
          exact ⟨0, 0, 0, 0, 0, 0, by rw [he]; rfl, fun h => by rw [he] at h; simp at h, HT3.out.done _ _ _ _ _⟩
      · have he : errD may (B.drop A) = 31 := by rw [HE.out, if_neg (by simpa using h80)]
        go_wp2_with (first | (go_at_call 26; refine (hT2.out hgo.out _ HT4.out.out _ _ _ (.inr (.inr ⟨rfl, rfl, rfl⟩))).mono ?_; rintro e w1 ⟨rfl, rfl⟩))
        refine bodyPost_ret (results_row_tmp2 rfl _ _ p 42 _ (0, 0) _ rfl (set5 HT4.out.rp _ _ _ _ _) Tryd.underlying42 rfl size55) rfl ?_
        exact ⟨0, 0, 0, 0, 0, 0, by rw [he]; rfl, fun h => by rw [he] at h; simp at h, HT4.out.done _ _ _ _ _⟩
end Go.Proofs.YtgephenkbbelcaaDoor
