import Derived.Test.YthififblejbleaaGreatDoorHy17
import Derived.Deep.RegionWith
namespace Go.Proofs.YthififblejbleaaGreatDoor
open Go.RowKit
set_option linter.unusedVariables false
set_option linter.unusedSimpArgs false
def upd {α : Type} (r : Nat → α) (j : Nat) (v : α) : Nat → α := fun i => if i = j then v else r i
section
variable {w wA w8 : World} {B p : Nat} {ct tt : Int} {r : Nat → Value} {L : Nat → List Iv}
theorem ShI.notp (h : ShI w B p ct tt r L) {j : Nat} (hj : j < 4) : ¬ (r j).ownBlock = some p := own_kind (h.row j hj) h.st (by decide)
theorem ShI.store (st : w.heap[p]? = some (.cells #[.int .i64 ct, .int .i64 tt, .bool false, r 0, r 1, r 2, r 3] 31 (0, 0))) (bp : B ≤ p) (j : Nat) (hj : j < 4) (v : Value) (L : Nat → List Iv)
    (row : ∀ i, i < 4 → w.ownsRow B 26 4 (upd r j v i) (L i).length (imV (L i))) (sep : ∀ i k b, i < 4 → k < 4 → ¬ i = k → (upd r j v i).ownBlock = some b → ¬ (upd r j v k).ownBlock = some b) : ShI (w.setCell ⟨p, 3 + j, none⟩ v) B p ct tt (upd r j v) L := by
  have c : Chg (fun k => k = p) w (w.setCell ⟨p, 3 + j, none⟩ v) := Chg.setCell (S := fun k => k = p) (Chg.refl _ w) (p := ⟨p, 3 + j, none⟩) rfl v
  refine ⟨?_, bp, fun i hi => owns_chg (row i hi) (fun k hk e => own_kind (row i hi) st (by decide) (by rw [hk, e])) c, sep⟩
  rw [set_atL st]
  obtain rfl | rfl | rfl | rfl : j = 0 ∨ j = 1 ∨ j = 2 ∨ j = 3 := by omega
  all_goals rfl
theorem ShI.push (h : ShI w B p ct tt r L) (j : Nat) (hj : j < 4) (o : Out w wA) {v : Value} {x : Iv} (hgrow : wA.grownBy w8 (r j).ownBlock) (hown : w8.ownsRow B 26 4 v ((L j).length + 1) (imV (L j) ++ x.cs)) (hv : ∀ b, v.ownBlock = some b → (r j).ownBlock = some b ∨ w.heap.size ≤ b) :
    ShI (w8.setCell ⟨p, 3 + j, none⟩ v) B p ct tt (upd r j v) (upd L j (L j ++ [x])) ∧ Chg (fun b => b = p ∨ (r j).ownBlock = some b) w (w8.setCell ⟨p, 3 + j, none⟩ v) := by
  have hA := h.out o
  have c8 : Chg (fun b => (r j).ownBlock = some b) wA w8 := Chg.of_grown hgrow (fun k h => h)
  have st8 : w8.heap[p]? = _ := (c8.block p hA.lt (fun e => hA.notp hj e)).trans hA.st
  refine ⟨ShI.store st8 h.bp j hj v _ (fun i hi => ?_) (fun i k b hi hk hne hib hkb => ?_), ((Chg.of_out (S := fun b => b = p ∨ (r j).ownBlock = some b) o).trans c8 (fun x hx _ => .inr hx)).setCell (p := ⟨p, 3 + j, none⟩) (.inl rfl) _⟩
  · unfold upd
    by_cases hij : i = j
    · rw [if_pos hij, if_pos hij, List.length_append, List.length_singleton, imV_app]
      have : imV [x] = x.cs := by simp [imV]
      rw [this]; exact hown
    · rw [if_neg hij, if_neg hij]
      exact owns_chg (hA.row i hi) (fun k hk e => h.sep i j k hi hj hij hk e) c8
  · unfold upd at hib hkb
    by_cases hij : i = j
    · have hkj : ¬ k = j := fun e => hne (hij.trans e.symm)
      rw [if_pos hij] at hib
      rw [if_neg hkj] at hkb
      rcases hv b hib with h1 | h1
      · exact h.sep k j b hk hj hkj hkb h1
      · have := ((h.row k hk).lt b hkb).2; omega
    · rw [if_neg hij] at hib
      by_cases hkj : k = j
      · rw [if_pos hkj] at hkb
        rcases hv b hkb with h1 | h1
        · exact h.sep i j b hi hj hij hib h1
        · have := ((h.row i hi).lt b hib).2; omega
      · rw [if_neg hkj] at hkb
        exact h.sep i k b hi hk hne hib hkb
end
theorem infoIm : (Tryz.prog.info? 26).map (fun i => (i.zero, i.size, i.bytes)) = some (some (.agg #[.slice none 0 0, .slice none 0 0, .slice none 0 0, .int .i64 0]), 4, 80) := by kernel_rfl
theorem news_drewI (w : World) (cs : Array Value) (t : TypeId) (b : Nat) (hb : b = w.heap.size) : ∀ j u, cs.toList[j]? = some u → (w.alloc (.cells cs t)).drew.cell? ((⟨b, 0, none⟩ : Addr).add j) = some u := news_new w cs t b hb
def PuE (w : World) (B p : Nat) (ct tt : Int) (r : Nat → Value) (L : Nat → List Iv) (j : Nat) (x : Iv) (wx : World) : Prop :=
  ∃ v, ShI wx B p ct tt (upd r j v) (upd L j (L j ++ [x])) ∧ Chg (fun b => b = p ∨ (r j).ownBlock = some b) w wx ∧ (∀ b, v.ownBlock = some b → (r j).ownBlock = some b ∨ w.heap.size ≤ b)
theorem ShI.pushed {w wA w8 : World} {B p : Nat} {ct tt : Int} {r : Nat → Value} {L : Nat → List Iv} (h : ShI w B p ct tt r L) (j : Nat) (hj : j < 4) (o : Out w wA) {n c g c8 : Nat} {a : Option Addr} {x : Iv} (e : r j = .slice a n c) (hn : (L j).length = n) (hown : w8.ownsRow B 26 4 (.slice (some ⟨g, 0, none⟩) (n + 1) c8) (n + 1) (imV (L j) ++ x.cs)) (hgrow : wA.grownBy w8 (Value.slice a n c).ownBlock) (hg : (Value.slice a n c).ownBlock = some g ∨ g = wA.heap.size) :
    PuE w B p ct tt r L j x (w8.setCell ⟨p, 3 + j, none⟩ (.slice (some ⟨g, 0, none⟩) (n + 1) c8)) := by
  have hB : ∀ b, (Value.slice (some ⟨g, 0, none⟩) (n + 1) c8).ownBlock = some b → (r j).ownBlock = some b ∨ w.heap.size ≤ b := fun b hb => by
    simp [Value.ownBlock] at hb
    subst hb
    rcases hg with h | h
    · exact .inl (by rw [e]; exact h)
    · right; rw [h]; exact o.size
  have := h.push j hj o (by rw [e]; exact hgrow) (by rw [hn]; exact hown) hB
  exact ⟨_, this.1, this.2, hB⟩
def SOI (p : Nat) (r : Nat → Value) (b : Nat) : Prop := b = p ∨ (r 2).ownBlock = some b ∨ (r 3).ownBlock = some b
def KpE (w : World) (B p : Nat) (ct tt : Int) (r : Nat → Value) (L : Nat → List Iv) (x : Iv) (M : Img) (w' : World) : Prop :=
  ∃ v2 v3 y, ShI w' B p ct tt (upd (upd r 2 v2) 3 v3) (upd (upd L 2 (L 2 ++ [x])) 3 (L 3 ++ [y])) ∧ HoI w' x M ∧ HoI w' y M ∧ (∀ b, y.blk b → w.heap.size ≤ b) ∧ Chg (SOI p r) w w' ∧ (∀ b, v2.ownBlock = some b → (r 2).ownBlock = some b ∨ w.heap.size ≤ b) ∧ (∀ b, v3.ownBlock = some b → (r 3).ownBlock = some b ∨ w.heap.size ≤ b)
theorem HoI.so {w : World} {B p : Nat} {ct tt : Int} {r : Nat → Value} {L : Nat → List Iv} (h : ShI w B p ct tt r L) {x : Iv} {M : Img} (hx : HoI w x M) (b : Nat) (hb : x.blk b) (j : Nat) (hj : j < 4) : ¬ b = p ∧ ¬ (r j).ownBlock = some b := by
  have key : ∀ {e : TypeId} {cs : Array Value}, w.heap[b]? = some (.cells cs e (0, 0)) → ¬ e = 31 → ¬ 26 = e → ¬ b = p ∧ ¬ (r j).ownBlock = some b := fun h1 h2 h3 => by
    refine ⟨fun e => ?_, own_kind (h.row j hj) h1 h3⟩
    rw [e, h.st] at h1; simp at h1; exact h2 h1.2.symm
  rcases hb with hb | hb | hb
  · obtain ⟨_, cs, h1⟩ := hx.t.blk b hb; exact key h1 (by decide) (by decide)
  · obtain ⟨_, cs, h1⟩ := hx.f.blk b hb; exact key h1 (by decide) (by decide)
  · obtain ⟨_, cs, h1⟩ := hx.d.blk b hb; exact key h1 (by decide) (by decide)
theorem copyIV (w : World) (x : Iv) (M : Img) (hx : HoI w x M) (hs : SzI M) (nT nF nD : Nat) (en : Int) (ta fa da : Option Addr) (tc fc dc : Nat) (e : x = ⟨.slice ta nT tc, .slice fa nF fc, .slice da nD dc, en⟩) : Calls Tryz.prog 36 #[.agg #[.slice ta nT tc, .slice fa nF fc, .slice da nD dc, .int .i64 en]] w fun e w' => ∃ a2 c2 a3 c3 a4 c4, e = .returned (.agg #[.slice a2 nT c2, .slice a3 nF c3, .slice a4 nD c4, .int .i64 en]) ∧ HoI w' ⟨.slice a2 nT c2, .slice a3 nF c3, .slice a4 nD c4, en⟩ M ∧ (∀ b, (Iv.mk (.slice a2 nT c2) (.slice a3 nF c3) (.slice a4 nD c4) en).blk b → w.heap.size ≤ b) ∧ Out w w' := by
  obtain ⟨ta', tc', fa', fc', da', dc', e2, hS⟩ := hx.s
  rw [e] at e2
  simp only [Iv.mk.injEq, Value.slice.injEq] at e2
  obtain ⟨⟨rfl, rfl, rfl⟩, ⟨rfl, rfl, rfl⟩, ⟨rfl, rfl, rfl⟩, rfl⟩ := e2
  refine (copyImage_any M w ta fa da tc fc dc hS hs.1 hs.2.1 hs.2.2).mono ?_
  rintro e' w' ⟨a2, c2, a3, c3, a4, c4, rfl, h1, h2, h3, ho⟩
  refine ⟨a2, c2, a3, c3, a4, c4, rfl, ⟨Ho.own (K := kI) h1, Ho.own (K := kF) h2, Ho.own (K := kD) h3, rfl⟩, fun b hb => ?_, ho⟩
  rcases hb with hb | hb | hb
  · exact (h1.lt b hb).1
  · exact (h2.lt b hb).1
  · exact (h3.lt b hb).1
set_option maxRecDepth 20000 in
set_option maxHeartbeats 4000000 in
theorem keepI_any (w : World) (B p : Nat) (ct tt : Int) (r : Nat → Value) (L : Nat → List Iv) (h : ShI w B p ct tt r L) (hK : (L 2).length ≤ 1000) (hl2 : (L 3).length = (L 2).length) (x : Iv) (M : Img) (hx : HoI w x M) (hs : SzI M) :
    Calls Tryz.prog 73 #[.pointer (some ⟨p, 0, none⟩), .agg #[x.t, x.f, x.d, .int .i64 x.e]] w fun e w' => (∃ q, e = .returned q) ∧ KpE w B p ct tt r L x M w' := by
  obtain ⟨i0, hi, hz0, hz1, hz2⟩ := info_parts infoIm
  obtain ⟨n2, hn2⟩ : ∃ n, Hid ((L 2).length = n) := ⟨_, rfl⟩
  obtain ⟨n3, hn3⟩ : ∃ n, Hid ((L 3).length = n) := ⟨_, rfl⟩
  obtain ⟨a2, c2, e2⟩ := own_form (h.row 2 (by omega))
  obtain ⟨a3, c3, e3⟩ := own_form (h.row 3 (by omega))
  have b2 : n2 ≤ 1000 := by rw [← hn2.out]; exact hK
  have b3 : n3 ≤ 1000 := by rw [← hn3.out, hl2]; exact hK
  rw [hn2.out] at e2
  rw [hn3.out] at e3
  obtain ⟨ta, tc, fa, fc, da, dc, ex, _⟩ := hx.s
  obtain ⟨nT, hT⟩ : ∃ n, M.T.length = n := ⟨_, rfl⟩
  obtain ⟨nF, hF⟩ : ∃ n, M.F.length = n := ⟨_, rfl⟩
  obtain ⟨nD, hD⟩ : ∃ n, M.D.length = n := ⟨_, rfl⟩
  obtain ⟨en, hE⟩ : ∃ n, M.en = n := ⟨_, rfl⟩
  rw [hT, hF, hD, hE] at ex
  obtain ⟨wA, hwA⟩ : ∃ wA, Hid (wA = w.alloc (.cells #[.slice ta nT tc, .slice fa nF fc, .slice da nD dc, .int .i64 en] 26)) := ⟨_, rfl⟩
  obtain ⟨q, hq⟩ : ∃ q, Hid (q = w.heap.size) := ⟨_, rfl⟩
  have OA : Hid (Out w wA) := hidOf (by rw [hwA.out]; exact Out.alloc (Out.refl _) _)
  have BX : Hid (BxI wA q (.slice ta nT tc) (.slice fa nF fc) (.slice da nD dc) en) := hidOf (by show wA.heap[q]? = _; rw [hwA.out, hq.out]; exact heap_alloc_new w _)
  have H := hidOf (h.out OA.out)
  have H0 := hidOf h
  have HX := hidOf hx
  have E2 := hidOf e2
  have E3 := hidOf e3
  have EX := hidOf ex
  have R2 : Hid (∀ wx, Out wA wx → wx.ownsRow B 26 4 (.slice a2 n2 c2) n2 (imV (L 2))) := fun wx o => by
    have := (H.out.out o).row 2 (by omega)
    rw [e2, hn2.out] at this; exact this
  have HP : Hid (∀ wx w8, Out wA wx → wx.grownBy w8 (Value.slice a2 n2 c2).ownBlock → w8.cell? ⟨p, 5, none⟩ = some (.slice a2 n2 c2) ∧ w8.frozen? ⟨p, 5, none⟩ = false) := fun wx w8 o hg => by
    have hA := H.out.out o
    have hs : w8.heap[p]? = _ := (hg.block p hA.lt (fun e => hA.notp (j := 2) (by omega) (by rw [e2]; exact e.symm))).trans hA.st
    exact ⟨by rw [cell_atL hs, ← e2]; rfl, frozen_atL hs 5⟩
  have CP : Hid (∀ wx, HoI wx ⟨.slice ta nT tc, .slice fa nF fc, .slice da nD dc, en⟩ M → Calls Tryz.prog 36 #[.agg #[.slice ta nT tc, .slice fa nF fc, .slice da nD dc, .int .i64 en]] wx fun e w' => ∃ a2 c2 a3 c3 a4 c4, e = .returned (.agg #[.slice a2 nT c2, .slice a3 nF c3, .slice a4 nD c4, .int .i64 en]) ∧ HoI w' ⟨.slice a2 nT c2, .slice a3 nF c3, .slice a4 nD c4, en⟩ M ∧ (∀ b, (Iv.mk (.slice a2 nT c2) (.slice a3 nF c3) (.slice a4 nD c4) en).blk b → wx.heap.size ≤ b) ∧ Out wx w') := fun wx hx => copyIV wx _ M hx hs nT nF nD en ta fa da tc fc dc rfl
  have szB : B ≤ wA.heap.size := by have := H.out.lt; have := H.out.bp; omega
  have k5 : wA.cell? ⟨p, 5, none⟩ = some (.slice a2 n2 c2) := by rw [cell_atL H.out.st, ← e2]; rfl
  have k5a : ∀ O, (wA.alloc O).cell? ⟨p, 5, none⟩ = some (.slice a2 n2 c2) := fun O => cell_later ((Out.refl wA).alloc O) k5
  obtain ⟨x0, x1, x2, x3⟩ := BX.out.cell
  subst ex
  clear h hl2 hK e2 e3 hx
  go_enter Tryz.func73, Tryz.ntmps73
  go_upto_region 1 with fail
  rw [← hwA.out, ← hq.out]
  go_cut [11] (fun s11 wx => ∃ g c, s11 = .slice (some ⟨g, 0, none⟩) (n2 + 1) c ∧ PuE wA B p ct tt r L 2 ⟨.slice ta nT tc, .slice fa nF fc, .slice da nD dc, en⟩ wx)
  case first =>
    clear CP HX
    go_region_law (first | (refine step_append_lies _ rfl (.tmp 8) (.tmp 10) 29 rfl B 26 i0 _ 4 80 Tryz.underlying29 hi hz0 hz1 hz2 rfl (by decide) (.slice a2 n2 c2) n2 (imV (L 2)) rfl (R2.out _ (by repeat (first | exact Out.refl _ | apply Out.alloc | apply Out.drew | apply Out.drewN))) ⟨wA.heap.size, 0, none⟩ 1 1 [.slice ta nT tc, .slice fa nF fc, .slice da nD dc, .int .i64 en] rfl rfl (by first | exact news_new wA _ _ _ rfl | exact news_drewI wA _ _ _ rfl) (by intro u hu; simp at hu; rcases hu with rfl | rfl | rfl | rfl <;> rfl) (by decide) (by unfold maxLen; omega) (by omega) (by first | exact Nat.le_trans szB (Out.size (by repeat (first | exact Out.refl _ | apply Out.alloc | apply Out.drew | apply Out.drewN)))) _ rfl ?_; intro g8 cap8 w8 hown8 hgrow8 hg8 hlt8; obtain ⟨q8, f8⟩ := HP.out _ w8 (by repeat (first | exact Out.refl _ | apply Out.alloc | apply Out.drew | apply Out.drewN)) hgrow8; have W8 := hidOf hown8; have G8 := hidOf hgrow8; have Hg8 := hidOf hg8; clear hown8 hgrow8 hg8 hlt8))
    all_goals
      go_wp2
      go_meet
      exact ⟨_, _, rfl, H.out.pushed 2 (by omega) (by repeat (first | exact Out.refl _ | apply Out.alloc | apply Out.drew | apply Out.drewN)) E2.out hn2.out W8.out G8.out Hg8.out⟩
  case rest =>
    obtain ⟨g8, c8, rfl, v2, s2, ch2, bb2⟩ := hcut
    have S2 := hidOf s2
    have C2 := hidOf ch2
    have B2 := hidOf bb2
    have k6 : wc.cell? ⟨p, 6, none⟩ = some (.slice a3 n3 c3) := by rw [cell_atL s2.st, ← E3.out]; rfl
    have BX2 : Hid (BxI wc q (.slice ta nT tc) (.slice fa nF fc) (.slice da nD dc) en) := hidOf ((ch2.block q BX.out.lt (fun e => by
      rcases e with e | e
      · have := H0.out.lt; rw [hq.out] at e; omega
      · have := ((H0.out.row 2 (by omega)).lt q e).2; rw [hq.out] at this; omega)).trans BX.out)
    obtain ⟨y0, y1, y2, y3⟩ := BX2.out.cell
    have HXc : Hid (HoI wc ⟨.slice ta nT tc, .slice fa nF fc, .slice da nD dc, en⟩ M) := hidOf ((HX.out.out OA.out).chg ch2 (fun b hb e => by
      obtain ⟨h1, h2⟩ := HoI.so H.out (HX.out.out OA.out) b hb 2 (by omega)
      rcases e with e | e
      · exact h1 e
      · exact h2 e))
    have R3 : Hid (∀ wx, Out wc wx → wx.ownsRow B 26 4 (.slice a3 n3 c3) n3 (imV (L 3))) := fun wx o => by
      have := (S2.out.out o).row 3 (by omega)
      have h2 : wx.ownsRow B 26 4 (r 3) (L 3).length (imV (L 3)) := this
      rw [E3.out, hn3.out] at h2; exact h2
    have HP3 : Hid (∀ wx w8, Out wc wx → wx.grownBy w8 (Value.slice a3 n3 c3).ownBlock → w8.cell? ⟨p, 6, none⟩ = some (.slice a3 n3 c3) ∧ w8.frozen? ⟨p, 6, none⟩ = false) := fun wx w8 o hg => by
      have hA := S2.out.out o
      have hs : w8.heap[p]? = _ := (hg.block p hA.lt (fun e => hA.notp (j := 3) (by omega) (by show (r 3).ownBlock = _; rw [E3.out]; exact e.symm))).trans hA.st
      exact ⟨by rw [cell_atL hs, ← E3.out]; rfl, frozen_atL hs 6⟩
    have szC : B ≤ wc.heap.size := by have := S2.out.lt; have := S2.out.bp; omega
    have k6a : ∀ O, (wc.alloc O).cell? ⟨p, 6, none⟩ = some (.slice a3 n3 c3) := fun O => cell_later ((Out.refl wc).alloc O) k6
    clear s2 ch2 bb2 k5 k5a x0 x1 x2 x3 R2 HP
    go_upto_region 2 with fail
    go_region_law (first | (refine step_append_lies _ rfl (.tmp 18) (.tmp 21) 29 rfl B 26 i0 _ 4 80 Tryz.underlying29 hi hz0 hz1 hz2 rfl (by decide) (.slice a3 n3 c3) n3 (imV (L 3)) rfl (R3.out _ (Out.trans Ho5.out (by repeat (first | exact Out.refl _ | apply Out.alloc | apply Out.drew | apply Out.drewN)))) ⟨w5.heap.size, 0, none⟩ 1 1 [.slice a5 nT c5, .slice a6 nF c6, .slice a7 nD c7, .int .i64 en] rfl rfl (by first | exact news_new w5 _ _ _ rfl | exact news_drewI w5 _ _ _ rfl) (by intro u hu; simp at hu; rcases hu with rfl | rfl | rfl | rfl <;> rfl) (by decide) (by unfold maxLen; omega) (by omega) (Nat.le_trans szC (Out.size (Out.trans Ho5.out (by repeat (first | exact Out.refl _ | apply Out.alloc | apply Out.drew | apply Out.drewN))))) _ rfl ?_; intro g9 cap9 w9 hown9 hgrow9 hg9 hlt9; obtain ⟨q9, f9⟩ := HP3.out _ w9 (Out.trans Ho5.out (by repeat (first | exact Out.refl _ | apply Out.alloc | apply Out.drew | apply Out.drewN))) hgrow9; have W9 := hidOf hown9; have G9 := hidOf hgrow9; have Hg9 := hidOf hg9; clear hown9 hgrow9 hg9 hlt9) | (go_simp; go_at_call 36; refine (CP.out _ (HXc.out.out (by repeat (first | exact Out.refl _ | apply Out.alloc | apply Out.drew | apply Out.drewN)))).mono ?_; rintro e w5 ⟨a5, c5, a6, c6, a7, c7, rfl, hown5, hnew5, ho5⟩; (try dsimp only); have Ho5 : Hid (Out wc w5) := hidOf (Out.trans (by repeat (first | exact Out.refl _ | apply Out.alloc | apply Out.drew | apply Out.drewN)) ho5); have Hown5 := hidOf hown5; have Hnew5 : Hid (∀ b, (Iv.mk (.slice a5 nT c5) (.slice a6 nF c6) (.slice a7 nD c7) en).blk b → wc.heap.size ≤ b) := hidOf hnew5; have k65 : w5.cell? ⟨p, 6, none⟩ = some (.slice a3 n3 c3) := cell_later Ho5.out k6; have k65a : ∀ O, (w5.alloc O).cell? ⟨p, 6, none⟩ = some (.slice a3 n3 c3) := fun O => cell_later ((Out.refl w5).alloc O) k65; clear hown5 ho5 hnew5))
    all_goals
      go_wp2
      go_end0
      obtain ⟨v3, s3, ch3, bb3⟩ := S2.out.pushed 3 (by omega) (Out.trans Ho5.out (by repeat (first | exact Out.refl _ | apply Out.alloc | apply Out.drew | apply Out.drewN))) (x := ⟨.slice a5 nT c5, .slice a6 nF c6, .slice a7 nD c7, en⟩) (show (upd r 2 v2) 3 = _ from E3.out) hn3.out W9.out G9.out Hg9.out
      have zA := OA.out.size
      have zc := C2.out.size
      refine ⟨⟨_, rfl⟩, v2, v3, _, s3, HXc.out.chg ch3 (fun b hb e => ?_), (Hown5.out.chg (w' := _) (S := fun b => b = p ∨ (r 3).ownBlock = some b) ?_ (fun b hb e => ?_)), fun b hb => by have := Hnew5.out b hb; omega, ?_, fun b hb => by
        rcases B2.out b hb with h | h
        · exact .inl h
        · right; omega, fun b hb => by
        rcases bb3 b hb with h | h
        · exact .inl h
        · right; omega⟩
      · obtain ⟨h1, h2⟩ := HoI.so S2.out HXc.out b hb 3 (by omega)
        rcases e with e | e
        · exact h1 e
        · exact h2 e
      · exact ((Chg.of_out (S := fun b => b = p ∨ (r 3).ownBlock = some b) (by repeat (first | exact Out.refl _ | apply Out.alloc | apply Out.drew | apply Out.drewN))).trans (Chg.of_grown (S := fun b => (Value.slice a3 n3 c3).ownBlock = some b) G9.out (fun k h => h)) (fun x hx _ => .inr (by rw [E3.out]; exact hx))).setCell (p := ⟨p, 6, none⟩) (.inl rfl) _
      · obtain ⟨h1, h2⟩ := HoI.so (S2.out.out Ho5.out) Hown5.out b hb 3 (by omega)
        rcases e with e | e
        · exact h1 e
        · exact h2 e
      · refine ((Chg.of_out (S := SOI p r) OA.out).trans C2.out (fun b hb _ => ?_)).trans ch3 (fun b hb _ => ?_)
        · rcases hb with h | h
          · exact .inl h
          · exact .inr (.inl h)
        · rcases hb with h | h
          · exact .inl h
          · exact .inr (.inr h)
end Go.Proofs.YthififblejbleaaGreatDoor
