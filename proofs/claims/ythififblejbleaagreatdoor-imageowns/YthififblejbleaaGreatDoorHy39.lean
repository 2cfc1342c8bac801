import Derived.Test.YthififblejbleaaGreatDoorHy21
import Derived.Test.YthififblejbleaaGreatDoorHy38
namespace Go.Proofs.YthififblejbleaaGreatDoor
open Go.RowKit
set_option linter.unusedVariables false
set_option linter.unusedSimpArgs false
def lenV : Value → Nat
  | .slice _ n _ => n
  | _ => 0
def nTj (F : List Iv) (j : Nat) : Nat := match F[j]? with | some z => lenV z.t | none => 0
def nFj (F : List Iv) (j : Nat) : Nat := match F[j]? with | some z => lenV z.f | none => 0
def nDj (F : List Iv) (j : Nat) : Nat := match F[j]? with | some z => lenV z.d | none => 0
theorem HoI.len {w : World} {z : Iv} {M : Img} (h : HoI w z M) : lenV z.t = M.T.length ∧ lenV z.f = M.F.length ∧ lenV z.d = M.D.length := by
  obtain ⟨ta, tc, fa, fc, da, dc, e, _⟩ := h.s
  rw [e]; exact ⟨rfl, rfl, rfl⟩
def SmI (z : Iv) : Prop := lenV z.t ≤ 100000000 ∧ lenV z.f ≤ 100000000 ∧ lenV z.d ≤ 100000000
structure QI (w : World) (B p : Nat) (ct tt : Int) (r : Nat → Value) (L : Nat → List Iv) : Prop where
  sh : ShI w B p ct tt r L
  e1 : (L 1).length = (L 0).length
  e3 : (L 3).length = (L 2).length
  p0 : PrI w (L 0) (L 1)
  p2 : PrI w (L 2) (L 3)
  fd : FdI B (L 0)
  ap : ∀ (l : Nat) x, ((L 1)[l]? = some x ∨ (L 2)[l]? = some x ∨ (L 3)[l]? = some x) → ∀ (j : Nat) z, (L 0)[j]? = some z → ∀ b, x.blk b → ¬ z.blk b
  sz : ∀ (j : Nat) z, (L 0)[j]? = some z → SmI z
theorem pair_of {w : World} {X Y : List Iv} (h : PrI w X Y) (hl : Y.length = X.length) {l : Nat} {x : Iv} (hx : X[l]? = some x ∨ Y[l]? = some x) : ∃ M, HoI w x M ∧ SzI M := by
  have hlt : l < X.length := by
    rcases hx with h | h
    · exact (List.getElem?_eq_some_iff.1 h).1
    · rw [← hl]; exact (List.getElem?_eq_some_iff.1 h).1
  obtain ⟨u, hu⟩ : ∃ u, X[l]? = some u := ⟨_, List.getElem?_eq_getElem hlt⟩
  obtain ⟨v, hv⟩ : ∃ v, Y[l]? = some v := ⟨_, List.getElem?_eq_getElem (by rw [hl]; exact hlt)⟩
  obtain ⟨M, h1, h2, h3⟩ := h l u v hu hv
  rcases hx with hx | hx
  · rw [hu] at hx; obtain rfl := Option.some.inj hx; exact ⟨M, h1, h3⟩
  · rw [hv] at hx; obtain rfl := Option.some.inj hx; exact ⟨M, h2, h3⟩
section
variable {w w' : World} {B p : Nat} {ct tt : Int} {r : Nat → Value} {L : Nat → List Iv}
theorem QI.ent (h : QI w B p ct tt r L) {j l : Nat} (hj : j < 4) {x : Iv} (hx : (L j)[l]? = some x) : ∃ M, HoI w x M ∧ SzI M := by
  obtain rfl | rfl | rfl | rfl : j = 0 ∨ j = 1 ∨ j = 2 ∨ j = 3 := by omega
  · exact pair_of h.p0 h.e1 (.inl hx)
  · exact pair_of h.p0 h.e1 (.inr hx)
  · exact pair_of h.p2 h.e3 (.inl hx)
  · exact pair_of h.p2 h.e3 (.inr hx)
theorem QI.lt (h : QI w B p ct tt r L) {j l : Nat} (hj : j < 4) {x : Iv} (hx : (L j)[l]? = some x) (b : Nat) (hb : x.blk b) : b < w.heap.size := by
  obtain ⟨M, h1, _⟩ := h.ent hj hx
  exact h1.lt b hb
theorem prI_away {S : Nat → Prop} {X Y : List Iv} (h : PrI w X Y) (c : Chg S w w') (hS : ∀ b, S b → b < w.heap.size → ¬ LsB w b) : PrI w' X Y := fun i x y hx hy => by
  obtain ⟨M, h1, h2, h3⟩ := h i x y hx hy
  exact ⟨M, h1.chg c (fun b hb e => hS b e (h1.lt b hb) (h1.ls b hb)), h2.chg c (fun b hb e => hS b e (h2.lt b hb) (h2.ls b hb)), h3⟩
theorem QI.away {S : Nat → Prop} (h : QI w B p ct tt r L) (c : Chg S w w') (hS : ∀ b, S b → b < w.heap.size → ¬ K5 w b) : QI w' B p ct tt r L := by
  have hl : ∀ b, S b → b < w.heap.size → ¬ LsB w b := fun b hb hlt e => hS b hb hlt e.k5
  exact ⟨⟨(c.block p h.sh.lt (fun e => hS p e h.sh.lt (h.sh.k5 p (.inl rfl)).2)).trans h.sh.st, h.sh.bp, fun j hj => owns_chg (h.sh.row j hj) (fun b hb e => hS b e ((h.sh.row j hj).lt b hb).2 (h.sh.k5 b (.inr ⟨j, hj, hb⟩)).2) c, h.sh.sep⟩, h.e1, h.e3, prI_away h.p0 c hl, prI_away h.p2 c hl, h.fd, h.ap, h.sz⟩
theorem QI.out (h : QI w B p ct tt r L) (o : Out w w') : QI w' B p ct tt r L := h.away (S := fun _ => False) (Chg.of_out o) (fun _ h => h.elim)
theorem QI.holds (h : QI w B p ct tt r L) (h0 : (L 0).length ≤ 1000) (h2 : (L 2).length ≤ 1000) : Calls Tryz.prog 14 #[.pointer (some ⟨p, 0, none⟩)] w fun e w' => e = .returned (.bool true) ∧ Out w w' := holdsI_any w B p ct tt r L h.sh h.e1 h.p0 h0 h.e3 h.p2 h2
theorem QI.add {S : Nat → Prop} {ct' tt' : Int} {r' : Nat → Value} {x y : Iv} {M : Img} (h : QI w B p ct tt r L) (c : Chg S w w') (hS : ∀ b, S b → b < w.heap.size → ¬ LsB w b) (sh : ShI w' B p ct' tt' r' (upd (upd L 0 (L 0 ++ [x])) 1 (L 1 ++ [y]))) (hx : HoI w' x M) (hy : HoI w' y M) (hM : SzI M) (sm : SmI x) (hB : ∀ b, x.blk b → B ≤ b) (hxl : ∀ b, x.blk b → b < w.heap.size) (hyn : ∀ b, y.blk b → w.heap.size ≤ b)
    (hn : ∀ j, j < 4 → ∀ (l : Nat) z, (L j)[l]? = some z → ∀ b, z.blk b → ¬ x.blk b) : QI w' B p ct' tt' r' (upd (upd L 0 (L 0 ++ [x])) 1 (L 1 ++ [y])) := by
  have u0 : (upd (upd L 0 (L 0 ++ [x])) 1 (L 1 ++ [y])) 0 = L 0 ++ [x] := rfl
  have u1 : (upd (upd L 0 (L 0 ++ [x])) 1 (L 1 ++ [y])) 1 = L 1 ++ [y] := rfl
  have last : ∀ {X : List Iv} {u v : Iv} {l : Nat}, (X ++ [u])[l]? = some v → X[l]? = some v ∨ (l = X.length ∧ v = u) := fun {X u v l} hu => by
    by_cases hl : l < X.length
    · rw [List.getElem?_append_left hl] at hu; exact .inl hu
    · rw [List.getElem?_append_right (by omega)] at hu
      have h0 : l - X.length = 0 := by have := (List.getElem?_eq_some_iff.1 hu).1; simp at this; omega
      rw [h0] at hu; simp at hu; exact .inr ⟨by omega, hu.symm⟩
  refine ⟨sh, by rw [u0, u1]; simp [h.e1], h.e3, ?_, prI_away h.p2 c hS, ⟨?_, ?_⟩, ?_, ?_⟩
  · intro l a b ha hb
    rw [u0] at ha
    rw [u1] at hb
    rcases last ha with ha | ⟨e, rfl⟩
    · rcases last hb with hb | ⟨e', rfl⟩
      · exact prI_away h.p0 c hS l a b ha hb
      · have := (List.getElem?_eq_some_iff.1 ha).1; rw [e', h.e1] at this; omega
    · rcases last hb with hb | ⟨e', rfl⟩
      · have := (List.getElem?_eq_some_iff.1 hb).1; rw [e, h.e1] at this; omega
      · exact ⟨M, hx, hy, hM⟩
  · intro j z hz b hb
    rw [u0] at hz
    rcases last hz with hz | ⟨_, rfl⟩
    · exact h.fd.fb j z hz b hb
    · exact hB b hb
  · intro i j a b ha hb k hk1 hk2
    rw [u0] at ha hb
    rcases last ha with ga | ⟨e, rfl⟩
    · rcases last hb with gb | ⟨e', rfl⟩
      · exact h.fd.fd i j a b ga gb k hk1 hk2
      · exact (hn 0 (by omega) i a ga k hk1 hk2).elim
    · rcases last hb with gb | ⟨e', rfl⟩
      · exact (hn 0 (by omega) j b gb k hk2 hk1).elim
      · omega
  · intro l u hu j z hz b h1 h2
    rw [u0] at hz
    have hold : (∃ k, k < 4 ∧ ¬ k = 0 ∧ (L k)[l]? = some u) ∨ u = y := by
      rcases hu with hu | hu | hu
      · rw [u1] at hu
        rcases last hu with hu | ⟨_, rfl⟩
        · exact .inl ⟨1, by omega, by omega, hu⟩
        · exact .inr rfl
      · exact .inl ⟨2, by omega, by omega, hu⟩
      · exact .inl ⟨3, by omega, by omega, hu⟩
    rcases hold with ⟨k, hk, hk0, gu⟩ | rfl
    · rcases last hz with hz | ⟨_, rfl⟩
      · refine h.ap l u ?_ j z hz b h1 h2
        obtain rfl | rfl | rfl : k = 1 ∨ k = 2 ∨ k = 3 := by omega
        · exact .inl gu
        · exact .inr (.inl gu)
        · exact .inr (.inr gu)
      · exact hn k hk l u gu b h1 h2
    · have := hyn b h1
      rcases last hz with hz | ⟨_, rfl⟩
      · have := h.lt (j := 0) (by omega) hz b h2; omega
      · have := hxl b h2; omega
  · intro j z hz
    rw [u0] at hz
    rcases last hz with hz | ⟨_, rfl⟩
    · exact h.sz j z hz
    · exact sm
theorem QI.write (h : QI w B p ct tt r L) (h1 : 0 < (L 0).length) (h3 : (L 0).length ≤ 3) (hk : (L 2).length ≤ 100) (c0 : 0 ≤ ct) (c1 : ct ≤ 900) (t0 : 0 ≤ tt) (t1 : tt ≤ 700000000) : Calls Tryz.prog 37 #[.pointer (some ⟨p, 0, none⟩)] w fun e w' => (∃ q, e = .returned q) ∧ ∃ r' L', QI w' B p (ct + ((L 0).length : Int)) tt r' L' ∧ (L' 0).length = 0 ∧ (L' 2).length ≤ (L 2).length + 12 ∧ Chg (SQ w B) w w' := by
  have hfm : FM w ct (L 0) (nTj (L 0)) (nFj (L 0)) (nDj (L 0)) z0 z0 z0 := fun j z hz => by
    obtain ⟨M, m1, _⟩ := h.ent (j := 0) (by omega) hz
    obtain ⟨q1, q2, q3⟩ := m1.len
    have e1 : nTj (L 0) j = M.T.length := by unfold nTj; rw [hz]; exact q1
    have e2 : nFj (L 0) j = M.F.length := by unfold nFj; rw [hz]; exact q2
    have e3 : nDj (L 0) j = M.D.length := by unfold nDj; rw [hz]; exact q3
    rw [e1, e2, e3]
    exact ⟨MP.of_ho kI_ok m1.t (rowI_len _) _ _, MP.of_ho kF_ok m1.f (rowF_len _) _ _, MP.of_ho kD_ok m1.d (rowD_len _) _ _⟩
  have hsz : ∀ j, nTj (L 0) j ≤ 100000000 ∧ nFj (L 0) j ≤ 100000000 ∧ nDj (L 0) j ≤ 100000000 := fun j => by
    unfold nTj nFj nDj
    cases hz : (L 0)[j]? with
    | none => simp
    | some z => exact h.sz j z hz
  refine (writeI_any w B p ct tt r L (L 0) _ _ _ h.sh rfl hfm hsz h.fd (L 0).length (L 2).length rfl h1 h3 h.e1 h.p0 h.e3 h.p2 rfl hk (fun l x hx j z hz b a1 a2 => h.ap l x (.inr hx) j z hz b a1 a2) c0 c1 t0 t1).mono ?_
  rintro e w' ⟨he, r', L', s1, s2, s3, s4, s5, s6, s7⟩
  refine ⟨he, r', L', ⟨s1, by rw [s2, s3], s4, ?_, s5, ⟨?_, ?_⟩, ?_, ?_⟩, by rw [s2]; rfl, by omega, s7⟩
  · intro i x y hx; rw [s2] at hx; simp at hx
  · intro j z hz; rw [s2] at hz; simp at hz
  · intro i j x y hx; rw [s2] at hx; simp at hx
  · intro l x hx j z hz; rw [s2] at hz; simp at hz
  · intro j z hz; rw [s2] at hz; simp at hz
end
def OwE (w : World) (B p : Nat) (ct tt : Int) (c0 : Nat) (e : Ending) (w' : World) : Prop :=
  (∃ q, e = .returned q) ∧ ∃ ct' r' L', QI w' B p ct' tt r' L' ∧ (L' 0).length ≤ 2 ∧ (L' 2).length ≤ c0 + 12 ∧ ct ≤ ct' ∧ ct' ≤ ct + 4 ∧ Chg (SQ w B) w w'
set_option maxRecDepth 20000 in
set_option maxHeartbeats 8000000 in
theorem ownI_any (w : World) (B p : Nat) (ct tt : Int) (r : Nat → Value) (L : Nat → List Iv) (h : QI w B p ct tt r L) (h0 : (L 0).length ≤ 2) (hk : (L 2).length ≤ 100) (x : Iv) (M : Img) (hx : HoI w x M) (nT nF nD : Nat) (en : Int) (hT : M.T.length = nT) (hF : M.F.length = nF) (hD : M.D.length = nD) (ta fa da : Option Addr) (tc fc dc : Nat) (ex : x = ⟨.slice ta nT tc, .slice fa nF fc, .slice da nD dc, en⟩) (bT : nT ≤ 100000000) (bF : nF ≤ 100000000) (bD : nD ≤ 100000000) (hB : ∀ b, x.blk b → B ≤ b) (hn : ∀ j, j < 4 → ∀ (l : Nat) z, (L j)[l]? = some z → ∀ b, z.blk b → ¬ x.blk b)
    (hct0 : 0 ≤ ct) (hct1 : ct ≤ 800) (htt0 : 0 ≤ tt) (htt1 : tt ≤ 300000000) :
    Calls Tryz.prog 13 #[.pointer (some ⟨p, 0, none⟩), .agg #[.slice ta nT tc, .slice fa nF fc, .slice da nD dc, .int .i64 en]] w (OwE w B p ct (tt + nT + nF + nD) (L 2).length) := by
  obtain ⟨i0, hi, hz0, hz1, hz2⟩ := info_parts infoIm
  obtain ⟨l0, hl0⟩ : ∃ n, Hid ((L 0).length = n) := ⟨_, rfl⟩
  obtain ⟨a2, c2, e2⟩ := own_form (h.sh.row 0 (by omega))
  obtain ⟨a3, c3, e3⟩ := own_form (h.sh.row 1 (by omega))
  have b2 : l0 ≤ 2 := by rw [← hl0.out]; exact h0
  rw [hl0.out] at e2
  rw [h.e1, hl0.out] at e3
  obtain ⟨wA, hwA⟩ : ∃ wA, Hid (wA = w.alloc (.cells #[.slice ta nT tc, .slice fa nF fc, .slice da nD dc, .int .i64 en] 26)) := ⟨_, rfl⟩
  obtain ⟨q, hq⟩ : ∃ q, Hid (q = w.heap.size) := ⟨_, rfl⟩
  have OA : Hid (Out w wA) := hidOf (by rw [hwA.out]; exact Out.alloc (Out.refl _) _)
  have BX : Hid (BxI wA q (.slice ta nT tc) (.slice fa nF fc) (.slice da nD dc) en) := hidOf (by show wA.heap[q]? = _; rw [hwA.out, hq.out]; exact heap_alloc_new w _)
  have H := hidOf h
  have HA := hidOf (h.sh.out OA.out)
  have HX := hidOf hx
  have E2 := hidOf e2
  have E3 := hidOf e3
  have Ex := hidOf ex
  have HB := hidOf hB
  have Hn := hidOf hn
  have Hk := hidOf hk
  have HM : Hid (SzI M ∧ M.T.length = nT ∧ M.F.length = nF ∧ M.D.length = nD) := hidOf ⟨⟨by omega, by omega, by omega⟩, hT, hF, hD⟩
  have hpq : ¬ q = p := fun e => by have := h.sh.lt; rw [← e, hq.out] at this; omega
  -- the world behind the two numbers
  have N1 : ∀ wy, Chg (fun b => b = p) wA wy → BxI wy q (.slice ta nT tc) (.slice fa nF fc) (.slice da nD dc) en := fun wy c => (c.block q BX.out.lt hpq).trans BX.out
  have HN1 := hidOf N1
  have k0 : wA.cell? ⟨p, 0, none⟩ = some (.int .i64 ct) := by rw [cell_atL HA.out.st]; rfl
  have f0 := frozen_atL HA.out.st 0
  clear h hx e2 e3 ex hB hn hk hT hF hD N1 h0
  go_enter Tryz.func13, Tryz.ntmps13
  go_upto_region 1 with fail
  rw [← hwA.out, ← hq.out]
  go_upto_region 2 with fail
  obtain ⟨wB, hwB⟩ : ∃ wB, Hid (wB = wA.setCell ⟨p, 0, none⟩ (.int .i64 (ct + 1))) := ⟨_, rfl⟩
  rw [← hwB.out]
  have S1 : Hid (ShI wB B p (ct + 1) tt r L) := hidOf (by rw [hwB.out]; exact HA.out.num 0 _ (ct + 1) tt rfl)
  have C1 : Hid (Chg (fun b => b = p) wA wB) := hidOf (by rw [hwB.out]; exact Chg.setCell (S := fun k => k = p) (Chg.refl _ wA) (p := ⟨p, 0, none⟩) rfl _)
  have X1 := HN1.out wB C1.out
  obtain ⟨q0, q1, q2, q3⟩ := X1.cell
  have k1 : wB.cell? ⟨p, 1, none⟩ = some (.int .i64 tt) := by rw [cell_atL S1.out.st]; rfl
  have f1 := frozen_atL S1.out.st 1
  clear k0 f0 X1
  obtain ⟨t1, ht1⟩ : ∃ t1, Hid (t1 = tt + nT) := ⟨_, rfl⟩
  obtain ⟨t2, ht2⟩ : ∃ t2, Hid (t2 = tt + nT + nF) := ⟨_, rfl⟩
  obtain ⟨t3, ht3⟩ : ∃ t3, Hid (t3 = tt + nT + nF + nD) := ⟨_, rfl⟩
  have w1 : IntKind.i64.wrap (tt + (nT : Int)) = t1 := by rw [wrapI _ (by omega) (by omega), ht1.out]
  have w2 : IntKind.i64.wrap (t1 + (nF : Int)) = t2 := by rw [ht1.out, wrapI _ (by omega) (by omega), ht2.out]
  have w3 : IntKind.i64.wrap (t2 + (nD : Int)) = t3 := by rw [ht2.out, wrapI _ (by omega) (by omega), ht3.out]
  rw [← ht3.out]
  have T3 : 0 ≤ t3 ∧ t3 ≤ 600000000 := by rw [ht3.out]; omega
  have SP : ∀ u, (wB.setCell ⟨p, 1, none⟩ u).cell? ⟨q, 0, none⟩ = some (.slice ta nT tc) ∧ (wB.setCell ⟨p, 1, none⟩ u).cell? ⟨q, 1, none⟩ = some (.slice fa nF fc) ∧ (wB.setCell ⟨p, 1, none⟩ u).cell? ⟨q, 2, none⟩ = some (.slice da nD dc) := fun u => by
    obtain ⟨v0, v1, v2, _⟩ := (HN1.out _ (C1.out.setCell (p := ⟨p, 1, none⟩) rfl u)).cell
    exact ⟨v0, v1, v2⟩
  refine wp_region_held_drew (S := (fun wx => wx.cell? ⟨q, 0, none⟩ = some (.slice ta nT tc) ∧ wx.cell? ⟨q, 1, none⟩ = some (.slice fa nF fc) ∧ wx.cell? ⟨q, 2, none⟩ = some (.slice da nD dc))) (by kernel_rfl) ?_ (fun hHeld => ?_)
  · exact ⟨q0, q1, q2⟩
  refine tkLB [0,1,2,3,5,6,7,9,10,11,13,14,15] ?_
  iterate 13 (refine tkLC (v := ?_) rfl rfl (by kernel_rfl) (by kernel_rfl) (by kernel_rfl) (fun _ _ _ h => h) (by rfl) (by assumption) ?_ ?_; rotate_left; (· (intro w hSw; (try dsimp only at hSw); go_simp; (try with_reducible rfl))); simp only [Act.put, List.setIfInBounds_toArray, List.set_cons_zero, List.set_cons_succ])
  refine tkLE ?_
  refine wpAnyH_ready (rs := [4]) (by kernel_rfl) (by simp) ?_
  refine AllReadyH.cons rfl (fun K1 hK1 => ?_) AllReadyH.nil
  rw [if_pos (by rfl)]
  go_simp
  refine hK1.out _ _ ⟨q0, q1, q2⟩ (fun hHeld1 => ?_)
  refine tkLB [8,12,16,17,18] ?_
  iterate 5 (refine tkLC (v := ?_) rfl rfl (by kernel_rfl) (by kernel_rfl) (by kernel_rfl) (fun _ _ _ h => h) (by rfl) (by assumption) ?_ ?_; rotate_left; (· (intro w hSw; (try dsimp only at hSw); go_simp; (try with_reducible rfl))); simp only [Act.put, List.setIfInBounds_toArray, List.set_cons_zero, List.set_cons_succ])
  refine tkLE ?_
  refine wpAnyH_ready (rs := [19]) (by kernel_rfl) (by simp) ?_
  refine AllReadyH.cons rfl (fun K4 hK4 => ?_) AllReadyH.nil
  rw [if_pos (by rfl)]
  go_simp
  refine hK4.out _ _ (SP _) (fun hHeld4 => ?_)
  refine wpAnyH_done (by kernel_rfl) ?_ _
  obtain ⟨wC, hwC⟩ : ∃ wC, Hid (wC = (wB.setCell ⟨p, 1, none⟩ (.int .i64 t3)).drew) := ⟨_, rfl⟩
  rw [← hwC.out]
  have S2 : Hid (ShI wC B p (ct + 1) t3 r L) := hidOf (by rw [hwC.out]; exact (S1.out.num 1 _ (ct + 1) t3 rfl).out (Out.refl _).drew)
  have C2 : Hid (Chg (fun b => b = p) wA wC) := hidOf (by rw [hwC.out]; exact (C1.out.setCell (p := ⟨p, 1, none⟩) rfl _).then_out (Out.refl _).drew)
  have BXC : Hid (BxI wC q (.slice ta nT tc) (.slice fa nF fc) (.slice da nD dc) en) := hidOf (HN1.out wC C2.out)
  have HXA : HoI wA ⟨.slice ta nT tc, .slice fa nF fc, .slice da nD dc, en⟩ M := by rw [← Ex.out]; exact HX.out.out OA.out
  have HXC : Hid (HoI wC ⟨.slice ta nT tc, .slice fa nF fc, .slice da nD dc, en⟩ M) := hidOf (HXA.chg C2.out (fun b hb e => (HoI.so HA.out HXA b hb 0 (by omega)).1 e))
  obtain ⟨x0, x1, x2, x3⟩ := BXC.out.cell
  have k5 : wC.cell? ⟨p, 3, none⟩ = some (.slice a2 l0 c2) := by rw [cell_atL S2.out.st, ← E2.out]; rfl
  have k5a : ∀ O, (wC.alloc O).cell? ⟨p, 3, none⟩ = some (.slice a2 l0 c2) := fun O => cell_later ((Out.refl wC).alloc O) k5
  have szB : B ≤ wC.heap.size := by have := S2.out.lt; have := S2.out.bp; omega
  have R2 : Hid (∀ wx, Out wC wx → wx.ownsRow B 26 4 (.slice a2 l0 c2) l0 (imV (L 0))) := hidOf fun wx o => by
    have := (S2.out.out o).row 0 (by omega)
    rw [E2.out, hl0.out] at this; exact this
  have HP : Hid (∀ wx w8, Out wC wx → wx.grownBy w8 (Value.slice a2 l0 c2).ownBlock → w8.cell? ⟨p, 3, none⟩ = some (.slice a2 l0 c2) ∧ w8.frozen? ⟨p, 3, none⟩ = false) := hidOf fun wx w8 o hg => by
    have hA := S2.out.out o
    have hs : w8.heap[p]? = _ := (hg.block p hA.lt (fun e => hA.notp (j := 0) (by omega) (by rw [E2.out]; exact e.symm))).trans hA.st
    exact ⟨by rw [cell_atL hs, ← E2.out]; rfl, frozen_atL hs 3⟩
  have CP : Hid (∀ wx, HoI wx ⟨.slice ta nT tc, .slice fa nF fc, .slice da nD dc, en⟩ M → Calls Tryz.prog 36 #[.agg #[.slice ta nT tc, .slice fa nF fc, .slice da nD dc, .int .i64 en]] wx fun e w' => ∃ a2 c2 a3 c3 a4 c4, e = .returned (.agg #[.slice a2 nT c2, .slice a3 nF c3, .slice a4 nD c4, .int .i64 en]) ∧ HoI w' ⟨.slice a2 nT c2, .slice a3 nF c3, .slice a4 nD c4, en⟩ M ∧ (∀ b, (Iv.mk (.slice a2 nT c2) (.slice a3 nF c3) (.slice a4 nD c4) en).blk b → wx.heap.size ≤ b) ∧ Out wx w') := hidOf fun wx hx => copyIV wx _ M hx HM.out.1 nT nF nD en ta fa da tc fc dc rfl
  clear hHeld hHeld1 hHeld4 q0 q1 q2 q3 k1 f1 w1 w2 w3 SP S1 C1 HXA
  go_upto_region 3 with fail
  go_cut [37] (fun s37 wx => ∃ g c, s37 = .slice (some ⟨g, 0, none⟩) (l0 + 1) c ∧ PuE wC B p (ct + 1) t3 r L 0 ⟨.slice ta nT tc, .slice fa nF fc, .slice da nD dc, en⟩ wx)
  case first =>
    clear CP HX HXC
    go_region_law (first | (refine step_append_lies _ rfl (.tmp 34) (.tmp 36) 29 rfl B 26 i0 _ 4 80 Tryz.underlying29 hi hz0 hz1 hz2 rfl (by decide) (.slice a2 l0 c2) l0 (imV (L 0)) rfl (R2.out _ (by repeat (first | exact Out.refl _ | apply Out.alloc | apply Out.drew | apply Out.drewN))) ⟨wC.heap.size, 0, none⟩ 1 1 [.slice ta nT tc, .slice fa nF fc, .slice da nD dc, .int .i64 en] rfl rfl (by first | exact news_new wC _ _ _ rfl | exact news_drewI wC _ _ _ rfl) (by intro u hu; simp at hu; rcases hu with rfl | rfl | rfl | rfl <;> rfl) (by decide) (by unfold maxLen; omega) (by omega) (by first | exact Nat.le_trans szB (Out.size (by repeat (first | exact Out.refl _ | apply Out.alloc | apply Out.drew | apply Out.drewN)))) _ rfl ?_; intro g8 cap8 w8 hown8 hgrow8 hg8 hlt8; obtain ⟨q8, f8⟩ := HP.out _ w8 (by repeat (first | exact Out.refl _ | apply Out.alloc | apply Out.drew | apply Out.drewN)) hgrow8; have W8 := hidOf hown8; have G8 := hidOf hgrow8; have Hg8 := hidOf hg8; clear hown8 hgrow8 hg8 hlt8))
    all_goals
      go_wp2
      go_meet
      exact ⟨_, _, rfl, S2.out.pushed 0 (by omega) (by repeat (first | exact Out.refl _ | apply Out.alloc | apply Out.drew | apply Out.drewN)) E2.out hl0.out W8.out G8.out Hg8.out⟩
  case rest =>
    obtain ⟨g8, c8, rfl, v2, s3, ch3, bb3⟩ := hcut
    have S3 := hidOf s3
    have C3 := hidOf ch3
    have B3 := hidOf bb3
    have k6 : wc.cell? ⟨p, 4, none⟩ = some (.slice a3 l0 c3) := by rw [cell_atL s3.st, ← E3.out]; rfl
    have BX2 : Hid (BxI wc q (.slice ta nT tc) (.slice fa nF fc) (.slice da nD dc) en) := hidOf ((ch3.block q BXC.out.lt (fun e => by
      rcases e with e | e
      · exact hpq e
      · have := ((H.out.sh.row 0 (by omega)).lt q e).2; rw [hq.out] at this; omega)).trans BXC.out)
    obtain ⟨y0, y1, y2, y3⟩ := BX2.out.cell
    have HXc : Hid (HoI wc ⟨.slice ta nT tc, .slice fa nF fc, .slice da nD dc, en⟩ M) := hidOf (HXC.out.chg ch3 (fun b hb e => by
      obtain ⟨h1, h2⟩ := HoI.so S2.out HXC.out b hb 0 (by omega)
      rcases e with e | e
      · exact h1 e
      · exact h2 e))
    have e1' : (L 1).length = l0 := by rw [H.out.e1, hl0.out]
    have He1 := hidOf e1'
    have R3 : Hid (∀ wx, Out wc wx → wx.ownsRow B 26 4 (.slice a3 l0 c3) l0 (imV (L 1))) := hidOf fun wx o => by
      have := (S3.out.out o).row 1 (by omega)
      have h2 : wx.ownsRow B 26 4 (r 1) (L 1).length (imV (L 1)) := this
      rw [E3.out, e1'] at h2; exact h2
    have HP3 : Hid (∀ wx w8, Out wc wx → wx.grownBy w8 (Value.slice a3 l0 c3).ownBlock → w8.cell? ⟨p, 4, none⟩ = some (.slice a3 l0 c3) ∧ w8.frozen? ⟨p, 4, none⟩ = false) := hidOf fun wx w8 o hg => by
      have hA := S3.out.out o
      have hs : w8.heap[p]? = _ := (hg.block p hA.lt (fun e => hA.notp (j := 1) (by omega) (by show (r 1).ownBlock = _; rw [E3.out]; exact e.symm))).trans hA.st
      exact ⟨by rw [cell_atL hs, ← E3.out]; rfl, frozen_atL hs 4⟩
    have szC : B ≤ wc.heap.size := by have := S3.out.lt; have := S3.out.bp; omega
    have k6a : ∀ O, (wc.alloc O).cell? ⟨p, 4, none⟩ = some (.slice a3 l0 c3) := fun O => cell_later ((Out.refl wc).alloc O) k6
    clear s3 ch3 bb3 k5 k5a x0 x1 x2 x3 R2 HP e1'
    go_upto_region 4 with fail
    go_cut [48] (fun s48 wx => ∃ g c, s48 = .slice (some ⟨g, 0, none⟩) (l0 + 1) c ∧ ∃ r' y, QI wx B p (ct + 1) t3 r' (upd (upd L 0 (L 0 ++ [⟨.slice ta nT tc, .slice fa nF fc, .slice da nD dc, en⟩])) 1 (L 1 ++ [y])) ∧ Chg (SQ w B) w wx)
    case first =>
      go_region_law (first | (refine step_append_lies _ rfl (.tmp 44) (.tmp 47) 29 rfl B 26 i0 _ 4 80 Tryz.underlying29 hi hz0 hz1 hz2 rfl (by decide) (.slice a3 l0 c3) l0 (imV (L 1)) rfl (R3.out _ (Out.trans Ho5.out (by repeat (first | exact Out.refl _ | apply Out.alloc | apply Out.drew | apply Out.drewN)))) ⟨w5.heap.size, 0, none⟩ 1 1 [.slice a5 nT c5, .slice a6 nF c6, .slice a7 nD c7, .int .i64 en] rfl rfl (by first | exact news_new w5 _ _ _ rfl | exact news_drewI w5 _ _ _ rfl) (by intro u hu; simp at hu; rcases hu with rfl | rfl | rfl | rfl <;> rfl) (by decide) (by unfold maxLen; omega) (by omega) (Nat.le_trans szC (Out.size (Out.trans Ho5.out (by repeat (first | exact Out.refl _ | apply Out.alloc | apply Out.drew | apply Out.drewN))))) _ rfl ?_; intro g9 cap9 w9 hown9 hgrow9 hg9 hlt9; obtain ⟨q9, f9⟩ := HP3.out _ w9 (Out.trans Ho5.out (by repeat (first | exact Out.refl _ | apply Out.alloc | apply Out.drew | apply Out.drewN))) hgrow9; have W9 := hidOf hown9; have G9 := hidOf hgrow9; have Hg9 := hidOf hg9; clear hown9 hgrow9 hg9 hlt9) | (go_simp; go_at_call 36; refine (CP.out _ (HXc.out.out (by repeat (first | exact Out.refl _ | apply Out.alloc | apply Out.drew | apply Out.drewN)))).mono ?_; rintro e w5 ⟨a5, c5, a6, c6, a7, c7, rfl, hown5, hnew5, ho5⟩; (try dsimp only); have Ho5 : Hid (Out wc w5) := hidOf (Out.trans (by repeat (first | exact Out.refl _ | apply Out.alloc | apply Out.drew | apply Out.drewN)) ho5); have Hown5 := hidOf hown5; have Hnew5 : Hid (∀ b, (Iv.mk (.slice a5 nT c5) (.slice a6 nF c6) (.slice a7 nD c7) en).blk b → wc.heap.size ≤ b) := hidOf hnew5; have k65 : w5.cell? ⟨p, 4, none⟩ = some (.slice a3 l0 c3) := cell_later Ho5.out k6; have k65a : ∀ O, (w5.alloc O).cell? ⟨p, 4, none⟩ = some (.slice a3 l0 c3) := fun O => cell_later ((Out.refl w5).alloc O) k65; clear hown5 ho5 hnew5))
      all_goals
        go_wp2
        go_meet
        obtain ⟨v3, s4, ch4, bb4⟩ := S3.out.pushed 1 (by omega) (Out.trans Ho5.out (by repeat (first | exact Out.refl _ | apply Out.alloc | apply Out.drew | apply Out.drewN))) (x := ⟨.slice a5 nT c5, .slice a6 nF c6, .slice a7 nD c7, en⟩) (show (upd r 0 v2) 1 = _ from E3.out) He1.out W9.out G9.out Hg9.out
        have ch5 : Chg (fun b => b = p ∨ (r 1).ownBlock = some b) w5 (w9.setCell ⟨p, 4, none⟩ (.slice (some ⟨g9, 0, none⟩) (l0 + 1) cap9)) := ((Chg.of_out (S := fun b => b = p ∨ (r 1).ownBlock = some b) (by repeat (first | exact Out.refl _ | apply Out.alloc | apply Out.drew | apply Out.drewN))).trans (Chg.of_grown (S := fun b => (Value.slice a3 l0 c3).ownBlock = some b) G9.out (fun k h => h)) (fun x hx _ => .inr (by rw [E3.out]; exact hx))).setCell (p := ⟨p, 4, none⟩) (.inl rfl) _
        have zA := OA.out.size
        have z2 := C2.out.size
        have z3 := C3.out.size
        have cAll : Chg (fun b => b = p ∨ (r 0).ownBlock = some b ∨ (r 1).ownBlock = some b) w (w9.setCell ⟨p, 4, none⟩ (.slice (some ⟨g9, 0, none⟩) (l0 + 1) cap9)) := (((Chg.of_out (S := fun b => b = p ∨ (r 0).ownBlock = some b ∨ (r 1).ownBlock = some b) OA.out).trans C2.out (fun b hb _ => .inl hb)).trans C3.out (fun b hb _ => by
          rcases hb with e | e
          · exact .inl e
          · exact .inr (.inl e))).trans ch4 (fun b hb _ => by
          rcases hb with e | e
          · exact .inl e
          · exact .inr (.inr e))
        have hsq : ∀ b, (b = p ∨ (r 0).ownBlock = some b ∨ (r 1).ownBlock = some b) → SQ w B b := fun b hb => H.out.sh.k5 b (by
          rcases hb with e | e | e
          · exact .inl e
          · exact .inr ⟨0, by omega, e⟩
          · exact .inr ⟨1, by omega, e⟩)
        have nls : ∀ b, (b = p ∨ (r 0).ownBlock = some b ∨ (r 1).ownBlock = some b) → b < w.heap.size → ¬ LsB w b := fun b hb _ hl => by
          rcases hb with rfl | e | e
          · rcases hl with ⟨cs, h1⟩ | ⟨cs, h1⟩ | ⟨cs, h1⟩ <;> (rw [H.out.sh.st] at h1; simp at h1; exact absurd h1.2 (by decide))
          · rcases hl with ⟨cs, h1⟩ | ⟨cs, h1⟩ | ⟨cs, h1⟩ <;> exact own_kind (H.out.sh.row 0 (by omega)) h1 (by decide) e
          · rcases hl with ⟨cs, h1⟩ | ⟨cs, h1⟩ | ⟨cs, h1⟩ <;> exact own_kind (H.out.sh.row 1 (by omega)) h1 (by decide) e
        have hxE := HXc.out.chg ch4 (fun b hb e => by
          obtain ⟨h1, h2⟩ := HoI.so S3.out HXc.out b hb 1 (by omega)
          rcases e with e | e
          · exact h1 e
          · exact h2 e)
        have hyE := Hown5.out.chg ch5 (fun b hb e => by
          obtain ⟨h1, h2⟩ := HoI.so (S3.out.out Ho5.out) Hown5.out b hb 1 (by omega)
          rcases e with e | e
          · exact h1 e
          · exact h2 e)
        refine ⟨_, _, rfl, _, _, H.out.add cAll nls s4 hxE hyE HM.out.1 ⟨by show nT ≤ _; omega, by show nF ≤ _; omega, by show nD ≤ _; omega⟩ (fun b hb => HB.out b (by rw [Ex.out]; exact hb)) (fun b hb => HX.out.lt b (by rw [Ex.out]; exact hb)) (fun b hb => by have := Hnew5.out b hb; omega) (fun j hj l z hz b h1 h2 => Hn.out j hj l z hz b h1 (by rw [Ex.out]; exact h2)), SQ.step (Chg.refl _ w) cAll (fun b hb _ => hsq b hb)⟩
    case rest =>
      obtain ⟨g9, c9, rfl, r5, y5, q5, ch5⟩ := hcut
      have Q5 := hidOf q5
      have C5 := hidOf ch5
      have u0 : (upd (upd L 0 (L 0 ++ [⟨.slice ta nT tc, .slice fa nF fc, .slice da nD dc, en⟩])) 1 (L 1 ++ [y5])) 0 = L 0 ++ [⟨.slice ta nT tc, .slice fa nF fc, .slice da nD dc, en⟩] := rfl
      have l5 : ((upd (upd L 0 (L 0 ++ [⟨.slice ta nT tc, .slice fa nF fc, .slice da nD dc, en⟩])) 1 (L 1 ++ [y5])) 0).length = l0 + 1 := by rw [u0, List.length_append, hl0.out]; rfl
      have l6 : ((upd (upd L 0 (L 0 ++ [⟨.slice ta nT tc, .slice fa nF fc, .slice da nD dc, en⟩])) 1 (L 1 ++ [y5])) 2).length = (L 2).length := rfl
      obtain ⟨a9, d9, e9⟩ := own_form (q5.sh.row 0 (by omega))
      rw [l5] at e9
      have j3 : wc.cell? ⟨p, 3, none⟩ = some (.slice a9 (l0 + 1) d9) := by rw [cell_atL q5.sh.st, ← e9]; rfl
      have j0 : wc.cell? ⟨p, 0, none⟩ = some (.int .i64 (ct + 1)) := by rw [cell_atL q5.sh.st]; rfl
      have CW : Hid (Calls Tryz.prog 37 #[.pointer (some ⟨p, 0, none⟩)] wc fun e w' => OwE w B p ct t3 (L 2).length e w') := hidOf (by
        refine (q5.write (by rw [l5]; omega) (by rw [l5]; omega) (by rw [l6]; exact Hk.out) (by omega) (by omega) T3.1 (by omega)).mono ?_
        rintro e w' ⟨he, r', L', g1, g2, g3, g4⟩
        rw [l6] at g3
        refine ⟨he, _, r', L', g1, by omega, g3, ?_, ?_, SQ.step C5.out g4 (fun b hb _ => hb)⟩
        · rw [l5]; push_cast; omega
        · rw [l5]; push_cast; omega)
      have NW : Hid (l0 + 1 ≤ 2 → ∀ v, OwE w B p ct t3 (L 2).length (.returned v) wc) := hidOf fun hle v => ⟨⟨_, rfl⟩, _, _, _, Q5.out, by rw [l5]; exact hle, by rw [l6]; omega, by omega, by omega, C5.out⟩
      clear q5 ch5 u0 l5 l6 e9 BX2 HXc R3 HP3 CP y0 y1 y2 y3 k6 k6a
      obtain rfl | rfl | rfl : l0 = 0 ∨ l0 = 1 ∨ l0 = 2 := by omega
      · by_cases hz4 : (ct + 1) % 4 = 0
        · have hz5 : (ct + 1).tmod 4 = 0 := by rw [Int.tmod_eq_emod_of_nonneg (by omega)]; exact hz4
          have hz6 : ((ct + 1).tmod 4 == 0) = true := by rw [hz5]; rfl
          have hz7 : ((ct + 1) % 4 == 0) = true := by rw [hz4]; rfl
          go_wp2_with (go_at_call 37; refine CW.out.mono ?_; rintro e w7 hw7; have he7 := hw7.1; have W7 := hidOf hw7; obtain ⟨v7, rfl⟩ := he7; clear hw7)
          go_end0
          rw [← ht3.out]
          exact ⟨⟨_, rfl⟩, W7.out.2⟩
        · have hz5 : ¬ (ct + 1).tmod 4 = 0 := by rw [Int.tmod_eq_emod_of_nonneg (by omega)]; exact hz4
          have hz6 : ((ct + 1).tmod 4 == 0) = false := by simpa using hz5
          have hz7 : ((ct + 1) % 4 == 0) = false := by simpa using hz4
          go_wp2
          go_end0
          rw [← ht3.out]
          exact NW.out (by omega) _
      · go_wp2
        go_end0
        rw [← ht3.out]
        exact NW.out (by omega) _
      · go_wp2_with (go_at_call 37; refine CW.out.mono ?_; rintro e w7 hw7; have he7 := hw7.1; have W7 := hidOf hw7; obtain ⟨v7, rfl⟩ := he7; clear hw7)
        go_end0
        rw [← ht3.out]
        exact ⟨⟨_, rfl⟩, W7.out.2⟩
end Go.Proofs.YthififblejbleaaGreatDoor
