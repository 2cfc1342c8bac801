import Derived.Test.YthififblejbleaaGreatDoorHy16
namespace Go.Proofs.YthififblejbleaaGreatDoor
open Go.RowKit
set_option linter.unusedVariables false
set_option linter.unusedSimpArgs false
structure Iv where
  t : Value
  f : Value
  d : Value
  e : Int
def Iv.cs (x : Iv) : List Value := [x.t, x.f, x.d, .int .i64 x.e]
def imV (L : List Iv) : List Value := L.flatMap Iv.cs
theorem Iv.cs_len (x : Iv) : x.cs.length = 4 := rfl
theorem imV_len (L : List Iv) : (imV L).length = L.length * 4 := flat_len _ _ Iv.cs_len L
theorem imV_app (A B : List Iv) : imV (A ++ B) = imV A ++ imV B := by simp [imV, List.flatMap_append]
def Ho (K : Kd) (w : World) (v : Value) (V : List Value) : Prop := ∃ n, V.length = n * K.k ∧ ((v = .slice none 0 0 ∧ n = 0) ∨ ∃ g c cs, v = .slice (some ⟨g, 0, none⟩) n c ∧ w.heap[g]? = some (.cells cs K.e (0, 0)) ∧ cs.size = c * K.k ∧ n ≤ c ∧ cs.toList.take (n * K.k) = V)
theorem Ho.chg {S : Nat → Prop} {K : Kd} {w w' : World} {v : Value} {V : List Value} (h : Ho K w v V) (c : Chg S w w') (hs : ∀ b, v.ownBlock = some b → ¬ S b) : Ho K w' v V := by
  obtain ⟨n, hn, h | ⟨g, cp, cs, hv, hg, h⟩⟩ := h
  · exact ⟨n, hn, .inl h⟩
  · exact ⟨n, hn, .inr ⟨g, cp, cs, hv, (c.block g (Array.getElem?_eq_some_iff.1 hg).1 (hs g (by rw [hv]; rfl))).trans hg, h⟩⟩
theorem Ho.out {K : Kd} {w w' : World} {v : Value} {V : List Value} (h : Ho K w v V) (o : Out w w') : Ho K w' v V := h.chg (S := fun _ => False) (Chg.of_out o) (fun _ _ h => h)
theorem Ho.blk {K : Kd} {w : World} {v : Value} {V : List Value} (h : Ho K w v V) : ∀ b, v.ownBlock = some b → b < w.heap.size ∧ ∃ cs, w.heap[b]? = some (.cells cs K.e (0, 0)) := fun b hb => by
  obtain ⟨n, hn, ⟨rfl, _⟩ | ⟨g, c, cs, rfl, hg, _⟩⟩ := h
  · cases hb
  · simp [Value.ownBlock] at hb; subst hb; exact ⟨(Array.getElem?_eq_some_iff.1 hg).1, cs, hg⟩
theorem Ho.own {K : Kd} {w : World} {B n : Nat} {v : Value} {V : List Value} (h : w.ownsRow B K.e K.k v n V) : Ho K w v V := by
  refine ⟨n, h.1, ?_⟩
  rcases h.2 with h | ⟨g, cap, cur, hv, hb, hg, hn, hm, hs, ht⟩
  · exact .inl h
  · exact .inr ⟨g, cap, cur, hv, hg, hs, hn, ht⟩
theorem Ho.cell {K : Kd} {w : World} {v : Value} {V : List Value} (h : Ho K w v V) {j : Nat} {u : Value} (hj : V[j]? = some u) : ∃ g n c, v = .slice (some ⟨g, 0, none⟩) n c ∧ V.length = n * K.k ∧ w.cell? ⟨g, j, none⟩ = some u := by
  obtain ⟨n, hn, ⟨_, h0⟩ | ⟨g, c, cs, hv, hg, hs, hc, ht⟩⟩ := h
  · have := (List.getElem?_eq_some_iff.1 hj).1
    rw [hn, h0] at this; omega
  · refine ⟨g, n, c, hv, hn, ?_⟩
    rw [cell_atL hg, ← Array.getElem?_toList]
    rw [← ht, List.getElem?_take] at hj
    split at hj
    · exact hj
    · cases hj
theorem Ho.form {K : Kd} (hK : K.Ok) {w : World} {v : Value} {V : List Value} (h : Ho K w v V) {n : Nat} (hn : V.length = n * K.k) : ∃ a c, v = .slice a n c := by
  obtain ⟨n', hn', h⟩ := h
  obtain rfl : n' = n := Nat.eq_of_mul_eq_mul_right hK.k0 (hn'.symm.trans hn)
  rcases h with ⟨rfl, rfl⟩ | ⟨g, c, cs, rfl, _⟩
  · exact ⟨_, _, rfl⟩
  · exact ⟨_, _, rfl⟩
theorem Ho.a1 {w : World} {a : Option Addr} {n c : Nat} {L : List Ins} (h : Ho kI w (.slice a n c) (rowI L)) : InsA w a L := by
  by_cases h0 : L = []
  · exact .inl h0
  · obtain ⟨x0, hx0⟩ : ∃ x, L[0]? = some x := ⟨_, List.getElem?_eq_getElem (List.length_pos_iff.2 h0)⟩
    obtain ⟨g, n', c', hv, _, _⟩ := h.cell (flat_get csI 5 csI_len hx0 (j := 0) rfl)
    simp only [Value.slice.injEq] at hv
    refine .inr ⟨g, 0, hv.1, fun k x hx => ?_⟩
    have go : ∀ j u, (csI x)[j]? = some u → w.cell? ⟨g, 0 + k * 5 + j, none⟩ = some u := fun j u hu => by
      obtain ⟨g', _, _, hv', _, hc⟩ := h.cell (flat_get csI 5 csI_len hx hu)
      simp only [Value.slice.injEq, hv.1, Option.some.injEq, Addr.mk.injEq] at hv'
      rw [Nat.zero_add, hv'.1.1]; exact hc
    exact ⟨go 0 _ rfl, go 1 _ rfl, go 2 _ rfl, go 3 _ rfl, go 4 _ rfl⟩
theorem Ho.a2 {w : World} {a : Option Addr} {n c : Nat} {L : List Fn} (h : Ho kF w (.slice a n c) (rowF L)) : FnA w a L := by
  by_cases h0 : L = []
  · exact .inl h0
  · obtain ⟨x0, hx0⟩ : ∃ x, L[0]? = some x := ⟨_, List.getElem?_eq_getElem (List.length_pos_iff.2 h0)⟩
    obtain ⟨g, n', c', hv, _, _⟩ := h.cell (flat_get csF 4 csF_len hx0 (j := 0) rfl)
    simp only [Value.slice.injEq] at hv
    refine .inr ⟨g, 0, hv.1, fun k x hx => ?_⟩
    have go : ∀ j u, (csF x)[j]? = some u → w.cell? ⟨g, 0 + k * 4 + j, none⟩ = some u := fun j u hu => by
      obtain ⟨g', _, _, hv', _, hc⟩ := h.cell (flat_get csF 4 csF_len hx hu)
      simp only [Value.slice.injEq, hv.1, Option.some.injEq, Addr.mk.injEq] at hv'
      rw [Nat.zero_add, hv'.1.1]; exact hc
    exact ⟨go 0 _ rfl, go 1 _ rfl, go 2 _ rfl, go 3 _ rfl⟩
theorem Ho.a3 {w : World} {a : Option Addr} {n c : Nat} {L : List Td} (h : Ho kD w (.slice a n c) (rowD L)) : TdA w a L := by
  by_cases h0 : L = []
  · exact .inl h0
  · obtain ⟨x0, hx0⟩ : ∃ x, L[0]? = some x := ⟨_, List.getElem?_eq_getElem (List.length_pos_iff.2 h0)⟩
    obtain ⟨g, n', c', hv, _, _⟩ := h.cell (flat_get csD 5 csD_len hx0 (j := 0) rfl)
    simp only [Value.slice.injEq] at hv
    refine .inr ⟨g, 0, hv.1, fun k x hx => ?_⟩
    have go : ∀ j u, (csD x)[j]? = some u → w.cell? ⟨g, 0 + k * 5 + j, none⟩ = some u := fun j u hu => by
      obtain ⟨g', _, _, hv', _, hc⟩ := h.cell (flat_get csD 5 csD_len hx hu)
      simp only [Value.slice.injEq, hv.1, Option.some.injEq, Addr.mk.injEq] at hv'
      rw [Nat.zero_add, hv'.1.1]; exact hc
    exact ⟨go 0 _ rfl, go 1 _ rfl, go 2 _ rfl, go 3 _ rfl, go 4 _ rfl⟩
structure HoI (w : World) (x : Iv) (M : Img) : Prop where
  t : Ho kI w x.t (rowI M.T)
  f : Ho kF w x.f (rowF M.F)
  d : Ho kD w x.d (rowD M.D)
  e : x.e = M.en
def Iv.blk (x : Iv) (b : Nat) : Prop := x.t.ownBlock = some b ∨ x.f.ownBlock = some b ∨ x.d.ownBlock = some b
theorem HoI.chg {S : Nat → Prop} {w w' : World} {x : Iv} {M : Img} (h : HoI w x M) (c : Chg S w w') (hs : ∀ b, x.blk b → ¬ S b) : HoI w' x M := ⟨h.t.chg c (fun b hb => hs b (.inl hb)), h.f.chg c (fun b hb => hs b (.inr (.inl hb))), h.d.chg c (fun b hb => hs b (.inr (.inr hb))), h.e⟩
theorem HoI.out {w w' : World} {x : Iv} {M : Img} (h : HoI w x M) (o : Out w w') : HoI w' x M := ⟨h.t.out o, h.f.out o, h.d.out o, h.e⟩
theorem HoI.lt {w : World} {x : Iv} {M : Img} (h : HoI w x M) : ∀ b, x.blk b → b < w.heap.size := fun b hb => by
  rcases hb with hb | hb | hb
  · exact (h.t.blk b hb).1
  · exact (h.f.blk b hb).1
  · exact (h.d.blk b hb).1
theorem HoI.s {w : World} {x : Iv} {M : Img} (h : HoI w x M) : ∃ ta tc fa fc da dc, x = ⟨.slice ta M.T.length tc, .slice fa M.F.length fc, .slice da M.D.length dc, M.en⟩ ∧ ImS w ta fa da M := by
  obtain ⟨x1, x2, x3, x4⟩ := x
  obtain ⟨h1, h2, h3, h4⟩ := h
  simp only at h1 h2 h3 h4
  obtain ⟨ta, tc, rfl⟩ := h1.form kI_ok (rowI_len M.T)
  obtain ⟨fa, fc, rfl⟩ := h2.form kF_ok (rowF_len M.F)
  obtain ⟨da, dc, rfl⟩ := h3.form kD_ok (rowD_len M.D)
  exact ⟨ta, tc, fa, fc, da, dc, by rw [h4], h1.a1, h2.a2, h3.a3⟩
def SzI (M : Img) : Prop := M.T.length ≤ 1000000000 ∧ M.F.length ≤ 1000000000 ∧ M.D.length ≤ 1000000000
def PrI (w : World) (X Y : List Iv) : Prop := ∀ (i : Nat) x y, X[i]? = some x → Y[i]? = some y → ∃ M, HoI w x M ∧ HoI w y M ∧ SzI M
theorem PrI.chg {S : Nat → Prop} {w w' : World} {X Y : List Iv} (h : PrI w X Y) (c : Chg S w w') (hs : ∀ (i : Nat) x b, X[i]? = some x ∨ Y[i]? = some x → x.blk b → ¬ S b) : PrI w' X Y := fun i x y hx hy => by
  obtain ⟨M, h1, h2, h3⟩ := h i x y hx hy
  exact ⟨M, h1.chg c (fun b hb => hs i x b (.inl hx) hb), h2.chg c (fun b hb => hs i y b (.inr hy) hb), h3⟩
theorem PrI.out {w w' : World} {X Y : List Iv} (h : PrI w X Y) (o : Out w w') : PrI w' X Y := fun i x y hx hy => by
  obtain ⟨M, h1, h2, h3⟩ := h i x y hx hy
  exact ⟨M, h1.out o, h2.out o, h3⟩
structure ShI (w : World) (B p : Nat) (ct tt : Int) (r : Nat → Value) (L : Nat → List Iv) : Prop where
  st : w.heap[p]? = some (.cells #[.int .i64 ct, .int .i64 tt, .bool false, r 0, r 1, r 2, r 3] 31 (0, 0))
  bp : B ≤ p
  row : ∀ j, j < 4 → w.ownsRow B 26 4 (r j) (L j).length (imV (L j))
  sep : ∀ i j b, i < 4 → j < 4 → ¬ i = j → (r i).ownBlock = some b → ¬ (r j).ownBlock = some b
theorem ShI.lt {w : World} {B p : Nat} {ct tt : Int} {r : Nat → Value} {L : Nat → List Iv} (h : ShI w B p ct tt r L) : p < w.heap.size := (Array.getElem?_eq_some_iff.1 h.st).1
theorem owns_outI {B size : Nat} {w w' : World} {e : TypeId} {v : Value} {n : Nat} {xs : List Value} (h : w.ownsRow B e size v n xs) (o : Out w w') : w'.ownsRow B e size v n xs := owns_chg (S := fun _ => False) h (fun _ _ h => h) (Chg.of_out o)
theorem ShI.out {w w' : World} {B p : Nat} {ct tt : Int} {r : Nat → Value} {L : Nat → List Iv} (h : ShI w B p ct tt r L) (o : Out w w') : ShI w' B p ct tt r L := ⟨(o.block p h.lt).trans h.st, h.bp, fun j hj => owns_outI (h.row j hj) o, h.sep⟩
theorem own_getI {B : Nat} {w : World} {a : Option Addr} {n c : Nat} {X : List Iv} (h : w.ownsRow B 26 4 (.slice a n c) n (imV X)) {i : Nat} {x : Iv} (hx : X[i]? = some x) : ∃ g, a = some ⟨g, 0, none⟩ ∧ w.cell? ⟨g, i * 4, none⟩ = some x.t ∧ w.cell? ⟨g, i * 4 + 1, none⟩ = some x.f ∧ w.cell? ⟨g, i * 4 + 2, none⟩ = some x.d ∧ w.cell? ⟨g, i * 4 + 3, none⟩ = some (.int .i64 x.e) := by
  have hi := (List.getElem?_eq_some_iff.1 hx).1
  have hl := h.1
  rw [imV_len] at hl
  rcases h.2 with ⟨hv, hn⟩ | ⟨g, cap, cur, hv, _⟩
  · omega
  · have hv2 := hv
    simp only [Value.slice.injEq] at hv2
    have go : ∀ j u, x.cs[j]? = some u → w.cell? ⟨g, i * 4 + j, none⟩ = some u := fun j u hu => by
      have := World.ownsRow.cells h (g := g) (by rw [hv]; rfl) (i * 4 + j) u (flat_get _ _ Iv.cs_len hx hu)
      rw [WideShapes.add_plain, Nat.zero_add] at this
      exact this
    exact ⟨g, hv2.1, go 0 _ rfl, go 1 _ rfl, go 2 _ rfl, go 3 _ rfl⟩
theorem sameImV (w : World) (M : Img) (nT nF nD : Nat) (en : Int) (hT : M.T.length = nT) (hF : M.F.length = nF) (hD : M.D.length = nD) (hE : M.en = en) (ta fa da ta' fa' da' : Option Addr) (tc fc dc tc' fc' dc' : Nat) (h : ImS w ta fa da M) (h' : ImS w ta' fa' da' M) (hs : SzI M) : Calls Tryz.prog 11 #[.agg #[.slice ta nT tc, .slice fa nF fc, .slice da nD dc, .int .i64 en], .agg #[.slice ta' nT tc', .slice fa' nF fc', .slice da' nD dc', .int .i64 en]] w fun e w' => e = .returned (.bool true) ∧ Out w w' := by
  subst hT hF hD hE
  have := hs.1
  have := hs.2.1
  have := hs.2.2
  exact sameImage_any w ta fa da ta' fa' da' tc fc dc tc' fc' dc' M h h' (by omega) (by omega) (by omega)
set_option maxRecDepth 20000 in
set_option maxHeartbeats 4000000 in
theorem untouchedI_any (w : World) (B p : Nat) (ct tt : Int) (r : Nat → Value) (L : Nat → List Iv) (h : ShI w B p ct tt r L) (hl : (L 1).length = (L 0).length) (hp : PrI w (L 0) (L 1)) (hF : (L 0).length ≤ 1000) :
    Calls Tryz.prog 38 #[.pointer (some ⟨p, 0, none⟩)] w fun e w' => e = .returned (.bool true) ∧ Out w w' := by
  obtain ⟨nx, hnx⟩ : ∃ n, Hid (n = (L 0).length) := ⟨_, rfl⟩
  obtain ⟨af, cf, e0⟩ := own_form (h.row 0 (by omega))
  obtain ⟨aw, cw, e1⟩ := own_form (h.row 1 (by omega))
  have q0 := h.row 0 (by omega)
  have q1 := h.row 1 (by omega)
  rw [hl] at e1
  rw [← hnx.out] at e0 e1
  rw [← hnx.out, e0] at q0
  rw [hl, ← hnx.out, e1] at q1
  rw [← hnx.out] at hF
  have HP := hidOf hp
  have Hl := hidOf hl
  have Q0 := hidOf q0
  have Q1 := hidOf q1
  have c3 : w.cell? ⟨p, 3, none⟩ = some (.slice af nx cf) := by rw [cell_atL h.st, ← e0]; rfl
  have c4 : w.cell? ⟨p, 4, none⟩ = some (.slice aw nx cw) := by rw [cell_atL h.st, ← e1]; rfl
  clear h hp hl e0 e1 q0 q1
  go_enter Tryz.func38, Tryz.ntmps38
  go_wp2
  go_loopw [3] (fun kv wr => ∃ k : Nat, kv = .int .i64 k ∧ k ≤ nx ∧ Hid (Out w wr)) (fun kv _ => nx - (intOf kv).toNat)
  case atStart => exact ⟨0, rfl, by omega, hidOf (Out.refl w)⟩
  case round =>
    obtain ⟨k, rfl, hk, HO⟩ := hrel
    have d3 := cell_later HO.out c3
    have d4 := cell_later HO.out c4
    by_cases hlt : k < nx
    · have hltI : (k : Int) < nx := by omega
      obtain ⟨x, hx⟩ : ∃ x, (L 0)[k]? = some x := ⟨_, List.getElem?_eq_getElem (by rw [← hnx.out]; exact hlt)⟩
      obtain ⟨y, hy⟩ : ∃ y, (L 1)[k]? = some y := ⟨_, List.getElem?_eq_getElem (by rw [Hl.out, ← hnx.out]; exact hlt)⟩
      obtain ⟨M, hM1, hM2, hsz⟩ := HP.out k x y hx hy
      obtain ⟨ta, tc, fa, fc, da, dc, rfl, s1⟩ := hM1.s
      obtain ⟨ta', tc', fa', fc', da', dc', rfl, s2⟩ := hM2.s
      obtain ⟨gf, rfl, u0, u1, u2, u3⟩ := own_getI Q0.out hx
      obtain ⟨gw, rfl, v0, v1, v2, v3⟩ := own_getI Q1.out hy
      simp only at u0 u1 u2 u3 v0 v1 v2 v3
      obtain ⟨nT, hT⟩ : ∃ n, M.T.length = n := ⟨_, rfl⟩
      obtain ⟨nF, hF'⟩ : ∃ n, M.F.length = n := ⟨_, rfl⟩
      obtain ⟨nD, hD⟩ : ∃ n, M.D.length = n := ⟨_, rfl⟩
      obtain ⟨en, hE⟩ : ∃ n, M.en = n := ⟨_, rfl⟩
      have CS : Hid (∀ wx, Out wr wx → Calls Tryz.prog 11 #[.agg #[.slice ta nT tc, .slice fa nF fc, .slice da nD dc, .int .i64 en], .agg #[.slice ta' nT tc', .slice fa' nF fc', .slice da' nD dc', .int .i64 en]] wx fun e w' => e = .returned (.bool true) ∧ Out wx w') := fun wx ho => sameImV wx M nT nF nD en hT hF' hD hE ta fa da ta' fa' da' tc fc dc tc' fc' dc' (s1.out (Out.trans HO.out ho)) (s2.out (Out.trans HO.out ho)) hsz
      rw [hT] at u0 v0
      rw [hF'] at u1 v1
      rw [hD] at u2 v2
      rw [hE] at u3 v3
      have u0 := cell_later HO.out u0
      have u1 := cell_later HO.out u1
      have u2 := cell_later HO.out u2
      have u3 := cell_later HO.out u3
      have v0 := cell_later HO.out v0
      have v1 := cell_later HO.out v1
      have v2 := cell_later HO.out v2
      have v3 := cell_later HO.out v3
      clear hx hy hM1 hM2 s1 s2 hT hF' hD hE hsz
      go_upto_region 4 with fail
      go_region_held3 (fun w' => w'.cell? ⟨p, 3, none⟩ = some (.slice (some ⟨gf, 0, none⟩) nx cf) ∧ w'.cell? ⟨p, 4, none⟩ = some (.slice (some ⟨gw, 0, none⟩) nx cw) ∧ w'.cell? ⟨gf, k * 4, none⟩ = some (.slice ta nT tc) ∧ w'.cell? ⟨gf, k * 4 + 1, none⟩ = some (.slice fa nF fc) ∧ w'.cell? ⟨gf, k * 4 + 2, none⟩ = some (.slice da nD dc) ∧ w'.cell? ⟨gf, k * 4 + 3, none⟩ = some (.int .i64 en) ∧ w'.cell? ⟨gw, k * 4, none⟩ = some (.slice ta' nT tc') ∧ w'.cell? ⟨gw, k * 4 + 1, none⟩ = some (.slice fa' nF fc') ∧ w'.cell? ⟨gw, k * 4 + 2, none⟩ = some (.slice da' nD dc') ∧ w'.cell? ⟨gw, k * 4 + 3, none⟩ = some (.int .i64 en)) (first | exact ⟨d3, d4, u0, u1, u2, u3, v0, v1, v2, v3⟩ | exact ⟨e3, e4, f0, f1, f2, f3, g0, g1, g2, g3⟩ | go_keep) (first | (go_at_call 11; refine (CS.out _ ((Out.refl wr).drewN _)).mono ?_; rintro e w2 ⟨rfl, h2⟩; have e3 := cell_later h2 d3; have e4 := cell_later h2 d4; have f0 := cell_later h2 u0; have f1 := cell_later h2 u1; have f2 := cell_later h2 u2; have f3 := cell_later h2 u3; have g0 := cell_later h2 v0; have g1 := cell_later h2 v1; have g2 := cell_later h2 v2; have g3 := cell_later h2 v3; have O2 := hidOf (Out.trans (HO.out.drewN _) h2); clear h2))
      go_wp2
      go_roundw
      case rel => exact ⟨k + 1, by simp, by omega, O2⟩
      case measure => simp [intOf]; omega
    · have hltI : ¬ (k : Int) < nx := by omega
      go_wp2
      go_ret
      exact ⟨rfl, HO.out⟩
set_option maxRecDepth 20000 in
set_option maxHeartbeats 4000000 in
theorem heldI_any (w : World) (B p : Nat) (ct tt : Int) (r : Nat → Value) (L : Nat → List Iv) (h : ShI w B p ct tt r L) (hl : (L 3).length = (L 2).length) (hp : PrI w (L 2) (L 3)) (hF : (L 2).length ≤ 1000) :
    Calls Tryz.prog 39 #[.pointer (some ⟨p, 0, none⟩)] w fun e w' => e = .returned (.bool true) ∧ Out w w' := by
  obtain ⟨nx, hnx⟩ : ∃ n, Hid (n = (L 2).length) := ⟨_, rfl⟩
  obtain ⟨af, cf, e0⟩ := own_form (h.row 2 (by omega))
  obtain ⟨aw, cw, e1⟩ := own_form (h.row 3 (by omega))
  have q0 := h.row 2 (by omega)
  have q1 := h.row 3 (by omega)
  rw [hl] at e1
  rw [← hnx.out] at e0 e1
  rw [← hnx.out, e0] at q0
  rw [hl, ← hnx.out, e1] at q1
  rw [← hnx.out] at hF
  have HP := hidOf hp
  have Hl := hidOf hl
  have Q0 := hidOf q0
  have Q1 := hidOf q1
  have c3 : w.cell? ⟨p, 5, none⟩ = some (.slice af nx cf) := by rw [cell_atL h.st, ← e0]; rfl
  have c4 : w.cell? ⟨p, 6, none⟩ = some (.slice aw nx cw) := by rw [cell_atL h.st, ← e1]; rfl
  clear h hp hl e0 e1 q0 q1
  go_enter Tryz.func39, Tryz.ntmps39
  go_wp2
  go_loopw [3] (fun kv wr => ∃ k : Nat, kv = .int .i64 k ∧ k ≤ nx ∧ Hid (Out w wr)) (fun kv _ => nx - (intOf kv).toNat)
  case atStart => exact ⟨0, rfl, by omega, hidOf (Out.refl w)⟩
  case round =>
    obtain ⟨k, rfl, hk, HO⟩ := hrel
    have d3 := cell_later HO.out c3
    have d4 := cell_later HO.out c4
    by_cases hlt : k < nx
    · have hltI : (k : Int) < nx := by omega
      obtain ⟨x, hx⟩ : ∃ x, (L 2)[k]? = some x := ⟨_, List.getElem?_eq_getElem (by rw [← hnx.out]; exact hlt)⟩
      obtain ⟨y, hy⟩ : ∃ y, (L 3)[k]? = some y := ⟨_, List.getElem?_eq_getElem (by rw [Hl.out, ← hnx.out]; exact hlt)⟩
      obtain ⟨M, hM1, hM2, hsz⟩ := HP.out k x y hx hy
      obtain ⟨ta, tc, fa, fc, da, dc, rfl, s1⟩ := hM1.s
      obtain ⟨ta', tc', fa', fc', da', dc', rfl, s2⟩ := hM2.s
      obtain ⟨gf, rfl, u0, u1, u2, u3⟩ := own_getI Q0.out hx
      obtain ⟨gw, rfl, v0, v1, v2, v3⟩ := own_getI Q1.out hy
      simp only at u0 u1 u2 u3 v0 v1 v2 v3
      obtain ⟨nT, hT⟩ : ∃ n, M.T.length = n := ⟨_, rfl⟩
      obtain ⟨nF, hF'⟩ : ∃ n, M.F.length = n := ⟨_, rfl⟩
      obtain ⟨nD, hD⟩ : ∃ n, M.D.length = n := ⟨_, rfl⟩
      obtain ⟨en, hE⟩ : ∃ n, M.en = n := ⟨_, rfl⟩
      have CS : Hid (∀ wx, Out wr wx → Calls Tryz.prog 11 #[.agg #[.slice ta nT tc, .slice fa nF fc, .slice da nD dc, .int .i64 en], .agg #[.slice ta' nT tc', .slice fa' nF fc', .slice da' nD dc', .int .i64 en]] wx fun e w' => e = .returned (.bool true) ∧ Out wx w') := fun wx ho => sameImV wx M nT nF nD en hT hF' hD hE ta fa da ta' fa' da' tc fc dc tc' fc' dc' (s1.out (Out.trans HO.out ho)) (s2.out (Out.trans HO.out ho)) hsz
      rw [hT] at u0 v0
      rw [hF'] at u1 v1
      rw [hD] at u2 v2
      rw [hE] at u3 v3
      have u0 := cell_later HO.out u0
      have u1 := cell_later HO.out u1
      have u2 := cell_later HO.out u2
      have u3 := cell_later HO.out u3
      have v0 := cell_later HO.out v0
      have v1 := cell_later HO.out v1
      have v2 := cell_later HO.out v2
      have v3 := cell_later HO.out v3
      clear hx hy hM1 hM2 s1 s2 hT hF' hD hE hsz
      go_upto_region 4 with fail
      go_region_held3 (fun w' => w'.cell? ⟨p, 5, none⟩ = some (.slice (some ⟨gf, 0, none⟩) nx cf) ∧ w'.cell? ⟨p, 6, none⟩ = some (.slice (some ⟨gw, 0, none⟩) nx cw) ∧ w'.cell? ⟨gf, k * 4, none⟩ = some (.slice ta nT tc) ∧ w'.cell? ⟨gf, k * 4 + 1, none⟩ = some (.slice fa nF fc) ∧ w'.cell? ⟨gf, k * 4 + 2, none⟩ = some (.slice da nD dc) ∧ w'.cell? ⟨gf, k * 4 + 3, none⟩ = some (.int .i64 en) ∧ w'.cell? ⟨gw, k * 4, none⟩ = some (.slice ta' nT tc') ∧ w'.cell? ⟨gw, k * 4 + 1, none⟩ = some (.slice fa' nF fc') ∧ w'.cell? ⟨gw, k * 4 + 2, none⟩ = some (.slice da' nD dc') ∧ w'.cell? ⟨gw, k * 4 + 3, none⟩ = some (.int .i64 en)) (first | exact ⟨d3, d4, u0, u1, u2, u3, v0, v1, v2, v3⟩ | exact ⟨e3, e4, f0, f1, f2, f3, g0, g1, g2, g3⟩ | go_keep) (first | (go_at_call 11; refine (CS.out _ ((Out.refl wr).drewN _)).mono ?_; rintro e w2 ⟨rfl, h2⟩; have e3 := cell_later h2 d3; have e4 := cell_later h2 d4; have f0 := cell_later h2 u0; have f1 := cell_later h2 u1; have f2 := cell_later h2 u2; have f3 := cell_later h2 u3; have g0 := cell_later h2 v0; have g1 := cell_later h2 v1; have g2 := cell_later h2 v2; have g3 := cell_later h2 v3; have O2 := hidOf (Out.trans (HO.out.drewN _) h2); clear h2))
      go_wp2
      go_roundw
      case rel => exact ⟨k + 1, by simp, by omega, O2⟩
      case measure => simp [intOf]; omega
    · have hltI : ¬ (k : Int) < nx := by omega
      go_wp2
      go_ret
      exact ⟨rfl, HO.out⟩
set_option maxRecDepth 20000 in
set_option maxHeartbeats 1000000 in
theorem holdsI_any (w : World) (B p : Nat) (ct tt : Int) (r : Nat → Value) (L : Nat → List Iv) (h : ShI w B p ct tt r L) (hl : (L 1).length = (L 0).length) (hp : PrI w (L 0) (L 1)) (hF : (L 0).length ≤ 1000) (hl2 : (L 3).length = (L 2).length) (hp2 : PrI w (L 2) (L 3)) (hK : (L 2).length ≤ 1000) :
    Calls Tryz.prog 14 #[.pointer (some ⟨p, 0, none⟩)] w fun e w' => e = .returned (.bool true) ∧ Out w w' := by
  have HU := hidOf (untouchedI_any w B p ct tt r L h hl hp hF)
  have HQ : Hid (∀ wx, Out w wx → Calls Tryz.prog 39 #[.pointer (some ⟨p, 0, none⟩)] wx fun e w' => e = .returned (.bool true) ∧ Out wx w') := fun wx o => heldI_any wx B p ct tt r L (h.out o) hl2 (hp2.out o) hK
  have c2 : w.cell? ⟨p, 2, none⟩ = some (.bool false) := by rw [cell_atL h.st]; rfl
  clear h hp hp2 hl hl2
  go_enter Tryz.func14, Tryz.ntmps14
  go_wp2_with (first | (go_at_call 39; refine (HQ.out _ O1.out).mono ?_; rintro e w2 ⟨rfl, ho⟩; have O2 := hidOf (Out.trans O1.out ho); clear ho) | (go_at_call 38; refine HU.out.mono ?_; rintro e w1 ⟨rfl, ho⟩; have O1 := hidOf ho; clear ho))
  go_ret
  exact ⟨rfl, O2.out⟩
end Go.Proofs.YthififblejbleaaGreatDoor
