import Derived.Test.YtmpbdakmmelmgaaGa45
namespace Go.Proofs.Ytmpbdakmmelmgaa
open Go.RowKit
set_option linter.unusedVariables false
set_option linter.unusedSimpArgs false
def dlen (w : World) (pk : Nat) : Nat := match w.cell? ⟨pk, 1, none⟩ with
  | some (.slice _ n _) => n
  | _ => 0
theorem dlen_of {w : World} {pk n c : Nat} {a : Option Addr} (h : w.cell? ⟨pk, 1, none⟩ = some (.slice a n c)) : dlen w pk = n := by simp [dlen, h]
theorem infoLd : (Try.prog.info? 38).map (fun i => (i.zero, i.size, i.bytes)) = some (some (.agg #[.slice none 0 0, .int .i64 0]), 2, 32) := by kernel_rfl
theorem grow4 {w w4 : World} {O : Obj} {r : Option Nat} (h : (w.alloc O).grownBy w4 r) : Chg (fun b => r = some b) w w4 := (Chg.of_out (S := fun b => r = some b) ((Out.refl w).alloc O)).trans (Chg.of_grown h (fun k h => h)) (fun b hb _ => hb)
section
variable {W w w4 : World} {pk pb B : Nat} {cb c1 : Int} {A Z E : List (Value × List Int)} {la : Value} {K : List Ln} {da : Option Addr} {dc : Nat}
theorem Rk.st4 (h : Rk W w pk pb B cb c1 A Z E la (.slice da K.length dc) K) (c : Chg (fun b => (Value.slice da K.length dc).ownBlock = some b) w w4) : w4.heap[pk]? = some (.cells #[la, .slice da K.length dc] 27 (0, 0)) :=
  (c.block pk h.lt (fun e => own_kind h.own h.st (by decide) e)).trans h.st
theorem Rk.grown (h : Rk W w pk pb B cb c1 A Z E la (.slice da K.length dc) K) (c : Chg (fun b => (Value.slice da K.length dc).ownBlock = some b) w w4) {a4 : Option Addr} {c4 : Nat} (ho : w4.ownsRow B 38 2 (.slice a4 (K.length + 1) c4) (K.length + 1) (lnV K ++ [.slice none 0 0, .int .i64 0])) : Rk W (w4.setCell ⟨pk, 1, none⟩ (.slice a4 (K.length + 1) c4)) pk pb B cb c1 A Z E la (.slice a4 (K.length + 1) c4) (K ++ [⟨none, 0⟩]) := by
  have st4 := h.st4 c
  have c2 : Chg (fun k => k = pk) w4 (w4.setCell ⟨pk, 1, none⟩ (.slice a4 (K.length + 1) c4)) := Chg.setCell (S := fun k => k = pk) (Chg.refl _ w4) (p := ⟨pk, 1, none⟩) rfl _
  refine h.grow (S := fun k => k = pk ∨ (Value.slice da K.length dc).ownBlock = some k) ((c.mono (fun k hk _ => .inr hk)).trans (c2.mono (fun k hk _ => .inl hk)) (fun k hk _ => hk)) (fun k hk => hk) ?_ ?_ (fun i x g C hx hb => ?_)
  · rw [set_atL st4]; rfl
  · have h1 : OwL B (.slice a4 (K.length + 1) c4) (K ++ [⟨none, 0⟩]) w4 := by
      unfold OwL
      rw [lnV_app, List.length_append]
      exact ho
    exact owns_chg h1 (fun k hk e => own_kind h1 st4 (by decide) (by rw [← e]; exact hk)) c2
  · by_cases hi : i < K.length
    · rwa [List.getElem?_append_left hi] at hx
    · rw [List.getElem?_append_right (by omega)] at hx
      have h0 : i - K.length = 0 := by have := (List.getElem?_eq_some_iff.1 hx).1; simp at this; omega
      rw [h0] at hx
      simp at hx
      subst hx
      cases hb
theorem RowX.grown {gl : Nat} {M : List SV} (hX : RowX w gl M) (c : Chg (fun b => (Value.slice da K.length dc).ownBlock = some b) w w4) (h : Rk W w pk pb B cb c1 A Z E la (.slice da K.length dc) K) (u : Value) : RowX (w4.setCell ⟨pk, 1, none⟩ u) gl M := by
  refine hX.same ?_
  rw [Below.heap_setCell _ _ _ _ (fun e => ?_)]
  · exact c.block gl hX.lt (fun e => own_kind h.own hX (by decide) e)
  · change gl = pk at e
    have h1 := h.st
    have h2 : w.heap[gl]? = _ := hX
    rw [← e, h2] at h1
    simp at h1
/-- the first n are lent, all behind the list are what stands behind -/
structure Ld (L M : List SV) (K : List Ln) (n : Nat) : Prop where
  lent : ∀ i x, i < n → L[i]? = some x → ∃ g R, M[i]? = some ⟨x.s, some ⟨g, 0, none⟩, 2 * x.s.d.length + 70⟩ ∧ K[i]? = some ⟨some (g, x.s.d ++ (lmsB x.s.d.length (x.s.d.length + 70) ++ R)), x.s.d.length⟩
  beh : ∀ i, L.length ≤ i → i < M.length → M[i]? = some (behX i)
theorem Ld.step {L M : List SV} {K : List Ln} {j : Nat} (h : Ld L M K j) {x : SV} (hx : L[j]? = some x) (hM : j < M.length) (hK : j < K.length) (g : Nat) (R : List UInt8) : Ld L ((M.set j x).set j ⟨x.s, some ⟨g, 0, none⟩, 2 * x.s.d.length + 70⟩) (K.set j ⟨some (g, x.s.d ++ (lmsB x.s.d.length (x.s.d.length + 70) ++ R)), x.s.d.length⟩) (j + 1) := by
  have hj := (List.getElem?_eq_some_iff.1 hx).1
  rw [List.set_set]
  refine ⟨fun i y hi hy => ?_, fun i h1 h2 => ?_⟩
  · by_cases e : i = j
    · subst e
      rw [hx] at hy
      cases hy
      exact ⟨g, R, by rw [List.getElem?_set_self hM], by rw [List.getElem?_set_self hK]⟩
    · obtain ⟨g', R', h1, h2⟩ := h.lent i y (by omega) hy
      exact ⟨g', R', by rw [List.getElem?_set_ne (by omega)]; exact h1, by rw [List.getElem?_set_ne (by omega)]; exact h2⟩
  · rw [List.length_set] at h2
    rw [List.getElem?_set_ne (by omega)]
    exact h.beh i h1 h2
end
/-- behind lend -/
def LendX (W : World) (pk pb B : Nat) (cb c1 : Int) (A Z : List (Value × List Int)) (L : List SV) (m gl KB : Nat) (e : Ending) (w' : World) : Prop :=
  e = .returned (.slice (some ⟨gl, 0, none⟩) L.length m) ∧ ∃ M E' dv' K', Rk W w' pk pb B cb c1 A Z E' (.slice (some ⟨gl, 0, none⟩) m m) dv' K' ∧ RowX w' gl M ∧ M.length = m ∧ Ld L M K' L.length ∧ K'.length ≤ KB ∧ L.length ≤ K'.length
set_option maxRecDepth 20000 in
set_option maxHeartbeats 4000000 in
theorem rackLend_again (W w : World) (pk pb B gl m : Nat) (cb c1 : Int) (A Z E : List (Value × List Int)) (dv : Value) (K : List Ln) (M0 : List SV) (h : Rk W w pk pb B cb c1 A Z E (.slice (some ⟨gl, 0, none⟩) m m) dv K) (hX : RowX w gl M0) (hXl : M0.length = m) (hgB : B ≤ gl) (a : Option Addr) (cap : Nat) (L : List SV) (hL : ScAt W.heap.size W a L) (hD : ∀ x ∈ L, DR W x) (hDl : ∀ x ∈ L, x.s.d.length ≤ 1000000000000) (hcap : L.length ≤ cap) (hm : 2 * L.length + 9 ≤ m) (hmm : m ≤ 1000000000000) (KB : Nat) (hK : K.length ≤ KB) (hLK : L.length ≤ KB) (hKB : KB ≤ 100000000000) :
    Calls Try.prog 14 #[.pointer (some ⟨pk, 0, none⟩), .slice a L.length cap] w fun e w' => LendX W pk pb B cb c1 A Z L m gl KB e w' := by
  obtain ⟨i0, hi, hz0, hz1, hz2⟩ := info_parts infoLd
  have H := hidOf h
  have HX := hidOf hX
  have HXl := hidOf hXl
  have HL := hidOf hL
  have HD := hidOf hD
  have HDl := hidOf hDl
  have c0 := h.c0
  have hcI : (L.length : Int) ≤ cap := by omega
  have hmI : ¬ (m : Int) < 2 * (L.length : Int) + 9 := by omega
  have hmI2 : (L.length : Int) ≤ m := by omega
  clear h hX hXl hL hD hDl
  go_enter Try.func14, Try.ntmps14
  go_wp2
  clear c0
  go_loopw [] (fun wr => ∃ (dv : Value) (K : List Ln), Hid (Rk W wr pk pb B cb c1 A Z E (.slice (some ⟨gl, 0, none⟩) m m) dv K) ∧ Hid (RowX wr gl M0) ∧ K.length ≤ KB) (fun wr => L.length - dlen wr pk)
  case atStart => exact ⟨dv, K, H, HX, hK⟩
  case round =>
    clear H HX hK
    obtain ⟨dv, K, H, HX, hK⟩ := hrel
    obtain ⟨da, dc, rfl⟩ := own_form H.out.own
    have d0 := H.out.c0
    have d1 := H.out.c1_
    have f1 := H.out.fr 1
    by_cases hlt : K.length < L.length
    · have hltI : (K.length : Int) < L.length := by omega
      go_wp2_with (at_builtin; go_loud (refine wpList_append_own _ rfl (.tmp 37) (.tmp 39) 25 rfl B 38 i0 _ 2 32 Try.underlying25 hi hz0 hz1 hz2 rfl (by decide) (.slice da K.length dc) K.length (lnV K) rfl (World.ownsRow.alloc H.out.own _) ⟨wr.heap.size, 0, none⟩ 1 1 [.slice none 0 0, .int .i64 0] rfl rfl (news_new wr _ _ _ rfl) (by intro u hu; simp at hu; rcases hu with rfl | rfl <;> rfl) (by unfold maxLen; omega) (by omega) (by rw [size_alloc]; have := H.out.bq.bw; omega) ?_); intro v4 w4 hown4 hgrow4 _; have HO4 := hidOf hown4; have C4 := hidOf (grow4 (show (wr.alloc _).grownBy w4 (Value.slice da K.length dc).ownBlock from hgrow4)); clear hgrow4; obtain ⟨a4, c4, rfl⟩ := own_form hown4; clear hown4; have st4 := hidOf (H.out.st4 C4.out); have q1 : w4.cell? ⟨pk, 1, none⟩ = some (.slice da K.length dc) := (by rw [cell_atL st4.out]; rfl); have g1 : w4.frozen? ⟨pk, 1, none⟩ = false := frozen_atL st4.out 1)
      have HN := hidOf (H.out.grown C4.out (a4 := a4) (c4 := c4) HO4.out)
      have HX2 := hidOf (HX.out.grown C4.out H.out (.slice a4 (K.length + 1) c4))
      go_roundw
      case rel => exact ⟨_, _, HN, HX2, by rw [List.length_append]; simp; omega⟩
      case measure => rw [dlen_of d1, dlen_of HN.out.c1_]; omega
    · have hltI : ¬ (K.length : Int) < L.length := by omega
      go_wp2
      clear d0 d1 f1
      obtain ⟨wy, hwy⟩ : ∃ wy, wy = wr := ⟨_, rfl⟩
      rw [← hwy] at H HX
      have Hwy := hidOf hwy
      clear hwy
      go_loopw [5] (fun iv wr => ∃ i : Nat, iv = .int .i64 i ∧ i ≤ m ∧ Hid (Rk W wr pk pb B cb c1 A Z E (.slice (some ⟨gl, 0, none⟩) m m) (.slice da K.length dc) K) ∧ Hid (RowX wr gl (ovX i (behsX 0 m) M0))) (fun iv _ => m - (intOf iv).toNat)
      case atStart => exact ⟨0, rfl, by omega, by rw [← Hwy.out]; exact H, by rw [← Hwy.out]; exact HX⟩
      case round =>
        clear H HX Hwy
        obtain ⟨i, rfl, hi', H, HX⟩ := hrel
        have d0 := H.out.c0
        have hi0 : (0 : Int) ≤ i := by omega
        by_cases hlt2 : i < m
        · have hlt2I : (i : Int) < m := by omega
          have hol : Hid ((ovX i (behsX 0 m) M0).length = m) := hidOf (by rw [ovX_len (by rw [behsX_len]; omega) (by rw [behsX_len, HXl.out]; omega), HXl.out])
          obtain ⟨z, hz⟩ : ∃ z, (ovX i (behsX 0 m) M0)[i]? = some z := ⟨_, List.getElem?_eq_getElem (by rw [hol.out]; exact hlt2)⟩
          obtain ⟨y0, y1, y2, y3, y4, y5, y6, y7⟩ := HX.out.cells hz
          have e0 := HX.out.frozen (i * 8)
          have e1 := HX.out.frozen (i * 8 + 1)
          have e2 := HX.out.frozen (i * 8 + 2)
          have e3 := HX.out.frozen (i * 8 + 3)
          have e4 := HX.out.frozen (i * 8 + 4)
          have e5 := HX.out.frozen (i * 8 + 5)
          have e6 := HX.out.frozen (i * 8 + 6)
          have e7 := HX.out.frozen (i * 8 + 7)
          have HN := hidOf (H.out.list (chg8 (Chg.refl _ wr) (i * 8) (behX i)) HX.out hgB)
          have HX2 := hidOf (HX.out.set (i := i) (by rw [hol.out]; exact hlt2) (behX i))
          rw [ovX_set (T := behsX 0 m) (by rw [behsX_get hlt2, Nat.zero_add]) (by rw [behsX_len, HXl.out]; omega)] at HX2
          unfold put8 at HN HX2
          simp only [behX] at HN HX2
          clear hz
          go_wp2
          go_roundw
          case rel => exact ⟨i + 1, by simp, by omega, HN, HX2⟩
          case measure => simp [intOf]; omega
        · have hlt2I : ¬ (i : Int) < m := by omega
          obtain rfl : i = m := by omega
          have HX1 : Hid (RowX wr gl (behsX 0 i)) := hidOf (by
            have h1 := HX.out
            rw [show ovX i (behsX 0 i) M0 = behsX 0 i by unfold ovX; rw [List.take_of_length_le (by rw [behsX_len]; omega), List.drop_eq_nil_of_le (by rw [HXl.out]; omega), List.append_nil]] at h1
            exact h1)
          clear HX
          have hltK : L.length ≤ K.length := by omega
          go_wp2
          clear d0
          obtain ⟨wy, hwy⟩ : ∃ wy, wy = wr := ⟨_, rfl⟩
          rw [← hwy] at H HX1
          have Hwy := hidOf hwy
          clear hwy hlt2I hlt2 hi0 hltI hlt
          obtain ⟨KL, hKL⟩ : ∃ KL, KL = K.length := ⟨_, rfl⟩
          rw [← hKL] at H hltK hK ⊢
          have HKL := hidOf hKL
          clear hKL
          go_loopw [6] (fun iv wr => ∃ (j : Nat) (M : List SV) (K : List Ln) (E : List (Value × List Int)), iv = .int .i64 j ∧ j ≤ L.length ∧ Hid (K.length = KL) ∧ Hid (Rk W wr pk pb B cb c1 A Z E (.slice (some ⟨gl, 0, none⟩) i i) (.slice da KL dc) K) ∧ Hid (RowX wr gl M) ∧ Hid (M.length = i) ∧ Hid (Ld L M K j)) (fun iv _ => L.length - (intOf iv).toNat)
          case atStart => exact ⟨0, behsX 0 i, K, E, rfl, by omega, hidOf HKL.out.symm, by rw [← Hwy.out]; exact H, by rw [← Hwy.out]; exact HX1, hidOf (behsX_len 0 i), hidOf ⟨fun k x h => by omega, fun k h1 h2 => by rw [behsX_len] at h2; rw [behsX_get h2, Nat.zero_add]⟩⟩
          case round =>
            clear H HX1 Hwy HKL
            obtain ⟨j, M, K, E, rfl, hj, hKl, H, HX, HMl, HLd⟩ := hrel
            have d0 := H.out.c0
            have d1 := H.out.c1_
            have hj0 : (0 : Int) ≤ j := by omega
            by_cases hjl : j < L.length
            · have hjI : (j : Int) < L.length := by omega
              have hjm : (j : Int) < i := by omega
              have hjK : (j : Int) < KL := by omega
              obtain ⟨x, hx⟩ : ∃ x, L[j]? = some x := ⟨_, List.getElem?_eq_getElem hjl⟩
              have hxm := List.mem_of_getElem? hx
              obtain ⟨b, off, rfl, hb, h8⟩ := (HL.out.below H.out.out).get hx
              obtain ⟨z, hz⟩ : ∃ z, M[j]? = some z := ⟨_, List.getElem?_eq_getElem (by rw [HMl.out]; omega)⟩
              obtain ⟨y0, y1, y2, y3, y4, y5, y6, y7⟩ := HX.out.cells hz
              have e0 := HX.out.frozen (j * 8)
              have e1 := HX.out.frozen (j * 8 + 1)
              have e2 := HX.out.frozen (j * 8 + 2)
              have e3 := HX.out.frozen (j * 8 + 3)
              have e4 := HX.out.frozen (j * 8 + 4)
              have e5 := HX.out.frozen (j * 8 + 5)
              have e6 := HX.out.frozen (j * 8 + 6)
              have e7 := HX.out.frozen (j * 8 + 7)
              obtain ⟨q0, q1, q2, q3, q4, q5, q6, q7⟩ := h8
              have Hgb : Hid (¬ b = gl) := hidOf (fun e => by have := H.out.bW; omega)
              have Hgp : Hid (¬ pk = gl) := hidOf (fun e => by
                have h1 := H.out.st
                have h2 : wr.heap[gl]? = _ := HX.out
                rw [e, h2] at h1
                simp at h1)
              have hgb : ¬ gl = b := fun e => Hgb.out e.symm
              have hgp : ¬ gl = pk := fun e => Hgp.out e.symm
              have HN := hidOf (H.out.list (chg8 (Chg.refl _ wr) (j * 8) x) HX.out hgB)
              have HX2 := hidOf (HX.out.set (i := j) (by rw [HMl.out]; omega) x)
              unfold put8 at HN HX2
              go_upto_region 12 with fail
              go_region_held3 (fun wx => wx.cell? ⟨pk, 0, none⟩ = some (.slice (some ⟨gl, 0, none⟩) i i) ∧ wx.cell? ⟨b, off + j * 8, none⟩ = some (.string ⟨x.s.nm.toArray⟩) ∧ wx.cell? ⟨b, off + j * 8 + 1, none⟩ = some (.int .i64 x.s.ty) ∧ wx.cell? ⟨b, off + j * 8 + 2, none⟩ = some (.int .i64 x.s.fl) ∧ wx.cell? ⟨b, off + j * 8 + 3, none⟩ = some (.int .i64 x.s.li) ∧ wx.cell? ⟨b, off + j * 8 + 4, none⟩ = some (.int .i64 x.s.inf) ∧ wx.cell? ⟨b, off + j * 8 + 5, none⟩ = some (.int .i64 x.s.al) ∧ wx.cell? ⟨b, off + j * 8 + 6, none⟩ = some (.int .i64 x.s.es) ∧ wx.cell? ⟨b, off + j * 8 + 7, none⟩ = some (.slice x.da x.s.d.length x.dc)) (first | with_reducible exact ⟨d0, q0, q1, q2, q3, q4, q5, q6, q7⟩ | go_keep) (fail)
              have HN3 := hidOf (HN.out.more ((Out.refl _).drew))
              have HX3 := hidOf (HX2.out.out ((Out.refl _).drew))
              generalize ((((((((wr.setCell ⟨gl, j * 8, none⟩ (.string ⟨x.s.nm.toArray⟩)).setCell ⟨gl, j * 8 + 1, none⟩ (.int .i64 x.s.ty)).setCell ⟨gl, j * 8 + 2, none⟩ (.int .i64 x.s.fl)).setCell ⟨gl, j * 8 + 3, none⟩ (.int .i64 x.s.li)).setCell ⟨gl, j * 8 + 4, none⟩ (.int .i64 x.s.inf)).setCell ⟨gl, j * 8 + 5, none⟩ (.int .i64 x.s.al)).setCell ⟨gl, j * 8 + 6, none⟩ (.int .i64 x.s.es)).setCell ⟨gl, j * 8 + 7, none⟩ (.slice x.da x.s.d.length x.dc)).drew = w2 at *
              clear HN HX2 y0 y1 y2 y3 y4 y5 y6 y7 e0 e1 e2 e3 e4 e5 e6 e7 q0 q1 q2 q3 q4 q5 q6 q7 d0 d1 H HX hz
              obtain ⟨lx, hlx⟩ : ∃ lx, K[j]? = some lx := ⟨_, List.getElem?_eq_getElem (by rw [hKl.out]; omega)⟩
              have HSS : Hid (∀ wx E K, Rk W wx pk pb B cb c1 A Z E (.slice (some ⟨gl, 0, none⟩) i i) (.slice da KL dc) K → wx.cell? ⟨pk, 0, none⟩ = some (.slice (some ⟨gl, 0, none⟩) i i) ∧ wx.cell? ⟨pk, 1, none⟩ = some (.slice da KL dc) ∧ wx.cell? ⟨b, off + j * 8 + 7, none⟩ = some (.slice x.da x.s.d.length x.dc)) := hidOf (fun wx E K h => by
                obtain ⟨b', off', e, _, h8⟩ := (HL.out.below h.out).get hx
                simp only [Option.some.injEq, Addr.mk.injEq] at e
                obtain ⟨rfl, rfl, _⟩ := e
                exact ⟨h.c0, h.c1_, h8.c7⟩)
              have HPd : Hid (∃ p, da = some ⟨p, 0, none⟩) := hidOf (by
                obtain ⟨p, c, hdv, _, _⟩ := HN3.out.lend1 hlx x.da x.dc x.s.d (HD.out x hxm).1 (by have := HDl.out x hxm; omega)
                simp only [Value.slice.injEq] at hdv
                exact ⟨p, hdv.1⟩)
              obtain ⟨p, rfl⟩ := HPd.out
              clear HPd
              have CL : Hid (∀ wx, Out w2 wx → Calls Try.prog 20 #[.pointer (some ⟨p, j * 2, none⟩), .slice x.da x.s.d.length x.dc] wx fun e w' => ∃ g R E', e = .returned (.slice (some ⟨g, 0, none⟩) x.s.d.length (2 * x.s.d.length + 70)) ∧ Rk W w' pk pb B cb c1 A Z E' (.slice (some ⟨gl, 0, none⟩) i i) (.slice (some ⟨p, 0, none⟩) KL dc) (K.set j ⟨some (g, x.s.d ++ (lmsB x.s.d.length (x.s.d.length + 70) ++ R)), x.s.d.length⟩) ∧ RowX w' gl (M.set j x)) := hidOf (fun wx o => by
                obtain ⟨p', c', hdv, _, hC⟩ := (HN3.out.more o).lend1 hlx x.da x.dc x.s.d (HD.out x hxm).1 (by have := HDl.out x hxm; omega)
                simp only [Value.slice.injEq, Option.some.injEq, Addr.mk.injEq] at hdv
                obtain ⟨⟨rfl, _⟩, _⟩ := hdv
                refine hC.mono ?_
                rintro e w' ⟨g, R, E', he, h1, h2⟩
                exact ⟨g, R, E', he, h1, (HX3.out.out o).same (h2 _ _ (HX3.out.out o))⟩)
              have OD := hidOf ((Out.refl w2).drew)
              have S2 := HSS.out w2 E K HN3.out
              have HCl : Hid ((M.set j x)[j]? = some x) := hidOf (by rw [List.getElem?_set_self (by rw [HMl.out]; omega)])
              clear hlx
              go_upto_region 13 with fail
              go_region_held3 (fun wx => wx.cell? ⟨pk, 0, none⟩ = some (.slice (some ⟨gl, 0, none⟩) i i) ∧ wx.cell? ⟨pk, 1, none⟩ = some (.slice (some ⟨p, 0, none⟩) KL dc) ∧ wx.cell? ⟨b, off + j * 8 + 7, none⟩ = some (.slice x.da x.s.d.length x.dc)) (first | with_reducible exact S2 | with_reducible exact S3 | go_keep) (first | (go_at_call 20; refine (CL.out _ OD.out).mono ?_; rintro e w3 ⟨g, R, E', rfl, hR, hX⟩; have H3 := hidOf hR; have X3 := hidOf hX; clear hR hX; have S3 := HSS.out w3 _ _ H3.out; have r7 := (X3.out.cells HCl.out).c7; have fz := X3.out.frozen (j * 8 + 7)))
              have H4 := hidOf (H3.out.list (Chg.setCell (S := fun k => k = gl) (Chg.refl _ w3) (p := ⟨gl, j * 8 + 7, none⟩) rfl (.slice (some ⟨g, 0, none⟩) x.s.d.length (2 * x.s.d.length + 70))) X3.out hgB)
              have X4 := hidOf (X3.out.setD HCl.out (some ⟨g, 0, none⟩) (2 * x.s.d.length + 70) x.s.d.length rfl)
              have L4 := hidOf (HLd.out.step hx (by rw [HMl.out]; omega) (by rw [hKl.out]; omega) g R)
              go_wp2
              go_roundw
              case rel =>
                refine ⟨j + 1, _, _, E', by simp, by omega, hidOf (by rw [List.length_set]; exact hKl.out), ?_, ?_, hidOf (by rw [List.length_set, List.length_set]; exact HMl.out), L4⟩
                · first | with_reducible exact H4 | exact hidOf (H4.out.more ((Out.refl _).drew))
                · first | with_reducible exact X4 | exact hidOf (X4.out.out ((Out.refl _).drew))
              case measure => simp [intOf]; omega
            · have hjI : ¬ (j : Int) < L.length := by omega
              obtain rfl : j = L.length := by omega
              go_wp2
              go_ret
              exact ⟨rfl, M, E, _, K, H.out, HX.out, HMl.out, HLd.out, by rw [hKl.out]; exact hK, by rw [hKl.out]; exact hltK⟩
set_option maxRecDepth 20000 in
set_option maxHeartbeats 4000000 in
theorem rackLend_make (W w : World) (pk pb B gl m : Nat) (cb c1 : Int) (A Z E : List (Value × List Int)) (ha : Option Addr) (hn hc : Nat) (dv : Value) (K : List Ln) (M0 : List SV) (h : Rk W w pk pb B cb c1 A Z E (.slice ha hn hc) dv K) (hgl : gl = w.heap.size) (hM0 : M0 = List.replicate m zeroX) (a : Option Addr) (cap : Nat) (L : List SV) (hm : m = 2 * L.length + 9) (hL : ScAt W.heap.size W a L) (hD : ∀ x ∈ L, DR W x) (hDl : ∀ x ∈ L, x.s.d.length ≤ 1000000000000) (hcap : L.length ≤ cap) (hhn : hn < 2 * L.length + 9) (hmm : m ≤ 1000000000000) (KB : Nat) (hK : K.length ≤ KB) (hLK : L.length ≤ KB) (hKB : KB ≤ 100000000000) :
    Calls Try.prog 14 #[.pointer (some ⟨pk, 0, none⟩), .slice a L.length cap] w fun e w' => LendX W pk pb B cb c1 A Z L m gl KB e w' := by
  obtain ⟨i0, hi, hz0, hz1, hz2⟩ := info_parts infoLd
  have c0 := h.c0
  have f0 := h.fr 0
  have hplt := h.lt
  have hmk : (Instr.makeSlice 24 (.int .i64 (2 * (L.length : Int) + 9)) (.int .i64 (2 * (L.length : Int) + 9))).run Try.prog w = .ok (.slice (some ⟨gl, 0, none⟩) m m) (w.alloc (.cells (svV M0).toArray 52)) := by
    have := run_make_secs m (by omega) w
    rw [← hM0, ← hgl, hm] at this
    simpa [hm] using this
  have hsm : (hn : Int) < 2 * (L.length : Int) + 9 := by omega
  have hsz : (w.setCell ⟨pk, 0, none⟩ (.slice (some ⟨gl, 0, none⟩) m m)).heap.size = w.heap.size := by simp [World.setCell]
  have HX : Hid (RowX ((w.setCell ⟨pk, 0, none⟩ (.slice (some ⟨gl, 0, none⟩) m m)).alloc (.cells (svV M0).toArray 52)) gl M0) := hidOf (by
    have := heap_alloc_new (w.setCell ⟨pk, 0, none⟩ (.slice (some ⟨gl, 0, none⟩) m m)) (.cells (svV M0).toArray 52)
    rw [hsz, ← hgl] at this
    exact this)
  have H : Hid (Rk W ((w.setCell ⟨pk, 0, none⟩ (.slice (some ⟨gl, 0, none⟩) m m)).alloc (.cells (svV M0).toArray 52)) pk pb B cb c1 A Z E (.slice (some ⟨gl, 0, none⟩) m m) dv K) := hidOf (by
    have ch : Chg (fun k => k = pk) w (w.setCell ⟨pk, 0, none⟩ (.slice (some ⟨gl, 0, none⟩) m m)) := Chg.setCell (S := fun k => k = pk) (Chg.refl _ w) (p := ⟨pk, 0, none⟩) rfl _
    exact (h.grow ch (fun k hk => .inl hk) (la' := .slice (some ⟨gl, 0, none⟩) m m) (dv' := dv) (K' := K) (by rw [set_atL h.st]; rfl) (owns_chg h.own (fun k hk e => own_kind h.own h.st (by decide) (by rw [← e]; exact hk)) ch) (fun i x g C hx _ => hx)).more ((Out.refl _).alloc _))
  have HXl : Hid (M0.length = m) := hidOf (by rw [hM0]; simp)
  have HL := hidOf hL
  have HD := hidOf hD
  have HDl := hidOf hDl
  have hgB : B ≤ gl := by have := h.bq.bw; omega
  have hcI : (L.length : Int) ≤ cap := by omega
  have hm' : 2 * L.length + 9 ≤ m := by omega
  have hmI2 : (L.length : Int) ≤ m := by omega
  clear h hL hD hDl hM0 hm hgl
  have hm := hm'
  clear hm'
  go_enter Try.func14, Try.ntmps14
  go_wp2
  generalize (w.setCell ⟨pk, 0, none⟩ (.slice (some ⟨gl, 0, none⟩) m m)).alloc (.cells (svV M0).toArray 52) = w1 at *
  clear c0 f0 hmk hsm hsz hplt
  go_loopw [] (fun wr => ∃ (dv : Value) (K : List Ln), Hid (Rk W wr pk pb B cb c1 A Z E (.slice (some ⟨gl, 0, none⟩) m m) dv K) ∧ Hid (RowX wr gl M0) ∧ K.length ≤ KB) (fun wr => L.length - dlen wr pk)
  case atStart => exact ⟨dv, K, H, HX, hK⟩
  case round =>
    clear H HX hK
    obtain ⟨dv, K, H, HX, hK⟩ := hrel
    obtain ⟨da, dc, rfl⟩ := own_form H.out.own
    have d0 := H.out.c0
    have d1 := H.out.c1_
    have f1 := H.out.fr 1
    by_cases hlt : K.length < L.length
    · have hltI : (K.length : Int) < L.length := by omega
      go_wp2_with (at_builtin; go_loud (refine wpList_append_own _ rfl (.tmp 37) (.tmp 39) 25 rfl B 38 i0 _ 2 32 Try.underlying25 hi hz0 hz1 hz2 rfl (by decide) (.slice da K.length dc) K.length (lnV K) rfl (World.ownsRow.alloc H.out.own _) ⟨wr.heap.size, 0, none⟩ 1 1 [.slice none 0 0, .int .i64 0] rfl rfl (news_new wr _ _ _ rfl) (by intro u hu; simp at hu; rcases hu with rfl | rfl <;> rfl) (by unfold maxLen; omega) (by omega) (by rw [size_alloc]; have := H.out.bq.bw; omega) ?_); intro v4 w4 hown4 hgrow4 _; have HO4 := hidOf hown4; have C4 := hidOf (grow4 (show (wr.alloc _).grownBy w4 (Value.slice da K.length dc).ownBlock from hgrow4)); clear hgrow4; obtain ⟨a4, c4, rfl⟩ := own_form hown4; clear hown4; have st4 := hidOf (H.out.st4 C4.out); have q1 : w4.cell? ⟨pk, 1, none⟩ = some (.slice da K.length dc) := (by rw [cell_atL st4.out]; rfl); have g1 : w4.frozen? ⟨pk, 1, none⟩ = false := frozen_atL st4.out 1)
      have HN := hidOf (H.out.grown C4.out (a4 := a4) (c4 := c4) HO4.out)
      have HX2 := hidOf (HX.out.grown C4.out H.out (.slice a4 (K.length + 1) c4))
      go_roundw
      case rel => exact ⟨_, _, HN, HX2, by rw [List.length_append]; simp; omega⟩
      case measure => rw [dlen_of d1, dlen_of HN.out.c1_]; omega
    · have hltI : ¬ (K.length : Int) < L.length := by omega
      go_wp2
      clear d0 d1 f1
      obtain ⟨wy, hwy⟩ : ∃ wy, wy = wr := ⟨_, rfl⟩
      rw [← hwy] at H HX
      have Hwy := hidOf hwy
      clear hwy
      go_loopw [5] (fun iv wr => ∃ i : Nat, iv = .int .i64 i ∧ i ≤ m ∧ Hid (Rk W wr pk pb B cb c1 A Z E (.slice (some ⟨gl, 0, none⟩) m m) (.slice da K.length dc) K) ∧ Hid (RowX wr gl (ovX i (behsX 0 m) M0))) (fun iv _ => m - (intOf iv).toNat)
      case atStart => exact ⟨0, rfl, by omega, by rw [← Hwy.out]; exact H, by rw [← Hwy.out]; exact HX⟩
      case round =>
        clear H HX Hwy
        obtain ⟨i, rfl, hi', H, HX⟩ := hrel
        have d0 := H.out.c0
        have hi0 : (0 : Int) ≤ i := by omega
        by_cases hlt2 : i < m
        · have hlt2I : (i : Int) < m := by omega
          have hol : Hid ((ovX i (behsX 0 m) M0).length = m) := hidOf (by rw [ovX_len (by rw [behsX_len]; omega) (by rw [behsX_len, HXl.out]; omega), HXl.out])
          obtain ⟨z, hz⟩ : ∃ z, (ovX i (behsX 0 m) M0)[i]? = some z := ⟨_, List.getElem?_eq_getElem (by rw [hol.out]; exact hlt2)⟩
          obtain ⟨y0, y1, y2, y3, y4, y5, y6, y7⟩ := HX.out.cells hz
          have e0 := HX.out.frozen (i * 8)
          have e1 := HX.out.frozen (i * 8 + 1)
          have e2 := HX.out.frozen (i * 8 + 2)
          have e3 := HX.out.frozen (i * 8 + 3)
          have e4 := HX.out.frozen (i * 8 + 4)
          have e5 := HX.out.frozen (i * 8 + 5)
          have e6 := HX.out.frozen (i * 8 + 6)
          have e7 := HX.out.frozen (i * 8 + 7)
          have HN := hidOf (H.out.list (chg8 (Chg.refl _ wr) (i * 8) (behX i)) HX.out hgB)
          have HX2 := hidOf (HX.out.set (i := i) (by rw [hol.out]; exact hlt2) (behX i))
          rw [ovX_set (T := behsX 0 m) (by rw [behsX_get hlt2, Nat.zero_add]) (by rw [behsX_len, HXl.out]; omega)] at HX2
          unfold put8 at HN HX2
          simp only [behX] at HN HX2
          clear hz
          go_wp2
          go_roundw
          case rel => exact ⟨i + 1, by simp, by omega, HN, HX2⟩
          case measure => simp [intOf]; omega
        · have hlt2I : ¬ (i : Int) < m := by omega
          obtain rfl : i = m := by omega
          have HX1 : Hid (RowX wr gl (behsX 0 i)) := hidOf (by
            have h1 := HX.out
            rw [show ovX i (behsX 0 i) M0 = behsX 0 i by unfold ovX; rw [List.take_of_length_le (by rw [behsX_len]; omega), List.drop_eq_nil_of_le (by rw [HXl.out]; omega), List.append_nil]] at h1
            exact h1)
          clear HX
          have hltK : L.length ≤ K.length := by omega
          go_wp2
          clear d0
          obtain ⟨wy, hwy⟩ : ∃ wy, wy = wr := ⟨_, rfl⟩
          rw [← hwy] at H HX1
          have Hwy := hidOf hwy
          clear hwy hlt2I hlt2 hi0 hltI hlt
          obtain ⟨KL, hKL⟩ : ∃ KL, KL = K.length := ⟨_, rfl⟩
          rw [← hKL] at H hltK hK ⊢
          have HKL := hidOf hKL
          clear hKL
          go_loopw [6] (fun iv wr => ∃ (j : Nat) (M : List SV) (K : List Ln) (E : List (Value × List Int)), iv = .int .i64 j ∧ j ≤ L.length ∧ Hid (K.length = KL) ∧ Hid (Rk W wr pk pb B cb c1 A Z E (.slice (some ⟨gl, 0, none⟩) i i) (.slice da KL dc) K) ∧ Hid (RowX wr gl M) ∧ Hid (M.length = i) ∧ Hid (Ld L M K j)) (fun iv _ => L.length - (intOf iv).toNat)
          case atStart => exact ⟨0, behsX 0 i, K, E, rfl, by omega, hidOf HKL.out.symm, by rw [← Hwy.out]; exact H, by rw [← Hwy.out]; exact HX1, hidOf (behsX_len 0 i), hidOf ⟨fun k x h => by omega, fun k h1 h2 => by rw [behsX_len] at h2; rw [behsX_get h2, Nat.zero_add]⟩⟩
          case round =>
            clear H HX1 Hwy HKL
            obtain ⟨j, M, K, E, rfl, hj, hKl, H, HX, HMl, HLd⟩ := hrel
            have d0 := H.out.c0
            have d1 := H.out.c1_
            have hj0 : (0 : Int) ≤ j := by omega
            by_cases hjl : j < L.length
            · have hjI : (j : Int) < L.length := by omega
              have hjm : (j : Int) < i := by omega
              have hjK : (j : Int) < KL := by omega
              obtain ⟨x, hx⟩ : ∃ x, L[j]? = some x := ⟨_, List.getElem?_eq_getElem hjl⟩
              have hxm := List.mem_of_getElem? hx
              obtain ⟨b, off, rfl, hb, h8⟩ := (HL.out.below H.out.out).get hx
              obtain ⟨z, hz⟩ : ∃ z, M[j]? = some z := ⟨_, List.getElem?_eq_getElem (by rw [HMl.out]; omega)⟩
              obtain ⟨y0, y1, y2, y3, y4, y5, y6, y7⟩ := HX.out.cells hz
              have e0 := HX.out.frozen (j * 8)
              have e1 := HX.out.frozen (j * 8 + 1)
              have e2 := HX.out.frozen (j * 8 + 2)
              have e3 := HX.out.frozen (j * 8 + 3)
              have e4 := HX.out.frozen (j * 8 + 4)
              have e5 := HX.out.frozen (j * 8 + 5)
              have e6 := HX.out.frozen (j * 8 + 6)
              have e7 := HX.out.frozen (j * 8 + 7)
              obtain ⟨q0, q1, q2, q3, q4, q5, q6, q7⟩ := h8
              have Hgb : Hid (¬ b = gl) := hidOf (fun e => by have := H.out.bW; omega)
              have Hgp : Hid (¬ pk = gl) := hidOf (fun e => by
                have h1 := H.out.st
                have h2 : wr.heap[gl]? = _ := HX.out
                rw [e, h2] at h1
                simp at h1)
              have hgb : ¬ gl = b := fun e => Hgb.out e.symm
              have hgp : ¬ gl = pk := fun e => Hgp.out e.symm
              have HN := hidOf (H.out.list (chg8 (Chg.refl _ wr) (j * 8) x) HX.out hgB)
              have HX2 := hidOf (HX.out.set (i := j) (by rw [HMl.out]; omega) x)
              unfold put8 at HN HX2
              go_upto_region 12 with fail
              go_region_held3 (fun wx => wx.cell? ⟨pk, 0, none⟩ = some (.slice (some ⟨gl, 0, none⟩) i i) ∧ wx.cell? ⟨b, off + j * 8, none⟩ = some (.string ⟨x.s.nm.toArray⟩) ∧ wx.cell? ⟨b, off + j * 8 + 1, none⟩ = some (.int .i64 x.s.ty) ∧ wx.cell? ⟨b, off + j * 8 + 2, none⟩ = some (.int .i64 x.s.fl) ∧ wx.cell? ⟨b, off + j * 8 + 3, none⟩ = some (.int .i64 x.s.li) ∧ wx.cell? ⟨b, off + j * 8 + 4, none⟩ = some (.int .i64 x.s.inf) ∧ wx.cell? ⟨b, off + j * 8 + 5, none⟩ = some (.int .i64 x.s.al) ∧ wx.cell? ⟨b, off + j * 8 + 6, none⟩ = some (.int .i64 x.s.es) ∧ wx.cell? ⟨b, off + j * 8 + 7, none⟩ = some (.slice x.da x.s.d.length x.dc)) (first | with_reducible exact ⟨d0, q0, q1, q2, q3, q4, q5, q6, q7⟩ | go_keep) (fail)
              have HN3 := hidOf (HN.out.more ((Out.refl _).drew))
              have HX3 := hidOf (HX2.out.out ((Out.refl _).drew))
              generalize ((((((((wr.setCell ⟨gl, j * 8, none⟩ (.string ⟨x.s.nm.toArray⟩)).setCell ⟨gl, j * 8 + 1, none⟩ (.int .i64 x.s.ty)).setCell ⟨gl, j * 8 + 2, none⟩ (.int .i64 x.s.fl)).setCell ⟨gl, j * 8 + 3, none⟩ (.int .i64 x.s.li)).setCell ⟨gl, j * 8 + 4, none⟩ (.int .i64 x.s.inf)).setCell ⟨gl, j * 8 + 5, none⟩ (.int .i64 x.s.al)).setCell ⟨gl, j * 8 + 6, none⟩ (.int .i64 x.s.es)).setCell ⟨gl, j * 8 + 7, none⟩ (.slice x.da x.s.d.length x.dc)).drew = w2 at *
              clear HN HX2 y0 y1 y2 y3 y4 y5 y6 y7 e0 e1 e2 e3 e4 e5 e6 e7 q0 q1 q2 q3 q4 q5 q6 q7 d0 d1 H HX hz
              obtain ⟨lx, hlx⟩ : ∃ lx, K[j]? = some lx := ⟨_, List.getElem?_eq_getElem (by rw [hKl.out]; omega)⟩
              have HSS : Hid (∀ wx E K, Rk W wx pk pb B cb c1 A Z E (.slice (some ⟨gl, 0, none⟩) i i) (.slice da KL dc) K → wx.cell? ⟨pk, 0, none⟩ = some (.slice (some ⟨gl, 0, none⟩) i i) ∧ wx.cell? ⟨pk, 1, none⟩ = some (.slice da KL dc) ∧ wx.cell? ⟨b, off + j * 8 + 7, none⟩ = some (.slice x.da x.s.d.length x.dc)) := hidOf (fun wx E K h => by
                obtain ⟨b', off', e, _, h8⟩ := (HL.out.below h.out).get hx
                simp only [Option.some.injEq, Addr.mk.injEq] at e
                obtain ⟨rfl, rfl, _⟩ := e
                exact ⟨h.c0, h.c1_, h8.c7⟩)
              have HPd : Hid (∃ p, da = some ⟨p, 0, none⟩) := hidOf (by
                obtain ⟨p, c, hdv, _, _⟩ := HN3.out.lend1 hlx x.da x.dc x.s.d (HD.out x hxm).1 (by have := HDl.out x hxm; omega)
                simp only [Value.slice.injEq] at hdv
                exact ⟨p, hdv.1⟩)
              obtain ⟨p, rfl⟩ := HPd.out
              clear HPd
              have CL : Hid (∀ wx, Out w2 wx → Calls Try.prog 20 #[.pointer (some ⟨p, j * 2, none⟩), .slice x.da x.s.d.length x.dc] wx fun e w' => ∃ g R E', e = .returned (.slice (some ⟨g, 0, none⟩) x.s.d.length (2 * x.s.d.length + 70)) ∧ Rk W w' pk pb B cb c1 A Z E' (.slice (some ⟨gl, 0, none⟩) i i) (.slice (some ⟨p, 0, none⟩) KL dc) (K.set j ⟨some (g, x.s.d ++ (lmsB x.s.d.length (x.s.d.length + 70) ++ R)), x.s.d.length⟩) ∧ RowX w' gl (M.set j x)) := hidOf (fun wx o => by
                obtain ⟨p', c', hdv, _, hC⟩ := (HN3.out.more o).lend1 hlx x.da x.dc x.s.d (HD.out x hxm).1 (by have := HDl.out x hxm; omega)
                simp only [Value.slice.injEq, Option.some.injEq, Addr.mk.injEq] at hdv
                obtain ⟨⟨rfl, _⟩, _⟩ := hdv
                refine hC.mono ?_
                rintro e w' ⟨g, R, E', he, h1, h2⟩
                exact ⟨g, R, E', he, h1, (HX3.out.out o).same (h2 _ _ (HX3.out.out o))⟩)
              have OD := hidOf ((Out.refl w2).drew)
              have S2 := HSS.out w2 E K HN3.out
              have HCl : Hid ((M.set j x)[j]? = some x) := hidOf (by rw [List.getElem?_set_self (by rw [HMl.out]; omega)])
              clear hlx
              go_upto_region 13 with fail
              go_region_held3 (fun wx => wx.cell? ⟨pk, 0, none⟩ = some (.slice (some ⟨gl, 0, none⟩) i i) ∧ wx.cell? ⟨pk, 1, none⟩ = some (.slice (some ⟨p, 0, none⟩) KL dc) ∧ wx.cell? ⟨b, off + j * 8 + 7, none⟩ = some (.slice x.da x.s.d.length x.dc)) (first | with_reducible exact S2 | with_reducible exact S3 | go_keep) (first | (go_at_call 20; refine (CL.out _ OD.out).mono ?_; rintro e w3 ⟨g, R, E', rfl, hR, hX⟩; have H3 := hidOf hR; have X3 := hidOf hX; clear hR hX; have S3 := HSS.out w3 _ _ H3.out; have r7 := (X3.out.cells HCl.out).c7; have fz := X3.out.frozen (j * 8 + 7)))
              have H4 := hidOf (H3.out.list (Chg.setCell (S := fun k => k = gl) (Chg.refl _ w3) (p := ⟨gl, j * 8 + 7, none⟩) rfl (.slice (some ⟨g, 0, none⟩) x.s.d.length (2 * x.s.d.length + 70))) X3.out hgB)
              have X4 := hidOf (X3.out.setD HCl.out (some ⟨g, 0, none⟩) (2 * x.s.d.length + 70) x.s.d.length rfl)
              have L4 := hidOf (HLd.out.step hx (by rw [HMl.out]; omega) (by rw [hKl.out]; omega) g R)
              go_wp2
              go_roundw
              case rel =>
                refine ⟨j + 1, _, _, E', by simp, by omega, hidOf (by rw [List.length_set]; exact hKl.out), ?_, ?_, hidOf (by rw [List.length_set, List.length_set]; exact HMl.out), L4⟩
                · first | with_reducible exact H4 | exact hidOf (H4.out.more ((Out.refl _).drew))
                · first | with_reducible exact X4 | exact hidOf (X4.out.out ((Out.refl _).drew))
              case measure => simp [intOf]; omega
            · have hjI : ¬ (j : Int) < L.length := by omega
              obtain rfl : j = L.length := by omega
              go_wp2
              go_ret
              exact ⟨rfl, M, E, _, K, H.out, HX.out, HMl.out, HLd.out, by rw [hKl.out]; exact hK, by rw [hKl.out]; exact hltK⟩
end Go.Proofs.Ytmpbdakmmelmgaa
