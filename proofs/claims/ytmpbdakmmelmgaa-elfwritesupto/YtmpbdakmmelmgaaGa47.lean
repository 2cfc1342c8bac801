import Derived.Test.YtmpbdakmmelmgaaGa46
namespace Go.Proofs.Ytmpbdakmmelmgaa
open Go.RowKit
set_option linter.unusedVariables false
set_option linter.unusedSimpArgs false
section
variable {W w : World} {pk pb B gl : Nat} {cb c1 : Int} {A Z E : List (Value × List Int)} {la dv : Value} {K : List Ln} {L M : List SV}
theorem Ld.secs (h : Ld L M K L.length) (hM : L.length ≤ M.length) : secs (M.take L.length) = secs L := by
  apply List.ext_getElem?
  intro i
  by_cases hi : i < L.length
  · obtain ⟨x, hx⟩ : ∃ x, L[i]? = some x := ⟨_, List.getElem?_eq_getElem hi⟩
    obtain ⟨g, R, h1, _⟩ := h.lent i x hi hx
    rw [secs_get hx, secs_get (x := ⟨x.s, some ⟨g, 0, none⟩, 2 * x.s.d.length + 70⟩) (by rw [List.getElem?_take, if_pos hi]; exact h1)]
  · rw [List.getElem?_eq_none (by rw [secs_len, List.length_take]; omega), List.getElem?_eq_none (by rw [secs_len]; omega)]
theorem Ld.mem (h : Ld L M K L.length) (hM : L.length ≤ M.length) {y : SV} (hy : y ∈ M.take L.length) : ∃ (i : Nat) (x : SV) (g : Nat) (R : List UInt8), L[i]? = some x ∧ y = ⟨x.s, some ⟨g, 0, none⟩, 2 * x.s.d.length + 70⟩ ∧ K[i]? = some ⟨some (g, x.s.d ++ (lmsB x.s.d.length (x.s.d.length + 70) ++ R)), x.s.d.length⟩ := by
  obtain ⟨i, hi⟩ := List.getElem?_of_mem hy
  have hlt := (List.getElem?_eq_some_iff.1 hi).1
  rw [List.length_take] at hlt
  have hi2 : i < L.length := by omega
  obtain ⟨x, hx⟩ : ∃ x, L[i]? = some x := ⟨_, List.getElem?_eq_getElem hi2⟩
  obtain ⟨g, R, h1, h2⟩ := h.lent i x hi2 hx
  rw [List.getElem?_take, if_pos hi2, h1] at hi
  cases hi
  exact ⟨i, x, g, R, hx, rfl, h2⟩
theorem Rk.lentRest (h : Rk W w pk pb B cb c1 A Z E la dv K) {i g : Nat} {l R : List UInt8} {n : Int} (hx : K[i]? = some ⟨some (g, l ++ R), n⟩) : RestAt w.heap.size w (some ⟨g, 0, none⟩) l := by
  obtain ⟨hg, _⟩ := h.buf_at hx rfl
  refine .inr ⟨g, 0, (Array.getElem?_eq_some_iff.1 hg).1, rfl, fun k x hx => ?_⟩
  rw [Nat.zero_add, cell_atL hg, List.getElem?_toArray]
  simp only [bCells, List.getElem?_map]
  rw [List.getElem?_append_left (List.getElem?_eq_some_iff.1 hx).1, hx]
  rfl
theorem Rk.lentDR (h : Rk W w pk pb B cb c1 A Z E la dv K) (hL : Ld L M K L.length) (hM : L.length ≤ M.length) : ∀ y ∈ M.take L.length, DR w y ∧ DatAt w.heap.size w y := fun y hy => by
  obtain ⟨i, x, g, R, _, rfl, hk⟩ := hL.mem hM hy
  have hr := h.lentRest hk
  refine ⟨⟨hr, by show _ ≤ _; simp only; omega⟩, .inr ⟨⟨g, 0, none⟩, rfl, .inr (Array.getElem?_eq_some_iff.1 (h.buf_at hk rfl).1).1, fun j u hu => ?_⟩⟩
  simp only [Lib.byteCells, List.getElem?_map, Option.map_eq_some_iff] at hu
  obtain ⟨b, hb, rfl⟩ := hu
  rcases hr with h1 | ⟨b', off, _, h1, hc⟩
  · rw [h1] at hb; simp at hb
  · cases h1
    rw [WideShapes.add_plain]
    exact hc j b hb
theorem RowX.take {m : Nat} (h : RowX w gl M) : ScAt w.heap.size w (some ⟨gl, 0, none⟩) (M.take m) := by
  have : RowX w gl (M.take m ++ M.drop m) := by rw [List.take_append_drop]; exact h
  exact this.at
end
theorem behX_DR (w : World) (i : Nat) : DR w (behX i) := ⟨.inl rfl, Nat.le_refl _⟩
theorem sameS_self (s : Sec) : sameS s s = true := (sameS_iff s s).2 rfl
theorem sameL_self (s : List Sec) : sameL s s = true := (sameL_iff s s).2 rfl
end Go.Proofs.Ytmpbdakmmelmgaa
namespace Go.Proofs.Ytmpbdakmmelmgaa
open Go.RowKit
set_option linter.unusedVariables false
set_option linter.unusedSimpArgs false
/-- behind back -/
def BackX (W : World) (pk pb B : Nat) (cb c1 : Int) (A Z : List (Value × List Int)) (m gl KL : Nat) (e : Ending) (w' : World) : Prop :=
  e = .returned (.bool true) ∧ ∃ M E' dv' K', Rk W w' pk pb B cb c1 A Z E' (.slice (some ⟨gl, 0, none⟩) m m) dv' K' ∧ RowX w' gl M ∧ M.length = m ∧ K'.length = KL
set_option maxRecDepth 20000 in
set_option maxHeartbeats 4000000 in
theorem rackBack_any (W w : World) (pk pb B gl m KL : Nat) (cb c1 : Int) (A Z E : List (Value × List Int)) (dv : Value) (K : List Ln) (M : List SV) (a : Option Addr) (cap : Nat) (L : List SV) (h : Rk W w pk pb B cb c1 A Z E (.slice (some ⟨gl, 0, none⟩) m m) dv K) (hX : RowX w gl M) (hMl : M.length = m) (hLd : Ld L M K L.length) (hKl : K.length = KL) (hLK : L.length ≤ KL) (hgB : B ≤ gl) (hL : ScAt W.heap.size W a L) (hD : ∀ x ∈ L, DR W x) (hDl : ∀ x ∈ L, x.s.d.length ≤ 1000000000000) (hcap : L.length ≤ cap) (hm : L.length ≤ m) (hmm : m ≤ 1000000000000) :
    Calls Try.prog 15 #[.pointer (some ⟨pk, 0, none⟩), .slice a L.length cap] w fun e w' => BackX W pk pb B cb c1 A Z m gl KL e w' := by
  obtain ⟨da, dc, rfl⟩ := own_form h.own
  rw [hKl] at h
  have H := hidOf h
  have HX := hidOf hX
  have HMl := hidOf hMl
  have HLd := hidOf hLd
  have HKl := hidOf hKl
  have HL := hidOf hL
  have HD := hidOf hD
  have HDl := hidOf hDl
  have CS : Hid (Calls Try.prog 22 #[.slice (some ⟨gl, 0, none⟩) L.length m, .slice a L.length cap] w fun e w' => e = .returned (.bool true) ∧ Out w w') := hidOf (by
    have hMm : L.length ≤ M.length := by omega
    have h1 := sameSections_any w (some ⟨gl, 0, none⟩) a m cap (M.take L.length) L hX.take (hL.out9 h.out) (fun y hy => (h.lentDR hLd hMm y hy).1) (fun x hx => (hD x hx).out h.out) (by rw [List.length_take]; omega) hcap (by rw [List.length_take]; omega) (by omega)
    rw [hLd.secs hMm, sameL_self, List.length_take, Nat.min_eq_left hMm] at h1
    exact h1)
  have c0 := h.c0
  have hmI : (L.length : Int) ≤ m := by omega
  have hcI : (L.length : Int) ≤ cap := by omega
  clear h hX hMl hLd hKl hL hD hDl
  go_enter Try.func15, Try.ntmps15
  go_wp2_with (go_at_call 22; refine CS.out.mono ?_; rintro e w1 ⟨rfl, ho⟩; have O1 := hidOf ho; clear ho)
  clear CS c0
  have H1 := hidOf (H.out.more O1.out)
  have X1 := hidOf (HX.out.out O1.out)
  clear H HX O1
  go_loopw [5, 6] (fun okv iv wr => ∃ i : Nat, okv = .bool true ∧ iv = .int .i64 i ∧ L.length ≤ i ∧ i ≤ m ∧ Hid (Rk W wr pk pb B cb c1 A Z E (.slice (some ⟨gl, 0, none⟩) m m) (.slice da KL dc) K) ∧ Hid (RowX wr gl M)) (fun _ iv _ => m - (intOf iv).toNat)
  case atStart => exact ⟨L.length, rfl, rfl, by omega, hm, H1, X1⟩
  case round =>
    clear H1 X1
    obtain ⟨i, rfl, rfl, hi0, him, H, HX⟩ := hrel
    have d0 := H.out.c0
    have h0 : (0 : Int) ≤ i := by omega
    by_cases hlt : i < m
    · have hltI : (i : Int) < m := by omega
      obtain ⟨y0, y1, y2, y3, y4, y5, y6, y7⟩ := HX.out.cells (HLd.out.beh i hi0 (by rw [HMl.out]; exact hlt))
      simp only [behX, List.length_nil] at y0 y1 y2 y3 y4 y5 y6 y7
      have CB : Hid (∀ wx, Calls Try.prog 12 #[.agg #[.string ⟨#[98, 101, 104, 105, 110, 100]⟩, .int .i64 ((i : Int) + 1), .int .i64 0, .int .i64 0, .int .i64 0, .int .i64 1, .int .i64 0, .slice none 0 0], .agg #[.string ⟨#[98, 101, 104, 105, 110, 100]⟩, .int .i64 ((i : Int) + 1), .int .i64 0, .int .i64 0, .int .i64 0, .int .i64 1, .int .i64 0, .slice none 0 0]] wx fun e w' => e = .returned (.bool true) ∧ Out wx w') := hidOf (fun wx => by
        have h1 := same1 (behX i) (behX i) wx (behX_DR wx i) (behX_DR wx i)
        rw [sameS_self] at h1
        exact h1)
      go_wp2_with (go_at_call 12; refine (CB.out _).mono ?_; rintro e w2 ⟨rfl, ho⟩; have O2 := hidOf ho; clear ho)
      go_roundw
      case rel => exact ⟨i + 1, rfl, by simp, by omega, by omega, hidOf (H.out.more O2.out), hidOf (HX.out.out O2.out)⟩
      case measure => simp [intOf]; omega
    · have hltI : ¬ (i : Int) < m := by omega
      go_wp2
      clear d0
      obtain ⟨wy, hwy⟩ : ∃ wy, wy = wr := ⟨_, rfl⟩
      rw [← hwy] at H HX
      have Hwy := hidOf hwy
      clear hwy
      go_loopw [5, 7] (fun okv iv wr => ∃ (j : Nat) (M : List SV) (K : List Ln) (E : List (Value × List Int)), okv = .bool true ∧ iv = .int .i64 j ∧ j ≤ L.length ∧ Hid (Rk W wr pk pb B cb c1 A Z E (.slice (some ⟨gl, 0, none⟩) m m) (.slice da KL dc) K) ∧ Hid (RowX wr gl M) ∧ Hid (M.length = m) ∧ Hid (K.length = KL) ∧ Hid (∀ k x, j ≤ k → L[k]? = some x → ∃ g R, K[k]? = some ⟨some (g, x.s.d ++ (lmsB x.s.d.length (x.s.d.length + 70) ++ R)), x.s.d.length⟩)) (fun _ iv _ => L.length - (intOf iv).toNat)
      case atStart => exact ⟨0, M, K, E, rfl, rfl, by omega, by rw [← Hwy.out]; exact H, by rw [← Hwy.out]; exact HX, HMl, HKl, hidOf (fun k x _ hx => by
        obtain ⟨g, R, _, h2⟩ := HLd.out.lent k x (List.getElem?_eq_some_iff.1 hx).1 hx
        exact ⟨g, R, h2⟩)⟩
      case round =>
        clear H HX Hwy HMl HKl HLd
        obtain ⟨j, M, K, E, rfl, rfl, hj, H, HX, HMl, HKl, HLd⟩ := hrel
        have hj0 : (0 : Int) ≤ j := by omega
        by_cases hjl : j < L.length
        · have hjI : (j : Int) < L.length := by omega
          have hjm : (j : Int) < m := by omega
          have hjK : (j : Int) < KL := by omega
          obtain ⟨x, hx⟩ : ∃ x, L[j]? = some x := ⟨_, List.getElem?_eq_getElem hjl⟩
          have hxm := List.mem_of_getElem? hx
          obtain ⟨g, R, hkx⟩ := HLd.out j x (Nat.le_refl _) hx
          have HSS : Hid (∀ wx E K, Rk W wx pk pb B cb c1 A Z E (.slice (some ⟨gl, 0, none⟩) m m) (.slice da KL dc) K → ∃ b off, a = some ⟨b, off, none⟩ ∧ wx.cell? ⟨pk, 1, none⟩ = some (.slice da KL dc) ∧ wx.cell? ⟨b, off + j * 8 + 7, none⟩ = some (.slice x.da x.s.d.length x.dc)) := hidOf (fun wx E K h => by
            obtain ⟨b', off', e, _, h8⟩ := (HL.out.below h.out).get hx
            exact ⟨b', off', e, h.c1_, h8.c7⟩)
          obtain ⟨b, off, rfl, d1, q7⟩ := HSS.out wr E K H.out
          have HPd : Hid (∃ p, da = some ⟨p, 0, none⟩) := hidOf (by
            obtain ⟨p, c, hdv, _, _⟩ := H.out.back1 hkx x.da x.dc (HD.out x hxm).1 (by have := HDl.out x hxm; omega)
            simp only [Value.slice.injEq] at hdv
            exact ⟨p, hdv.1⟩)
          obtain ⟨p, rfl⟩ := HPd.out
          clear HPd
          have CL : Hid (∀ wx, Out wr wx → Calls Try.prog 21 #[.pointer (some ⟨p, j * 2, none⟩), .slice x.da x.s.d.length x.dc] wx fun e w' => e = .returned (.bool true) ∧ ∃ C' E', Rk W w' pk pb B cb c1 A Z E' (.slice (some ⟨gl, 0, none⟩) m m) (.slice (some ⟨p, 0, none⟩) KL dc) (K.set j ⟨some (g, C'), x.s.d.length⟩) ∧ RowX w' gl M) := hidOf (fun wx o => by
            obtain ⟨p', c', hdv, _, hC⟩ := (H.out.more o).back1 hkx x.da x.dc (HD.out x hxm).1 (by have := HDl.out x hxm; omega)
            simp only [Value.slice.injEq, Option.some.injEq, Addr.mk.injEq] at hdv
            obtain ⟨⟨rfl, _⟩, _⟩ := hdv
            refine hC.mono ?_
            rintro e w' ⟨he, ⟨C', E', h1⟩, h2⟩
            exact ⟨he, C', E', h1, (HX.out.out o).same (h2 _ _ (HX.out.out o))⟩)
          have OD := hidOf ((Out.refl wr).drew)
          have S2 := And.intro d1 q7
          have HKs : Hid (∀ C' k y, j + 1 ≤ k → L[k]? = some y → ∃ g' R', (K.set j ⟨some (g, C'), x.s.d.length⟩)[k]? = some ⟨some (g', y.s.d ++ (lmsB y.s.d.length (y.s.d.length + 70) ++ R')), y.s.d.length⟩) := hidOf (fun C' k y hk hy => by
            obtain ⟨g', R', h1⟩ := HLd.out k y (by omega) hy
            exact ⟨g', R', by rw [List.getElem?_set_ne (by omega)]; exact h1⟩)
          clear hkx
          go_upto_region 9 with fail
          go_region_held3 (fun wx => wx.cell? ⟨pk, 1, none⟩ = some (.slice (some ⟨p, 0, none⟩) KL dc) ∧ wx.cell? ⟨b, off + j * 8 + 7, none⟩ = some (.slice x.da x.s.d.length x.dc)) (first | with_reducible exact S2 | with_reducible exact S3 | go_keep) (first | (go_at_call 21; refine (CL.out _ OD.out).mono ?_; rintro e w3 ⟨rfl, C', E', hR, hX⟩; have H3 := hidOf hR; have X3 := hidOf hX; clear hR hX; have S3 : w3.cell? ⟨pk, 1, none⟩ = some (.slice (some ⟨p, 0, none⟩) KL dc) ∧ w3.cell? ⟨b, off + j * 8 + 7, none⟩ = some (.slice x.da x.s.d.length x.dc) := (by obtain ⟨b', off', e, h1, h2⟩ := HSS.out w3 _ _ H3.out; simp only [Option.some.injEq, Addr.mk.injEq] at e; obtain ⟨rfl, rfl, _⟩ := e; exact ⟨h1, h2⟩)))
          have d0 := H3.out.c0
          obtain ⟨z, hz⟩ : ∃ z, M[j]? = some z := ⟨_, List.getElem?_eq_getElem (by rw [HMl.out]; omega)⟩
          obtain ⟨y0, y1, y2, y3, y4, y5, y6, y7⟩ := X3.out.cells hz
          have e0 := X3.out.frozen (j * 8)
          have e1 := X3.out.frozen (j * 8 + 1)
          have e2 := X3.out.frozen (j * 8 + 2)
          have e3 := X3.out.frozen (j * 8 + 3)
          have e4 := X3.out.frozen (j * 8 + 4)
          have e5 := X3.out.frozen (j * 8 + 5)
          have e6 := X3.out.frozen (j * 8 + 6)
          have e7 := X3.out.frozen (j * 8 + 7)
          have HN := hidOf (H3.out.list (chg8 (Chg.refl _ w3) (j * 8) mineX) X3.out hgB)
          have HX2 := hidOf (X3.out.set (i := j) (by rw [HMl.out]; omega) mineX)
          unfold put8 at HN HX2
          simp only [mineX, List.length_nil] at HN HX2
          clear hz S2 S3
          go_wp2
          go_roundw
          case rel => exact ⟨j + 1, _, _, E', rfl, by simp, by omega, HN, HX2, hidOf (by rw [List.length_set]; exact HMl.out), hidOf (by rw [List.length_set]; exact HKl.out), hidOf (HKs.out C')⟩
          case measure => simp [intOf]; omega
        · have hjI : ¬ (j : Int) < L.length := by omega
          go_wp2
          go_ret
          exact ⟨rfl, M, E, _, K, H.out, HX.out, HMl.out, HKl.out⟩
end Go.Proofs.Ytmpbdakmmelmgaa
