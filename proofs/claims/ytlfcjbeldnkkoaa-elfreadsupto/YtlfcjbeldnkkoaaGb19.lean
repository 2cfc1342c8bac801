import Derived.Test.YtlfcjbeldnkkoaaGb18
namespace Go.Proofs.Ytlfcjbeldnkkoaa
open Go.RowKit
set_option linter.unusedVariables false
set_option linter.unusedSimpArgs false
theorem num_any (k : Int) (w : World) : Calls Try.prog 7 #[.int .i64 k] w fun e w' => e = .returned (.int .i64 k) ∧ w = w' := by
  go_enter Try.func7, Try.ntmps7
  go_wp2
  go_ret
  exact ⟨rfl, rfl⟩
theorem owns_void (w : World) (B size : Nat) (e : TypeId) (hB : B ≤ w.heap.size) : (w.alloc (.cells #[] e)).ownsRow B e size (.slice (some ⟨w.heap.size, 0, none⟩) 0 0) 0 [] :=
  ⟨by simp, .inr ⟨w.heap.size, 0, #[], rfl, hB, heap_alloc_new w _, Nat.le_refl _, by decide, by simp, by simp⟩⟩
theorem OwB.out {B : Nat} {v : Value} {O : List UInt8} {w w' : World} (h : OwB B v O w) (o : Out w w') : OwB B v O w' := owns_chg (S := fun _ => False) h (fun _ _ h => h) (Chg.of_out o)
set_option maxHeartbeats 800000 in
theorem copyBytes_any (w : World) (a : Option Addr) (cap : Nat) (l : List UInt8) (hr : RestAt w.heap.size w a l) (hll : l.length ≤ 140737488351232) : Calls Try.prog 65 #[.slice a l.length cap] w fun e w' => ∃ v, e = .returned v ∧ OwB w.heap.size v l w' ∧ Out w w' := by
  obtain ⟨i0, hi, hz0, hz1, hz2⟩ := info_parts infoB
  have H0 := hidOf (owns_void w w.heap.size 1 5 (Nat.le_refl _))
  cases a with
  | none =>
    obtain rfl : l = [] := by
      rcases hr with h | ⟨b, off, _, h, _⟩
      · exact h
      · cases h
    simp only [List.length_nil]
    go_enter Try.func65, Try.ntmps65
    go_wp2
    go_ret
    exact ⟨_, rfl, H0.out, Out.alloc (Out.refl _) _⟩
  | some ad =>
    have HC : Hid (∀ j u, (Lib.byteCells l)[j]? = some u → (w.alloc (.cells #[] 5)).cell? (ad.add j) = some u) := fun j u hu => by
      simp only [Lib.byteCells, List.getElem?_map, Option.map_eq_some_iff] at hu
      obtain ⟨x, hx, rfl⟩ := hu
      rcases hr with rfl | ⟨b, off, _, h, hc⟩
      · simp at hx
      · cases h
        rw [WideShapes.add_plain]
        exact cell_later ((Out.refl w).alloc _) (hc j x hx)
    clear hr
    go_enter Try.func65, Try.ntmps65
    go_wp2_with (at_builtin; refine wpList_append_own _ rfl (.tmp 3) (.tmp 4) 24 rfl w.heap.size 5 i0 _ 1 1 Try.underlying24 hi hz0 hz1 hz2 rfl (by decide) (.slice (some ⟨w.heap.size, 0, none⟩) 0 0) 0 [] rfl H0.out ad l.length cap (Lib.byteCells l) rfl (by rw [Lib.byteCells_length, Nat.mul_one]) HC.out (bc_one l) (by unfold maxLen; omega) (by omega) (by rw [size_alloc]; omega) ?_; intro v' w3 hown' hgrow _; have H3 := hidOf (out_row ((Out.refl w).alloc _) H0.out hgrow); have HN := hidOf hown'; clear hown' hgrow)
    go_ret
    refine ⟨_, rfl, ?_, H3.out⟩
    have := HN.out
    rw [Nat.zero_add, List.nil_append] at this
    exact this
/-- where a section's data lie, and their room -/
def DR (w : World) (x : SV) : Prop := RestAt w.heap.size w x.da x.s.d ∧ x.s.d.length ≤ x.dc
theorem DR.out {w w' : World} {x : SV} (h : DR w x) (o : Out w w') : DR w' x := ⟨by
  rcases h.1 with h1 | ⟨b, off, hb, ha, hc⟩
  · exact .inl h1
  · exact .inr ⟨b, off, Nat.lt_of_lt_of_le hb o.size, ha, fun k y hy => cell_later o (hc k y hy)⟩, h.2⟩
def sameS (a b : Sec) : Bool := a.nm == b.nm && (a.ty == b.ty && (a.fl == b.fl && (a.li == b.li && (a.inf == b.inf && (a.al == b.al && (a.es == b.es && a.d == b.d))))))
theorem sameS_iff (a b : Sec) : sameS a b = true ↔ a = b := by
  cases a; cases b
  simp only [sameS, Bool.and_eq_true, beq_iff_eq, Sec.mk.injEq]
theorem drewN_one (w : World) : w.drew = w.drewN 1 := rfl
set_option maxRecDepth 8000 in
set_option maxHeartbeats 4000000 in
theorem same1 (x y : SV) (w : World) (hx : DR w x) (hy : DR w y) : Calls Try.prog 10 #[.agg #[.string ⟨x.s.nm.toArray⟩, .int .i64 x.s.ty, .int .i64 x.s.fl, .int .i64 x.s.li, .int .i64 x.s.inf, .int .i64 x.s.al, .int .i64 x.s.es, .slice x.da x.s.d.length x.dc], .agg #[.string ⟨y.s.nm.toArray⟩, .int .i64 y.s.ty, .int .i64 y.s.fl, .int .i64 y.s.li, .int .i64 y.s.inf, .int .i64 y.s.al, .int .i64 y.s.es, .slice y.da y.s.d.length y.dc]] w fun e w' => e = .returned (.bool (sameS x.s y.s)) ∧ Out w w' := by
  obtain ⟨⟨nm, ty, fl, li, inf, al, es, d⟩, da, dc⟩ := x
  obtain ⟨⟨nm2, ty2, fl2, li2, inf2, al2, es2, d2⟩, da2, dc2⟩ := y
  simp only
  obtain ⟨W, hW⟩ : ∃ W, W = (w.alloc (.cells #[.string ⟨nm.toArray⟩, .int .i64 ty, .int .i64 fl, .int .i64 li, .int .i64 inf, .int .i64 al, .int .i64 es, .slice da d.length dc] 46)).alloc (.cells #[.string ⟨nm2.toArray⟩, .int .i64 ty2, .int .i64 fl2, .int .i64 li2, .int .i64 inf2, .int .i64 al2, .int .i64 es2, .slice da2 d2.length dc2] 46) := ⟨_, rfl⟩
  have HO : Hid (Out w W) := hidOf (by rw [hW]; exact ((Out.refl w).alloc _).alloc _)
  have cx : (convert 24 9 (.slice da d.length dc)).run Try.prog W = .ok (.string ⟨d.toArray⟩) W := conv_rest (DR.out hx HO.out).1 dc
  have cy : (convert 24 9 (.slice da2 d2.length dc2)).run Try.prog W = .ok (.string ⟨d2.toArray⟩) W := conv_rest (DR.out hy HO.out).1 dc2
  have HX : Hid (W.heap[w.heap.size]? = some (.cells #[.string ⟨nm.toArray⟩, .int .i64 ty, .int .i64 fl, .int .i64 li, .int .i64 inf, .int .i64 al, .int .i64 es, .slice da d.length dc] 46 (0, 0))) := hidOf (by rw [hW]; exact (Below.heap_alloc _ _ _ (by rw [size_alloc]; omega)).trans (heap_alloc_new w _))
  have HY : Hid (W.heap[w.heap.size + 1]? = some (.cells #[.string ⟨nm2.toArray⟩, .int .i64 ty2, .int .i64 fl2, .int .i64 li2, .int .i64 inf2, .int .i64 al2, .int .i64 es2, .slice da2 d2.length dc2] 46 (0, 0))) := hidOf (by rw [hW]; exact heap_new2 w _ _)
  clear hx hy
  unfold sameS
  simp only
  cases h0 : nm == nm2 with
  | false =>
    go_enter Try.func10, Try.ntmps10
    go_upto_region 1 with fail
    rw [← hW]
    clear hW
    have a0 : W.cell? ⟨w.heap.size, 0, none⟩ = some (.string ⟨nm.toArray⟩) := box_cell HX.out 0
    have b0 : W.cell? ⟨w.heap.size + 1, 0, none⟩ = some (.string ⟨nm2.toArray⟩) := box_cell HY.out 0
    go_wp2
    go_ret
    exact ⟨by simp [h0], HO.out⟩
  | true =>
    cases h1 : ty == ty2 with
    | false =>
      go_enter Try.func10, Try.ntmps10
      go_upto_region 1 with fail
      rw [← hW]
      clear hW
      have a0 : W.cell? ⟨w.heap.size, 0, none⟩ = some (.string ⟨nm.toArray⟩) := box_cell HX.out 0
      have b0 : W.cell? ⟨w.heap.size + 1, 0, none⟩ = some (.string ⟨nm2.toArray⟩) := box_cell HY.out 0
      have a1 : W.cell? ⟨w.heap.size, 1, none⟩ = some (.int .i64 ty) := box_cell HX.out 1
      have b1 : W.cell? ⟨w.heap.size + 1, 1, none⟩ = some (.int .i64 ty2) := box_cell HY.out 1
      go_wp2
      go_ret
      exact ⟨by simp [h0, h1], HO.out⟩
    | true =>
      cases h2 : fl == fl2 with
      | false =>
        go_enter Try.func10, Try.ntmps10
        go_upto_region 1 with fail
        rw [← hW]
        clear hW
        have a0 : W.cell? ⟨w.heap.size, 0, none⟩ = some (.string ⟨nm.toArray⟩) := box_cell HX.out 0
        have b0 : W.cell? ⟨w.heap.size + 1, 0, none⟩ = some (.string ⟨nm2.toArray⟩) := box_cell HY.out 0
        have a1 : W.cell? ⟨w.heap.size, 1, none⟩ = some (.int .i64 ty) := box_cell HX.out 1
        have b1 : W.cell? ⟨w.heap.size + 1, 1, none⟩ = some (.int .i64 ty2) := box_cell HY.out 1
        have a2 : W.cell? ⟨w.heap.size, 2, none⟩ = some (.int .i64 fl) := box_cell HX.out 2
        have b2 : W.cell? ⟨w.heap.size + 1, 2, none⟩ = some (.int .i64 fl2) := box_cell HY.out 2
        go_wp2
        go_ret
        exact ⟨by simp [h0, h1, h2], HO.out⟩
      | true =>
        cases h3 : li == li2 with
        | false =>
          go_enter Try.func10, Try.ntmps10
          go_upto_region 1 with fail
          rw [← hW]
          clear hW
          have a0 : W.cell? ⟨w.heap.size, 0, none⟩ = some (.string ⟨nm.toArray⟩) := box_cell HX.out 0
          have b0 : W.cell? ⟨w.heap.size + 1, 0, none⟩ = some (.string ⟨nm2.toArray⟩) := box_cell HY.out 0
          have a1 : W.cell? ⟨w.heap.size, 1, none⟩ = some (.int .i64 ty) := box_cell HX.out 1
          have b1 : W.cell? ⟨w.heap.size + 1, 1, none⟩ = some (.int .i64 ty2) := box_cell HY.out 1
          have a2 : W.cell? ⟨w.heap.size, 2, none⟩ = some (.int .i64 fl) := box_cell HX.out 2
          have b2 : W.cell? ⟨w.heap.size + 1, 2, none⟩ = some (.int .i64 fl2) := box_cell HY.out 2
          have a3 : W.cell? ⟨w.heap.size, 3, none⟩ = some (.int .i64 li) := box_cell HX.out 3
          have b3 : W.cell? ⟨w.heap.size + 1, 3, none⟩ = some (.int .i64 li2) := box_cell HY.out 3
          go_wp2
          go_ret
          exact ⟨by simp [h0, h1, h2, h3], HO.out⟩
        | true =>
          cases h4 : inf == inf2 with
          | false =>
            go_enter Try.func10, Try.ntmps10
            go_upto_region 1 with fail
            rw [← hW]
            clear hW
            have a0 : W.cell? ⟨w.heap.size, 0, none⟩ = some (.string ⟨nm.toArray⟩) := box_cell HX.out 0
            have b0 : W.cell? ⟨w.heap.size + 1, 0, none⟩ = some (.string ⟨nm2.toArray⟩) := box_cell HY.out 0
            have a1 : W.cell? ⟨w.heap.size, 1, none⟩ = some (.int .i64 ty) := box_cell HX.out 1
            have b1 : W.cell? ⟨w.heap.size + 1, 1, none⟩ = some (.int .i64 ty2) := box_cell HY.out 1
            have a2 : W.cell? ⟨w.heap.size, 2, none⟩ = some (.int .i64 fl) := box_cell HX.out 2
            have b2 : W.cell? ⟨w.heap.size + 1, 2, none⟩ = some (.int .i64 fl2) := box_cell HY.out 2
            have a3 : W.cell? ⟨w.heap.size, 3, none⟩ = some (.int .i64 li) := box_cell HX.out 3
            have b3 : W.cell? ⟨w.heap.size + 1, 3, none⟩ = some (.int .i64 li2) := box_cell HY.out 3
            have a4 : W.cell? ⟨w.heap.size, 4, none⟩ = some (.int .i64 inf) := box_cell HX.out 4
            have b4 : W.cell? ⟨w.heap.size + 1, 4, none⟩ = some (.int .i64 inf2) := box_cell HY.out 4
            go_wp2
            go_ret
            exact ⟨by simp [h0, h1, h2, h3, h4], HO.out⟩
          | true =>
            cases h5 : al == al2 with
            | false =>
              go_enter Try.func10, Try.ntmps10
              go_upto_region 1 with fail
              rw [← hW]
              clear hW
              have a0 : W.cell? ⟨w.heap.size, 0, none⟩ = some (.string ⟨nm.toArray⟩) := box_cell HX.out 0
              have b0 : W.cell? ⟨w.heap.size + 1, 0, none⟩ = some (.string ⟨nm2.toArray⟩) := box_cell HY.out 0
              have a1 : W.cell? ⟨w.heap.size, 1, none⟩ = some (.int .i64 ty) := box_cell HX.out 1
              have b1 : W.cell? ⟨w.heap.size + 1, 1, none⟩ = some (.int .i64 ty2) := box_cell HY.out 1
              have a2 : W.cell? ⟨w.heap.size, 2, none⟩ = some (.int .i64 fl) := box_cell HX.out 2
              have b2 : W.cell? ⟨w.heap.size + 1, 2, none⟩ = some (.int .i64 fl2) := box_cell HY.out 2
              have a3 : W.cell? ⟨w.heap.size, 3, none⟩ = some (.int .i64 li) := box_cell HX.out 3
              have b3 : W.cell? ⟨w.heap.size + 1, 3, none⟩ = some (.int .i64 li2) := box_cell HY.out 3
              have a4 : W.cell? ⟨w.heap.size, 4, none⟩ = some (.int .i64 inf) := box_cell HX.out 4
              have b4 : W.cell? ⟨w.heap.size + 1, 4, none⟩ = some (.int .i64 inf2) := box_cell HY.out 4
              have a5 : W.cell? ⟨w.heap.size, 5, none⟩ = some (.int .i64 al) := box_cell HX.out 5
              have b5 : W.cell? ⟨w.heap.size + 1, 5, none⟩ = some (.int .i64 al2) := box_cell HY.out 5
              go_wp2
              go_ret
              exact ⟨by simp [h0, h1, h2, h3, h4, h5], HO.out⟩
            | true =>
              cases h6 : es == es2 with
              | false =>
                go_enter Try.func10, Try.ntmps10
                go_upto_region 1 with fail
                rw [← hW]
                clear hW
                have a0 : W.cell? ⟨w.heap.size, 0, none⟩ = some (.string ⟨nm.toArray⟩) := box_cell HX.out 0
                have b0 : W.cell? ⟨w.heap.size + 1, 0, none⟩ = some (.string ⟨nm2.toArray⟩) := box_cell HY.out 0
                have a1 : W.cell? ⟨w.heap.size, 1, none⟩ = some (.int .i64 ty) := box_cell HX.out 1
                have b1 : W.cell? ⟨w.heap.size + 1, 1, none⟩ = some (.int .i64 ty2) := box_cell HY.out 1
                have a2 : W.cell? ⟨w.heap.size, 2, none⟩ = some (.int .i64 fl) := box_cell HX.out 2
                have b2 : W.cell? ⟨w.heap.size + 1, 2, none⟩ = some (.int .i64 fl2) := box_cell HY.out 2
                have a3 : W.cell? ⟨w.heap.size, 3, none⟩ = some (.int .i64 li) := box_cell HX.out 3
                have b3 : W.cell? ⟨w.heap.size + 1, 3, none⟩ = some (.int .i64 li2) := box_cell HY.out 3
                have a4 : W.cell? ⟨w.heap.size, 4, none⟩ = some (.int .i64 inf) := box_cell HX.out 4
                have b4 : W.cell? ⟨w.heap.size + 1, 4, none⟩ = some (.int .i64 inf2) := box_cell HY.out 4
                have a5 : W.cell? ⟨w.heap.size, 5, none⟩ = some (.int .i64 al) := box_cell HX.out 5
                have b5 : W.cell? ⟨w.heap.size + 1, 5, none⟩ = some (.int .i64 al2) := box_cell HY.out 5
                have a6 : W.cell? ⟨w.heap.size, 6, none⟩ = some (.int .i64 es) := box_cell HX.out 6
                have b6 : W.cell? ⟨w.heap.size + 1, 6, none⟩ = some (.int .i64 es2) := box_cell HY.out 6
                go_wp2
                go_ret
                exact ⟨by simp [h0, h1, h2, h3, h4, h5, h6], HO.out⟩
              | true =>
                cases h7 : d == d2 with
                | false =>
                  go_enter Try.func10, Try.ntmps10
                  go_upto_region 1 with fail
                  rw [← hW]
                  clear hW
                  have a0 : W.cell? ⟨w.heap.size, 0, none⟩ = some (.string ⟨nm.toArray⟩) := box_cell HX.out 0
                  have b0 : W.cell? ⟨w.heap.size + 1, 0, none⟩ = some (.string ⟨nm2.toArray⟩) := box_cell HY.out 0
                  have a1 : W.cell? ⟨w.heap.size, 1, none⟩ = some (.int .i64 ty) := box_cell HX.out 1
                  have b1 : W.cell? ⟨w.heap.size + 1, 1, none⟩ = some (.int .i64 ty2) := box_cell HY.out 1
                  have a2 : W.cell? ⟨w.heap.size, 2, none⟩ = some (.int .i64 fl) := box_cell HX.out 2
                  have b2 : W.cell? ⟨w.heap.size + 1, 2, none⟩ = some (.int .i64 fl2) := box_cell HY.out 2
                  have a3 : W.cell? ⟨w.heap.size, 3, none⟩ = some (.int .i64 li) := box_cell HX.out 3
                  have b3 : W.cell? ⟨w.heap.size + 1, 3, none⟩ = some (.int .i64 li2) := box_cell HY.out 3
                  have a4 : W.cell? ⟨w.heap.size, 4, none⟩ = some (.int .i64 inf) := box_cell HX.out 4
                  have b4 : W.cell? ⟨w.heap.size + 1, 4, none⟩ = some (.int .i64 inf2) := box_cell HY.out 4
                  have a5 : W.cell? ⟨w.heap.size, 5, none⟩ = some (.int .i64 al) := box_cell HX.out 5
                  have b5 : W.cell? ⟨w.heap.size + 1, 5, none⟩ = some (.int .i64 al2) := box_cell HY.out 5
                  have a6 : W.cell? ⟨w.heap.size, 6, none⟩ = some (.int .i64 es) := box_cell HX.out 6
                  have b6 : W.cell? ⟨w.heap.size + 1, 6, none⟩ = some (.int .i64 es2) := box_cell HY.out 6
                  have a7 : W.cell? ⟨w.heap.size, 7, none⟩ = some (.slice da d.length dc) := box_cell HX.out 7
                  have b7 : W.cell? ⟨w.heap.size + 1, 7, none⟩ = some (.slice da2 d2.length dc2) := box_cell HY.out 7
                  go_wp2
                  go_ret
                  exact ⟨by simp [h0, h1, h2, h3, h4, h5, h6, h7], HO.out⟩
                | true =>
                  go_enter Try.func10, Try.ntmps10
                  go_upto_region 1 with fail
                  rw [← hW]
                  clear hW
                  have a0 : W.cell? ⟨w.heap.size, 0, none⟩ = some (.string ⟨nm.toArray⟩) := box_cell HX.out 0
                  have b0 : W.cell? ⟨w.heap.size + 1, 0, none⟩ = some (.string ⟨nm2.toArray⟩) := box_cell HY.out 0
                  have a1 : W.cell? ⟨w.heap.size, 1, none⟩ = some (.int .i64 ty) := box_cell HX.out 1
                  have b1 : W.cell? ⟨w.heap.size + 1, 1, none⟩ = some (.int .i64 ty2) := box_cell HY.out 1
                  have a2 : W.cell? ⟨w.heap.size, 2, none⟩ = some (.int .i64 fl) := box_cell HX.out 2
                  have b2 : W.cell? ⟨w.heap.size + 1, 2, none⟩ = some (.int .i64 fl2) := box_cell HY.out 2
                  have a3 : W.cell? ⟨w.heap.size, 3, none⟩ = some (.int .i64 li) := box_cell HX.out 3
                  have b3 : W.cell? ⟨w.heap.size + 1, 3, none⟩ = some (.int .i64 li2) := box_cell HY.out 3
                  have a4 : W.cell? ⟨w.heap.size, 4, none⟩ = some (.int .i64 inf) := box_cell HX.out 4
                  have b4 : W.cell? ⟨w.heap.size + 1, 4, none⟩ = some (.int .i64 inf2) := box_cell HY.out 4
                  have a5 : W.cell? ⟨w.heap.size, 5, none⟩ = some (.int .i64 al) := box_cell HX.out 5
                  have b5 : W.cell? ⟨w.heap.size + 1, 5, none⟩ = some (.int .i64 al2) := box_cell HY.out 5
                  have a6 : W.cell? ⟨w.heap.size, 6, none⟩ = some (.int .i64 es) := box_cell HX.out 6
                  have b6 : W.cell? ⟨w.heap.size + 1, 6, none⟩ = some (.int .i64 es2) := box_cell HY.out 6
                  have a7 : W.cell? ⟨w.heap.size, 7, none⟩ = some (.slice da d.length dc) := box_cell HX.out 7
                  have b7 : W.cell? ⟨w.heap.size + 1, 7, none⟩ = some (.slice da2 d2.length dc2) := box_cell HY.out 7
                  go_wp2
                  go_ret
                  exact ⟨by simp [h0, h1, h2, h3, h4, h5, h6, h7], HO.out⟩
end Go.Proofs.Ytlfcjbeldnkkoaa
