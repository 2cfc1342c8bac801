import Derived.Test.YtmpbdakmmelmgaaGa19
namespace Go.Proofs.Ytmpbdakmmelmgaa
open Go.RowKit
set_option linter.unusedVariables false
set_option linter.unusedSimpArgs false
theorem num_any (k : Int) (w : World) : Calls Try.prog 9 #[.int .i64 k] w fun e w' => e = .returned (.int .i64 k) ∧ w = w' := by
  go_enter Try.func9, Try.ntmps9
  go_wp2
  go_ret
  exact ⟨rfl, rfl⟩
theorem owns_void (w : World) (B size : Nat) (e : TypeId) (hB : B ≤ w.heap.size) : (w.alloc (.cells #[] e)).ownsRow B e size (.slice (some ⟨w.heap.size, 0, none⟩) 0 0) 0 [] :=
  ⟨by simp, .inr ⟨w.heap.size, 0, #[], rfl, hB, heap_alloc_new w _, Nat.le_refl _, by decide, by simp, by simp⟩⟩
theorem OwB.out {B : Nat} {v : Value} {O : List UInt8} {w w' : World} (h : OwB B v O w) (o : Out w w') : OwB B v O w' := owns_chg (S := fun _ => False) h (fun _ _ h => h) (Chg.of_out o)
set_option maxHeartbeats 800000 in
theorem copyBytes_any (w : World) (a : Option Addr) (cap : Nat) (l : List UInt8) (hr : RestAt w.heap.size w a l) (hll : l.length ≤ 140737488351232) : Calls Try.prog 47 #[.slice a l.length cap] w fun e w' => ∃ v, e = .returned v ∧ OwB w.heap.size v l w' ∧ Out w w' := by
  obtain ⟨i0, hi, hz0, hz1, hz2⟩ := info_parts infoB
  have H0 := hidOf (owns_void w w.heap.size 1 5 (Nat.le_refl _))
  cases a with
  | none =>
    obtain rfl : l = [] := by
      rcases hr with h | ⟨b, off, _, h, _⟩
      · exact h
      · cases h
    simp only [List.length_nil]
    go_enter Try.func47, Try.ntmps47
    go_wp2
    go_ret
    exact ⟨_, rfl, H0.out, Out.alloc (Out.refl _) _⟩
  | some ad =>
    have HC : Hid (∀ j u, (Lib.byteCells l)[j]? = some u → (w.alloc (.cells #[] 5)).cell? (ad.add j) = some u) := fun j u hu => by
      simp only [Lib.byteCells, List.getElem?_map, Option.map_eq_some_iff] at hu
      obtain ⟨x, hx, rfl⟩ := hu
      rcases hr with rfl | ⟨b, off, _, h, hc⟩
      · simp at hx
      · cases h
        rw [WideShapes.add_plain]
        exact cell_later ((Out.refl w).alloc _) (hc j x hx)
    clear hr
    go_enter Try.func47, Try.ntmps47
    go_wp2_with (at_builtin; refine wpList_append_own _ rfl (.tmp 3) (.tmp 4) 36 rfl w.heap.size 5 i0 _ 1 1 Try.underlying36 hi hz0 hz1 hz2 rfl (by decide) (.slice (some ⟨w.heap.size, 0, none⟩) 0 0) 0 [] rfl H0.out ad l.length cap (Lib.byteCells l) rfl (by rw [Lib.byteCells_length, Nat.mul_one]) HC.out (bc_one l) (by unfold maxLen; omega) (by omega) (by rw [size_alloc]; omega) ?_; intro v' w3 hown' hgrow _; have H3 := hidOf (out_row ((Out.refl w).alloc _) H0.out hgrow); have HN := hidOf hown'; clear hown' hgrow)
    go_ret
    refine ⟨_, rfl, ?_, H3.out⟩
    have := HN.out
    rw [Nat.zero_add, List.nil_append] at this
    exact this
/-- where a section's data lie, and their room -/
def DR (w : World) (x : SV) : Prop := RestAt w.heap.size w x.da x.s.d ∧ x.s.d.length ≤ x.dc
theorem DR.out {w w' : World} {x : SV} (h : DR w x) (o : Out w w') : DR w' x := ⟨by
  rcases h.1 with h1 | ⟨b, off, hb, ha, hc⟩
  · exact .inl h1
  · exact .inr ⟨b, off, Nat.lt_of_lt_of_le hb o.size, ha, fun k y hy => cell_later o (hc k y hy)⟩, h.2⟩
def sameS (a b : Sec) : Bool := a.nm == b.nm && (a.ty == b.ty && (a.fl == b.fl && (a.li == b.li && (a.inf == b.inf && (a.al == b.al && (a.es == b.es && a.d == b.d))))))
theorem sameS_iff (a b : Sec) : sameS a b = true ↔ a = b := by
  cases a; cases b
  simp only [sameS, Bool.and_eq_true, beq_iff_eq, Sec.mk.injEq]
theorem drewN_one (w : World) : w.drew = w.drewN 1 := rfl
set_option maxRecDepth 8000 in
set_option maxHeartbeats 4000000 in
theorem same1 (x y : SV) (w : World) (hx : DR w x) (hy : DR w y) : Calls Try.prog 12 #[.agg #[.string ⟨x.s.nm.toArray⟩, .int .i64 x.s.ty, .int .i64 x.s.fl, .int .i64 x.s.li, .int .i64 x.s.inf, .int .i64 x.s.al, .int .i64 x.s.es, .slice x.da x.s.d.length x.dc], .agg #[.string ⟨y.s.nm.toArray⟩, .int .i64 y.s.ty, .int .i64 y.s.fl, .int .i64 y.s.li, .int .i64 y.s.inf, .int .i64 y.s.al, .int .i64 y.s.es, .slice y.da y.s.d.length y.dc]] w fun e w' => e = .returned (.bool (sameS x.s y.s)) ∧ Out w w' := by
  obtain ⟨⟨nm, ty, fl, li, inf, al, es, d⟩, da, dc⟩ := x
  obtain ⟨⟨nm2, ty2, fl2, li2, inf2, al2, es2, d2⟩, da2, dc2⟩ := y
  simp only
  obtain ⟨W, hW⟩ : ∃ W, W = (w.alloc (.cells #[.string ⟨nm.toArray⟩, .int .i64 ty, .int .i64 fl, .int .i64 li, .int .i64 inf, .int .i64 al, .int .i64 es, .slice da d.length dc] 52)).alloc (.cells #[.string ⟨nm2.toArray⟩, .int .i64 ty2, .int .i64 fl2, .int .i64 li2, .int .i64 inf2, .int .i64 al2, .int .i64 es2, .slice da2 d2.length dc2] 52) := ⟨_, rfl⟩
  have HO : Hid (Out w W) := hidOf (by rw [hW]; exact ((Out.refl w).alloc _).alloc _)
  have cx : (convert 36 9 (.slice da d.length dc)).run Try.prog W = .ok (.string ⟨d.toArray⟩) W := conv_rest (DR.out hx HO.out).1 dc
  have cy : (convert 36 9 (.slice da2 d2.length dc2)).run Try.prog W = .ok (.string ⟨d2.toArray⟩) W := conv_rest (DR.out hy HO.out).1 dc2
  have HX : Hid (W.heap[w.heap.size]? = some (.cells #[.string ⟨nm.toArray⟩, .int .i64 ty, .int .i64 fl, .int .i64 li, .int .i64 inf, .int .i64 al, .int .i64 es, .slice da d.length dc] 52 (0, 0))) := hidOf (by rw [hW]; exact (Below.heap_alloc _ _ _ (by rw [size_alloc]; omega)).trans (heap_alloc_new w _))
  have HY : Hid (W.heap[w.heap.size + 1]? = some (.cells #[.string ⟨nm2.toArray⟩, .int .i64 ty2, .int .i64 fl2, .int .i64 li2, .int .i64 inf2, .int .i64 al2, .int .i64 es2, .slice da2 d2.length dc2] 52 (0, 0))) := hidOf (by rw [hW]; exact heap_new2 w _ _)
  clear hx hy
  unfold sameS
  simp only
  cases h0 : nm == nm2 with
  | false =>
    go_enter Try.func12, Try.ntmps12
    go_upto_region 1 with fail
    rw [← hW]
    clear hW
    have a0 : W.cell? ⟨w.heap.size, 0, none⟩ = some (.string ⟨nm.toArray⟩) := box_cell HX.out 0
    have b0 : W.cell? ⟨w.heap.size + 1, 0, none⟩ = some (.string ⟨nm2.toArray⟩) := box_cell HY.out 0
    go_wp2
    go_ret
    exact ⟨by simp [h0], HO.out⟩
  | true =>
    cases h1 : ty == ty2 with
    | false =>
      go_enter Try.func12, Try.ntmps12
      go_upto_region 1 with fail
      rw [← hW]
      clear hW
      have a0 : W.cell? ⟨w.heap.size, 0, none⟩ = some (.string ⟨nm.toArray⟩) := box_cell HX.out 0
      have b0 : W.cell? ⟨w.heap.size + 1, 0, none⟩ = some (.string ⟨nm2.toArray⟩) := box_cell HY.out 0
      have a1 : W.cell? ⟨w.heap.size, 1, none⟩ = some (.int .i64 ty) := box_cell HX.out 1
      have b1 : W.cell? ⟨w.heap.size + 1, 1, none⟩ = some (.int .i64 ty2) := box_cell HY.out 1
      go_wp2
      go_ret
      exact ⟨by simp [h0, h1], HO.out⟩
    | true =>
      cases h2 : fl == fl2 with
      | false =>
        go_enter Try.func12, Try.ntmps12
        go_upto_region 1 with fail
        rw [← hW]
        clear hW
        have a0 : W.cell? ⟨w.heap.size, 0, none⟩ = some (.string ⟨nm.toArray⟩) := box_cell HX.out 0
        have b0 : W.cell? ⟨w.heap.size + 1, 0, none⟩ = some (.string ⟨nm2.toArray⟩) := box_cell HY.out 0
        have a1 : W.cell? ⟨w.heap.size, 1, none⟩ = some (.int .i64 ty) := box_cell HX.out 1
        have b1 : W.cell? ⟨w.heap.size + 1, 1, none⟩ = some (.int .i64 ty2) := box_cell HY.out 1
        have a2 : W.cell? ⟨w.heap.size, 2, none⟩ = some (.int .i64 fl) := box_cell HX.out 2
        have b2 : W.cell? ⟨w.heap.size + 1, 2, none⟩ = some (.int .i64 fl2) := box_cell HY.out 2
        go_wp2
        go_ret
        exact ⟨by simp [h0, h1, h2], HO.out⟩
      | true =>
        cases h3 : li == li2 with
        | false =>
          go_enter Try.func12, Try.ntmps12
          go_upto_region 1 with fail
          rw [← hW]
          clear hW
          have a0 : W.cell? ⟨w.heap.size, 0, none⟩ = some (.string ⟨nm.toArray⟩) := box_cell HX.out 0
          have b0 : W.cell? ⟨w.heap.size + 1, 0, none⟩ = some (.string ⟨nm2.toArray⟩) := box_cell HY.out 0
          have a1 : W.cell? ⟨w.heap.size, 1, none⟩ = some (.int .i64 ty) := box_cell HX.out 1
          have b1 : W.cell? ⟨w.heap.size + 1, 1, none⟩ = some (.int .i64 ty2) := box_cell HY.out 1
          have a2 : W.cell? ⟨w.heap.size, 2, none⟩ = some (.int .i64 fl) := box_cell HX.out 2
          have b2 : W.cell? ⟨w.heap.size + 1, 2, none⟩ = some (.int .i64 fl2) := box_cell HY.out 2
          have a3 : W.cell? ⟨w.heap.size, 3, none⟩ = some (.int .i64 li) := box_cell HX.out 3
          have b3 : W.cell? ⟨w.heap.size + 1, 3, none⟩ = some (.int .i64 li2) := box_cell HY.out 3
          go_wp2
          go_ret
          exact ⟨by simp [h0, h1, h2, h3], HO.out⟩
        | true =>
          cases h4 : inf == inf2 with
          | false =>
            go_enter Try.func12, Try.ntmps12
            go_upto_region 1 with fail
            rw [← hW]
            clear hW
            have a0 : W.cell? ⟨w.heap.size, 0, none⟩ = some (.string ⟨nm.toArray⟩) := box_cell HX.out 0
            have b0 : W.cell? ⟨w.heap.size + 1, 0, none⟩ = some (.string ⟨nm2.toArray⟩) := box_cell HY.out 0
            have a1 : W.cell? ⟨w.heap.size, 1, none⟩ = some (.int .i64 ty) := box_cell HX.out 1
            have b1 : W.cell? ⟨w.heap.size + 1, 1, none⟩ = some (.int .i64 ty2) := box_cell HY.out 1
            have a2 : W.cell? ⟨w.heap.size, 2, none⟩ = some (.int .i64 fl) := box_cell HX.out 2
            have b2 : W.cell? ⟨w.heap.size + 1, 2, none⟩ = some (.int .i64 fl2) := box_cell HY.out 2
            have a3 : W.cell? ⟨w.heap.size, 3, none⟩ = some (.int .i64 li) := box_cell HX.out 3
            have b3 : W.cell? ⟨w.heap.size + 1, 3, none⟩ = some (.int .i64 li2) := box_cell HY.out 3
            have a4 : W.cell? ⟨w.heap.size, 4, none⟩ = some (.int .i64 inf) := box_cell HX.out 4
            have b4 : W.cell? ⟨w.heap.size + 1, 4, none⟩ = some (.int .i64 inf2) := box_cell HY.out 4
            go_wp2
            go_ret
            exact ⟨by simp [h0, h1, h2, h3, h4], HO.out⟩
          | true =>
            cases h5 : al == al2 with
            | false =>
              go_enter Try.func12, Try.ntmps12
              go_upto_region 1 with fail
              rw [← hW]
              clear hW
              have a0 : W.cell? ⟨w.heap.size, 0, none⟩ = some (.string ⟨nm.toArray⟩) := box_cell HX.out 0
              have b0 : W.cell? ⟨w.heap.size + 1, 0, none⟩ = some (.string ⟨nm2.toArray⟩) := box_cell HY.out 0
              have a1 : W.cell? ⟨w.heap.size, 1, none⟩ = some (.int .i64 ty) := box_cell HX.out 1
              have b1 : W.cell? ⟨w.heap.size + 1, 1, none⟩ = some (.int .i64 ty2) := box_cell HY.out 1
              have a2 : W.cell? ⟨w.heap.size, 2, none⟩ = some (.int .i64 fl) := box_cell HX.out 2
              have b2 : W.cell? ⟨w.heap.size + 1, 2, none⟩ = some (.int .i64 fl2) := box_cell HY.out 2
              have a3 : W.cell? ⟨w.heap.size, 3, none⟩ = some (.int .i64 li) := box_cell HX.out 3
              have b3 : W.cell? ⟨w.heap.size + 1, 3, none⟩ = some (.int .i64 li2) := box_cell HY.out 3
              have a4 : W.cell? ⟨w.heap.size, 4, none⟩ = some (.int .i64 inf) := box_cell HX.out 4
              have b4 : W.cell? ⟨w.heap.size + 1, 4, none⟩ = some (.int .i64 inf2) := box_cell HY.out 4
              have a5 : W.cell? ⟨w.heap.size, 5, none⟩ = some (.int .i64 al) := box_cell HX.out 5
              have b5 : W.cell? ⟨w.heap.size + 1, 5, none⟩ = some (.int .i64 al2) := box_cell HY.out 5
              go_wp2
              go_ret
              exact ⟨by simp [h0, h1, h2, h3, h4, h5], HO.out⟩
            | true =>
              cases h6 : es == es2 with
              | false =>
                go_enter Try.func12, Try.ntmps12
                go_upto_region 1 with fail
                rw [← hW]
                clear hW
                have a0 : W.cell? ⟨w.heap.size, 0, none⟩ = some (.string ⟨nm.toArray⟩) := box_cell HX.out 0
                have b0 : W.cell? ⟨w.heap.size + 1, 0, none⟩ = some (.string ⟨nm2.toArray⟩) := box_cell HY.out 0
                have a1 : W.cell? ⟨w.heap.size, 1, none⟩ = some (.int .i64 ty) := box_cell HX.out 1
                have b1 : W.cell? ⟨w.heap.size + 1, 1, none⟩ = some (.int .i64 ty2) := box_cell HY.out 1
                have a2 : W.cell? ⟨w.heap.size, 2, none⟩ = some (.int .i64 fl) := box_cell HX.out 2
                have b2 : W.cell? ⟨w.heap.size + 1, 2, none⟩ = some (.int .i64 fl2) := box_cell HY.out 2
                have a3 : W.cell? ⟨w.heap.size, 3, none⟩ = some (.int .i64 li) := box_cell HX.out 3
                have b3 : W.cell? ⟨w.heap.size + 1, 3, none⟩ = some (.int .i64 li2) := box_cell HY.out 3
                have a4 : W.cell? ⟨w.heap.size, 4, none⟩ = some (.int .i64 inf) := box_cell HX.out 4
                have b4 : W.cell? ⟨w.heap.size + 1, 4, none⟩ = some (.int .i64 inf2) := box_cell HY.out 4
                have a5 : W.cell? ⟨w.heap.size, 5, none⟩ = some (.int .i64 al) := box_cell HX.out 5
                have b5 : W.cell? ⟨w.heap.size + 1, 5, none⟩ = some (.int .i64 al2) := box_cell HY.out 5
                have a6 : W.cell? ⟨w.heap.size, 6, none⟩ = some (.int .i64 es) := box_cell HX.out 6
                have b6 : W.cell? ⟨w.heap.size + 1, 6, none⟩ = some (.int .i64 es2) := box_cell HY.out 6
                go_wp2
                go_ret
                exact ⟨by simp [h0, h1, h2, h3, h4, h5, h6], HO.out⟩
              | true =>
                cases h7 : d == d2 with
                | false =>
                  go_enter Try.func12, Try.ntmps12
                  go_upto_region 1 with fail
                  rw [← hW]
                  clear hW
                  have a0 : W.cell? ⟨w.heap.size, 0, none⟩ = some (.string ⟨nm.toArray⟩) := box_cell HX.out 0
                  have b0 : W.cell? ⟨w.heap.size + 1, 0, none⟩ = some (.string ⟨nm2.toArray⟩) := box_cell HY.out 0
                  have a1 : W.cell? ⟨w.heap.size, 1, none⟩ = some (.int .i64 ty) := box_cell HX.out 1
                  have b1 : W.cell? ⟨w.heap.size + 1, 1, none⟩ = some (.int .i64 ty2) := box_cell HY.out 1
                  have a2 : W.cell? ⟨w.heap.size, 2, none⟩ = some (.int .i64 fl) := box_cell HX.out 2
                  have b2 : W.cell? ⟨w.heap.size + 1, 2, none⟩ = some (.int .i64 fl2) := box_cell HY.out 2
                  have a3 : W.cell? ⟨w.heap.size, 3, none⟩ = some (.int .i64 li) := box_cell HX.out 3
                  have b3 : W.cell? ⟨w.heap.size + 1, 3, none⟩ = some (.int .i64 li2) := box_cell HY.out 3
                  have a4 : W.cell? ⟨w.heap.size, 4, none⟩ = some (.int .i64 inf) := box_cell HX.out 4
                  have b4 : W.cell? ⟨w.heap.size + 1, 4, none⟩ = some (.int .i64 inf2) := box_cell HY.out 4
                  have a5 : W.cell? ⟨w.heap.size, 5, none⟩ = some (.int .i64 al) := box_cell HX.out 5
                  have b5 : W.cell? ⟨w.heap.size + 1, 5, none⟩ = some (.int .i64 al2) := box_cell HY.out 5
                  have a6 : W.cell? ⟨w.heap.size, 6, none⟩ = some (.int .i64 es) := box_cell HX.out 6
                  have b6 : W.cell? ⟨w.heap.size + 1, 6, none⟩ = some (.int .i64 es2) := box_cell HY.out 6
                  have a7 : W.cell? ⟨w.heap.size, 7, none⟩ = some (.slice da d.length dc) := box_cell HX.out 7
                  have b7 : W.cell? ⟨w.heap.size + 1, 7, none⟩ = some (.slice da2 d2.length dc2) := box_cell HY.out 7
                  go_wp2
                  go_ret
                  exact ⟨by simp [h0, h1, h2, h3, h4, h5, h6, h7], HO.out⟩
                | true =>
                  go_enter Try.func12, Try.ntmps12
                  go_upto_region 1 with fail
                  rw [← hW]
                  clear hW
                  have a0 : W.cell? ⟨w.heap.size, 0, none⟩ = some (.string ⟨nm.toArray⟩) := box_cell HX.out 0
                  have b0 : W.cell? ⟨w.heap.size + 1, 0, none⟩ = some (.string ⟨nm2.toArray⟩) := box_cell HY.out 0
                  have a1 : W.cell? ⟨w.heap.size, 1, none⟩ = some (.int .i64 ty) := box_cell HX.out 1
                  have b1 : W.cell? ⟨w.heap.size + 1, 1, none⟩ = some (.int .i64 ty2) := box_cell HY.out 1
                  have a2 : W.cell? ⟨w.heap.size, 2, none⟩ = some (.int .i64 fl) := box_cell HX.out 2
                  have b2 : W.cell? ⟨w.heap.size + 1, 2, none⟩ = some (.int .i64 fl2) := box_cell HY.out 2
                  have a3 : W.cell? ⟨w.heap.size, 3, none⟩ = some (.int .i64 li) := box_cell HX.out 3
                  have b3 : W.cell? ⟨w.heap.size + 1, 3, none⟩ = some (.int .i64 li2) := box_cell HY.out 3
                  have a4 : W.cell? ⟨w.heap.size, 4, none⟩ = some (.int .i64 inf) := box_cell HX.out 4
                  have b4 : W.cell? ⟨w.heap.size + 1, 4, none⟩ = some (.int .i64 inf2) := box_cell HY.out 4
                  have a5 : W.cell? ⟨w.heap.size, 5, none⟩ = some (.int .i64 al) := box_cell HX.out 5
                  have b5 : W.cell? ⟨w.heap.size + 1, 5, none⟩ = some (.int .i64 al2) := box_cell HY.out 5
                  have a6 : W.cell? ⟨w.heap.size, 6, none⟩ = some (.int .i64 es) := box_cell HX.out 6
                  have b6 : W.cell? ⟨w.heap.size + 1, 6, none⟩ = some (.int .i64 es2) := box_cell HY.out 6
                  have a7 : W.cell? ⟨w.heap.size, 7, none⟩ = some (.slice da d.length dc) := box_cell HX.out 7
                  have b7 : W.cell? ⟨w.heap.size + 1, 7, none⟩ = some (.slice da2 d2.length dc2) := box_cell HY.out 7
                  go_wp2
                  go_ret
                  exact ⟨by simp [h0, h1, h2, h3, h4, h5, h6, h7], HO.out⟩
end Go.Proofs.Ytmpbdakmmelmgaa
namespace Go.Proofs.Ytmpbdakmmelmgaa
open Go.RowKit
set_option linter.unusedVariables false
set_option linter.unusedSimpArgs false
def sameL : List Sec → List Sec → Bool
  | [], [] => true
  | a :: r, b :: s => sameS a b && sameL r s
  | _, _ => false
theorem sameL_iff : ∀ A B : List Sec, sameL A B = true ↔ A = B
  | [], [] => by simp [sameL]
  | [], b :: s => by simp [sameL]
  | a :: r, [] => by simp [sameL]
  | a :: r, b :: s => by simp only [sameL, Bool.and_eq_true, sameS_iff, sameL_iff r s, List.cons.injEq]
theorem sameL_len : ∀ (A B : List Sec), ¬ A.length = B.length → sameL A B = false
  | [], [], h => absurd rfl h
  | [], b :: s, _ => rfl
  | a :: r, [], _ => rfl
  | a :: r, b :: s, h => by simp only [sameL, sameL_len r s (by simpa using h), Bool.and_false]
theorem sameL_step {A B : List Sec} {i : Nat} {x y : Sec} (hx : A[i]? = some x) (hy : B[i]? = some y) : sameL (A.drop i) (B.drop i) = (sameS x y && sameL (A.drop (i + 1)) (B.drop (i + 1))) := by
  obtain ⟨h1, e1⟩ := List.getElem?_eq_some_iff.1 hx
  obtain ⟨h2, e2⟩ := List.getElem?_eq_some_iff.1 hy
  rw [List.drop_eq_getElem_cons h1, List.drop_eq_getElem_cons h2, e1, e2, sameL]
theorem Cells8.later {w w' : World} {b off : Nat} {x : SV} (h : Cells8 w b off x) (o : Out w w') : Cells8 w' b off x := ⟨cell_later o h.c0, cell_later o h.c1, cell_later o h.c2, cell_later o h.c3, cell_later o h.c4, cell_later o h.c5, cell_later o h.c6, cell_later o h.c7⟩
theorem secs_get {L : List SV} {i : Nat} {x : SV} (h : L[i]? = some x) : (secs L)[i]? = some x.s := by simp [secs, h]
theorem secs_len (L : List SV) : (secs L).length = L.length := by simp [secs]
set_option maxRecDepth 8000 in
set_option maxHeartbeats 1000000 in
theorem sameSections_any (w : World) (a b : Option Addr) (c d : Nat) (L M : List SV) (hL : ScAt w.heap.size w a L) (hM : ScAt w.heap.size w b M) (dL : ∀ x ∈ L, DR w x) (dM : ∀ x ∈ M, DR w x) (hc : L.length ≤ c) (hd : M.length ≤ d) (hl : L.length ≤ 1000000000000) (hm : M.length ≤ 1000000000000) :
    Calls Try.prog 22 #[.slice a L.length c, .slice b M.length d] w fun e w' => e = .returned (.bool (sameL (secs L) (secs M))) ∧ Out w w' := by
  have HL := hidOf hL
  have HM := hidOf hM
  have DL := hidOf dL
  have DM := hidOf dM
  clear hL hM dL dM
  by_cases hne : L.length = M.length
  · rw [← hne] at hd hm ⊢
    have hnI : ((L.length : Int) != L.length) = false := by simp
    have hcI : (L.length : Int) ≤ c := by omega
    have hdI : (L.length : Int) ≤ d := by omega
    have Hne := hidOf hne
    clear hne
    go_enter Try.func22, Try.ntmps22
    go_wp2
    go_loopw [5] (fun iv wr => ∃ i : Nat, iv = .int .i64 i ∧ i ≤ L.length ∧ Hid (sameL (secs L) (secs M) = sameL ((secs L).drop i) ((secs M).drop i)) ∧ Hid (Out w wr)) (fun iv _ => L.length - (intOf iv).toNat)
    case atStart => exact ⟨0, rfl, by omega, rfl, Out.refl _⟩
    case round =>
      obtain ⟨i, rfl, hi, HE, Ho⟩ := hrel
      by_cases hiL : i < L.length
      · have hlt : (i : Int) < L.length := by omega
        have h0 : (0 : Int) ≤ i := by omega
        obtain ⟨x, hx⟩ : ∃ x, L[i]? = some x := ⟨_, List.getElem?_eq_getElem hiL⟩
        obtain ⟨y, hy⟩ : ∃ y, M[i]? = some y := ⟨_, List.getElem?_eq_getElem (by rw [← Hne.out]; exact hiL)⟩
        obtain ⟨g, off, rfl, hg, h8⟩ := HL.out.get hx
        obtain ⟨g', off', rfl, hg', h8'⟩ := HM.out.get hy
        have CS := hidOf (fun wx (o : Out wr wx) => same1 x y wx ((DL.out x (List.mem_of_getElem? hx)).out (Ho.out.trans o)) ((DM.out y (List.mem_of_getElem? hy)).out (Ho.out.trans o)))
        have Hst := hidOf (sameL_step (secs_get hx) (secs_get hy))
        have HX := hidOf h8
        have HY := hidOf h8'
        have HK : Hid (∀ wx, Out wr wx → wx.cell? ⟨g, off + i * 8, none⟩ = some (.string ⟨x.s.nm.toArray⟩) ∧ wx.cell? ⟨g, off + i * 8 + 1, none⟩ = some (.int .i64 x.s.ty) ∧ wx.cell? ⟨g, off + i * 8 + 2, none⟩ = some (.int .i64 x.s.fl) ∧ wx.cell? ⟨g, off + i * 8 + 3, none⟩ = some (.int .i64 x.s.li) ∧ wx.cell? ⟨g, off + i * 8 + 4, none⟩ = some (.int .i64 x.s.inf) ∧ wx.cell? ⟨g, off + i * 8 + 5, none⟩ = some (.int .i64 x.s.al) ∧ wx.cell? ⟨g, off + i * 8 + 6, none⟩ = some (.int .i64 x.s.es) ∧ wx.cell? ⟨g, off + i * 8 + 7, none⟩ = some (.slice x.da x.s.d.length x.dc) ∧ wx.cell? ⟨g', off' + i * 8, none⟩ = some (.string ⟨y.s.nm.toArray⟩) ∧ wx.cell? ⟨g', off' + i * 8 + 1, none⟩ = some (.int .i64 y.s.ty) ∧ wx.cell? ⟨g', off' + i * 8 + 2, none⟩ = some (.int .i64 y.s.fl) ∧ wx.cell? ⟨g', off' + i * 8 + 3, none⟩ = some (.int .i64 y.s.li) ∧ wx.cell? ⟨g', off' + i * 8 + 4, none⟩ = some (.int .i64 y.s.inf) ∧ wx.cell? ⟨g', off' + i * 8 + 5, none⟩ = some (.int .i64 y.s.al) ∧ wx.cell? ⟨g', off' + i * 8 + 6, none⟩ = some (.int .i64 y.s.es) ∧ wx.cell? ⟨g', off' + i * 8 + 7, none⟩ = some (.slice y.da y.s.d.length y.dc)) := fun wx o => by
          obtain ⟨p0, p1, p2, p3, p4, p5, p6, p7⟩ := HX.out.later (Ho.out.trans o)
          obtain ⟨q0, q1, q2, q3, q4, q5, q6, q7⟩ := HY.out.later (Ho.out.trans o)
          exact ⟨p0, p1, p2, p3, p4, p5, p6, p7, q0, q1, q2, q3, q4, q5, q6, q7⟩
        have OD := hidOf ((Out.refl wr).drew)
        clear hx hy h8 h8'
        cases hS : sameS x.s y.s with
        | false =>
          rw [hS] at CS Hst
          clear hS
          go_upto_region 6 with fail
          go_region_held3 (fun wx => wx.cell? ⟨g, off + i * 8, none⟩ = some (.string ⟨x.s.nm.toArray⟩) ∧ wx.cell? ⟨g, off + i * 8 + 1, none⟩ = some (.int .i64 x.s.ty) ∧ wx.cell? ⟨g, off + i * 8 + 2, none⟩ = some (.int .i64 x.s.fl) ∧ wx.cell? ⟨g, off + i * 8 + 3, none⟩ = some (.int .i64 x.s.li) ∧ wx.cell? ⟨g, off + i * 8 + 4, none⟩ = some (.int .i64 x.s.inf) ∧ wx.cell? ⟨g, off + i * 8 + 5, none⟩ = some (.int .i64 x.s.al) ∧ wx.cell? ⟨g, off + i * 8 + 6, none⟩ = some (.int .i64 x.s.es) ∧ wx.cell? ⟨g, off + i * 8 + 7, none⟩ = some (.slice x.da x.s.d.length x.dc) ∧ wx.cell? ⟨g', off' + i * 8, none⟩ = some (.string ⟨y.s.nm.toArray⟩) ∧ wx.cell? ⟨g', off' + i * 8 + 1, none⟩ = some (.int .i64 y.s.ty) ∧ wx.cell? ⟨g', off' + i * 8 + 2, none⟩ = some (.int .i64 y.s.fl) ∧ wx.cell? ⟨g', off' + i * 8 + 3, none⟩ = some (.int .i64 y.s.li) ∧ wx.cell? ⟨g', off' + i * 8 + 4, none⟩ = some (.int .i64 y.s.inf) ∧ wx.cell? ⟨g', off' + i * 8 + 5, none⟩ = some (.int .i64 y.s.al) ∧ wx.cell? ⟨g', off' + i * 8 + 6, none⟩ = some (.int .i64 y.s.es) ∧ wx.cell? ⟨g', off' + i * 8 + 7, none⟩ = some (.slice y.da y.s.d.length y.dc)) (first | with_reducible exact HK.out _ (Hid.out (by assumption)) | fail) (first | (go_at_call 12; refine (CS.out _ (Hid.out (by assumption))).mono ?_; rintro e w1 ⟨rfl, hO1⟩; have HO1 := hidOf (OD.out.trans hO1); clear hO1) | fail)
          go_wp2
          go_ret
          exact ⟨by rw [HE.out, Hst.out]; rfl, Ho.out.trans HO1.out⟩
        | true =>
          rw [hS] at CS Hst
          clear hS
          go_upto_region 6 with fail
          go_region_held3 (fun wx => wx.cell? ⟨g, off + i * 8, none⟩ = some (.string ⟨x.s.nm.toArray⟩) ∧ wx.cell? ⟨g, off + i * 8 + 1, none⟩ = some (.int .i64 x.s.ty) ∧ wx.cell? ⟨g, off + i * 8 + 2, none⟩ = some (.int .i64 x.s.fl) ∧ wx.cell? ⟨g, off + i * 8 + 3, none⟩ = some (.int .i64 x.s.li) ∧ wx.cell? ⟨g, off + i * 8 + 4, none⟩ = some (.int .i64 x.s.inf) ∧ wx.cell? ⟨g, off + i * 8 + 5, none⟩ = some (.int .i64 x.s.al) ∧ wx.cell? ⟨g, off + i * 8 + 6, none⟩ = some (.int .i64 x.s.es) ∧ wx.cell? ⟨g, off + i * 8 + 7, none⟩ = some (.slice x.da x.s.d.length x.dc) ∧ wx.cell? ⟨g', off' + i * 8, none⟩ = some (.string ⟨y.s.nm.toArray⟩) ∧ wx.cell? ⟨g', off' + i * 8 + 1, none⟩ = some (.int .i64 y.s.ty) ∧ wx.cell? ⟨g', off' + i * 8 + 2, none⟩ = some (.int .i64 y.s.fl) ∧ wx.cell? ⟨g', off' + i * 8 + 3, none⟩ = some (.int .i64 y.s.li) ∧ wx.cell? ⟨g', off' + i * 8 + 4, none⟩ = some (.int .i64 y.s.inf) ∧ wx.cell? ⟨g', off' + i * 8 + 5, none⟩ = some (.int .i64 y.s.al) ∧ wx.cell? ⟨g', off' + i * 8 + 6, none⟩ = some (.int .i64 y.s.es) ∧ wx.cell? ⟨g', off' + i * 8 + 7, none⟩ = some (.slice y.da y.s.d.length y.dc)) (first | with_reducible exact HK.out _ (Hid.out (by assumption)) | fail) (first | (go_at_call 12; refine (CS.out _ (Hid.out (by assumption))).mono ?_; rintro e w1 ⟨rfl, hO1⟩; have HO1 := hidOf (OD.out.trans hO1); clear hO1) | fail)
          go_wp2
          exact ⟨⟨i + 1, by simp, by omega, by show _ = _; rw [HE.out, Hst.out, Bool.true_and], Ho.out.trans HO1.out⟩, by simp [intOf]; omega⟩
      · have hlt : ¬ (i : Int) < L.length := by omega
        obtain rfl : i = L.length := by omega
        have HE2 : Hid (sameL (secs L) (secs M) = true) := hidOf (by
          have h1 : (secs L).drop L.length = [] := by rw [← secs_len L, List.drop_length]
          have h2 : (secs M).drop L.length = [] := by rw [Hne.out, ← secs_len M, List.drop_length]
          rw [HE.out, h1, h2]; rfl)
        go_wp2
        go_ret
        exact ⟨by rw [HE2.out]; rfl, Ho.out⟩
  · have hnI : ((L.length : Int) != M.length) = true := by simp [bne]; omega
    have hnI2 : ((L.length : Int) == M.length) = false := by simp; omega
    have hnI3 : ¬ (L.length : Int) = M.length := by omega
    have HF := hidOf (sameL_len (secs L) (secs M) (by rw [secs_len, secs_len]; exact hne))
    go_enter Try.func22, Try.ntmps22
    go_wp2
    go_ret
    exact ⟨by rw [HF.out]; rfl, Out.refl _⟩
end Go.Proofs.Ytmpbdakmmelmgaa
