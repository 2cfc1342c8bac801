import Derived.Test.YtgephenkbbelcaaDoorLf
import Derived.Deep.RegionWith
import Derived.Deep.Cut
import Derived.Deep.CutRange
import Derived.Deep.DeepCutAuto
namespace Go.Proofs.YtgephenkbbelcaaDoor
open Go.RowKit
set_option linter.unusedVariables false
set_option linter.unusedSimpArgs false

theorem fits_empty (form group srcIs offIs : Int) (dst src off imm any : Bool) (o d s f i : Int) (w : World) (b cap : Nat) :
    Calls Tryd.prog 37 #[.agg #[.int .i64 form, .int .i64 group, .bool dst, .bool src, .bool off, .bool imm, .bool any, .int .i64 srcIs, .int .i64 offIs, .slice (some ⟨b, 0, none⟩) 0 cap], .agg #[.int .i64 o, .int .i64 d, .int .i64 s, .int .i64 f, .int .i64 i]] w fun e w' => e = .returned (.bool (fitR ⟨form, group, dst, src, off, imm, any, srcIs, offIs, []⟩ d s f i)) ∧ Out w w' := by
  go_enter Tryd.func37, Tryd.ntmps37
  go_upto_if 13 with fail
  go_cut [5] (fun s5 wx => s5 = .bool (offR ⟨form, group, dst, src, off, imm, any, srcIs, offIs, []⟩ f) ∧ (w.alloc (.cells #[.int .i64 form, .int .i64 group, .bool dst, .bool src, .bool off, .bool imm, .bool any, .int .i64 srcIs, .int .i64 offIs, .slice (some ⟨b, 0, none⟩) 0 cap] 74)).alloc (.cells #[.int .i64 o, .int .i64 d, .int .i64 s, .int .i64 f, .int .i64 i] 42) = wx)
  case first =>
    cases off
    all_goals go_wp2
    all_goals go_meet
    all_goals go_light
    all_goals first | (refine ⟨?_, rfl⟩; simp_all [offR]; done) | (refine ⟨?_, rfl⟩; simp_all [offR]; omega)
  case rest =>
    obtain ⟨rfl, rfl⟩ := hcut
    go_upto_if 35 with fail
    go_cut [6] (fun s6 wx => s6 = .bool (immR ⟨form, group, dst, src, off, imm, any, srcIs, offIs, []⟩ i) ∧ (w.alloc (.cells #[.int .i64 form, .int .i64 group, .bool dst, .bool src, .bool off, .bool imm, .bool any, .int .i64 srcIs, .int .i64 offIs, .slice (some ⟨b, 0, none⟩) 0 cap] 74)).alloc (.cells #[.int .i64 o, .int .i64 d, .int .i64 s, .int .i64 f, .int .i64 i] 42) = wx)
    case first =>
      cases imm <;> cases any
      all_goals go_wp2
      all_goals go_meet
      all_goals go_light
      all_goals first | (refine ⟨?_, rfl⟩; simp_all [immR]; done) | (refine ⟨?_, rfl⟩; simp_all [immR]; omega)
    case rest =>
      obtain ⟨rfl, rfl⟩ := hcut
      go_wp2_with (first | (go_at_call 44; refine (register_any _ _ _ _).mono ?_; rintro e w' ⟨rfl, rfl⟩))
      all_goals go_ret
      all_goals go_light
      all_goals (refine ⟨?_, by repeat (first | exact Out.refl _ | apply Out.alloc)⟩; simp_all [fitR])
def small (L : List RowP) : Bool := decide (L.length ≤ 100) && L.all (fun r => decide (r.imms.length ≤ 100))
theorem small_arith (c code : Int) (src : Bool) : small (arithR c code src) = true := by
  unfold arithR
  repeat' split
  all_goals rfl
theorem small_jumps (c code : Int) (src : Bool) : small (jumpsR c code src) = true := by
  unfold jumpsR
  repeat' split
  all_goals rfl
theorem small_moves (op : Int) : small (movesR op) = true := by
  unfold movesR
  repeat' split
  all_goals rfl
theorem rows_small (op : Int) : (rowsR op).length ≤ 100 ∧ ∀ r ∈ rowsR op, r.imms.length ≤ 100 := by
  have h : small (rowsR op) = true := by
    unfold rowsR
    split
    · rfl
    split
    · rfl
    split
    · exact small_arith _ _ _
    split
    · exact small_jumps _ _ _
    exact small_moves op
  simpa [small] using h
def mayR (o d s f i : Int) : Int := if rowsR o = [] then 20 else if (rowsR o).any (fun r => fitR r d s f i) then 0 else 21
theorem fitsR_any (r : RowP) (iv : Value) (o d s f i : Int) (w : World) (hl : r.imms.length ≤ 100) (h : NumsAt w iv r.imms) :
    Calls Tryd.prog 37 #[.agg #[.int .i64 r.form, .int .i64 r.group, .bool r.dst, .bool r.src, .bool r.off, .bool r.imm, .bool r.any, .int .i64 r.srcIs, .int .i64 r.offIs, iv], .agg #[.int .i64 o, .int .i64 d, .int .i64 s, .int .i64 f, .int .i64 i]] w fun e w' => e = .returned (.bool (fitR r d s f i)) ∧ Out w w' := by
  obtain ⟨form, group, dst, src, off, imm, any, srcIs, offIs, imms⟩ := r
  rcases h with ⟨e, rfl⟩ | ⟨b, cap, rfl, hc⟩
  · simp only at e
    subst e
    exact fits_nil form group srcIs offIs dst src off imm any o d s f i w
  · simp only at hc hl ⊢
    by_cases hp : 0 < imms.length
    · exact fits_imms form group srcIs offIs dst src off imm any o d s f i w imms b cap hp hl (List.length_pos_iff.1 hp) hc
    · obtain rfl : imms = [] := List.length_eq_zero_iff.1 (by omega)
      exact fits_empty form group srcIs offIs dst src off imm any o d s f i w b cap
theorem any_at (L : List RowP) (p : RowP → Bool) (k : Nat) (r : RowP) (h : L[k]? = some r) (hp : p r = true) : L.any p = true := by
  rw [List.any_eq_true]; exact ⟨r, List.mem_of_getElem? h, hp⟩
theorem any_not (L : List RowP) (p : RowP → Bool) (h : ∀ (k : Nat) (r : RowP), L[k]? = some r → p r = false) : L.any p = false := by
  rw [List.any_eq_false]
  intro r hr
  obtain ⟨k, hk⟩ := List.getElem?_of_mem hr
  simp [h k r hk]
set_option maxRecDepth 20000 in
theorem refMay_any (o d s f i : Int) (w : World) : Calls Tryd.prog 27 #[.agg #[.int .i64 o, .int .i64 d, .int .i64 s, .int .i64 f, .int .i64 i]] w fun e w' => e = .returned (.int .i64 (mayR o d s f i)) ∧ Out w w' := by
  obtain ⟨hlen, himm⟩ := rows_small o
  go_enter Tryd.func27, Tryd.ntmps27
  go_upto_region 2 with (go_at_call 36; refine (rows_any _ _).mono ?_; rintro e w1 ⟨⟨v, rfl, hv⟩, hout⟩)
  have hout0 : Out w w1 := Out.trans (Out.alloc (Out.refl w) _) hout
  rcases hv with ⟨e0, rfl⟩ | ⟨g, cap, rfl, hr⟩
  · have hm : Hid (mayR o d s f i = 20) := by simp [mayR, e0, Hid]
    clear e0
    go_wp2
    go_ret
    exact ⟨by simp [hm.out], hout0⟩
  · by_cases hz : (rowsR o).length = 0
    · have hm : Hid (mayR o d s f i = 20) := by simp [mayR, List.length_eq_zero_iff.1 hz, Hid]
      go_wp2
      go_ret
      exact ⟨by simp [hm.out], hout0⟩
    · have hne : rowsR o ≠ [] := fun h => hz (by simp [h])
      have hz2 : (((rowsR o).length : Int) == 0) = false := by simpa using hne
      have hcs := hout.cells
      have q0 : w1.cell? ⟨w.heap.size, 0, none⟩ = some (.int .i64 o) := (hcs _ _ (by simp)).trans (by simp)
      have q1 : w1.cell? ⟨w.heap.size, 1, none⟩ = some (.int .i64 d) := (hcs _ _ (by simp)).trans (by simp)
      have q2 : w1.cell? ⟨w.heap.size, 2, none⟩ = some (.int .i64 s) := (hcs _ _ (by simp)).trans (by simp)
      have q3 : w1.cell? ⟨w.heap.size, 3, none⟩ = some (.int .i64 f) := (hcs _ _ (by simp)).trans (by simp)
      have q4 : w1.cell? ⟨w.heap.size, 4, none⟩ = some (.int .i64 i) := (hcs _ _ (by simp)).trans (by simp)
      clear hcs hout hz
      generalize hL : rowsR o = L at *
      go_wp2
      go_loopw [4] (fun j wr => ∃ k : Nat, k ≤ L.length ∧ j = .int .i64 k ∧ Hid (∀ k' r, k' < k → L[k']? = some r → fitR r d s f i = false) ∧ Out w1 wr) (fun j _ => L.length - (intOf j).toNat)
      case atStart => exact ⟨0, by omega, rfl, fun k' r hk' => by omega, Out.refl _⟩
      case round =>
        obtain ⟨k, hk, rfl, hno, hor⟩ := hrel
        by_cases hkl : k < L.length
        · obtain ⟨r, hrk⟩ : ∃ r, L[k]? = some r := ⟨L[k], List.getElem?_eq_getElem hkl⟩
          obtain ⟨iv, hnums, c0, c1, c2, c3, c4, c5, c6, c7, c8, c9⟩ := (hr k r hrk).out hor
          have p0 := cell_later hor q0
          have p1 := cell_later hor q1
          have p2 := cell_later hor q2
          have p3 := cell_later hor q3
          have p4 := cell_later hor q4
          have hfit := fun w2 h => fitsR_any r iv o d s f i w2 (himm r (List.mem_of_getElem? hrk)) h
          cases hfb : fitR r d s f i
          · rw [hfb] at hfit
            clear hr
            go_wp2
            go_region_with (go_at_call 37; refine (hfit _ (hnums.out (by repeat (first | exact Out.refl _ | apply Out.drew)))).mono ?_; rintro e w2 ⟨rfl, ho2⟩)
            all_goals go_wp2
            all_goals
              refine ⟨⟨k + 1, by omega, by simp, ?_, Out.trans hor (Out.trans (by repeat (first | exact Out.refl _ | apply Out.drew)) ho2)⟩, by simp [intOf]; omega⟩
              intro k' r' hk' hr'
              by_cases y : k' = k
              · subst y
                obtain rfl : r = r' := Option.some.inj (hrk.symm.trans hr')
                exact hfb
              · exact hno.out k' r' (by omega) hr'
          · rw [hfb] at hfit
            have hm : Hid (mayR o d s f i = 0) := by simp only [mayR, hL, if_neg hne, any_at L (fun r => fitR r d s f i) k r hrk hfb]; simp [Hid]
            clear hr hrk
            go_wp2
            go_region_with (go_at_call 37; refine (hfit _ (hnums.out (by repeat (first | exact Out.refl _ | apply Out.drew)))).mono ?_; rintro e w2 ⟨rfl, ho2⟩)
            all_goals go_wp2
            all_goals go_ret
            all_goals exact ⟨by simp [hm.out], Out.trans hout0 (Out.trans hor (Out.trans (by repeat (first | exact Out.refl _ | apply Out.drew)) ho2))⟩
        · obtain rfl : k = L.length := by omega
          have hm : Hid (mayR o d s f i = 21) := by
            simp only [mayR, hL, if_neg hne, any_not L (fun r => fitR r d s f i) (fun k r hk => hno.out k r (List.getElem?_eq_some_iff.1 hk).1 hk)]; simp [Hid]
          go_wp2
          go_ret
          exact ⟨by simp [hm.out], Out.trans hout0 hor⟩
end Go.Proofs.YtgephenkbbelcaaDoor
