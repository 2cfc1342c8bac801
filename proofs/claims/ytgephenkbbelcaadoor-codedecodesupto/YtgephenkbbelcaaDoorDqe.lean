import Derived.Test.YtgephenkbbelcaaDoorDqd
namespace Go.Proofs.YtgephenkbbelcaaDoor
open Go.RowKit
set_option linter.unusedVariables false
set_option linter.unusedSimpArgs false
theorem QF.eqm {w : World} {p : Nat} {mk mk2 tt : Int} {r : Nat → Value} {L : Nat → List Value} (h : QF w p mk tt r L) (e : mk = mk2) : QF w p mk2 tt r L := e ▸ h
/-- the five cells of an instruction are stored -/
def put5 (w : World) (g o : Nat) (a b c d e : Int) : World := ((((w.setCell ⟨g, o, none⟩ (.int .i64 a)).setCell ⟨g, o + 1, none⟩ (.int .i64 b)).setCell ⟨g, o + 2, none⟩ (.int .i64 c)).setCell ⟨g, o + 3, none⟩ (.int .i64 d)).setCell ⟨g, o + 4, none⟩ (.int .i64 e)
theorem OwI.put {B g n c : Nat} {L : List Ins} {w : World} (h : OwI B (.slice (some ⟨g, 0, none⟩) n c) L w) {i : Nat} (hi : i < L.length) (p0 p1 p2 p3 p4 : Int) : OwI B (.slice (some ⟨g, 0, none⟩) n c) (L.set i ⟨p0, p1, p2, p3, p4⟩) (put5 w g (i * 5) p0 p1 p2 p3 p4) ∧ Chg (fun b => (Value.slice (some ⟨g, 0, none⟩) n c).ownBlock = some b) w (put5 w g (i * 5) p0 p1 p2 p3 p4) := by
  have hl' : (L.set i ⟨p0, p1, p2, p3, p4⟩).length = L.length := List.length_set
  refine ⟨⟨by rw [insV_len], ?_⟩, ?_⟩
  · rcases h.2 with ⟨hv, _⟩ | ⟨g', cap, cur, hv, hb, hg, hn, hm, hs, ht⟩
    · cases hv
    · rw [hl']
      simp only [Value.slice.injEq, Option.some.injEq, Addr.mk.injEq] at hv
      obtain ⟨⟨rfl, _⟩, hnn, rfl⟩ := hv
      have h4 := set_atL (set_atL (set_atL (set_atL (set_atL hg (i * 5) (.int .i64 p0)) (i * 5 + 1) (.int .i64 p1)) (i * 5 + 2) (.int .i64 p2)) (i * 5 + 3) (.int .i64 p3)) (i * 5 + 4) (.int .i64 p4)
      refine .inr ⟨g, c, _, by rw [hnn], hb, h4, hn, hm, by simpa using hs, ?_⟩
      simp only [Array.toList_setIfInBounds, List.take_set, ht]
      obtain ⟨x, hx⟩ : ∃ x, L[i]? = some x := ⟨_, List.getElem?_eq_getElem hi⟩
      have e1 : insV L = insV (L.take i) ++ ([.int .i64 x.o, .int .i64 x.d, .int .i64 x.s, .int .i64 x.f, .int .i64 x.i] ++ insV (L.drop (i + 1))) := by
        conv => lhs; rw [split_at L i x hx]
        rw [insV_app]; rfl
      have e2 : insV (L.set i ⟨p0, p1, p2, p3, p4⟩) = insV (L.take i) ++ ([.int .i64 p0, .int .i64 p1, .int .i64 p2, .int .i64 p3, .int .i64 p4] ++ insV (L.drop (i + 1))) := by
        rw [List.set_eq_take_append_cons_drop, if_pos hi, insV_app]; rfl
      have hl : (insV (L.take i)).length = i * 5 := by rw [insV_len, List.length_take, Nat.min_eq_left (by omega)]
      rw [e1, e2, set5_list _ _ _ _ _ _ _ _ _ _ _ _ (i * 5) hl]
  · exact (((((Chg.refl (fun b => (Value.slice (some ⟨g, 0, none⟩) n c).ownBlock = some b) w).setCell (p := ⟨g, i * 5, none⟩) rfl _).setCell (p := ⟨g, i * 5 + 1, none⟩) rfl _).setCell (p := ⟨g, i * 5 + 2, none⟩) rfl _).setCell (p := ⟨g, i * 5 + 3, none⟩) rfl _).setCell (p := ⟨g, i * 5 + 4, none⟩) rfl _
/-- a place of a list -/
theorem OwI.cells5 {B g n c : Nat} {L : List Ins} {w : World} (h : OwI B (.slice (some ⟨g, 0, none⟩) n c) L w) {i : Nat} {x : Ins} (hx : L[i]? = some x) : (w.cell? ⟨g, i * 5, none⟩ = some (.int .i64 x.o) ∧ w.cell? ⟨g, i * 5 + 1, none⟩ = some (.int .i64 x.d) ∧ w.cell? ⟨g, i * 5 + 2, none⟩ = some (.int .i64 x.s) ∧ w.cell? ⟨g, i * 5 + 3, none⟩ = some (.int .i64 x.f) ∧ w.cell? ⟨g, i * 5 + 4, none⟩ = some (.int .i64 x.i)) ∧ ∀ j, w.frozen? ⟨g, j, none⟩ = false := by
  refine ⟨?_, fun j => ?_⟩
  · rcases h.at2 with e | ⟨b, off, e, hc⟩
    · rw [e] at hx; simp at hx
    · simp only [Option.some.injEq, Addr.mk.injEq] at e
      obtain ⟨rfl, rfl, _⟩ := e
      have := hc i x hx
      simpa using this
  · obtain ⟨_, cs, hc⟩ := own_blkQ h (b := g) rfl
    exact frozen_atL hc j
theorem OwI.adr {B n c : Nat} {a : Option Addr} {L : List Ins} {w : World} (h : OwI B (.slice a n c) L w) (h0 : 0 < L.length) : ∃ g, a = some ⟨g, 0, none⟩ := by
  rcases h.2 with ⟨_, e⟩ | ⟨g, cap, cur, e, _⟩
  · omega
  · simp only [Value.slice.injEq] at e
    exact ⟨g, e.1⟩
theorem OwI.news {B n c : Nat} {ad : Addr} {L : List Ins} {w : World} (h : OwI B (.slice (some ad) n c) L w) : ∀ j u, (insV L)[j]? = some u → w.cell? (ad.add j) = some u := fun j u hu => by
  rcases h.at2 with e | ⟨b, off, e, hc⟩
  · rw [e] at hu; simp [insV] at hu
  · cases e; exact insA_cells hc j u hu
theorem OwI.len {B n c : Nat} {a : Option Addr} {L : List Ins} {w : World} (h : OwI B (.slice a n c) L w) : L.length = n := by
  rcases h.2 with ⟨e, h0⟩ | ⟨g, cap, cur, e, _⟩
  · simp only [Value.slice.injEq] at e; omega
  · simp only [Value.slice.injEq] at e; exact e.2.1.symm
set_option maxRecDepth 20000 in
set_option maxHeartbeats 2000000 in
theorem some_any (w : World) (p : Nat) (mk tt : Int) (r : Nat → Value) (L : Nat → List Value) (h : QF w p mk tt r L) (k : Nat) (hk : k ≤ 1000000000) (m0 : 0 ≤ mk) (m1 : mk ≤ 1000000000000000) :
    Calls Tryd.prog 32 #[.pointer (some ⟨p, 0, none⟩), .int .i64 k] w fun e w' => ∃ g Z, e = .returned (.slice (some ⟨g, 0, none⟩) k k) ∧ Z.length = k ∧ OwI w.heap.size (.slice (some ⟨g, 0, none⟩) k k) Z w' ∧ QF w' p (mk + k) tt r L ∧ Chg (fun b => b = p) w w' := by
  have hmk := run_make_ins k (by omega) w
  have hrow : RowI (w.alloc (.cells (insV (List.replicate k zeroI)).toArray 42)) w.heap.size (List.replicate k zeroI) [] := by
    unfold RowI
    rw [List.append_nil]
    exact heap_alloc_new w _
  have H0 : Hid (OwI w.heap.size (.slice (some ⟨w.heap.size, 0, none⟩) k k) (List.replicate k zeroI) (w.alloc (.cells (insV (List.replicate k zeroI)).toArray 42))) := hidOf (by
    have := rowI_owns (B := w.heap.size) (cap := k) hrow (Nat.le_refl _) (by unfold maxLen; omega) (by simp)
    simpa [OwI] using this)
  have Q0 : Hid (QF (w.alloc (.cells (insV (List.replicate k zeroI)).toArray 42)) p mk tt r L) := hidOf (h.out ((Out.refl w).alloc _))
  have C0 : Hid (Chg (fun b => b = p) w (w.alloc (.cells (insV (List.replicate k zeroI)).toArray 42))) := hidOf (Chg.of_out ((Out.refl w).alloc _))
  have hpw : Hid (p < w.heap.size) := hidOf h.lt
  clear h hrow
  go_enter Tryd.func32, Tryd.ntmps32
  go_wp2
  clear hmk
  obtain ⟨g, hg⟩ : ∃ g, g = w.heap.size := ⟨_, rfl⟩
  have Hg := hidOf hg
  rw [← hg] at H0
  rw [← hg]
  clear hg
  generalize w.alloc (.cells (insV (List.replicate k zeroI)).toArray 42) = w0 at *
  go_loopw [6] (fun iv wr => ∃ (i : Nat) (Z : List Ins), iv = .int .i64 i ∧ i ≤ k ∧ Hid (Z.length = k) ∧ Hid (OwI g (.slice (some ⟨g, 0, none⟩) k k) Z wr) ∧ Hid (QF wr p (mk + i) tt r L) ∧ Hid (Chg (fun b => b = p) w wr)) (fun iv _ => k - (intOf iv).toNat)
  case atStart => exact ⟨0, _, rfl, by omega, hidOf (by simp), H0, by have := Q0.out; exact hidOf (by simpa using this), C0⟩
  case round =>
    clear H0 Q0 C0
    obtain ⟨i, Z, rfl, hi, HZ, HO, HQ, HC⟩ := hrel
    by_cases hik : i < k
    · have hikI : (i : Int) < k := by omega
      have hi0 : (0 : Int) ≤ i := by omega
      obtain ⟨z, hz⟩ : ∃ z, Z[i]? = some z := ⟨_, List.getElem?_eq_getElem (by rw [HZ.out]; exact hik)⟩
      have c0 : wr.cell? ⟨p, 0, none⟩ = some (.int .i64 (mk + i)) := by rw [cell_atL HQ.out.st]; rfl
      have f0 : wr.frozen? ⟨p, 0, none⟩ = false := frozen_atL HQ.out.st 0
      have hgp : ¬ g = p := fun e => by have := hpw.out; have := Hg.out; omega
      have HQ2 := hidOf (HQ.out.mark (mk + i + 1))
      have C2 : Hid (Chg (fun b => b = p) wr (wr.setCell ⟨p, 0, none⟩ (.int .i64 (mk + i + 1)))) := hidOf (Chg.setCell (S := fun k => k = p) (Chg.refl _ wr) (p := ⟨p, 0, none⟩) rfl _)
      have HO2 := hidOf (HO.out.chg C2.out (fun b hb e => hgp (by simp [Value.ownBlock] at hb; omega)))
      have Hz := hidOf hz
      clear hz
      go_upto_region 6 with fail
      clear c0 f0
      have HCC := hidOf (HC.out.trans C2.out (fun b hb _ => hb))
      generalize wr.setCell ⟨p, 0, none⟩ (.int .i64 (mk + i + 1)) = w2 at *
      have c0 : w2.cell? ⟨p, 0, none⟩ = some (.int .i64 (mk + i + 1)) := by rw [cell_atL HQ2.out.st]; rfl
      obtain ⟨⟨x0, x1, x2, x3, x4⟩, hfz⟩ := HO2.out.cells5 Hz.out
      have g0 := hfz (i * 5)
      have g1 := hfz (i * 5 + 1)
      have g2 := hfz (i * 5 + 2)
      have g3 := hfz (i * 5 + 3)
      have g4 := hfz (i * 5 + 4)
      have hP := HO2.out.put (i := i) (by rw [HZ.out]; exact hik) (-(mk + i + 1)) 0 0 0 0
      have B3 := hidOf hP.1
      have C3 := hidOf hP.2
      clear hP hfz
      unfold put5 at B3 C3
      have HQ3 := hidOf (HQ2.out.ins C3.out (fun b _ hb => (own_blkQ HO2.out hb).2))
      have HC3 := hidOf (HCC.out.trans C3.out (fun b hb hlt => by simp [Value.ownBlock] at hb; have := Hg.out; omega))
      have hw : IntKind.i64.wrap (-(mk + (i : Int) + 1)) = -(mk + i + 1) := by rw [IntKind.wrap_i64]; omega
      go_wp2
      go_roundw
      case rel =>
        refine ⟨i + 1, _, by simp, by omega, hidOf (by rw [List.length_set, HZ.out]), B3, ?_, HC3⟩
        exact hidOf (HQ3.out.eqm (by omega))
      case measure => simp [intOf]; omega
    · have hikI : ¬ (i : Int) < k := by omega
      obtain rfl : k = i := by omega
      go_wp2
      go_ret
      exact ⟨g, rfl, Z, HZ.out, by rw [← Hg.out]; exact HO.out, HQ.out, HC.out⟩
end Go.Proofs.YtgephenkbbelcaaDoor
