import Derived.Test.YtfmcoffmgdcciaaDoorImu
import Derived.Test.YtfmcoffmgdcciaaDoorImd
namespace Go.Proofs.YtfmcoffmgdcciaaDoor
open Go.RowKit
set_option linter.unusedVariables false
set_option linter.unusedSimpArgs false
theorem wr_of {m : Img} (h : Ok17 m) (hi : ∀ x ∈ m.T, -9223372036854775808 ≤ x.i ∧ x.i ≤ 9223372036854775807) : Wr17 m := by
  obtain ⟨c1, c2, c3⟩ := h.counts
  have he := h.entry
  refine ⟨c1, c2, c3, h.fits, hi, h.names, ?_, by omega⟩
  have hf := h.fun_
  unfold funP at hf
  split at hf
  · cases hf
  · rename_i h1
    exact Ok17n.cutK (fstB_out h1)
/-- what Write answers -/
def WriE (m : Img) (w : World) (e : Ending) (w' : World) : Prop :=
  (Ok17 m ∧ ∃ a c, e = .returned (.tuple #[.slice a (wrB m).length c, .int .i64 0, .int .i64 0]) ∧ OwB w.heap.size (.slice a (wrB m).length c) (wrB m) w' ∧ Out w w') ∨
  ((ckP m).2 ≠ 0 ∧ e = .returned (.tuple #[.slice none 0 0, .int .i64 ((ckP m).1 : Nat), .int .i64 (ckP m).2]) ∧ Out w w')
set_option maxRecDepth 4000 in
theorem write_any (m : Img) (w : World) (ta fa da : Option Addr) (tc fc dc : Nat) (h : ImA w ta fa da m) (htc : m.T.length ≤ tc) (hi : ∀ x ∈ m.T, -9223372036854775808 ≤ x.i ∧ x.i ≤ 9223372036854775807) : Calls Tryd.prog 15 #[.agg #[.slice ta m.T.length tc, .slice fa m.F.length fc, .slice da m.D.length dc, .int .i64 m.en]] w (WriE m w) := by
  have CK : Hid (∀ wx, Out w wx → Calls Tryd.prog 10 #[.agg #[.slice ta m.T.length tc, .slice fa m.F.length fc, .slice da m.D.length dc, .int .i64 m.en]] wx fun e w' => e = .returned (.tuple #[.int .i64 ((ckP m).1 : Nat), .int .i64 (ckP m).2]) ∧ Out wx w') := fun wx ox => check_any m wx ta fa da tc fc dc (h.out ox)
  have HO : ∀ {w1 : World} {O : Obj}, Out (w.alloc O) w1 → Out w w1 := fun o => Out.trans (Out.alloc (Out.refl _) _) o
  by_cases h0 : (ckP m).2 = 0
  · have hok := ck_ok h0
    have hen := hok.entry
    have hcn := hok.counts
    have CB : Hid (∀ wx, Out w wx → Calls Tryd.prog 31 #[.agg #[.slice ta m.T.length tc, .slice fa m.F.length fc, .slice da m.D.length dc, .int .i64 m.en]] wx fun e w' => ∃ a c, e = .returned (.tuple #[.slice a (wrB m).length c, .int .i64 0]) ∧ OwB wx.heap.size (.slice a (wrB m).length c) (wrB m) w' ∧ Out wx w') := fun wx ox => bytesOf_any m wx ta fa da tc fc dc (h.out ox) (wr_of hok hi) htc (by omega)
    have HOK := hidOf hok
    rw [ok_ck hok] at CK
    clear h hi h0 hok hen hcn htc
    obtain ⟨L, hL⟩ : ∃ L, Hid (L = (wrB m).length) := ⟨_, rfl⟩
    rw [← hL.out] at CB
    generalize m.T.length = tn at *
    generalize m.F.length = fn at *
    generalize m.D.length = dn at *
    generalize m.en = en at *
    go_enter Tryd.func15, Tryd.ntmps15
    go_wp2_with (first | (go_at_call 10; refine (CK.out _ (Out.alloc (Out.refl _) _)).mono ?_; rintro e w1 ⟨rfl, o1⟩; have x0 := cell_later o1 (cell_fresh w _ _ 0 _ rfl); have x1 := cell_later o1 (cell_fresh w _ _ 1 _ rfl); have x2 := cell_later o1 (cell_fresh w _ _ 2 _ rfl); have x3 := cell_later o1 (cell_fresh w _ _ 3 _ rfl)) | (go_at_call 31; refine (CB.out _ (HO o1)).mono ?_; rintro e w2 ⟨a, c, rfl, hb2, o2⟩))
    go_ret3
    refine .inl ⟨HOK.out, a, c, by rw [← hL.out]; rfl, ?_, (HO o1).trans o2⟩
    rw [← hL.out]
    exact owns_base17 hb2 (HO o1).size
  · obtain ⟨kk, ee, hke⟩ : ∃ kk ee, ckP m = (kk, ee) := ⟨_, _, rfl⟩
    have HKE := hidOf hke
    rw [hke] at CK h0
    simp only at CK h0
    have hee : (ee != 0) = true := by simpa using h0
    clear h hi hke htc
    generalize m.T.length = tn at *
    generalize m.F.length = fn at *
    generalize m.D.length = dn at *
    generalize m.en = en at *
    go_enter Tryd.func15, Tryd.ntmps15
    go_wp2_with (go_at_call 10; refine (CK.out _ (Out.alloc (Out.refl _) _)).mono ?_; rintro e w1 ⟨rfl, o1⟩)
    go_ret3
    refine .inr ⟨?_, ?_, HO o1⟩
    · rw [HKE.out]; exact h0
    · rw [HKE.out]; rfl
end Go.Proofs.YtfmcoffmgdcciaaDoor
