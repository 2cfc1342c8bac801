import Derived.Test.YthdgmhohofakgaaGreatDoorIzi
import Derived.Test.YthdgmhohofakgaaGreatDoorIyo
import Derived.Test.YthdgmhohofakgaaGreatDoorHw4
import Derived.Test.YthdgmhohofakgaaGreatDoorHw6
namespace Go.Proofs.YthdgmhohofakgaaGreatDoor
open Go.RowKit
set_option linter.unusedVariables false
set_option linter.unusedSimpArgs false
theorem rd_lens {l : List UInt8} {m : Img} {k : Nat} {er : Int} (h : rdI l = (m, k, er)) : m.T.length ≤ l.length ∧ m.F.length ≤ l.length ∧ m.D.length ≤ l.length := by
  unfold rdI at h
  cases hp : pasR l with
  | error q =>
    rw [hp] at h
    simp only [Prod.mk.injEq] at h
    rw [← h.1]; simp [nilM]
  | ok m' =>
    rw [hp] at h
    simp only at h
    split at h
    · simp only [Prod.mk.injEq] at h
      have h1 := congrArg List.length (forth_I hp).1
      rw [wrB_len] at h1
      unfold sizP at h1
      have h2 : m'.T.length ≤ slotsP m'.T := by unfold slotsP; omega
      rw [← h.1]
      omega
    · simp only [Prod.mk.injEq] at h
      rw [← h.1]; simp [nilM]
theorem head_nil (w : World) (p c : Nat) (a : Option Addr) (h : RgA w p (.slice a 0 c) 0 0 0 0 (.slice none 0 0) (.slice none 0 0) 0) : Calls Tryz.prog 15 #[.pointer (some ⟨p, 0, none⟩)] w fun e w' => e = .returned (.int .i64 0) ∧ w = w' := by
  obtain ⟨c0, _⟩ := h.at
  clear h
  go_enter Tryz.func15, Tryz.ntmps15
  go_wp2
  go_ret
  exact ⟨rfl, rfl⟩
set_option maxRecDepth 8000 in
theorem refRead_nil (w : World) (a : Option Addr) (c : Nat) : Calls Tryz.prog 7 #[.slice a 0 c] w (RdE [] w) := by
  obtain ⟨w2, hw2⟩ : ∃ x, Hid (x = (w.alloc (.cells #[.slice none 0 0, .slice none 0 0, .slice none 0 0, .int .i64 0] 34)).alloc (.cells #[.slice a 0 c, .int .i64 0, .int .i64 0, .int .i64 0, .int .i64 0, .slice none 0 0, .slice none 0 0, .int .i64 0] 48)) := ⟨_, rfl⟩
  obtain ⟨p, hp⟩ : ∃ p, Hid (p = w.heap.size + 1) := ⟨_, rfl⟩
  have O2 : Hid (Out w w2) := hidOf (by rw [hw2.out]; exact Out.alloc (Out.alloc (Out.refl _) _) _)
  have b5 : Hid (w2.heap[w.heap.size]? = some (.cells #[.slice none 0 0, .slice none 0 0, .slice none 0 0, .int .i64 0] 34 (0, 0))) := hidOf (by rw [hw2.out]; exact ((Out.alloc (Out.refl (w.alloc _)) _).block w.heap.size (by rw [size_alloc]; omega)).trans (heap_alloc_new w _))
  have R2 : Hid (RgA w2 p (.slice a 0 c) 0 0 0 0 (.slice none 0 0) (.slice none 0 0) 0) := hidOf (by
    have := heap_alloc_new (w.alloc (.cells #[.slice none 0 0, .slice none 0 0, .slice none 0 0, .int .i64 0] 34)) (.cells #[.slice a 0 c, .int .i64 0, .int .i64 0, .int .i64 0, .int .i64 0, .slice none 0 0, .slice none 0 0, .int .i64 0] 48)
    rw [size_alloc, ← hw2.out, ← hp.out] at this; exact this)
  have CH := hidOf (head_nil w2 p c a R2.out)
  have HP : Hid (pasR [] = .error 0) := hidOf (by simp [pasR, hdF])
  have z0 : w2.cell? ⟨w.heap.size, 0, none⟩ = some (.slice none 0 0) := by rw [cell_atL b5.out]; rfl
  have z1 : w2.cell? ⟨w.heap.size, 1, none⟩ = some (.slice none 0 0) := by rw [cell_atL b5.out]; rfl
  have z2 : w2.cell? ⟨w.heap.size, 2, none⟩ = some (.slice none 0 0) := by rw [cell_atL b5.out]; rfl
  have z3 : w2.cell? ⟨w.heap.size, 3, none⟩ = some (.int .i64 0) := by rw [cell_atL b5.out]; rfl
  have g0 := frozen_atL b5.out 0
  have g1' := frozen_atL b5.out 1
  have g2 := frozen_atL b5.out 2
  have g3 := frozen_atL b5.out 3
  go_enter Tryz.func7, Tryz.ntmps7
  go_upto_region 2 with fail
  rw [← hw2.out, ← hp.out]
  go_upto_region 3 with (go_at_call 15; refine CH.out.mono ?_; rintro e w3 ⟨rfl, h3⟩; subst h3)
  go_wp2
  refine bodyPost_ret (results_cell3 rfl _ _ w.heap.size 34 _ (0, 0) _ rfl (blk_set (blk_set (blk_set (blk_set b5.out _ _) _ _) _ _) _ _) Tryz.underlying34 rfl (by kernel_rfl)) rfl ?_
  have hr := rd_bad HP.out
  refine ⟨((O2.out.setCell (Nat.le_refl _) _).setCell (Nat.le_refl _) _ |>.setCell (Nat.le_refl _) _).setCell (Nat.le_refl _) _, none, 0, none, 0, none, 0, ?_, ?_, ?_, ?_⟩
  · rw [hr]; rfl
  · rw [hr]; exact World.ownsRow_nil _ _ _ _
  · rw [hr]; exact World.ownsRow_nil _ _ _ _
  · rw [hr]; exact World.ownsRow_nil _ _ _ _
theorem refRead_rest (w : World) (a : Option Addr) (c : Nat) (l : List UInt8) (h : RestAt w.heap.size w a l) (hc : l.length ≤ c) (hn : l.length ≤ 281474976710656) : Calls Tryz.prog 7 #[.slice a l.length c] w (RdE l w) := by
  rcases h with rfl | ⟨b, off, hb, rfl, h⟩
  · exact refRead_nil w a c
  · exact refRead_some w b off l.length c l rfl hc h hb hn
/-- Read, its answer in letters, its rows its own -/
def RdM (m : Img) (k : Nat) (er : Int) (nT nF nD : Nat) (en : Int) (w : World) (e : Ending) (w' : World) : Prop :=
  ∃ (ta fa da : Option Addr) (tc fc dc : Nat), e = .returned (.tuple #[.agg #[.slice ta nT tc, .slice fa nF fc, .slice da nD dc, .int .i64 en], .int .i64 (k : Nat), .int .i64 er]) ∧
    w'.ownsRow w.heap.size 83 5 (.slice ta nT tc) nT (insV m.T) ∧ w'.ownsRow w.heap.size 85 4 (.slice fa nF fc) nF (fnV m.F) ∧ w'.ownsRow w.heap.size 94 5 (.slice da nD dc) nD (tdV m.D) ∧ Out w w'
theorem RdE.m {l : List UInt8} {m : Img} {k : Nat} {er : Int} (h : rdI l = (m, k, er)) {nT nF nD : Nat} {en : Int} (hT : m.T.length = nT) (hF : m.F.length = nF) (hD : m.D.length = nD) (hE : m.en = en) {w w' : World} {e : Ending} (r : RdE l w e w') : RdM m k er nT nF nD en w e w' := by
  obtain ⟨o, ta, tc, fa, fc, da, dc, he, h1, h2, h3⟩ := r
  rw [h] at he h1 h2 h3
  simp only at he h1 h2 h3
  unfold OwT at h1
  unfold OwF at h2
  unfold OwD at h3
  rw [hT] at h1
  rw [hF] at h2
  rw [hD] at h3
  rw [hT, hF, hD, hE] at he
  exact ⟨ta, fa, da, tc, fc, dc, he, h1, h2, h3, o⟩
theorem own_lp {B p g z n : Nat} {e : TypeId} {v : Value} {V : List Value} {w w' : World} (h : w.ownsRow B e z v n V) (k : LP w p g) (h1 : ¬ e = 25) (h2 : ¬ e = 5) (c : Chg (SL p g) w w') : w'.ownsRow B e z v n V := by
  refine owns_chg h (fun b hb hs => ?_) c
  rcases h.2 with ⟨hv, _⟩ | ⟨g1, cap, cur, hv, _, hg, _⟩
  · rw [hv] at hb; cases hb
  · rw [hv] at hb
    simp [Value.ownBlock] at hb
    subst hb
    rcases hs with e' | e'
    · obtain ⟨cs, hk⟩ := k.1
      rw [← e', hg] at hk
      simp only [Option.some.injEq, Obj.cells.injEq] at hk
      exact h1 hk.2.1
    · rcases k.2 with hk | ⟨cs, hk⟩
      · have := (Array.getElem?_eq_some_iff.1 hg).1; omega
      · rw [← e', hg] at hk
        simp only [Option.some.injEq, Obj.cells.injEq] at hk
        exact h2 hk.2.1
theorem blk_lp {p g b : Nat} {e : TypeId} {cs : Array Value} {w w' : World} (h : w.heap[b]? = some (.cells cs e (0, 0))) (k : LP w p g) (h1 : ¬ e = 25) (h2 : ¬ e = 5) (c : Chg (SL p g) w w') : w'.heap[b]? = some (.cells cs e (0, 0)) := by
  refine (c.block b (Array.getElem?_eq_some_iff.1 h).1 (fun hs => ?_)).trans h
  rcases hs with e' | e'
  · obtain ⟨cs, hk⟩ := k.1
    rw [← e', h] at hk
    simp only [Option.some.injEq, Obj.cells.injEq] at hk
    exact h1 hk.2.1
  · rcases k.2 with hk | ⟨cs, hk⟩
    · have := (Array.getElem?_eq_some_iff.1 h).1; omega
    · rw [← e', h] at hk
      simp only [Option.some.injEq, Obj.cells.injEq] at hk
      exact h2 hk.2.1
theorem RestAt.more17 {w w' : World} {a : Option Addr} {l : List UInt8} (h : RestAt w.heap.size w a l) (o : Out w w') : RestAt w'.heap.size w' a l := by
  rcases h with h | ⟨b, off, hb, ha, hc⟩
  · exact .inl h
  · exact .inr ⟨b, off, by have := o.size; omega, ha, fun k x hx => cell_later o (hc k x hx)⟩
theorem RestAt.grow17 {B B' : Nat} {w : World} {a : Option Addr} {l : List UInt8} (h : RestAt B w a l) (hb : B ≤ B') : RestAt B' w a l := by
  rcases h with h | ⟨b, off, h1, ha, hc⟩
  · exact .inl h
  · exact .inr ⟨b, off, by omega, ha, hc⟩
theorem num17r (n : Int) (w : World) : Calls Tryz.prog 12 #[.int .i64 n] w fun e w' => e = .returned (.int .i64 n) ∧ w = w' := by
  go_enter Tryz.func12, Tryz.ntmps12
  go_wp2
  go_ret
  exact ⟨rfl, rfl⟩
set_option maxRecDepth 8000 in
set_option maxHeartbeats 4000000 in
theorem rd17_any (w0 w : World) (ho : Out w0 w) (p B : Nat) (hB : B = w0.heap.size) (hp : B ≤ p) (hTb : Tb64 w0) (h1w : 1 < w0.heap.size) (a : Option Addr) (cap : Nat) (l : List UInt8) (hr : RestAt w.heap.size w a l) (hcap : l.length ≤ cap) (hs : LS w p B l.length) (ha : Ap w p a l) (hll : l.length ≤ 10000000000000) :
    Calls Tryz.prog 5 #[.slice a l.length cap, .pointer (some ⟨p, 0, none⟩)] w fun e w' => e = .returned (.bool true) ∧ LS w' p B l.length ∧ Out w0 w' := by
  have CC := hidOf (copyBytes_any w a cap l hr (by omega))
  have CB : Hid (∀ wx g m R, LeB wx p g m l.length (l ++ (lmsB l.length (l.length + 70) ++ R)) → RestAt wx.heap.size wx a l → Calls Tryz.prog 10 #[.pointer (some ⟨p, 0, none⟩), .slice a l.length cap] wx fun e w' => e = .returned (.bool true) ∧ (∃ L', LeB w' p g m l.length L') ∧ Chg (SL p g) wx w') := fun wx g m R h1 h2 => back_any wx p g m l R h1 _ a cap h2 (by omega)
  obtain ⟨m, k, er, hrd⟩ : ∃ m k er, Hid (rdI l = (m, k, er)) := ⟨_, _, _, hidOf rfl⟩
  obtain ⟨e1, e2, e3⟩ := rd_lens hrd.out
  obtain ⟨nT, hnT⟩ : ∃ n, Hid (m.T.length = n) := ⟨_, rfl⟩
  obtain ⟨nF, hnF⟩ : ∃ n, Hid (m.F.length = n) := ⟨_, rfl⟩
  obtain ⟨nD, hnD⟩ : ∃ n, Hid (m.D.length = n) := ⟨_, rfl⟩
  obtain ⟨en, hen⟩ : ∃ n, Hid (m.en = n) := ⟨_, rfl⟩
  rw [hnT.out] at e1
  rw [hnF.out] at e2
  rw [hnD.out] at e3
  have CR : Hid (∀ wx b cp, RestAt wx.heap.size wx b l → l.length ≤ cp → Calls Tryz.prog 7 #[.slice b l.length cp] wx (RdM m k er nT nF nD en wx)) := hidOf fun wx b cp h1 h2 => (refRead_rest wx b cp l h1 h2 (by omega)).mono (fun e w' r => r.m hrd.out hnT.out hnF.out hnD.out hen.out)
  have CT : Hid (∀ wx b cp, Out w0 wx → RestAt wx.heap.size wx b l → l.length ≤ cp → Calls Tryz.prog 8 #[.slice b l.length cp] wx (RdM m k er nT nF nD en wx)) := hidOf fun wx b cp ox h1 h2 => (read17_rest wx b cp l h1 h2 (hTb.out ox) (by have := ox.size; omega) (by omega)).mono (fun e w' r => r.m hrd.out hnT.out hnF.out hnD.out hen.out)
  have CS : Hid (∀ wx ta fa da ta' fa' da' tc fc dc tc' fc' dc' B1 B2, wx.ownsRow B1 83 5 (.slice ta nT tc) nT (insV m.T) → wx.ownsRow B1 85 4 (.slice fa nF fc) nF (fnV m.F) → wx.ownsRow B1 94 5 (.slice da nD dc) nD (tdV m.D) → wx.ownsRow B2 83 5 (.slice ta' nT tc') nT (insV m.T) → wx.ownsRow B2 85 4 (.slice fa' nF fc') nF (fnV m.F) → wx.ownsRow B2 94 5 (.slice da' nD dc') nD (tdV m.D) → Calls Tryz.prog 11 #[.agg #[.slice ta nT tc, .slice fa nF fc, .slice da nD dc, .int .i64 en], .agg #[.slice ta' nT tc', .slice fa' nF fc', .slice da' nD dc', .int .i64 en]] wx fun e w' => e = .returned (.bool true) ∧ Out wx w') := hidOf fun wx ta fa da ta' fa' da' tc fc dc tc' fc' dc' B1 B2 a1 a2 a3 b1 b2 b3 => by
    rw [← hnT.out] at a1 b1
    rw [← hnF.out] at a2 b2
    rw [← hnD.out] at a3 b3
    have := sameImage_any wx ta fa da ta' fa' da' tc fc dc tc' fc' dc' m ⟨OwT.insA a1, OwF.fnA a2, OwD.tdA a3⟩ ⟨OwT.insA b1, OwF.fnA b2, OwD.tdA b3⟩ (by rw [hnT.out]; omega) (by rw [hnF.out]; omega) (by rw [hnD.out]; omega)
    rw [hnT.out, hnF.out, hnD.out, hen.out] at this
    exact this
  have HO := hidOf ho
  have HR := hidOf hr
  have HS := hidOf hs
  have HA := hidOf ha
  have Hsz := hidOf hB
  have hB1 : Hid (B ≤ w.heap.size) := hidOf (by have := ho.size; omega)
  clear ho hr hs ha hB hTb
  go_enter Tryz.func5, Tryz.ntmps5
  go_upto_region 2 with (first | (go_at_call 4; refine CC.out.mono ?_; rintro e w1 ⟨v1, rfl, hown, ho⟩; have P1 := hidOf ho; obtain ⟨b1, c1, rfl, hc1, hr1⟩ := OwB.rest hown; have R1 := hidOf hr1; clear hown ho hr1) | (go_at_call 7; refine (CR.out w1 b1 c1 R1.out hc1).mono ?_; rintro e w2 ⟨ta, fa, da, tc, fc, dc, rfl, o1, o2, o3, oo⟩; have U1 := hidOf o1; have U2 := hidOf o2; have U3 := hidOf o3; have P2 := hidOf (Out.trans P1.out oo); clear o1 o2 o3 oo))
  obtain ⟨w3, hw3⟩ : ∃ x, Hid (x = w2.alloc (.cells #[.slice ta nT tc, .slice fa nF fc, .slice da nD dc, .int .i64 en] 34)) := ⟨_, rfl⟩
  rw [← hw3.out]
  have O23 : Hid (Out w2 w3) := hidOf (by rw [hw3.out]; exact Out.alloc (Out.refl _) _)
  have X3 : Hid (w3.heap[w2.heap.size]? = some (.cells #[.slice ta nT tc, .slice fa nF fc, .slice da nD dc, .int .i64 en] 34 (0, 0))) := hidOf (by rw [hw3.out]; exact heap_alloc_new w2 _)
  obtain ⟨bx, hbx⟩ : ∃ x, Hid (w2.heap.size = x) := ⟨_, rfl⟩
  rw [hbx.out] at X3 ⊢
  have P3 := hidOf (P2.out.trans O23.out)
  have S3 := hidOf (HS.out.out P3.out)
  have A3 := hidOf (HA.out.out HS.out P3.out)
  have R3 := hidOf (HR.out.more17 P3.out)
  have O3 := hidOf (Out.trans HO.out P3.out)
  have V1 := hidOf (owns_chg (S := fun _ => False) U1.out (fun _ _ h => h) (Chg.of_out O23.out))
  have V2 := hidOf (owns_chg (S := fun _ => False) U2.out (fun _ _ h => h) (Chg.of_out O23.out))
  have V3 := hidOf (owns_chg (S := fun _ => False) U3.out (fun _ _ h => h) (Chg.of_out O23.out))
  have CLd := hidOf (lend_any w3 p B a cap l S3.out (by have := P3.out.size; have := hB1.out; omega) R3.out A3.out (by omega))
  go_upto_region 3 with (first | (go_at_call 9; refine CLd.out.mono ?_; rintro e w4 ⟨g, mm, R, rfl, hb4, hc4, hlp, hg4, hne⟩; have B4 := hidOf hb4; have O4 := hidOf (Chg.lender hc4 O3.out Hsz.out hp hg4); have R4 := hidOf ((R3.out.keep hc4 hne).grow17 hc4.size); have Y1 := hidOf (own_lp V1.out hlp (by decide) (by decide) hc4); have Y2 := hidOf (own_lp V2.out hlp (by decide) (by decide) hc4); have Y3 := hidOf (own_lp V3.out hlp (by decide) (by decide) hc4); have X4 := hidOf (blk_lp X3.out hlp (by decide) (by decide) hc4); have N4 := hidOf hne; clear hb4 hc4 hlp hne) | (go_at_call 8; refine (CT.out w4 _ _ O4.out B4.out.rest (by omega)).mono ?_; rintro e w5 ⟨ta', fa', da', tc', fc', dc', rfl, o1, o2, o3, oo⟩; have Z1 := hidOf o1; have Z2 := hidOf o2; have Z3 := hidOf o3; have P5 := hidOf oo; clear o1 o2 o3 oo))
  obtain ⟨w6, hw6⟩ : ∃ x, Hid (x = w5.alloc (.cells #[.slice ta' nT tc', .slice fa' nF fc', .slice da' nD dc', .int .i64 en] 34)) := ⟨_, rfl⟩
  rw [← hw6.out]
  have O56 : Hid (Out w5 w6) := hidOf (by rw [hw6.out]; exact Out.alloc (Out.refl _) _)
  have X6' : Hid (w6.heap[w5.heap.size]? = some (.cells #[.slice ta' nT tc', .slice fa' nF fc', .slice da' nD dc', .int .i64 en] 34 (0, 0))) := hidOf (by rw [hw6.out]; exact heap_alloc_new w5 _)
  obtain ⟨by', hby⟩ : ∃ x, Hid (w5.heap.size = x) := ⟨_, rfl⟩
  rw [hby.out] at X6' ⊢
  have P6 := hidOf (P5.out.trans O56.out)
  have B6 := hidOf (B4.out.out P6.out)
  have R6 := hidOf (R4.out.more17 P6.out)
  have O6 := hidOf (Out.trans O4.out P6.out)
  have X6 := hidOf ((P6.out.block bx (Array.getElem?_eq_some_iff.1 X4.out).1).trans X4.out)
  have Y1' := hidOf (owns_chg (S := fun _ => False) Y1.out (fun _ _ h => h) (Chg.of_out P6.out))
  have Y2' := hidOf (owns_chg (S := fun _ => False) Y2.out (fun _ _ h => h) (Chg.of_out P6.out))
  have Y3' := hidOf (owns_chg (S := fun _ => False) Y3.out (fun _ _ h => h) (Chg.of_out P6.out))
  have Z1' := hidOf (owns_chg (S := fun _ => False) Z1.out (fun _ _ h => h) (Chg.of_out O56.out))
  have Z2' := hidOf (owns_chg (S := fun _ => False) Z2.out (fun _ _ h => h) (Chg.of_out O56.out))
  have Z3' := hidOf (owns_chg (S := fun _ => False) Z3.out (fun _ _ h => h) (Chg.of_out O56.out))
  go_upto_region 4 with (go_at_call 10; refine (CB.out w6 g mm R B6.out R6.out).mono ?_; rintro e w7 ⟨rfl, ⟨L7, hb7⟩, hc7⟩; have B7 := hidOf hb7; have O7 := hidOf (Chg.lender hc7 O6.out Hsz.out hp hg4); have C7 := hidOf hc7; clear hb7 hc7)
  have hm7 : 2 * l.length + 70 ≤ mm := by have := B6.out.len_; simp [lmsB_len] at this; omega
  have LP6 := hidOf B6.out.lp
  have x7 := hidOf (blk_lp X6.out LP6.out (by decide) (by decide) C7.out)
  have y7 := hidOf (blk_lp X6'.out LP6.out (by decide) (by decide) C7.out)
  have i0 : w7.cell? ⟨bx, 0, none⟩ = some (.slice ta nT tc) := by rw [cell_atL x7.out]; rfl
  have i1 : w7.cell? ⟨bx, 1, none⟩ = some (.slice fa nF fc) := by rw [cell_atL x7.out]; rfl
  have i2 : w7.cell? ⟨bx, 2, none⟩ = some (.slice da nD dc) := by rw [cell_atL x7.out]; rfl
  have i3 : w7.cell? ⟨bx, 3, none⟩ = some (.int .i64 en) := by rw [cell_atL x7.out]; rfl
  have j0 : w7.cell? ⟨by', 0, none⟩ = some (.slice ta' nT tc') := by rw [cell_atL y7.out]; rfl
  have j1 : w7.cell? ⟨by', 1, none⟩ = some (.slice fa' nF fc') := by rw [cell_atL y7.out]; rfl
  have j2 : w7.cell? ⟨by', 2, none⟩ = some (.slice da' nD dc') := by rw [cell_atL y7.out]; rfl
  have j3 : w7.cell? ⟨by', 3, none⟩ = some (.int .i64 en) := by rw [cell_atL y7.out]; rfl
  have CSI := hidOf (CS.out w7 ta' fa' da' ta fa da tc' fc' dc' tc fc dc _ _ (own_lp Z1'.out LP6.out (by decide) (by decide) C7.out) (own_lp Z2'.out LP6.out (by decide) (by decide) C7.out) (own_lp Z3'.out LP6.out (by decide) (by decide) C7.out) (own_lp Y1'.out LP6.out (by decide) (by decide) C7.out) (own_lp Y2'.out LP6.out (by decide) (by decide) C7.out) (own_lp Y3'.out LP6.out (by decide) (by decide) C7.out))
  go_wp2_with (first
    | (go_at_call 11; refine CSI.out.mono ?_; rintro e w8 ⟨rfl, o8⟩; have O8 := hidOf o8; clear o8)
    | (go_at_call 12; refine (num17r _ _).mono ?_; rintro e w9 ⟨rfl, hw⟩; subst hw))
  go_ret
  exact ⟨by simp, .inr ⟨g, mm, _, _, B7.out.out O8.out, hg4, hm7⟩, O7.out.trans O8.out⟩
end Go.Proofs.YthdgmhohofakgaaGreatDoor
namespace Go.Proofs.YthdgmhohofakgaaGreatDoor
open Go.RowKit
set_option linter.unusedVariables false
set_option linter.unusedSimpArgs false
theorem own_set17 {B g n c : Nat} {e : TypeId} {xs : List Value} {w : World} (h : w.ownsRow B e 1 (.slice (some ⟨g, 0, none⟩) n c) n xs) (i : Nat) (u : Value) : (w.setCell ⟨g, i, none⟩ u).ownsRow B e 1 (.slice (some ⟨g, 0, none⟩) n c) n (xs.set i u) := by
  rcases h.2 with ⟨hv, _⟩ | ⟨g', cap, cur, hv, hb, hg, hn, hm, hs, ht⟩
  · cases hv
  · cases hv
    refine ⟨by rw [List.length_set]; exact h.1, .inr ⟨g, c, cur.setIfInBounds i u, rfl, hb, set_atL hg i u, hn, hm, by simpa using hs, ?_⟩⟩
    rw [Array.toList_setIfInBounds, List.take_set, ht]
theorem bits_u8 (op : BinOp) (x y : Int) : 0 ≤ bits op IntKind.u8 x y ∧ bits op IntKind.u8 x y < 256 := by
  unfold bits
  rw [IntKind.wrap_u8]; omega
set_option maxRecDepth 8000 in
set_option maxHeartbeats 4000000 in
theorem imageReads_walk (w : World) (hTb : Tb64 w) (h1w : 1 < w.heap.size) (a : Option Addr) (cap : Nat) (l : List UInt8) (hr : RestAt w.heap.size w a l) (hcap : l.length ≤ cap) (hll : l.length ≤ 10000000000000) :
    Calls Tryz.prog 3 #[.slice a l.length cap] w fun e w' => e = .returned (.bool true) ∧ Out w w' := by
  obtain ⟨B, hB⟩ : ∃ B, B = w.heap.size := ⟨_, rfl⟩
  obtain ⟨w1, hw1⟩ : ∃ x, Hid (x = w.alloc (.cells #[.slice none 0 0, .int .i64 0] 25)) := ⟨_, rfl⟩
  have O1 : Hid (Out w w1) := hidOf (by rw [hw1.out]; exact Out.alloc (Out.refl _) _)
  have Z1 : Hid (w1.heap.size = B + 1) := hidOf (by rw [hw1.out, size_alloc, hB])
  have L1 : Hid (w1.heap[B]? = some (.cells #[.slice none 0 0, .int .i64 0] 25 (0, 0))) := hidOf (by rw [hw1.out, hB]; exact heap_alloc_new w _)
  have S1 : Hid (LS w1 B B l.length) := hidOf (.inl L1.out)
  have CP := hidOf (copyBytes_any w1 a cap l (hr.more17 O1.out) (by omega))
  have CC : Hid (∀ wx b c O, O.length = l.length → O.length ≤ c → Out w wx → RestAt wx.heap.size wx b O → LS wx B B l.length → Ap wx B b O → Calls Tryz.prog 5 #[.slice b l.length c, .pointer (some ⟨B, 0, none⟩)] wx fun e w' => e = .returned (.bool true) ∧ LS w' B B l.length ∧ Out w w') := hidOf fun wx b c O hO hOc ho h1 h2 h3 => by
    have := rd17_any w wx ho B B hB (Nat.le_refl _) hTb h1w b c O h1 hOc (by rw [hO]; exact h2) h3 (by omega)
    rw [hO] at this
    exact this
  have HB := hidOf hB
  have RX : Hid (∀ wx, Out w wx → RestAt wx.heap.size wx a l) := hidOf fun wx ho => hr.more17 ho
  have AX : Hid (∀ wx, LS wx B B l.length → Ap wx B a l) := hidOf fun wx hs hl ad had => by
    have hlt : ad.block < w.heap.size := by
      rcases hr with h | ⟨b, o, hb, h, hc⟩
      · exact absurd h hl
      · rw [h] at had; cases had; exact hb
    refine ⟨by omega, fun g m N L hb => ?_⟩
    rcases hs with s | ⟨g1, m1, N1, L1, s, hg, _⟩
    · have h1 := hb.hp
      rw [s] at h1; simp at h1
    · have h1 := hb.hp
      rw [s.hp] at h1
      simp at h1
      omega
  have A1 : Hid (∀ wx O b c, wx.heap[B]? = w1.heap[B]? → OwB w1.heap.size (.slice b O.length c) O wx → Ap wx B b O) := hidOf fun wx O b c hx hown hl ad had => by
    have hbk : w1.heap.size ≤ ad.block := (World.ownsRow.lt hown ad.block (by rw [had]; rfl)).1
    rw [Z1.out] at hbk
    refine ⟨by omega, fun g m N L hb => ?_⟩
    have h1 := hb.hp
    rw [hx, L1.out] at h1
    simp at h1
  clear hr hB hTb
  go_enter Tryz.func3, Tryz.ntmps3
  go_upto_region 2 with fail
  rw [← hw1.out, ← HB.out]
  go_upto_region 3 with (go_at_call 4; refine CP.out.mono ?_; rintro e w2 ⟨v2, rfl, hown, ho⟩; have P2 := hidOf ho; obtain ⟨b2, c2, rfl, hc2, hr2⟩ := OwB.rest hown; have U2 := hidOf hown; clear hown ho hr2)
  have HOc0 := hidOf hc2
  clear hc2
  by_cases h32 : 32 < l.length
  · have b32 : (32 : Int) < l.length := by omega
    obtain ⟨g, rfl⟩ : ∃ g, b2 = some ⟨g, 0, none⟩ := by
      have ow := U2.out
      rcases ow.2 with ⟨hv, h0⟩ | ⟨g, cp, cur, hv, _⟩
      · omega
      · cases hv; exact ⟨g, rfl⟩
    obtain ⟨x, hx⟩ : ∃ x, l[32]? = some x := ⟨_, List.getElem?_eq_getElem h32⟩
    have q0 : w2.cell? ⟨g, 32, none⟩ = some (.int .u8 (x.toNat : Int)) := by
      have := World.ownsRow.cells U2.out (g := g) rfl 32 (.int .u8 (x.toNat : Int)) (by simp [Lib.byteCells, hx])
      have e : (⟨g, 0, none⟩ : Addr).add 32 = ⟨g, 32, none⟩ := by simp [Addr.add]
      rw [e] at this
      exact this
    have f0 : w2.frozen? ⟨g, 32, none⟩ = false := by
      have ow := U2.out
      rcases ow.2 with ⟨hv, h0⟩ | ⟨g', cp, cur, hv, _, hg, _⟩
      · cases hv
      · cases hv; exact frozen_atL hg 32
    obtain ⟨xn, hxn⟩ : ∃ n : Nat, x.toNat = n := ⟨_, rfl⟩
    rw [hxn] at q0
    clear hxn hx
    obtain ⟨z, hz⟩ : ∃ z : UInt8, Hid (bits BinOp.xor IntKind.u8 (xn : Int) 1 = (z.toNat : Int)) := ⟨UInt8.ofNat (bits BinOp.xor IntKind.u8 (xn : Int) 1).toNat, hidOf (by
      obtain ⟨h1, h2⟩ := bits_u8 BinOp.xor (xn : Int) 1
      rw [UInt8.toNat_ofNat_of_lt' (by show (bits BinOp.xor IntKind.u8 (xn : Int) 1).toNat < 256; omega)]; omega)⟩
    go_upto_region 5 with fail
    rw [hz.out]
    obtain ⟨wO, hwO⟩ : ∃ x, Hid (x = w2.setCell ⟨g, 32, none⟩ (.int .u8 (z.toNat : Int))) := ⟨_, rfl⟩
    rw [← hwO.out]
    have hgw : Hid (w1.heap.size ≤ g) := hidOf (U2.out.lt g rfl).1
    have cO : Hid (Chg (fun k => k = g) w2 wO) := hidOf (by rw [hwO.out]; exact Chg.setCell (S := fun k => k = g) (Chg.refl _ _) (p := ⟨g, 32, none⟩) rfl _)
    have O12 : Hid (Out w1 wO) := hidOf (Chg.out cO.out P2.out (fun k hk => by have := hgw.out; omega))
    have UO : Hid (OwB w1.heap.size (.slice (some ⟨g, 0, none⟩) (l.set 32 z).length c2) (l.set 32 z) wO) := hidOf (by
      have := own_set17 U2.out 32 (.int .u8 (z.toNat : Int))
      unfold OwB
      rw [List.length_set, show Lib.byteCells (l.set 32 z) = (Lib.byteCells l).set 32 (.int .u8 (z.toNat : Int)) by simp [Lib.byteCells, List.map_set], hwO.out]
      exact this)
    have HOl : Hid ((l.set 32 z).length = l.length) := hidOf (by simp)
    have HOc : Hid ((l.set 32 z).length ≤ c2) := hidOf (by rw [HOl.out]; exact HOc0.out)
    obtain ⟨b3, c3, e3, _, hr3⟩ := OwB.rest UO.out
    cases e3
    have R2 := hidOf hr3
    have O2 := hidOf (O1.out.trans O12.out)
    have S2 := hidOf (S1.out.out O12.out)
    have A2 := hidOf (A1.out wO _ _ _ (O12.out.block B (by rw [Z1.out]; omega)) UO.out)
    clear hr3 q0 f0 b32
    go_wp2_with (first
      | (go_at_call 5; refine (CC.out w4 a cap l rfl hcap O4.out (RX.out w4 O4.out) S4.out (AX.out w4 S4.out)).mono ?_; rintro e w5 ⟨rfl, hs, ho⟩; have O5 := hidOf ho; clear hs ho)
      | (go_at_call 5; refine (CC.out w3 a cap l rfl hcap O3.out (RX.out w3 O3.out) S3.out (AX.out w3 S3.out)).mono ?_; rintro e w4 ⟨rfl, hs, ho⟩; have O4 := hidOf ho; have S4 := hidOf hs; clear hs ho)
      | (go_at_call 5; refine (CC.out wO (some ⟨g, 0, none⟩) c2 (l.set 32 z) HOl.out HOc.out O2.out R2.out S2.out A2.out).mono ?_; rintro e w3 ⟨rfl, hs, ho⟩; have O3 := hidOf ho; have S3 := hidOf hs; clear hs ho)
      | (go_at_call 6; refine (awake17_any w5).mono ?_; rintro e w6 ⟨rfl, ho⟩; have O6 := hidOf (Out.trans O5.out ho); clear ho))
    go_ret
    exact ⟨by simp, O6.out⟩
  · have b32 : ¬ (32 : Int) < l.length := by omega
    obtain ⟨b3, c3, e3, _, hr3⟩ := OwB.rest U2.out
    cases e3
    have HOl : Hid (l.length = l.length) := hidOf rfl
    have HOc := HOc0
    have R2 := hidOf hr3
    have O2 := hidOf (O1.out.trans P2.out)
    have S2 := hidOf (S1.out.out P2.out)
    have A2 := hidOf (A1.out w2 _ _ _ (P2.out.block B (by rw [Z1.out]; omega)) U2.out)
    clear hr3
    go_wp2_with (first
      | (go_at_call 5; refine (CC.out w4 a cap l rfl hcap O4.out (RX.out w4 O4.out) S4.out (AX.out w4 S4.out)).mono ?_; rintro e w5 ⟨rfl, hs, ho⟩; have O5 := hidOf ho; clear hs ho)
      | (go_at_call 5; refine (CC.out w3 a cap l rfl hcap O3.out (RX.out w3 O3.out) S3.out (AX.out w3 S3.out)).mono ?_; rintro e w4 ⟨rfl, hs, ho⟩; have O4 := hidOf ho; have S4 := hidOf hs; clear hs ho)
      | (go_at_call 5; refine (CC.out w2 b2 c2 l HOl.out HOc.out O2.out R2.out S2.out A2.out).mono ?_; rintro e w3 ⟨rfl, hs, ho⟩; have O3 := hidOf ho; have S3 := hidOf hs; clear hs ho)
      | (go_at_call 6; refine (awake17_any w5).mono ?_; rintro e w6 ⟨rfl, ho⟩; have O6 := hidOf (Out.trans O5.out ho); clear ho))
    go_ret
    exact ⟨by simp, O6.out⟩
end Go.Proofs.YthdgmhohofakgaaGreatDoor
