import Derived.Test.YtjlgkcnfdpnlkaaDoorNj
namespace Go.Proofs.YtjlgkcnfdpnlkaaDoor
open Go.RowKit Go.Sort
set_option linter.unusedVariables false
set_option linter.unusedSimpArgs false
set_option maxRecDepth 20000

def moveB (op : Int) : Bool := !(formP op == 3) || (movesP op == (op == 183 || op == 191 || op == 180 || op == 188))
theorem move_kinds : ∀ l ∈ opsT, ∀ op ∈ l, moveB op = true := by decide +kernel
def srcB (op : Int) : Bool := (!(formP op == 2) || !useS op 2) && (!(formP op == 1) || !useS op 1) && (!(formP op == 10) || !useS op 10) && (!(formP op == 7) || !useS op 7) && (!(formP op == 5) || (useS op 5 == (bits .and .i64 op 7 == 3))) && (formP op == 1 || formP op == 2 || formP op == 3 || formP op == 4 || formP op == 5 || formP op == 6 || formP op == 7 || formP op == 8 || formP op == 9 || formP op == 10)
theorem src_kinds : ∀ l ∈ opsT, ∀ op ∈ l, srcB op = true := by decide +kernel
theorem reads_bad (o d s f i : Int) (w : World) (hm : ¬ mayP o d s f i = 0) : Calls Tryd.prog 8 #[.agg #[.int .i64 o, .int .i64 d, .int .i64 s, .int .i64 f, .int .i64 i]] w fun e w' => ∃ v, e = .returned v ∧ Own w w' v (readsP o d s f i) := by
  have hmay := fun w => refMay_same o d s f i w
  rw [show readsP o d s f i = [] from by rw [readsP, whole_bad hm]; rfl]
  have hne : (mayP o d s f i != 0) = true := by simpa using hm
  go_enter Tryd.func8, Tryd.ntmps8
  go_wp2_with (go_at_call 22; refine (hmay _).mono ?_; rintro e w1 ⟨rfl, h1⟩)
  go_ret
  exact ⟨_, rfl, own_nil (Out.trans (Out.alloc (Out.refl w) _) h1)⟩
theorem reads_call (o d s f i : Int) (w : World) (hmay : ∀ w, Calls Tryd.prog 22 #[.agg #[.int .i64 o, .int .i64 d, .int .i64 s, .int .i64 f, .int .i64 i]] w fun e w' => e = .returned (.int .i64 0) ∧ Out w w') (h0 : (formP o == 0) = false) (hF : formP o = 9) :
    Calls Tryd.prog 8 #[.agg #[.int .i64 o, .int .i64 d, .int .i64 s, .int .i64 f, .int .i64 i]] w fun e w' => ∃ v, e = .returned v ∧ Own w w' v (callL s i) := by
  have hrows := fun w => rows_head o h0 w
  go_enter Tryd.func8, Tryd.ntmps8
  go_upto_region 4 with (go_at_call 22; refine (hmay _).mono ?_; rintro e w1 ⟨rfl, h1⟩; have r1 := box_rule2 h1; have r1b := fun O o => box_rule2 (h1.alloc O) o; clear hmay)
  go_upto_region 5 with (go_at_call 23; refine (hrows _).mono ?_; rintro e w2 ⟨g, n, cap, rfl, hn0, hn1, ⟨iv, hiv, c0, c1, c2, c3, c4, c5, c6, c7, c8, c9⟩, h2⟩; obtain ⟨ai, ni, ci, rfl⟩ := nums_shape hiv; simp only [Nat.zero_mul, Nat.zero_add, baseR, hF] at c0 c1 c2 c3 c4 c5 c6 c7 c8 c9; clear hrows hiv)
  have x0 := fun R o => box_rule2 ((Out.trans (h1.alloc _) h2).alloc R) o
  go_wp2_with (go_at_call 25; refine (called_any _ _ _ _ _ _).mono ?_; rintro e w9 ⟨v, rfl, hv⟩)
  go_ret
  exact ⟨_, rfl, own_up (Out.alloc (Out.trans (Out.alloc (Out.refl w) _) (Out.trans (h1.alloc _) h2)) _) hv⟩
theorem refReads_any (o d s f i : Int) (w : World) : Calls Tryd.prog 8 #[.agg #[.int .i64 o, .int .i64 d, .int .i64 s, .int .i64 f, .int .i64 i]] w fun e w' => ∃ v, e = .returned v ∧ Own w w' v (readsP o d s f i) := by
  rcases may_vals2 o d s f i with hm | hm
  case inr => exact reads_bad o d s f i w hm
  have hmay := fun w => refMay_same o d s f i w
  rw [hm] at hmay
  obtain ⟨h0, hfit, hwh⟩ := may_ok hm
  obtain ⟨l, hl, ho⟩ := form_mem o h0
  have hk := reg_kinds l hl o ho
  have hmv := move_kinds l hl o ho
  have hsk := src_kinds l hl o ho
  simp only [fitO, fitP, Bool.and_eq_true] at hfit
  obtain ⟨hd, hs, _, _⟩ := hfit
  rw [readsP, hwh]
  unfold regB at hk
  unfold moveB at hmv
  unfold srcB at hsk
  clear hl ho l hwh hm
  generalize hF : formP o = c at *
  by_cases c3 : c = 3
  · subst c3
    simp at hk
    simp at hmv
    simp [dstP, hk.1] at hd
    obtain ⟨kd, hkd, rfl⟩ := reg_nat hd
    show Calls _ _ _ _ fun e w' => ∃ v, e = .returned v ∧ Own w w' v (binL o kd s)
    cases h1 : hasSrc o
    · rw [h1] at hk
      cases h2 : movesP o
      · rw [h2] at hmv
        simp at hmv
        rw [show binL o kd s = riseUp (upd m0 kd) 11 from by simp [binL, h1, h2, one_same kd hkd]]
        exact rd_b o kd s f i w kd hkd rfl (by simp [hmv]) (by simp [hmv]) (by simp [hmv]) (by simp [hmv]) hmay (by rw [hF]; exact h0) hF hk.2
      · rw [h2] at hmv
        rw [show binL o kd s = riseUp m0 11 from by simp [binL, h1, h2, ← none_same]]
        have : o = 183 ∨ o = 191 ∨ o = 180 ∨ o = 188 := by simp at hmv; omega
        rcases this with e | e | e | e
        · exact rd_m183 o kd s f i w (by simp [e]) hmay (by rw [hF]; exact h0) hF hk.2
        · subst e; exact absurd h1 (by decide)
        · exact rd_m180 o kd s f i w (by simp [e]) (by simp [e]) (by simp [e]) hmay (by rw [hF]; exact h0) hF hk.2
        · subst e; exact absurd h1 (by decide)
    · rw [h1] at hk
      simp [srcP, hk.2] at hs
      obtain ⟨ks, hks, rfl⟩ := reg_nat hs
      cases h2 : movesP o
      · rw [h2] at hmv
        simp at hmv
        rw [show binL o kd ks = riseUp (upd (upd m0 kd) ks) 11 from by simp only [binL, h1, h2]; simp only [↓reduceIte, Bool.false_eq_true]; rw [rise2_eq]; exact two_same kd hkd ks hks]
        exact rd_bs o kd ks f i w kd hkd rfl ks hks rfl (by simp [hmv]) (by simp [hmv]) (by simp [hmv]) (by simp [hmv]) hmay (by rw [hF]; exact h0) hF hk.2
      · rw [h2] at hmv
        rw [show binL o kd ks = riseUp (upd m0 ks) 11 from by simp [binL, h1, h2, one_same ks hks]]
        have : o = 183 ∨ o = 191 ∨ o = 180 ∨ o = 188 := by simp at hmv; omega
        rcases this with e | e | e | e
        · subst e; exact absurd h1 (by decide)
        · exact rd_m191 o kd ks f i w ks hks rfl (by simp [e]) (by simp [e]) hmay (by rw [hF]; exact h0) hF hk.2
        · subst e; exact absurd h1 (by decide)
        · exact rd_m188 o kd ks f i w ks hks rfl (by simp [e]) (by simp [e]) (by simp [e]) (by simp [e]) hmay (by rw [hF]; exact h0) hF hk.2
  clear hmv
  by_cases c2 : c = 2
  · subst c2
    simp at hk hsk
    simp [dstP, hk] at hd
    obtain ⟨kd, hkd, rfl⟩ := reg_nat hd
    rw [show readsC 2 o kd s i = riseUp (upd m0 kd) 11 from one_same kd hkd]
    exact rd_d_2 o kd s f i w kd hkd rfl hmay (by rw [hF]; exact h0) hF hsk
  by_cases c4 : c = 4
  · subst c4
    simp at hk
    simp [srcP, hk.2] at hs
    obtain ⟨ks, hks, rfl⟩ := reg_nat hs
    rw [show readsC 4 o d ks i = riseUp (upd m0 ks) 11 from one_same ks hks]
    exact rd_l o d ks f i w ks hks rfl hmay (by rw [hF]; exact h0) hF hk.2
  by_cases c5 : c = 5
  · subst c5
    simp at hk hsk
    simp [dstP, hk.1] at hd
    obtain ⟨kd, hkd, rfl⟩ := reg_nat hd
    show Calls _ _ _ _ fun e w' => ∃ v, e = .returned v ∧ Own w w' v (storeL o kd s)
    cases h1 : (bits BinOp.and IntKind.i64 o 7 == 3)
    · rw [h1] at hsk
      rw [show storeL o kd s = riseUp (upd m0 kd) 11 from by simp only [storeL, h1]; exact one_same kd hkd]
      exact rd_d_5 o kd s f i w kd hkd rfl hmay (by rw [hF]; exact h0) hF hsk
    · rw [h1] at hsk
      simp [srcP, hsk] at hs
      obtain ⟨ks, hks, rfl⟩ := reg_nat hs
      rw [show storeL o kd ks = riseUp (upd (upd m0 kd) ks) 11 from by simp only [storeL, h1, ↓reduceIte]; rw [rise2_eq]; exact two_same kd hkd ks hks]
      exact rd_ds_5 o kd ks f i w kd hkd rfl ks hks rfl hmay (by rw [hF]; exact h0) hF hsk
  by_cases c6 : c = 6
  · subst c6
    simp at hk
    simp [dstP, hk.1] at hd
    simp [srcP, hk.2] at hs
    obtain ⟨kd, hkd, rfl⟩ := reg_nat hd
    obtain ⟨ks, hks, rfl⟩ := reg_nat hs
    show Calls _ _ _ _ fun e w' => ∃ v, e = .returned v ∧ Own w w' v (atomL kd ks i)
    cases h1 : (i == 241)
    · rw [show atomL kd ks i = riseUp (upd (upd m0 kd) ks) 11 from by simp only [atomL, h1]; simp only [Bool.false_eq_true, ↓reduceIte]; rw [rise2_eq]; exact two_same kd hkd ks hks]
      exact rd_a o kd ks f i w kd hkd rfl ks hks rfl h1 hmay (by rw [hF]; exact h0) hF hk.2
    · rw [show atomL kd ks i = riseUp (upd (upd (upd m0 kd) ks) 0) 11 from by simp only [atomL, h1, ↓reduceIte]; rw [rise3_eq _ _ (by omega) (by omega)]; exact three_same kd hkd ks hks]
      exact rd_a0 o kd ks f i w kd hkd rfl ks hks rfl h1 hmay (by rw [hF]; exact h0) hF hk.2
  by_cases c8 : c = 8
  · subst c8
    simp at hk
    simp [dstP, hk.1] at hd
    obtain ⟨kd, hkd, rfl⟩ := reg_nat hd
    show Calls _ _ _ _ fun e w' => ∃ v, e = .returned v ∧ Own w w' v (branchL o kd s)
    cases h1 : hasSrc o
    · rw [h1] at hk
      rw [show branchL o kd s = riseUp (upd m0 kd) 11 from by simp [branchL, h1, one_same kd hkd]]
      exact rd_d_8 o kd s f i w kd hkd rfl hmay (by rw [hF]; exact h0) hF hk.2
    · rw [h1] at hk
      simp [srcP, hk.2] at hs
      obtain ⟨ks, hks, rfl⟩ := reg_nat hs
      rw [show branchL o kd ks = riseUp (upd (upd m0 kd) ks) 11 from by simp only [branchL, h1, ↓reduceIte]; rw [rise2_eq]; exact two_same kd hkd ks hks]
      exact rd_ds_8 o kd ks f i w kd hkd rfl ks hks rfl hmay (by rw [hF]; exact h0) hF hk.2
  by_cases c9 : c = 9
  · subst c9
    exact reads_call o d s f i w hmay (by rw [hF]; exact h0) hF
  by_cases c1 : c = 1
  · subst c1
    simp at hsk
    rw [show readsC 1 o d s i = riseUp (upd m0 0) 11 from one_same 0 (by decide)]
    exact rd_x o d s f i w hmay (by rw [hF]; exact h0) hF hsk
  · have hS : useS o c = false := by
      have h7 : c = 7 ∨ c = 10 := by simp at hsk; omega
      rcases h7 with rfl | rfl
      · simpa using hsk
      · simpa using hsk
    rw [show readsC c o d s i = riseUp m0 11 from by simp [readsC, c3, c2, c4, c5, c6, c8, c9, c1, ← none_same]]
    exact rd_none o d s f i w c (by simpa using c3) (by simpa using c2) (by simpa using c5) (by simpa using c6) (by simpa using c8) (by simpa using c9) (by simpa using c1) hmay (by rw [hF]; exact h0) hF hS
end Go.Proofs.YtjlgkcnfdpnlkaaDoor
